/-
  DeriveBegins walked.
-/
import Derived.Test.YteojbnkjphghkaaDoorPWho15
import Derived.Test.YteojbnkjphghkaaDoorRBeg15
import Derived.Test.YteojbnkjphghkaaDoorRWho15
namespace Go.Proofs.YteojbnkjphghkaaDoor
open Go.RowKit
set_option linter.unusedVariables false
set_option linter.unusedSimpArgs false
theorem code_none (S : Int) (T : List Tr) (n : Nat) : codeL S T [0] n = codeL S T [] n := by
  by_cases h1 : CnfOK S T
  · by_cases h2 : WeakP S T
    · have h3 : ¬ ∃ x ∈ ([0] : List Int), x < 0 ∨ S ≤ x := fun ⟨x, hx, q⟩ => by
        rw [List.mem_singleton.1 hx] at q
        have := h1.1
        omega
      have h4 : ¬ ∃ x ∈ ([] : List Int), x < 0 ∨ S ≤ x := fun ⟨x, hx, q⟩ => by cases hx
      by_cases h5 : n ≤ 64
      · rw [code_ok h2 h3 h5, code_ok h2 h4 h5]
      · rw [code_long h2 h3 (by omega), code_long h2 h4 (by omega)]
    · rw [code_weak h1 h2, code_weak h1 h2]
  · rw [code_prods h1, code_prods h1]
theorem listP_len {c : Int} {P : Nat → Prop} {xs : List Nat} {m : Nat} (h : ListP c P xs) (hm : c = 0 → ∀ x, P x → x < m) : xs.length ≤ m := by
  by_cases hc : c = 0
  · obtain ⟨h1, h2⟩ := h.2 hc
    have h3 : ∀ l : List Nat, l.Pairwise (· < ·) → ∀ b, (∀ x ∈ l, b ≤ x ∧ x < m) → l.length + b ≤ m ∨ l = [] := fun l => by
      induction l with
      | nil => intro _ b _; exact .inr rfl
      | cons x l ih =>
        intro hp b hb
        have hp' := List.pairwise_cons.1 hp
        have hx := hb x (List.mem_cons_self ..)
        rcases ih hp'.2 (x + 1) (fun y hy => ⟨hp'.1 y hy, (hb y (List.mem_cons_of_mem _ hy)).2⟩) with q | q
        · left; rw [List.length_cons]; omega
        · subst q; left; simp; omega
    rcases h3 xs h1 0 (fun x hx => ⟨Nat.zero_le _, hm hc x ((h2 x).1 hx)⟩) with q | q
    · omega
    · rw [q]; simp
  · rw [h.1 hc]; simp
section
set_option maxHeartbeats 4000000
set_option maxRecDepth 100000
theorem beginslaw (S : Int) (pv wv : Value) (T : List Tr) (nt : Int) (Wo : List Int) (w : World) (hP : Prods w pv T) (hw : WdM w wv Wo) (hs : T.length * 32 ≤ 140737488351232) (hs2 : ∀ t ∈ T, t.2.2.length * 16 ≤ 140737488351232) (hT : Tab w) :
    Calls Tryd.prog 5 #[.agg #[.int .i64 S, pv], .int .i64 nt, wv] w fun e w' => e = .returned (.bool true) ∧ Below w.heap.size w w' := by
  obtain ⟨h, hh⟩ : ∃ h, h = w.heap.size := ⟨_, rfl⟩
  obtain ⟨w1, hw1⟩ : ∃ w1, w1 = w.alloc (.cells #[.int .i64 S, pv] 24) := ⟨_, rfl⟩
  have hA : Bk w1 h 24 #[.int .i64 S, pv] := hw1 ▸ Bk.new hh
  have hF : Far (fun _ => False) w w1 := hw1 ▸ (Far.refl _ w).alloc _
  have a0 : w1.cell? ⟨h, 0, none⟩ = some (.int .i64 S) := hA.cell 0
  have a1 : w1.cell? ⟨h, 1, none⟩ = some pv := hA.cell 1
  have hn2 : ∀ t ∈ T, t.2.2.length ≤ maxLen := fun t ht => by have := hs2 t ht; unfold maxLen; omega
  have CP := copy_any S pv T w1 (hP.move hF) hs hs2
  have CP2 := Lib.hid (fun w' (hf : Far (fun _ => False) w w') => copy_any S pv T w' (hP.move hf) hs hs2)
  have hh' := Lib.hid (show w.heap.size = h by omega)
  have hw1' := Lib.hid hw1
  have hF' := Lib.hid hF
  have hA' := Lib.hid (fun w' (hf : Far (fun _ => False) w1 w') => (⟨(hA.far' hf id).cell 0, (hA.far' hf id).cell 1⟩ : w'.cell? ⟨h, 0, none⟩ = some (.int .i64 S) ∧ w'.cell? ⟨h, 1, none⟩ = some pv))
  have hP' := Lib.hid hP
  have hw' := Lib.hid hw
  have hs' := Lib.hid hs
  have hn2' := Lib.hid hn2
  have hT' := Lib.hid (fun w' (hf : Far (fun _ => False) w w') => hT.stays (hf.below (Nat.le_refl _) fun _ _ h => h))
  obtain ⟨c, hc⟩ : ∃ c, c = codeL S T [nt] Wo.length := ⟨_, rfl⟩
  obtain ⟨d, hd⟩ : ∃ d, d = codeL S T [] Wo.length := ⟨_, rfl⟩
  have hd' := Lib.hid hd
  have hc' := Lib.hid hc
  clear hP hw hh hw1 hF hA hs hs2 hn2 hT hc hd
  go_enter Tryd.func5, Tryd.ntmps5
  go_upto_region 1 with fail
  rw [hh'.out, ← hw1'.out]
  go_wp2_with fail
  refine CP.mono ?_
  rintro e w2 ⟨pv2, T2, rfl, hO, hpl, hf2⟩
  have hf2' := Lib.hid hf2
  have PH := pbegins_any S pv2 wv T2 nt Wo w2 hO.prods (hw'.out.move (hF'.out.then hf2)) (by rw [len_pl hpl]; have := hs'.out; omega) (lens_pl hpl hn2'.out) (hT'.out w2 (hF'.out.then hf2))
  rw [code_pl hpl, ← hc'.out, hpl] at PH
  clear CP hO hpl hf2 a0 a1
  go_wp2_with fail
  refine PH.mono ?_
  rintro e w3 ⟨⟨v, xs, rfl, hxs, hX⟩, hf3⟩
  have hf3' := Lib.hid (hf2'.out.then hf3)
  have hxs' := Lib.hid hxs
  have hX' := Lib.hid hX
  obtain ⟨a0, a1⟩ := hA'.out w3 hf3'.out
  have CP3 := CP2.out w3 (hF'.out.then hf3'.out)
  clear PH hf3 hxs hX
  go_wp2_with fail
  refine CP3.mono ?_
  rintro e w4 ⟨pv4, T4, rfl, hO, hpl, hf4⟩
  have hf4' := Lib.hid (hf3'.out.then hf4)
  have hg4' := Lib.hid hf4
  have PH := pwho_any S pv4 wv T4 Wo w4 hO.prods (hw'.out.move (hF'.out.then hf4'.out)) (by rw [len_pl hpl]; have := hs'.out; omega) (lens_pl hpl hn2'.out) (hT'.out w4 (hF'.out.then hf4'.out))
  rw [code_pl hpl, ← hd'.out, hpl] at PH
  clear CP3 hO hpl hf4 a0 a1
  go_wp2_with fail
  refine PH.mono ?_
  rintro e w5 ⟨⟨v2, ys, rfl, hys, hY⟩, hf5⟩
  have hf5' := Lib.hid (hf4'.out.then hf5)
  have hx5 := Lib.hid (hxs'.out.move (hg4'.out.then hf5))
  have hys' := Lib.hid hys
  have hY' := Lib.hid hY
  obtain ⟨a0, a1⟩ := hA'.out w5 hf5'.out
  have RH := rbegins_any S pv wv T nt Wo w5 (hP'.out.move (hF'.out.then hf5'.out)) (hw'.out.move (hF'.out.then hf5'.out)) (by have := hs'.out; omega) hn2'.out
  rw [← hc'.out] at RH
  clear PH hf5 hys hY
  go_wp2_with fail
  refine RH.mono ?_
  rintro e w6 ⟨⟨v3, xs3, rfl, hxs3, hX3⟩, hf6⟩
  obtain rfl : xs = xs3 := listP_same hX'.out hX3
  have hf6' := Lib.hid (hf5'.out.then hf6)
  have hg6' := Lib.hid hf6
  have hx6 := Lib.hid (hx5.out.move hf6)
  have hy6 := Lib.hid (hys'.out.move hf6)
  have hz6 := Lib.hid hxs3
  obtain ⟨a0, a1⟩ := hA'.out w6 hf6'.out
  have RH2 := rwho_any S pv wv T Wo w6 (hP'.out.move (hF'.out.then hf6'.out)) (hw'.out.move (hF'.out.then hf6'.out)) (by have := hs'.out; omega) hn2'.out
  rw [code_none, ← hd'.out] at RH2
  clear RH hf6 hxs3 hX3
  go_wp2_with fail
  refine RH2.mono ?_
  rintro e w7 ⟨⟨v4, ys4, rfl, hys4, hY4⟩, hf7⟩
  obtain rfl : ys = ys4 := listP_same hY'.out hY4
  have hf7' := Lib.hid (hf6'.out.then hf7)
  have hxl : xs.length ≤ 65 := listP_len hX'.out fun q x hx => by
    have h1 := (der_in hx).2
    have h2 := (code_zero.1 (hc'.out.symm.trans q)).2.2
    omega
  have hyl : ys.length ≤ 1024 := listP_len hY'.out fun q x hx => by
    have h1 := (code_zero.1 (hd'.out.symm.trans q)).1.1.1
    have h2 := hx.1
    omega
  have hx7 := Lib.hid (hx6.out.move hf7)
  have hy7 := Lib.hid (hy6.out.move hf7)
  have hz7 := Lib.hid (hz6.out.move hf7)
  have hu7 := Lib.hid hys4
  have HD := head15_any w7 (hT'.out w7 (hF'.out.then hf7'.out))
  have e1 : (c == c) = true := by simp
  have e2 : (d == d) = true := by simp
  clear RH2 hf7 a0 a1 hys4 hY4
  go_wp2_with fail
  refine HD.mono ?_
  rintro e w8 ⟨rfl, hf8⟩
  have hf8' := Lib.hid (hf7'.out.then hf8)
  have hg8' := Lib.hid hf8
  have SX := sameN_yes v v3 xs w8 (by unfold maxLen; omega) (hx7.out.move hf8) (hz7.out.move hf8)
  clear HD hf8
  go_wp2_with fail
  refine SX.mono ?_
  rintro e w9 ⟨rfl, hf9⟩
  have hf9' := Lib.hid (hf8'.out.then hf9)
  have SY := sameN_yes v2 v4 ys w9 (by unfold maxLen; omega) (hy7.out.move (hg8'.out.then hf9)) (hu7.out.move (hg8'.out.then hf9))
  clear SX hf9
  go_wp2_with fail
  refine SY.mono ?_
  rintro e w10 ⟨rfl, hf10⟩
  have hf10' := Lib.hid (hf9'.out.then hf10)
  clear SY hf10
  go_wp2_with fail
  go_ret
  exact ⟨rfl, (hF'.out.then hf10'.out).below (Nat.le_refl _) fun _ _ h => h⟩
end
end Go.Proofs.YteojbnkjphghkaaDoor
