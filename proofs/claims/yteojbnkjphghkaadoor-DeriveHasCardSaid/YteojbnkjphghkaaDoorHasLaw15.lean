/-
  DeriveHas walked.
-/
import Derived.Test.YteojbnkjphghkaaDoorKeep15
namespace Go.Proofs.YteojbnkjphghkaaDoor
open Go.RowKit
set_option linter.unusedVariables false
set_option linter.unusedSimpArgs false
section
set_option maxHeartbeats 4000000
set_option maxRecDepth 100000
theorem haslaw (S : Int) (pv wv : Value) (T : List Tr) (nt : Int) (Wo : List Int) (w : World) (hP : Prods w pv T) (hw : WdM w wv Wo) (hs : T.length * 32 ≤ 140737488351232) (hs2 : ∀ t ∈ T, t.2.2.length * 16 ≤ 140737488351232) (hT : Tab w) :
    Calls Tryd.prog 4 #[.agg #[.int .i64 S, pv], .int .i64 nt, wv] w fun e w' => e = .returned (.bool true) ∧ Below w.heap.size w w' := by
  obtain ⟨h, hh⟩ : ∃ h, h = w.heap.size := ⟨_, rfl⟩
  obtain ⟨w1, hw1⟩ : ∃ w1, w1 = w.alloc (.cells #[.int .i64 S, pv] 24) := ⟨_, rfl⟩
  have hA : Bk w1 h 24 #[.int .i64 S, pv] := hw1 ▸ Bk.new hh
  have hF : Far (fun _ => False) w w1 := hw1 ▸ (Far.refl _ w).alloc _
  have a0 : w1.cell? ⟨h, 0, none⟩ = some (.int .i64 S) := hA.cell 0
  have a1 : w1.cell? ⟨h, 1, none⟩ = some pv := hA.cell 1
  have hn2 : ∀ t ∈ T, t.2.2.length ≤ maxLen := fun t ht => by have := hs2 t ht; unfold maxLen; omega
  have CP := copy_any S pv T w1 (hP.move hF) hs hs2
  have hh' := Lib.hid (show w.heap.size = h by omega)
  have hw1' := Lib.hid hw1
  have hF' := Lib.hid hF
  have hA' := Lib.hid hA
  have hP' := Lib.hid hP
  have hw' := Lib.hid hw
  have hs' := Lib.hid hs
  have hn2' := Lib.hid hn2
  have hT' := Lib.hid (fun w' (hf : Far (fun _ => False) w w') => hT.stays (hf.below (Nat.le_refl _) fun _ _ h => h))
  obtain ⟨c, hc⟩ : ∃ c, c = codeL S T [nt] Wo.length := ⟨_, rfl⟩
  clear hP hw hh hw1 hF hA hs hs2 hn2 hT
  go_enter Tryd.func4, Tryd.ntmps4
  go_upto_region 1 with fail
  rw [hh'.out, ← hw1'.out]
  go_wp2_with fail
  refine CP.mono ?_
  rintro e w2 ⟨pv2, T2, rfl, hO, hpl, hf2⟩
  have hf2' := Lib.hid (hF'.out.then hf2)
  have PH := phas_word S pv2 wv T2 nt Wo w2 hO.prods (hw'.out.move hf2'.out) (by rw [len_pl hpl]; have := hs'.out; omega) (lens_pl hpl hn2'.out) (hT'.out w2 hf2'.out)
  rw [code_pl hpl, ← hc] at PH
  have hA2' := Lib.hid (hA'.out.far' hf2 id)
  have hpl' := Lib.hid hpl
  clear CP hO hpl hf2 a0 a1
  go_wp2_with fail
  refine PH.mono ?_
  rintro e w3 ⟨⟨b, rfl, hb⟩, hf3⟩
  rw [ans_pl hpl'.out] at hb
  have hf3' := Lib.hid (hf2'.out.then hf3)
  have a0 : w3.cell? ⟨h, 0, none⟩ = some (.int .i64 S) := (hA2'.out.far' hf3 id).cell 0
  have a1 : w3.cell? ⟨h, 1, none⟩ = some pv := (hA2'.out.far' hf3 id).cell 1
  have RH := rhas_any S pv wv T nt Wo w3 (hP'.out.move hf3'.out) (hw'.out.move hf3'.out) (by have := hs'.out; omega) hn2'.out
  rw [← hc] at RH
  have hb' := Lib.hid hb
  clear PH hb hf3 hc
  go_wp2_with fail
  refine RH.mono ?_
  rintro e w4 ⟨⟨b2, rfl, hb2⟩, hf4⟩
  obtain rfl : b = b2 := Bool.eq_iff_iff.2 (hb'.out.trans hb2.symm)
  have hf4' := Lib.hid (hf3'.out.then hf4)
  have HD := head15_any w4 (hT'.out w4 hf4'.out)
  have e1 : (b == b) = true := by simp
  have e2 : (c == c) = true := by simp
  clear RH hb2 hf4 a0 a1 hb'
  go_wp2_with fail
  refine HD.mono ?_
  rintro e w5 ⟨rfl, hf5⟩
  have hf5' := Lib.hid (hf4'.out.then hf5)
  clear HD hf5
  go_wp2_with fail
  go_ret
  exact ⟨rfl, hf5'.out.below (Nat.le_refl _) fun _ _ h => h⟩
end
end Go.Proofs.YteojbnkjphghkaaDoor
