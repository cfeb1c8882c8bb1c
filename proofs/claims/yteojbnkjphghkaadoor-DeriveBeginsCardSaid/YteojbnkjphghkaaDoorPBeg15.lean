/-
  The program's Begins.
-/
import Derived.Test.YteojbnkjphghkaaDoorAns15
namespace Go.Proofs.YteojbnkjphghkaaDoor
open Go.RowKit
set_option linter.unusedVariables false
set_option linter.unusedSimpArgs false
section
set_option maxHeartbeats 4000000
set_option maxRecDepth 100000
theorem pbegins_any (S : Int) (pv wv : Value) (T : List Tr) (nt : Int) (Wo : List Int) (w : World) (hP : Prods w pv T) (hw : WdM w wv Wo) (hs : T.length ≤ 4398046510976) (hs2 : ∀ t ∈ T, t.2.2.length ≤ maxLen) (hT : Tab w) :
    Calls Tryd.prog 15 #[.agg #[.int .i64 S, pv], .int .i64 nt, wv] w fun e w' => (∃ v xs, e = .returned (.tuple #[v, .int .i64 (codeL S T [nt] Wo.length)]) ∧ Src w' 1 v xs.length (ncells xs) ∧ ListP (codeL S T [nt] Wo.length) (fun x => Der (T.map pl) Wo nt 0 x) xs) ∧ Far (fun _ => False) w w' := by
  obtain ⟨h, hh⟩ : ∃ h, h = w.heap.size := ⟨_, rfl⟩
  obtain ⟨ao, pc, rfl⟩ := Src.form hP.1
  obtain ⟨wo, wc, rfl⟩ := Src.form hw
  obtain ⟨w0, hw0⟩ : ∃ w0, w0 = w.alloc (.cells #[.int .i64 S, .slice ao T.length pc] 24) := ⟨_, rfl⟩
  obtain ⟨w1, hw1⟩ : ∃ w1, w1 = w0.alloc (.cells #[.int .i64 nt] 3) := ⟨_, rfl⟩
  obtain ⟨g, hg⟩ : ∃ g, g = h + 1 := ⟨_, rfl⟩
  have z0 : w0.heap.size = g := by rw [hw0]; simp [hg, hh]
  have hA0 : Bk w0 h 24 #[.int .i64 S, .slice ao T.length pc] := hw0 ▸ Bk.new hh
  have hF : Far (fun _ => False) w w1 := (show Far (fun _ => False) w w0 from hw0 ▸ (Far.refl _ w).alloc _).then (hw1 ▸ (Far.refl _ w0).alloc _)
  have hA : Bk w1 h 24 #[.int .i64 S, .slice ao T.length pc] := hA0.far' (show Far (fun _ => False) w0 w1 from hw1 ▸ (Far.refl _ w0).alloc _) id
  have hX : Bk w1 g 3 #[.int .i64 nt] := hw1 ▸ Bk.new z0.symm
  have b0 : w0.cell? ⟨h, 0, none⟩ = some (.int .i64 S) := hA0.cell 0
  have b1 : w0.cell? ⟨h, 1, none⟩ = some (.slice ao T.length pc) := hA0.cell 1
  have CK := chk_any S (.slice ao T.length pc) (.slice wo Wo.length wc) (.slice (some ⟨g, 0, none⟩) 1 1) T [nt] Wo.length wo wc w1 (hP.move hF) (Nat.le_trans hs (by decide)) hs2 (wd_one hX) rfl (Nat.le_refl _)
  have hh' := Lib.hid (show w.heap.size = h by omega)
  have hw0' := Lib.hid hw0
  have hw1' := Lib.hid hw1
  have hz0' := Lib.hid z0
  have hF' := Lib.hid hF
  have hA' := Lib.hid hA
  have hP' := Lib.hid hP
  have hw' := Lib.hid hw
  have hs' := Lib.hid hs
  have hT' := Lib.hid (fun w' (hf : Far (fun _ => False) w w') => hT.stays (hf.below (Nat.le_refl _) fun _ _ h => h))
  obtain ⟨c, hc⟩ : ∃ c, c = codeL S T [nt] Wo.length := ⟨_, rfl⟩
  rw [← hc] at CK ⊢
  clear hP hw hh hw0 hw1 hF hA hA0 hs hs2 hX hg hT z0
  by_cases hz : c = 0
  · obtain ⟨hok, hnt, hn⟩ := code_zero.1 (hc.symm.trans hz)
    have hnt2 : 0 ≤ nt ∧ nt < S := by
      refine ⟨?_, ?_⟩
      · exact Int.not_lt.1 fun q => hnt ⟨nt, by simp, .inl q⟩
      · exact Int.not_le.1 fun q => hnt ⟨nt, by simp, .inr q⟩
    obtain ⟨Sn, rfl⟩ : ∃ n : Nat, S = (n : Int) := ⟨S.toNat, by omega⟩
    have hft : Fit nt := by have := hok.1.1; unfold Fit; omega
    subst hz
    have TB := Lib.hid (fun w' (hf : Far (fun _ => False) w1 w') => chartOf_any Sn (.slice ao T.length pc) (.slice wo Wo.length wc) T Wo w' ((hP'.out.move hF'.out).move hf) ((hw'.out.move hF'.out).move hf) (hT'.out w' (hF'.out.then hf)) hok hn hs'.out)
    clear hok hnt hc hnt2
    go_enter Tryd.func15, Tryd.ntmps15
    go_upto_region 1 with fail
    rw [hh'.out, ← hw0'.out]
    go_wp2_with fail
    rw [hz0'.out, ← hw1'.out]
    refine CK.mono ?_
    rintro e w2 ⟨rfl, hf2⟩
    have hf2' := Lib.hid hf2
    have a0 : w2.cell? ⟨h, 0, none⟩ = some (.int .i64 (Sn : Int)) := (hA'.out.far' hf2 id).cell 0
    have a1 : w2.cell? ⟨h, 1, none⟩ = some (.slice ao T.length pc) := (hA'.out.far' hf2 id).cell 1
    have TB2 := TB.out w2 hf2
    clear CK hf2 b0 b1
    go_wp2_with fail
    refine TB2.mono ?_
    rintro e w3 ⟨kB, eB, gB, B, lv, fv, rv, E, G, K, rfl, hC, hK, hf3⟩
    have hf3' := Lib.hid (hf2'.out.then hf3)
    have k3 : w3.cell? ⟨kB, 3, none⟩ = some (.map (some eB)) := hC.box.cell 3
    have lk : (Instr.lookup 80 (.map (some eB)) (.agg #[.int .i64 nt, .int .i64 0]) false).run Tryd.prog w3 = .ok (plV (E nt 0)) w3 := hC.e.look hft (fit_nat (n := 0) (by omega))
    have hWd := hC.ki.eW nt ((0 : Nat) : Int)
    have hm := Lib.hid (show ∀ x, x < 128 → (memP (E nt ((0 : Nat) : Int)) x = true ↔ Der (T.map pl) Wo nt 0 x) from fun x hx => (hC.ki.eK nt 0 x hx).trans (hK nt 0 x))
    clear TB2 hf3 a0 a1 hK hC
    go_wp2_with fail
    obtain ⟨pp, hpp⟩ : ∃ pp : Nat × Nat, pp = E nt 0 := ⟨_, rfl⟩
    have hm2 := Lib.hid (show ∀ x, x < 128 → (memP pp x = true ↔ Der (T.map pl) Wo nt 0 x) by rw [hpp]; exact hm.out)
    have hWd2 : Wd pp := by rw [hpp]; exact hWd
    rw [← hpp]
    clear hpp hWd hm lk k3
    refine (all_any pp w3).mono ?_
    rintro e w4 ⟨rfl, hw4⟩
    have hf4 : Far (fun _ => False) w3 w4 := hw4 ▸ afar _ _
    have hf4' := Lib.hid (hf3'.out.then hf4)
    have CL := collect_any w3.heap.size pp hWd2 w4 (hw4 ▸ Bk.new rfl) (hT'.out w4 (hF'.out.then hf4'.out))
    clear hw4 hf4
    go_wp2_with fail
    refine CL.mono ?_
    rintro e w5 ⟨v, xs, rfl, hU, hsr, hf5⟩
    have hsr' := Lib.hid hsr
    have hU' := Lib.hid hU
    have hf5' := Lib.hid (hf4'.out.then hf5)
    clear CL hsr hU hf5
    go_wp2_with fail
    refine bodyPost_ret (v := .tuple #[v, .int .i64 0]) (by simp [results, Tryd.f15, go_sem]) rfl ?_
    refine ⟨⟨_, xs, rfl, hsr'.out, fun q => absurd rfl q, fun _ => ⟨hU'.out.1, fun x => (hU'.out.2.1 x).trans ⟨fun q => (hm2.out x q.1).1 q.2, fun q => ?_⟩⟩⟩, hF'.out.then hf5'.out⟩
    have h1 := (der_in q).2
    have h2 : x < 128 := by omega
    exact ⟨h2, (hm2.out x h2).2 q⟩
  · have e1 : (c != 0) = true := by simpa using hz
    have hr := Lib.hid hz
    clear hz hc
    go_enter Tryd.func15, Tryd.ntmps15
    go_upto_region 1 with fail
    rw [hh'.out, ← hw0'.out]
    go_wp2_with fail
    rw [hz0'.out, ← hw1'.out]
    refine CK.mono ?_
    rintro e w2 ⟨rfl, hf2⟩
    have hf2' := Lib.hid hf2
    clear CK hf2 b0 b1
    go_wp2_with fail
    refine bodyPost_ret (v := .tuple #[.slice none 0 0, .int .i64 c]) (by simp [results, Tryd.f15, go_sem]) rfl ?_
    exact ⟨⟨_, [], rfl, Src.nil _ _, fun _ => rfl, fun q => absurd q hr.out⟩, hF'.out.then hf2'.out⟩
end
end Go.Proofs.YteojbnkjphghkaaDoor
