/-
  The program's Has.
-/
import Derived.Test.YteojbnkjphghkaaDoorCheck15
import Derived.Test.YteojbnkjphghkaaDoorChartW15
namespace Go.Proofs.YteojbnkjphghkaaDoor
open Go.RowKit
set_option linter.unusedVariables false
set_option linter.unusedSimpArgs false
theorem code_zero {S : Int} {T : List Tr} {nts : List Int} {n : Nat} : codeL S T nts n = 0 ↔ WeakP S T ∧ (¬ ∃ x ∈ nts, x < 0 ∨ S ≤ x) ∧ n ≤ 64 := by
  refine ⟨fun h => ?_, fun ⟨h1, h2, h3⟩ => code_ok h1 h2 h3⟩
  by_cases h1 : CnfOK S T
  · by_cases h2 : WeakP S T
    · by_cases h3 : ∃ x ∈ nts, x < 0 ∨ S ≤ x
      · rw [code_arg h2 h3] at h; cases h
      · by_cases h4 : n ≤ 64
        · exact ⟨h2, h3, h4⟩
        · rw [code_long h2 h3 (by omega)] at h; cases h
    · rw [code_weak h1 h2] at h; cases h
  · rw [code_prods h1] at h; cases h
/-- Is the word in the language, and may one ask? -/
def ansP (S : Int) (T : List Tr) (nt : Int) (Wo : List Int) : Prop := codeL S T [nt] Wo.length = 0 ∧ Der (T.map pl) Wo nt 0 Wo.length
theorem wd_one {w : World} {g : Nat} {x : Int} (h : Bk w g 3 #[.int .i64 x]) : WdM w (.slice (some ⟨g, 0, none⟩) 1 1) [x] := by
  refine ⟨rfl, .inr ⟨_, _, rfl, fun j u hu => ⟨h.lt, ?_⟩⟩⟩
  match j, hu with
  | 0, hu =>
    have := h.cell 0
    simp only [wcells, List.map_cons, List.map_nil, List.getElem?_cons_zero, Option.some.injEq] at hu
    rw [← hu]
    exact this
  | j + 1, hu => simp [wcells] at hu
section
set_option maxHeartbeats 4000000
set_option maxRecDepth 100000
theorem phas_word (S : Int) (pv wv : Value) (T : List Tr) (nt : Int) (Wo : List Int) (w : World) (hP : Prods w pv T) (hw : WdM w wv Wo) (hs : T.length ≤ 4398046510976) (hs2 : ∀ t ∈ T, t.2.2.length ≤ maxLen) (hT : Tab w) :
    Calls Tryd.prog 13 #[.agg #[.int .i64 S, pv], .int .i64 nt, wv] w fun e w' => (∃ b : Bool, e = .returned (.tuple #[.bool b, .int .i64 (codeL S T [nt] Wo.length)]) ∧ (b = true ↔ ansP S T nt Wo)) ∧ Far (fun _ => False) w w' := by
  obtain ⟨h, hh⟩ : ∃ h, h = w.heap.size := ⟨_, rfl⟩
  obtain ⟨ao, pc, rfl⟩ := Src.form hP.1
  obtain ⟨wo, wc, rfl⟩ := Src.form hw
  obtain ⟨w0, hw0⟩ : ∃ w0, w0 = w.alloc (.cells #[.int .i64 S, .slice ao T.length pc] 24) := ⟨_, rfl⟩
  obtain ⟨w1, hw1⟩ : ∃ w1, w1 = w0.alloc (.cells #[.int .i64 nt] 3) := ⟨_, rfl⟩
  obtain ⟨g, hg⟩ : ∃ g, g = h + 1 := ⟨_, rfl⟩
  have z0 : w0.heap.size = g := by rw [hw0]; simp [hg, hh]
  have hA0 : Bk w0 h 24 #[.int .i64 S, .slice ao T.length pc] := hw0 ▸ Bk.new hh
  have hF : Far (fun _ => False) w w1 := (show Far (fun _ => False) w w0 from hw0 ▸ (Far.refl _ w).alloc _).then (hw1 ▸ (Far.refl _ w0).alloc _)
  have hA : Bk w1 h 24 #[.int .i64 S, .slice ao T.length pc] := hA0.far' (show Far (fun _ => False) w0 w1 from hw1 ▸ (Far.refl _ w0).alloc _) id
  have hX : Bk w1 g 3 #[.int .i64 nt] := hw1 ▸ Bk.new z0.symm
  have b0 : w0.cell? ⟨h, 0, none⟩ = some (.int .i64 S) := hA0.cell 0
  have b1 : w0.cell? ⟨h, 1, none⟩ = some (.slice ao T.length pc) := hA0.cell 1
  have a0 : w1.cell? ⟨h, 0, none⟩ = some (.int .i64 S) := hA.cell 0
  have a1 : w1.cell? ⟨h, 1, none⟩ = some (.slice ao T.length pc) := hA.cell 1
  have CK := chk_any S (.slice ao T.length pc) (.slice wo Wo.length wc) (.slice (some ⟨g, 0, none⟩) 1 1) T [nt] Wo.length wo wc w1 (hP.move hF) (Nat.le_trans hs (by decide)) hs2 (wd_one hX) rfl (Nat.le_refl _)
  have hh' := Lib.hid (show w.heap.size = h by omega)
  have hw0' := Lib.hid hw0
  have hw1' := Lib.hid hw1
  have hz0' := Lib.hid z0
  have hF' := Lib.hid hF
  have hA' := Lib.hid hA
  have hP' := Lib.hid hP
  have hw' := Lib.hid hw
  have hs' := Lib.hid hs
  have hT' := Lib.hid hT
  obtain ⟨c, hc⟩ : ∃ c, c = codeL S T [nt] Wo.length := ⟨_, rfl⟩
  rw [← hc] at CK ⊢
  clear hP hw hh hw0 hw1 hF hA hA0 hs hs2 hX hg hT z0
  by_cases hz : c = 0
  · obtain ⟨hok, hnt, hn⟩ := code_zero.1 (hc.symm.trans hz)
    have hnt2 : 0 ≤ nt ∧ nt < S := by
      refine ⟨?_, ?_⟩
      · exact Int.not_lt.1 fun q => hnt ⟨nt, by simp, .inl q⟩
      · exact Int.not_le.1 fun q => hnt ⟨nt, by simp, .inr q⟩
    obtain ⟨Sn, rfl⟩ : ∃ n : Nat, S = (n : Int) := ⟨S.toNat, by omega⟩
    have hft : Fit nt := by have := hok.1.1; unfold Fit; omega
    subst hz
    have hc' := Lib.hid hc.symm
    have TB := Lib.hid (fun w' (hf : Far (fun _ => False) w1 w') => chartOf_any Sn (.slice ao T.length pc) (.slice wo Wo.length wc) T Wo w' ((hP'.out.move hF'.out).move hf) ((hw'.out.move hF'.out).move hf) (hT'.out.stays ((hF'.out.then hf).below (Nat.le_refl _) fun _ _ h => h)) hok hn hs'.out)
    clear hok hnt hc hnt2
    go_enter Tryd.func13, Tryd.ntmps13
    go_upto_region 1 with fail
    rw [hh'.out, ← hw0'.out]
    go_wp2_with fail
    rw [hz0'.out, ← hw1'.out]
    refine CK.mono ?_
    rintro e w2 ⟨rfl, hf2⟩
    have hf2' := Lib.hid hf2
    have a0 : w2.cell? ⟨h, 0, none⟩ = some (.int .i64 (Sn : Int)) := (hA'.out.far' hf2 id).cell 0
    have a1 : w2.cell? ⟨h, 1, none⟩ = some (.slice ao T.length pc) := (hA'.out.far' hf2 id).cell 1
    have TB2 := TB.out w2 hf2
    clear CK hf2 b0 b1
    go_wp2_with fail
    refine TB2.mono ?_
    rintro e w3 ⟨kB, eB, gB, B, lv, fv, rv, E, G, K, rfl, hC, hK, hf3⟩
    have hf3' := Lib.hid (hf2'.out.then hf3)
    have hK' := Lib.hid hK
    have HS := chas_any kB eB gB B Sn Wo.length (.slice ao T.length pc) (.slice wo Wo.length wc) lv fv rv E G K nt 0 Wo.length w3 hC hft (by omega) hn
    clear TB2 hf3 a0 a1 hK hC
    go_wp2_with fail
    refine HS.mono ?_
    rintro e w4 ⟨⟨b, rfl, hb⟩, hf4⟩
    have hf4' := Lib.hid (hf3'.out.then hf4)
    have hr := Lib.hid (show b = true ↔ ansP (Sn : Int) T nt Wo from by
      rw [hb, hK'.out]
      exact ⟨fun h => ⟨hc'.out, h⟩, fun h => h.2⟩)
    clear HS hf4 hb
    go_wp2_with fail
    exact bodyPost_ret (v := .tuple #[.bool b, .int .i64 0]) (by simp [results, Tryd.f13, go_sem]) rfl ⟨⟨_, rfl, hr.out⟩, hF'.out.then hf4'.out⟩
  · have e1 : (c != 0) = true := by simpa using hz
    have hr := Lib.hid (show ¬ ansP S T nt Wo from fun q => hz (hc.trans q.1))
    clear hz hc
    go_enter Tryd.func13, Tryd.ntmps13
    go_upto_region 1 with fail
    rw [hh'.out, ← hw0'.out]
    go_wp2_with fail
    rw [hz0'.out, ← hw1'.out]
    refine CK.mono ?_
    rintro e w2 ⟨rfl, hf2⟩
    have hf2' := Lib.hid hf2
    clear CK hf2 b0 b1 a0 a1
    go_wp2_with fail
    refine bodyPost_ret (v := .tuple #[.bool false, .int .i64 c]) (by simp [results, Tryd.f13, go_sem]) rfl ?_
    exact ⟨⟨false, rfl, (fun h => by cases h), fun h => absurd h hr.out⟩, hF'.out.then hf2'.out⟩
end
end Go.Proofs.YteojbnkjphghkaaDoor
