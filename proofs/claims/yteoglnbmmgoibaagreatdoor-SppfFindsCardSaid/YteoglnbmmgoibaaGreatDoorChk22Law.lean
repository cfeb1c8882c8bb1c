/-
  SppfChecks walked.
-/
import Derived.Test.YteoglnbmmgoibaaGreatDoorCheck22
namespace Go.Proofs.YteoglnbmmgoibaaGreatDoor
open Go.RowKit
set_option linter.unusedVariables false
set_option linter.unusedSimpArgs false
theorem ck_none : CkOK [] [] := ⟨fun k hk => by simp at hk, fun k hk => by simp at hk, fun k hk => by simp at hk⟩
theorem ck_bare : ¬ CkOK [(0, 0, 0)] [] := fun h => h.2.2 0 (by simp) rfl
section
set_option maxHeartbeats 4000000
set_option maxRecDepth 100000
theorem head22_any (w : World) : Calls Tryz.prog 7 #[] w fun e w' => e = .returned (.bool true) ∧ Far (fun _ => False) w w' := by
  have O1 := of_nil22 w
  have K0 := Lib.hid (fun w' => check_any (.slice none 0 0) (.slice none 0 0) [] [] w' (Src.nil _ _) (Src.nil _ _) (by simp) (by simp))
  have K1 := Lib.hid (fun w' => check_any (.slice (some ⟨World.heap w' |>.size, 0, none⟩) 1 1) (.slice none 0 0) [(0, 0, 0)] [] (w'.alloc (.cells #[.int .i64 0, .int .i64 0, .int .i64 0] 33)) (src_new w' 33 [.int .i64 0, .int .i64 0, .int .i64 0]) (Src.nil _ _) (by simp) (by simp))
  rw [fcode_yes ck_none] at K0
  rw [fcode_no ck_bare] at K1
  go_enter Tryz.func7, Tryz.ntmps7
  go_wp2_with fail
  refine O1.mono ?_
  rintro e w2 ⟨rfl, hf2⟩
  have hf2' := Lib.hid hf2
  clear O1 hf2
  go_upto_region 2 with fail
  obtain ⟨w3, hw3⟩ : ∃ w3, w3 = w2.alloc (.cells #[.slice none 0 0, .slice none 0 0] 25) := ⟨_, rfl⟩
  rw [← hw3]
  have hf3' := Lib.hid (hf2'.out.then (hw3 ▸ (Far.refl _ w2).alloc _ : Far (fun _ => False) w2 w3))
  have I0 := K0.out w3
  clear hw3
  go_wp2_with fail
  refine I0.mono ?_
  rintro e w4 ⟨rfl, hf4⟩
  have hf4' := Lib.hid (hf3'.out.then hf4)
  have I1 := K1.out w4
  clear hf4 I0
  go_wp2_with fail
  refine I1.mono ?_
  rintro e w5 ⟨rfl, hf5⟩
  have hf5' := Lib.hid (hf4'.out.then ((alloc_far0 _ _).then hf5))
  clear hf5 I1
  go_wp2_with fail
  go_ret
  exact ⟨rfl, hf5'.out⟩
theorem chk22_law (v pv : Value) (F : List Fc) (P : List Pk) (w : World) (hP : Facts w v F) (hQ : Packs w pv P) (hs : F.length * 24 ≤ 140737488351232) (hs2 : P.length * 40 ≤ 140737488351232) :
    Calls Tryz.prog 3 #[.agg #[v, pv]] w fun e w' => e = .returned (.bool true) ∧ Far (fun _ => False) w w' := by
  obtain ⟨h, hh⟩ : ∃ h, h = w.heap.size := ⟨_, rfl⟩
  obtain ⟨ao, ac, rfl⟩ := Src.form hP
  obtain ⟨bo, bc, rfl⟩ := Src.form hQ
  obtain ⟨W, hW⟩ : ∃ W, W = w.alloc (.cells #[.slice ao F.length ac, .slice bo P.length bc] 25) := ⟨_, rfl⟩
  have hA : Bk W h 25 #[.slice ao F.length ac, .slice bo P.length bc] := hW ▸ Bk.new hh
  have hF : Far (fun _ => False) w W := hW ▸ (Far.refl _ w).alloc _
  have a0 : W.cell? ⟨h, 0, none⟩ = some (.slice ao F.length ac) := hA.cell 0
  have a1 : W.cell? ⟨h, 1, none⟩ = some (.slice bo P.length bc) := hA.cell 1
  obtain ⟨C, hC⟩ : ∃ C, C = fcode (CkOK F P) := ⟨_, rfl⟩
  have CP := fcopy_any (.slice ao F.length ac) (.slice bo P.length bc) F P W (hP.move hF) (hQ.move hF) hs hs2
  have CK := Lib.hid (fun v' pv' w' (h1 : Facts w' v' F) (h2 : Packs w' pv' P) => check_any v' pv' F P w' h1 h2 hs hs2)
  have RF := Lib.hid (fun w' (hf : Far (fun _ => False) W w') => rforest_any (.slice ao F.length ac) (.slice bo P.length bc) F P w' ((hP.move hF).move hf) ((hQ.move hF).move hf) hs hs2)
  rw [← hC] at CK RF
  have hh' := Lib.hid hh
  have hW' := Lib.hid hW
  have hA' := Lib.hid hA
  have hF' := Lib.hid hF
  clear hP hQ hs hs2 hh hW hA hF hC
  go_enter Tryz.func3, Tryz.ntmps3
  go_upto_region 1 with fail
  rw [← hh'.out, ← hW'.out]
  go_wp2_with fail
  refine CP.mono ?_
  rintro e w2 ⟨⟨co, cc, d, dc, rfl, h1, h2⟩, hf2⟩
  have K2 := CK.out _ _ w2 h1 h2
  have hf2' := Lib.hid hf2
  clear CP a0 a1 h1 h2 hf2
  go_wp2_with fail
  refine K2.mono ?_
  rintro e w3 ⟨rfl, hf3⟩
  have hf3' := Lib.hid (hf2'.out.then hf3)
  clear K2 hf3
  go_wp2_with fail
  refine (head22_any _).mono ?_
  rintro e w4 ⟨rfl, hf4⟩
  have hf4' := Lib.hid (hf3'.out.then hf4)
  have R4 := RF.out w4 hf4'.out
  have a0 : w4.cell? ⟨h, 0, none⟩ = some (.slice ao F.length ac) := (hA'.out.far' hf4'.out id).cell 0
  have a1 : w4.cell? ⟨h, 1, none⟩ = some (.slice bo P.length bc) := (hA'.out.far' hf4'.out id).cell 1
  clear hf4
  go_wp2_with fail
  refine R4.mono ?_
  rintro e w5 ⟨rfl, hf5⟩
  have hf5' := Lib.hid (hf4'.out.then hf5)
  clear R4 hf5 a0 a1
  go_wp2_with fail
  go_ret
  exact ⟨rfl, hF'.out.then hf5'.out⟩
end
end Go.Proofs.YteoglnbmmgoibaaGreatDoor
