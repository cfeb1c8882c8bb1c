/-
  CfgTwice walked, where the productions may be.
-/
import Derived.Test.YtfgoghmhjbhbiaaTwiceLaw
namespace Go.Proofs.Ytfgoghmhjbhbiaa
open Go.RowKit
set_option linter.unusedVariables false
set_option linter.unusedSimpArgs false
section
set_option maxHeartbeats 4000000
set_option maxRecDepth 100000
theorem twice_yes (S : Int) (pv : Value) (T : List Tr) (w : World) (hP : Prods w pv T) (hfi : Fits T) (hy : CnfOK S T) :
    Calls Try.prog 6 #[.agg #[.int .i64 S, pv]] w fun e w' => e = .returned (.bool true) ∧ Far (fun _ => False) w w' := by
  obtain ⟨h, hh⟩ : ∃ h, h = w.heap.size := ⟨_, rfl⟩
  obtain ⟨ao, pc, rfl⟩ := Src.form hP.1
  obtain ⟨w1, hw1⟩ : ∃ w1, w1 = w.alloc (.cells #[.int .i64 S, .slice ao T.length pc] 24) := ⟨_, rfl⟩
  have hA : Bk w1 h 24 #[.int .i64 S, .slice ao T.length pc] := hw1 ▸ Bk.new hh
  have hF : Far (fun _ => False) w w1 := hw1 ▸ (Far.refl _ w).alloc _
  have a0 : w1.cell? ⟨h, 0, none⟩ = some (.int .i64 S) := hA.cell 0
  have a1 : w1.cell? ⟨h, 1, none⟩ = some (.slice ao T.length pc) := hA.cell 1
  have CP := Lib.hid (fun w' (hf : Far (fun _ => False) w1 w') => copy_any S (.slice ao T.length pc) T w' ((hP.move hF).move hf) hfi.1.1 hfi.1.2)
  have CS := Lib.hid (fun pv' T' w' (hp : Prods w' pv' T') (h : T'.map pl = T.map pl) => sort_ok S pv' T' w' hp (fits_pl h hfi) (ok_pl h hy))
  have CT := Lib.hid (fun pv' T' w' (hp : Prods w' pv' T') (h : T'.map pl = T.map pl) => turn_ok S pv' T' w' hp (fits_pl h hfi) (ok_pl h hy))
  have hP1 := Lib.hid (hP.move hF)
  have hfi' := Lib.hid hfi
  have hh' := Lib.hid hh
  have hw1' := Lib.hid hw1
  have hF' := Lib.hid hF
  have hA' := Lib.hid hA
  have C1 := CP.out w1 (Far.refl _ _)
  clear hP hfi hy hh hw1 hF hA
  go_enter Try.func6, Try.ntmps6
  go_upto_region 1 with fail
  rw [← hh'.out, ← hw1'.out]
  go_wp2_with fail
  refine C1.mono ?_
  rintro e w2 ⟨pv2, T2, rfl, ho2, hpl2, hf2⟩
  have K2 := CT.out pv2 T2 w2 ho2.prods hpl2
  have hpl2' := Lib.hid hpl2
  have hf2' := Lib.hid hf2
  clear C1 a0 a1 ho2 hpl2 hf2
  go_wp2_with fail
  refine K2.mono ?_
  rintro e w3 ⟨⟨T3, ao3, c3, rfl, hp3, hm3, hfi3, hy3⟩, hf3⟩
  have hf3' := Lib.hid (hf2'.out.then hf3)
  have hp3' := Lib.hid hp3
  have hm3' := Lib.hid hm3
  have hfi3' := Lib.hid hfi3
  have hy3' := Lib.hid hy3
  clear K2 hf3 hp3 hm3 hfi3 hy3
  go_upto_region 2 with fail
  obtain ⟨k3, hk3⟩ : ∃ k, k = w3.heap.size := ⟨_, rfl⟩
  obtain ⟨w4, hw4⟩ : ∃ w4, w4 = w3.alloc (.cells #[.int .i64 S, .slice ao3 T3.length c3] 24) := ⟨_, rfl⟩
  rw [← hk3, ← hw4]
  have hB : Bk w4 k3 24 #[.int .i64 S, .slice ao3 T3.length c3] := hw4 ▸ Bk.new hk3
  have hf34 : Far (fun _ => False) w3 w4 := hw4 ▸ (Far.refl _ w3).alloc _
  have hf4' := Lib.hid (hf3'.out.then hf34)
  have C4 := turn_ok S (.slice ao3 T3.length c3) T3 w4 (hp3'.out.move hf34) hfi3'.out hy3'.out
  have b0 : w4.cell? ⟨k3, 0, none⟩ = some (.int .i64 S) := hB.cell 0
  have b1 : w4.cell? ⟨k3, 1, none⟩ = some (.slice ao3 T3.length c3) := hB.cell 1
  clear hw4 hB hk3 hf34
  go_wp2_with fail
  refine C4.mono ?_
  rintro e w5 ⟨⟨T5, ao5, c5, rfl, hp5, hm5, hfi5, hy5⟩, hf5⟩
  have hf5' := Lib.hid (hf4'.out.then hf5)
  have hpl5 := Lib.hid ((rev_rev hm3'.out hm5).trans hpl2'.out)
  have hp5' := Lib.hid hp5
  have hl5 : T5.length = T.length := by have := congrArg List.length hpl5.out; simpa only [List.length_map] using this
  rw [hl5] at hp5'
  rw [hl5]
  clear C4 hf5 b0 b1 hp5 hm5 hfi5 hy5 hl5
  go_upto_region 3 with fail
  obtain ⟨k5, hk5⟩ : ∃ k, k = w5.heap.size := ⟨_, rfl⟩
  obtain ⟨w6, hw6⟩ : ∃ w6, w6 = w5.alloc (.cells #[.int .i64 S, .slice ao5 T.length c5] 24) := ⟨_, rfl⟩
  rw [← hk5, ← hw6]
  have hD' := Lib.hid (show Bk w6 k5 24 #[.int .i64 S, .slice ao5 T.length c5] from hw6 ▸ Bk.new hk5)
  have hf56 : Far (fun _ => False) w5 w6 := hw6 ▸ (Far.refl _ w5).alloc _
  have hp6' := Lib.hid (hp5'.out.move hf56)
  have hf6' := Lib.hid (hf5'.out.then hf56)
  have C6 := CP.out w6 hf6'.out
  have a0 : w6.cell? ⟨h, 0, none⟩ = some (.int .i64 S) := (hA'.out.far' hf6'.out id).cell 0
  have a1 : w6.cell? ⟨h, 1, none⟩ = some (.slice ao T.length pc) := (hA'.out.far' hf6'.out id).cell 1
  clear hw6 hk5 hf56 hp5'
  go_wp2_with fail
  refine C6.mono ?_
  rintro e w7 ⟨pv7, T7, rfl, ho7, hpl7, hf7⟩
  have S7 := CS.out pv7 T7 w7 ho7.prods hpl7
  have hpl7' := Lib.hid hpl7
  have hf67' := Lib.hid hf7
  have hf7' := Lib.hid (hf6'.out.then hf7)
  clear C6 a0 a1 ho7 hpl7 hf7
  go_wp2_with fail
  refine S7.mono ?_
  rintro e w8 ⟨⟨R, ao8, c8, rfl, hp8, ⟨hu8, hm8, hl8⟩, hfi8, hy8⟩, hf8⟩
  have hlR : R.length ≤ T.length := by have := congrArg List.length hpl7'.out; simp only [List.length_map] at this; omega
  have hf68' := Lib.hid (hf67'.out.then hf8)
  have hf8' := Lib.hid (hf7'.out.then hf8)
  have hp8' := Lib.hid hp8
  have hu8' := Lib.hid hu8
  have hfi8' := Lib.hid hfi8
  have hy8' := Lib.hid hy8
  clear S7 hf8 hp8 hu8 hm8 hl8 hfi8 hy8
  go_upto_region 4 with fail
  obtain ⟨k8, hk8⟩ : ∃ k, k = w8.heap.size := ⟨_, rfl⟩
  obtain ⟨w9, hw9⟩ : ∃ w9, w9 = w8.alloc (.cells #[.int .i64 S, .slice ao8 R.length c8] 24) := ⟨_, rfl⟩
  rw [← hk8, ← hw9]
  have hE' := Lib.hid (show Bk w9 k8 24 #[.int .i64 S, .slice ao8 R.length c8] from hw9 ▸ Bk.new hk8)
  have hf89 : Far (fun _ => False) w8 w9 := hw9 ▸ (Far.refl _ w8).alloc _
  have hf9' := Lib.hid (hf8'.out.then hf89)
  have hf69' := Lib.hid (hf68'.out.then hf89)
  have hp9' := Lib.hid (hp8'.out.move hf89)
  have C9 := sort_ok S (.slice ao8 R.length c8) R w9 hp9'.out hfi8'.out hy8'.out
  have b0 : w9.cell? ⟨k8, 0, none⟩ = some (.int .i64 S) := hE'.out.cell 0
  have b1 : w9.cell? ⟨k8, 1, none⟩ = some (.slice ao8 R.length c8) := hE'.out.cell 1
  clear hw9 hk8 hf89 hp8'
  go_wp2_with fail
  refine C9.mono ?_
  rintro e w10 ⟨⟨R2, ao10, c10, rfl, hp10, ⟨hu10, hm10, hl10⟩, hfi10, hy10⟩, hf10⟩
  have hRR := Lib.hid (show R2.map pl = R.map pl from up_same hu10 hu8'.out hm10)
  have hl2 : R2.length = R.length := by have := congrArg List.length hRR.out; simpa only [List.length_map] using this
  have hp10' := Lib.hid hp10
  rw [hl2] at hp10'
  rw [hl2]
  have hf10' := Lib.hid (hf9'.out.then hf10)
  have hf6a' := Lib.hid (hf69'.out.then hf10)
  have hf9a' := Lib.hid hf10
  clear C9 hf10 b0 b1 hp10 hu10 hm10 hl10 hfi10 hy10 hl2
  go_upto_region 5 with fail
  obtain ⟨k10, hk10⟩ : ∃ k, k = w10.heap.size := ⟨_, rfl⟩
  obtain ⟨w11, hw11⟩ : ∃ w11, w11 = w10.alloc (.cells #[.int .i64 S, .slice ao10 R.length c10] 24) := ⟨_, rfl⟩
  rw [← hk10, ← hw11]
  have hG' := Lib.hid (show Bk w11 k10 24 #[.int .i64 S, .slice ao10 R.length c10] from hw11 ▸ Bk.new hk10)
  have hfab : Far (fun _ => False) w10 w11 := hw11 ▸ (Far.refl _ w10).alloc _
  have hp11' := Lib.hid (hp10'.out.move hfab)
  have hf11' := Lib.hid (hf10'.out.then hfab)
  have hf6b' := Lib.hid (hf6a'.out.then hfab)
  have hf9b' := Lib.hid (hf9a'.out.then hfab)
  clear hw11 hk10 hfab hp10'
  go_wp2_with fail
  refine (head12_any _).mono ?_
  rintro e w12 ⟨rfl, hf12⟩
  have hf12' := Lib.hid (hf11'.out.then hf12)
  have hf6c' := Lib.hid (hf6b'.out.then hf12)
  have hf9c' := Lib.hid (hf9b'.out.then hf12)
  have hfbc' := Lib.hid hf12
  have a0 : w12.cell? ⟨h, 0, none⟩ = some (.int .i64 S) := (hA'.out.far' hf12'.out id).cell 0
  have a1 : w12.cell? ⟨h, 1, none⟩ = some (.slice ao T.length pc) := (hA'.out.far' hf12'.out id).cell 1
  have b0 : w12.cell? ⟨k5, 0, none⟩ = some (.int .i64 S) := (hD'.out.far' hf6c'.out id).cell 0
  have b1 : w12.cell? ⟨k5, 1, none⟩ = some (.slice ao5 T.length c5) := (hD'.out.far' hf6c'.out id).cell 1
  have hfi5 := fits_pl hpl5.out hfi'.out
  have M12 := same_yes S (.slice ao5 T.length c5) (.slice ao T.length pc) T5 T w12 (hp6'.out.move hf6c'.out) (hP1.out.move hf12'.out) hpl5.out.symm hfi5
  clear hf12 hfi5
  go_wp2_with fail
  refine M12.mono ?_
  rintro e w13 ⟨rfl, hf13⟩
  have hf13' := Lib.hid (hf12'.out.then hf13)
  have hf9d' := Lib.hid (hf9c'.out.then hf13)
  have hfbd' := Lib.hid (hfbc'.out.then hf13)
  have d0 : w13.cell? ⟨k8, 0, none⟩ = some (.int .i64 S) := (hE'.out.far' hf9d'.out id).cell 0
  have d1 : w13.cell? ⟨k8, 1, none⟩ = some (.slice ao8 R.length c8) := (hE'.out.far' hf9d'.out id).cell 1
  have e0 : w13.cell? ⟨k10, 0, none⟩ = some (.int .i64 S) := (hG'.out.far' hfbd'.out id).cell 0
  have e1 : w13.cell? ⟨k10, 1, none⟩ = some (.slice ao10 R.length c10) := (hG'.out.far' hfbd'.out id).cell 1
  have M13 := same_yes S (.slice ao8 R.length c8) (.slice ao10 R.length c10) R R2 w13 (hp9'.out.move hf9d'.out) (hp11'.out.move hfbd'.out) hRR.out hfi8'.out
  clear M12 hf13 a0 a1 b0 b1
  go_wp2_with fail
  refine M13.mono ?_
  rintro e w14 ⟨rfl, hf14⟩
  have hf14' := Lib.hid (hf13'.out.then hf14)
  have d1 : w14.cell? ⟨k8, 1, none⟩ = some (.slice ao8 R.length c8) := (hE'.out.far' (hf9d'.out.then hf14) id).cell 1
  have a1 : w14.cell? ⟨h, 1, none⟩ = some (.slice ao T.length pc) := (hA'.out.far' hf14'.out id).cell 1
  have g1 : decide ((R.length : Int) ≤ (T.length : Int)) = true := by rw [decide_eq_true_eq]; omega
  clear M13 hf14 d0 e0 e1
  go_wp2_with fail
  go_ret
  exact ⟨rfl, hF'.out.then hf14'.out⟩
end
end Go.Proofs.Ytfgoghmhjbhbiaa
