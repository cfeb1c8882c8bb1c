/-
  The forest of no graph.
-/
import Derived.Test.YteoglnbmmgoibaaGreatDoorPacksOf
namespace Go.Proofs.YteoglnbmmgoibaaGreatDoor
open Go.RowKit
set_option linter.unusedVariables false
set_option linter.unusedSimpArgs false
section
set_option maxHeartbeats 4000000
set_option maxRecDepth 100000
theorem gnone_nil (w : World) : Calls Tryz.prog 46 #[.pointer none] w fun e w' => e = .returned (.bool true) ∧ w = w' := by
  go_enter Tryz.func46, Tryz.ntmps46
  go_wp2_with fail
  go_ret
  exact ⟨rfl, rfl⟩
theorem node_nil (w : World) : Calls Tryz.prog 35 #[.pointer none, .string ⟨#[]⟩] w fun e w' => e = .returned (.tuple #[.int .i64 0, .int .i64 1]) ∧ w = w' := by
  have N1 := gnone_nil w
  go_enter Tryz.func35, Tryz.ntmps35
  go_wp2_with fail
  refine N1.mono ?_
  rintro e w' ⟨rfl, rfl⟩
  go_wp2_with fail
  exact bodyPost_ret (v := .tuple #[.int .i64 0, .int .i64 1]) (by simp [results, Tryz.f35, go_sem]) rfl ⟨rfl, rfl⟩
theorem new_nil (a b : Value) (lv : Value) (w : World) : Calls Tryz.prog 27 #[.agg #[a, b], lv, .pointer none] w fun e w' => e = .returned (.tuple #[.pointer none, .int .i64 1]) ∧ Far (fun _ => False) w w' := by
  obtain ⟨W, hW⟩ : ∃ W, W = w.alloc (.cells #[a, b] 53) := ⟨_, rfl⟩
  have hF : Far (fun _ => False) w W := hW ▸ (Far.refl _ w).alloc _
  have N1 := node_nil W
  have hW' := Lib.hid hW
  have hF' := Lib.hid hF
  clear hW hF
  go_enter Tryz.func27, Tryz.ntmps27
  go_upto_region 1 with fail
  rw [← hW'.out]
  go_wp2_with fail
  refine N1.mono ?_
  rintro e w' ⟨rfl, rfl⟩
  go_wp2_with fail
  exact bodyPost_ret (v := .tuple #[.pointer none, .int .i64 1]) (by simp [results, Tryz.f27, go_sem]) rfl ⟨rfl, hF'.out⟩
theorem of_nil22 (w : World) : Calls Tryz.prog 17 #[.agg #[.int .i64 1, .slice none 0 0], .slice none 0 0, .pointer none, .agg #[.int .i64 0, .int .i64 0, .int .i64 0]] w fun e w' => e = .returned (.tuple #[.agg #[.slice none 0 0, .slice none 0 0], .int .i64 1]) ∧ Far (fun _ => False) w w' := by
  obtain ⟨h0, hh0⟩ : ∃ h, h = w.heap.size := ⟨_, rfl⟩
  obtain ⟨kR, hkR⟩ : ∃ k, k = h0 + 2 := ⟨_, rfl⟩
  obtain ⟨w0, hw0⟩ : ∃ w0, w0 = (w.alloc (.cells #[.int .i64 1, .slice none 0 0] 53)).alloc (.cells #[.int .i64 0, .int .i64 0, .int .i64 0] 33) := ⟨_, rfl⟩
  obtain ⟨W, hW⟩ : ∃ W, W = w0.alloc (.cells #[.slice none 0 0, .slice none 0 0] 25) := ⟨_, rfl⟩
  have hz0 : w0.heap.size = kR := by rw [hw0]; simp [hkR, hh0]
  have hA : Bk W h0 53 #[.int .i64 1, .slice none 0 0] := hW ▸ ((hw0 ▸ (Bk.new hh0).alloc _ : Bk w0 h0 53 #[.int .i64 1, .slice none 0 0]).alloc _)
  have hR : Bk W kR 25 #[.slice none 0 0, .slice none 0 0] := hW ▸ Bk.new hz0.symm
  have hF : Far (fun _ => False) w W := hW ▸ (hw0 ▸ ((Far.refl _ w).alloc _).alloc _ : Far (fun _ => False) w w0).alloc _
  have a0 : W.cell? ⟨h0, 0, none⟩ = some (.int .i64 1) := hA.cell 0
  have a1 : W.cell? ⟨h0, 1, none⟩ = some (.slice none 0 0) := hA.cell 1
  have N1 := new_nil (.int .i64 1) (.slice none 0 0) (.slice none 0 0) W
  have hh0' := Lib.hid hh0
  have hkR' := Lib.hid hkR
  have hw0' := Lib.hid hw0
  have hW' := Lib.hid hW
  have hz0' := Lib.hid hz0
  have hR' := Lib.hid hR
  have hF' := Lib.hid hF
  clear hh0 hkR hw0 hW hz0 hA hR hF
  go_enter Tryz.func17, Tryz.ntmps17
  go_upto_region 1 with fail
  rw [← hh0'.out, ← hw0'.out, ← hW'.out]
  rw [show h0 + 1 + 1 = kR from hkR'.out.symm]
  go_step3
  go_wp2_with fail
  refine N1.mono ?_
  rintro e w2 ⟨rfl, hf2⟩
  have hR2 := hR'.out.far' hf2 id
  have b0 : w2.cell? ⟨kR, 0, none⟩ = some (.slice none 0 0) := hR2.cell 0
  have b1 : w2.cell? ⟨kR, 1, none⟩ = some (.slice none 0 0) := hR2.cell 1
  have z0 : w2.frozen? ⟨kR, 0, none⟩ = false := hR2.free 0
  have z1 : w2.frozen? ⟨kR, 1, none⟩ = false := hR2.free 1
  have hR2' := Lib.hid hR2
  have hf2' := Lib.hid (hF'.out.then hf2)
  clear N1 hR2 hf2 a0 a1
  go_wp2_with fail
  have hS5 := (Far.refl (fun k => k = kR) w2).set ⟨kR, 0, none⟩ (.slice none 0 0) (fun _ => rfl)
  have hS6 := hS5.set ⟨kR, 1, none⟩ (.slice none 0 0) (fun _ => rfl)
  have hB6 : Bk ((w2.setCell ⟨kR, 0, none⟩ (.slice none 0 0)).setCell ⟨kR, 1, none⟩ (.slice none 0 0)) kR 25 #[.slice none 0 0, .slice none 0 0] := (hR2'.out.set 0 (.slice none 0 0)).set 1 _
  have hF6 := Lib.hid (hf2'.out.out hS6 fun k hk e => by have := hkR'.out; have := hh0'.out; omega)
  clear b0 b1 z0 z1 hS5 hS6
  generalize ((w2.setCell ⟨kR, 0, none⟩ (.slice none 0 0)).setCell ⟨kR, 1, none⟩ (.slice none 0 0)) = W6 at *
  have c0 : W6.cell? ⟨kR, 0, none⟩ = some (.slice none 0 0) := hB6.cell 0
  have c1 : W6.cell? ⟨kR, 1, none⟩ = some (.slice none 0 0) := hB6.cell 1
  rw [Exit.noGoto_ret]
  exact bodyPost_ret (v := .tuple #[.agg #[.slice none 0 0, .slice none 0 0], .int .i64 1]) (by simp [results, Tryz.f17, go_sem, c0, c1]) rfl ⟨rfl, hF6.out⟩
end
end Go.Proofs.YteoglnbmmgoibaaGreatDoor
