/-
  awake: the answers that the document fixes.
-/
import Derived.Test.YthpkbeooplpinaaAbs2
namespace Go.Proofs.Ythpkbeooplpinaa
open Go.RowKit
set_option linter.unusedVariables false
set_option linter.unusedSimpArgs false
theorem fit_small {a : Int} (h : -1000000000 ≤ a ∧ a ≤ 1000000000) : Fit a := by unfold Fit; omega
section
set_option maxHeartbeats 2000000
set_option maxRecDepth 100000
theorem awake_any (w : World) : Calls Try.prog 7 #[] w fun e w' => e = .returned (.bool true) ∧ Far (fun _ => False) w w' := by
  go_enter Try.func7, Try.ntmps7
  go_wp2_with fail
  refine (new_stk _).mono ?_
  rintro e w1 ⟨rfl, F0, hS0, hF0, hf0⟩
  generalize w.heap.size + 3 = B at hS0 ⊢
  have f7 : Fit 7 := fit_small (by omega)
  have f0 : Fit 0 := fit_small (by omega)
  have f1 : Fit 1 := fit_small (by omega)
  have f3 : Fit 3 := fit_small (by omega)
  have f5 : Fit 5 := fit_small (by omega)
  go_wp2_with fail
  refine (node_new_stk hS0 (by omega) f7 f0 rfl).mono ?_
  rintro e w2 ⟨rfl, F1, hS1, hM1⟩
  go_wp2_with fail
  refine (node_new_stk hS1 (by omega) f7 f1 (by decide)).mono ?_
  rintro e w3 ⟨rfl, F2, hS2, hM2⟩
  go_wp2_with fail
  refine (node_old_stk hS2 f7 f0 (i := 0) (by decide)).mono ?_
  rintro e w4 ⟨rfl, hf3⟩
  have hS3 := hS2.still hf3
  go_wp2_with fail
  refine (push_new_stk hS3 (by omega) (i := 1) (x := 0) (y := 5) (r := ⟨7, 1, [], []⟩) rfl (by decide) f5 (by simp)).mono ?_
  rintro e w5 ⟨g4, rfl, hg4, ho4, F4, hn4, hS4, hM4⟩
  clear ho4
  go_wp2_with fail
  refine (pop_new_stk hS4 (by omega) (i := 1) (y := 3) (r := ⟨7, 1, [(0, 5)], []⟩) rfl f3 (by simp)).mono ?_
  rintro e w6 ⟨g5, rfl, hg5, ho5, F5, hn5, hS5, hM5⟩
  have HO5 := Lib.hid ho5
  clear ho5
  go_wp2_with fail
  refine (pop_bad_stk hS5 (by omega) (i := 2) (y := 0) (by simp)).mono ?_
  rintro e w7 ⟨rfl, hf6⟩
  have ho6 : w7.ownsRow w5.heap.size 38 2 (.slice (some ⟨g5, 0, none⟩) 1 1) 1 [.int .i64 0, .int .i64 5] := row_same HO5.out fun k hk hlt => hf6.block k hlt id
  have c0 : w7.cell? ⟨g5, 0, none⟩ = some (.int .i64 0) := by rw [ho6.cellAt 0 (by omega)]; rfl
  have c1 : w7.cell? ⟨g5, 1, none⟩ = some (.int .i64 5) := by rw [ho6.cellAt 1 (by omega)]; rfl
  clear ho6
  go_wp2_with fail
  go_ret
  have M := ((hM1.trans hM2).trans (Moves.still hf3)).trans (hM4.trans hM5)
  exact ⟨rfl, (hf0.trans M.far fun i hi hF => absurd (hF0 i hF) (by omega)).trans hf6 fun _ _ h => h⟩
end
end Go.Proofs.Ythpkbeooplpinaa
