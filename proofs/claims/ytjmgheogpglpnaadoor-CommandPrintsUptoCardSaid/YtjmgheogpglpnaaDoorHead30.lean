/-
  What each law of this stage asks first.
-/
import Derived.Test.YtjmgheogpglpnaaDoorParse30
namespace Go.Proofs.YtjmgheogpglpnaaDoor
open Go.RowKit
set_option linter.unusedVariables false
set_option linter.unusedSimpArgs false
def tNA : Tx := [110, 111, 100, 101, 32, 97]
theorem parse_na : parseL tNA = .inr { cm0 with v := 3, names := [[97]] } := by kernel_rfl
theorem parse_e : parseL [] = .inl 400 := by kernel_rfl
theorem verb_na : verbOf (cutT tNA).1 = 3 := by kernel_rfl
theorem verb_e : verbOf (cutT []).1 = 0 := by kernel_rfl
section
set_option maxHeartbeats 4000000
set_option maxRecDepth 100000
theorem head_any (w : World) : Calls Tryd.prog 12 #[] w fun e w' => e = .returned (.bool true) ∧ Far (fun _ => False) w w' := by
  have P1 := Lib.hid (fun w => parse_any (fun _ _ _ => True) tNA w (by decide) (fun _ => by rw [verb_na]; exact reads3 _) (fun _ _ _ _ _ _ => trivial))
  have P2 := Lib.hid (fun w => parse_any (fun _ _ _ => True) [] w (by decide) (fun h => absurd verb_e h) (fun _ _ _ _ _ _ => trivial))
  rw [parse_na] at P1
  rw [parse_e] at P2
  go_enter Tryd.func12, Tryd.ntmps12
  go_wp2_with (refine (P1.out _).mono ?_; rintro e w1 ⟨hf1, V, rfl, hV⟩; obtain ⟨no, nc, mo, mc, rfl, ho1, ho2⟩ := hV.form; dsimp only [cmdR, codeR, cm0, List.length_cons, List.length_nil] at ho1 ho2 ⊢; obtain ⟨g, cap, hg0, hg1, hg2⟩ := World.ownsRow.form ho1 (by decide); injection hg0 with hg3 hg4 hg5; subst hg3; have r1 : w1.cell? ⟨g, 0, none⟩ = some (.string ⟨#[97]⟩) := (ho1.cellAt 0 (by decide)); have hf1' := Lib.hid hf1; clear hf1 ho1 ho2 hV P1 hg4 hg5 hg1)
  refine (P2.out _).mono ?_
  rintro e w2 ⟨hf2, V, rfl, hV⟩
  obtain ⟨no2, nc2, mo2, mc2, rfl, ho3, ho4⟩ := hV.form
  dsimp only [cmdR, codeR, cm0, List.length_cons, List.length_nil] at ho3 ho4 ⊢
  have hf2' := Lib.hid hf2
  have hX := (Bk.new (w := w1) (t := 27) (cs := #[.int .i64 3, .int .i64 0, .slice (some ⟨g, 0, none⟩) 1 nc, .slice mo 0 mc, .string ⟨#[]⟩]) rfl).far' hf2 id
  have y0 : w2.cell? ⟨w1.heap.size, 0, none⟩ = some (.int .i64 3) := hX.cell 0
  have y2 : w2.cell? ⟨w1.heap.size, 2, none⟩ = some (.slice (some ⟨g, 0, none⟩) 1 nc) := hX.cell 2
  have yl := hX.lt
  have r2 : w2.cell? ⟨g, 0, none⟩ = some (.string ⟨#[97]⟩) := (hf2.cell (p := ⟨g, 0, none⟩) (by show g < _; simp only [World.size_alloc]; omega)).trans ((cell_eq (heap_alloc_old w1 _ hg2)).trans r1)
  have rl : g < w2.heap.size := (by omega)
  have ym : w1.heap.size ≠ w2.heap.size := (by omega)
  have gm : g ≠ w2.heap.size := (by omega)
  clear hf2 ho3 ho4 hV P2 hX
  go_wp2_with fail
  go_ret
  exact ⟨rfl, (hf1'.out.alloc _).then (hf2'.out.alloc _)⟩
end
end Go.Proofs.YtjmgheogpglpnaaDoor
