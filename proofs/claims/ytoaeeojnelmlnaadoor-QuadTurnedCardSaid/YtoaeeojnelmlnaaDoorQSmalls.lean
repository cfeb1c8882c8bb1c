/-
  Small functions on matrices; a new matrix.
-/
import Derived.Test.YtoaeeojnelmlnaaDoorQFind
namespace Go.Proofs.YtoaeeojnelmlnaaDoor
open Go.RowKit
set_option linter.unusedVariables false
set_option linter.unusedSimpArgs false
section
set_option maxHeartbeats 1000000
set_option maxRecDepth 100000
variable {w : World} {B side lv root : Nat} {nv lvv : Value} {ns : List (Nat → Nat)} {A : Nat → Nat → Nat → Nat} {ps : List (Nat × Nat)} {M : Nat → Nat → Bool}
theorem qnone_nil (w : World) : Calls Tryd.prog 59 #[.pointer none] w fun e w' => e = .returned (.bool true) ∧ w = w' := by
  go_enter Tryd.func59, Tryd.ntmps59
  go_wp2
  go_ret
  exact ⟨rfl, rfl⟩
theorem qnone_no (h : Qd w B side lv root nv lvv ns A ps M) : Calls Tryd.prog 59 #[.pointer (some ⟨B, 0, none⟩)] w fun e w' => e = .returned (.bool false) ∧ w = w' := by
  have p0 : w.cell? ⟨B, 0, none⟩ = some (.int .i64 (side : Nat)) := h.box.cell 0
  have h1 := h.side1
  have hs : ((side : Int) == 0) = false := by simp; omega
  clear h
  go_enter Tryd.func59, Tryd.ntmps59
  go_wp2
  go_ret
  exact ⟨rfl, rfl⟩
theorem qline_yes (h : Qd w B side lv root nv lvv ns A ps M) (i : Nat) (hi : i < side) : Calls Tryd.prog 85 #[.pointer (some ⟨B, 0, none⟩), .int .i64 i] w fun e w' => e = .returned (.bool true) ∧ w = w' := by
  have p0 : w.cell? ⟨B, 0, none⟩ = some (.int .i64 (side : Nat)) := h.box.cell 0
  have hs : decide ((i : Int) < (side : Int)) = true := by rw [decide_eq_true_eq]; omega
  have hs2 : (i : Int) < (side : Int) := by omega
  clear h
  go_enter Tryd.func85, Tryd.ntmps85
  go_wp2
  go_ret
  exact ⟨rfl, rfl⟩
theorem qline_no (h : Qd w B side lv root nv lvv ns A ps M) (i : Int) (hi : i < 0 ∨ (side : Int) ≤ i) : Calls Tryd.prog 85 #[.pointer (some ⟨B, 0, none⟩), .int .i64 i] w fun e w' => e = .returned (.bool false) ∧ w = w' := by
  have p0 : w.cell? ⟨B, 0, none⟩ = some (.int .i64 (side : Nat)) := h.box.cell 0
  clear h
  by_cases h0 : i < 0
  · have hs : decide (0 ≤ i) = false := by rw [decide_eq_false_iff_not]; omega
    have hs2 : ¬ (0 ≤ i) := by omega
    go_enter Tryd.func85, Tryd.ntmps85
    go_wp2
    go_ret
    exact ⟨rfl, rfl⟩
  · have hs : decide (i < (side : Int)) = false := by rw [decide_eq_false_iff_not]; omega
    have hs2 : ¬ (i < (side : Int)) := by omega
    go_enter Tryd.func85, Tryd.ntmps85
    go_wp2
    go_ret
    exact ⟨rfl, rfl⟩
/-- How many blocks stand in a row of blocks. -/
def lns (side : Nat) : Nat := (side + 63) / 64
theorem qlines_any (h : Qd w B side lv root nv lvv ns A ps M) : Calls Tryd.prog 86 #[.pointer (some ⟨B, 0, none⟩)] w fun e w' => e = .returned (.int .i64 (lns side : Nat)) ∧ w = w' := by
  have p0 : w.cell? ⟨B, 0, none⟩ = some (.int .i64 (side : Nat)) := h.box.cell 0
  have h2 := h.side2
  have e3 : ((side : Int) + 64 - 1) / 64 = ((lns side : Nat) : Int) := by unfold lns; omega
  clear h
  go_enter Tryd.func86, Tryd.ntmps86
  go_wp2
  go_ret
  exact ⟨congrArg (fun x => Ending.returned (.int .i64 x)) e3, rfl⟩
theorem lns_lt {lv side i : Nat} (hw : side ≤ 64 * 2 ^ lv) (hi : i < lns side) : i < 2 ^ lv := by unfold lns at hi; omega
theorem lns_le {side : Nat} (h : side ≤ 1024) : lns side ≤ 16 := by unfold lns; omega
theorem qside_any (h : Qd w B side lv root nv lvv ns A ps M) : Calls Tryd.prog 30 #[.pointer (some ⟨B, 0, none⟩)] w fun e w' => e = .returned (.int .i64 (side : Nat)) ∧ w = w' := by
  have p0 : w.cell? ⟨B, 0, none⟩ = some (.int .i64 (side : Nat)) := h.box.cell 0
  have N := qnone_no h
  clear h
  go_enter Tryd.func30, Tryd.ntmps30
  go_wp2_with fail
  refine N.mono ?_
  rintro e w' ⟨rfl, rfl⟩
  go_wp2_with fail
  go_ret
  exact ⟨rfl, rfl⟩
theorem qside_nil (w : World) : Calls Tryd.prog 30 #[.pointer none] w fun e w' => e = .returned (.int .i64 0) ∧ w = w' := by
  go_enter Tryd.func30, Tryd.ntmps30
  go_wp2_with fail
  refine (qnone_nil _).mono ?_
  rintro e w' ⟨rfl, rfl⟩
  go_wp2_with fail
  go_ret
  exact ⟨rfl, rfl⟩
theorem qempty_any (side : Nat) (h1 : 1 ≤ side) (h2 : side ≤ 1024) (w : World) : Calls Tryd.prog 56 #[.int .i64 side] w fun e w' => e = .returned (.pointer (some ⟨w.heap.size, 0, none⟩)) ∧ ∃ l : Nat, l ≤ 4 ∧ side ≤ 64 * 2 ^ l ∧ Bk w' w.heap.size 111 #[.int .i64 (side : Nat), .int .i64 (l : Nat), .int .i64 0, .slice none 0 0, .slice none 0 0] ∧ Far (fun _ => False) w w' := by
  go_enter Tryd.func56, Tryd.ntmps56
  go_wp2_with fail
  go_loopw [] (fun wr => ∃ l : Nat, l ≤ 4 ∧ Bk wr w.heap.size 111 #[.int .i64 (side : Nat), .int .i64 (l : Nat), .int .i64 0, .slice none 0 0, .slice none 0 0] ∧ Far (fun _ => False) w wr) (fun wr => match wr.cell? ⟨w.heap.size, 1, none⟩ with | some (.int .i64 l) => (4 - l).toNat | _ => 0)
  case atStart => exact ⟨0, by omega, Bk.new rfl, (Far.refl _ w).alloc _⟩
  case round =>
    obtain ⟨l, hl, hB, hF⟩ := hrel
    have p1 : wr.cell? ⟨w.heap.size, 1, none⟩ = some (.int .i64 (l : Nat)) := hB.cell 1
    have q1 : wr.frozen? ⟨w.heap.size, 1, none⟩ = false := hB.free 1
    have hB' := hB.set 1 (.int .i64 ((l : Int) + 1))
    have hF' := Lib.hid (hF.set ⟨w.heap.size, 1, none⟩ (.int .i64 ((l : Int) + 1)) (fun h => absurd h (Nat.lt_irrefl _)))
    have hB2 := Lib.hid hB'
    have hB3 := Lib.hid hB
    clear hB hB'
    by_cases hlt : 64 * 2 ^ l < side
    · rcases (show l = 0 ∨ l = 1 ∨ l = 2 ∨ l = 3 ∨ l = 4 by omega) with rfl | rfl | rfl | rfl | rfl
      all_goals simp only [Nat.reducePow, Nat.reduceMul] at hlt
      · have hd : decide ((64 : Int) < (side : Int)) = true := by rw [decide_eq_true_eq]; omega
        go_wp2_with fail
        go_roundw
        case rel => exact ⟨1, by omega, hB2.out, hF'.out⟩
        case measure =>
          have p2 : (wr.setCell ⟨w.heap.size, 1, none⟩ (.int .i64 1)).cell? ⟨w.heap.size, 1, none⟩ = some (.int .i64 1) := hB2.out.cell 1
          simp only [p1]
          rw [p2]
          decide
      · have hd : decide ((128 : Int) < (side : Int)) = true := by rw [decide_eq_true_eq]; omega
        go_wp2_with fail
        go_roundw
        case rel => exact ⟨2, by omega, hB2.out, hF'.out⟩
        case measure =>
          have p2 : (wr.setCell ⟨w.heap.size, 1, none⟩ (.int .i64 2)).cell? ⟨w.heap.size, 1, none⟩ = some (.int .i64 2) := hB2.out.cell 1
          simp only [p1]
          rw [p2]
          decide
      · have hd : decide ((256 : Int) < (side : Int)) = true := by rw [decide_eq_true_eq]; omega
        go_wp2_with fail
        go_roundw
        case rel => exact ⟨3, by omega, hB2.out, hF'.out⟩
        case measure =>
          have p2 : (wr.setCell ⟨w.heap.size, 1, none⟩ (.int .i64 3)).cell? ⟨w.heap.size, 1, none⟩ = some (.int .i64 3) := hB2.out.cell 1
          simp only [p1]
          rw [p2]
          decide
      · have hd : decide ((512 : Int) < (side : Int)) = true := by rw [decide_eq_true_eq]; omega
        go_wp2_with fail
        go_roundw
        case rel => exact ⟨4, by omega, hB2.out, hF'.out⟩
        case measure =>
          have p2 : (wr.setCell ⟨w.heap.size, 1, none⟩ (.int .i64 4)).cell? ⟨w.heap.size, 1, none⟩ = some (.int .i64 4) := hB2.out.cell 1
          simp only [p1]
          rw [p2]
          decide
      · omega
    · have hge : side ≤ 64 * 2 ^ l := by omega
      have E := Lib.hid (show ∃ l : Nat, l ≤ 4 ∧ side ≤ 64 * 2 ^ l ∧ Bk wr w.heap.size 111 #[.int .i64 (side : Nat), .int .i64 (l : Nat), .int .i64 0, .slice none 0 0, .slice none 0 0] ∧ Far (fun _ => False) w wr from ⟨l, hl, hge, hB3.out, hF⟩)
      rcases (show l = 0 ∨ l = 1 ∨ l = 2 ∨ l = 3 ∨ l = 4 by omega) with rfl | rfl | rfl | rfl | rfl
      all_goals simp only [Nat.reducePow, Nat.reduceMul] at hlt
      · have hd : decide ((64 : Int) < (side : Int)) = false := by rw [decide_eq_false_iff_not]; omega
        go_wp2_with fail
        go_ret
        exact ⟨rfl, E.out⟩
      · have hd : decide ((128 : Int) < (side : Int)) = false := by rw [decide_eq_false_iff_not]; omega
        go_wp2_with fail
        go_ret
        exact ⟨rfl, E.out⟩
      · have hd : decide ((256 : Int) < (side : Int)) = false := by rw [decide_eq_false_iff_not]; omega
        go_wp2_with fail
        go_ret
        exact ⟨rfl, E.out⟩
      · have hd : decide ((512 : Int) < (side : Int)) = false := by rw [decide_eq_false_iff_not]; omega
        go_wp2_with fail
        go_ret
        exact ⟨rfl, E.out⟩
      · have hd : decide ((1024 : Int) < (side : Int)) = false := by rw [decide_eq_false_iff_not]; omega
        go_wp2_with fail
        go_ret
        exact ⟨rfl, E.out⟩
/-- New. -/
theorem qnew_yes (side : Nat) (h1 : 1 ≤ side) (h2 : side ≤ 1024) (w : World) : Calls Tryd.prog 15 #[.int .i64 side] w fun e w' => e = .returned (.tuple #[.pointer (some ⟨w.heap.size, 0, none⟩), .int .i64 0]) ∧ ∃ l : Nat, l ≤ 4 ∧ side ≤ 64 * 2 ^ l ∧ Bk w' w.heap.size 111 #[.int .i64 (side : Nat), .int .i64 (l : Nat), .int .i64 0, .slice none 0 0, .slice none 0 0] ∧ Far (fun _ => False) w w' := by
  have d1 : decide ((side : Int) < 1) = false := by rw [decide_eq_false_iff_not]; omega
  have d2 : decide ((1024 : Int) < (side : Int)) = false := by rw [decide_eq_false_iff_not]; omega
  have d3 : ¬ ((side : Int) < 1) := by omega
  have d4 : ¬ ((1024 : Int) < (side : Int)) := by omega
  go_enter Tryd.func15, Tryd.ntmps15
  go_wp2_with fail
  refine (qempty_any side h1 h2 w).mono ?_
  rintro e w' ⟨rfl, h⟩
  go_wp2_with fail
  go_ret2
  exact ⟨rfl, h⟩
theorem qnew_no (side : Int) (h : side < 1 ∨ 1024 < side) (w : World) : Calls Tryd.prog 15 #[.int .i64 side] w fun e w' => e = .returned (.tuple #[.pointer none, .int .i64 2]) ∧ w = w' := by
  by_cases h0 : side < 1
  · have d1 : decide (side < 1) = true := by rw [decide_eq_true_eq]; omega
    go_enter Tryd.func15, Tryd.ntmps15
    go_wp2_with fail
    go_ret2
    exact ⟨rfl, rfl⟩
  · have d1 : decide (side < 1) = false := by rw [decide_eq_false_iff_not]; omega
    have d2 : decide ((1024 : Int) < side) = true := by rw [decide_eq_true_eq]; omega
    have d4 : (1024 : Int) < side := by omega
    go_enter Tryd.func15, Tryd.ntmps15
    go_wp2_with fail
    go_ret2
    exact ⟨rfl, rfl⟩
theorem Qd.new {w' : World} {k side l : Nat} (h1 : 1 ≤ side) (h2 : side ≤ 1024) (hl : l ≤ 4) (hw : side ≤ 64 * 2 ^ l) (h : Bk w' k 111 #[.int .i64 (side : Nat), .int .i64 (l : Nat), .int .i64 0, .slice none 0 0, .slice none 0 0]) : Qd w' k side l 0 (.slice none 0 0) (.slice none 0 0) [] (fun _ _ _ => 0) [] (fun _ _ => false) :=
  ⟨⟨h, World.ownsRow_nil _ _ _ _, World.ownsRow_nil _ _ _ _, Tree.empty l, h1, h2, hw, hl, fun _ _ h => (by cases h), fun _ _ _ _ _ _ _ => rfl, fun _ h => (by cases h), by simp⟩, by simp⟩
end
end Go.Proofs.YtoaeeojnelmlnaaDoor
