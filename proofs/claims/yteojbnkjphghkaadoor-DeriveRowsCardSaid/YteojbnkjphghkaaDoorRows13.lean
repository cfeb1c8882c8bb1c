/-
  Rows of numbers, of booleans; a body's length goes along it.
-/
import Derived.Test.YteojbnkjphghkaaDoorLeastMath13
import Derived.Laws.MakeOwn
namespace Go.Proofs.YteojbnkjphghkaaDoor
open Go.RowKit
set_option linter.unusedVariables false
set_option linter.unusedSimpArgs false
def icells (n : Nat) (f : Nat → Int) : Array Value := ((List.range n).map fun j => Value.int .i64 (f j)).toArray
def IRow (w : World) (g n : Nat) (f : Nat → Int) : Prop := Bk w g 3 (icells n f)
theorem icells_set (n : Nat) (f : Nat → Int) (i : Nat) (x : Int) : (icells n f).setIfInBounds i (.int .i64 x) = icells n (updS f i x) := by
  apply Array.ext_getElem?
  intro j
  rw [Array.getElem?_setIfInBounds]
  by_cases e : i = j
  · subst e
    by_cases hj : i < n <;> simp [icells, updS, hj]
  · have e' : ¬ j = i := fun h => e h.symm
    by_cases hj : j < n <;> simp [icells, updS, hj, e, e']
theorem IRow.put {w : World} {g n : Nat} {f : Nat → Int} (h : IRow w g n f) (i : Nat) (x : Int) : IRow (w.setCell ⟨g, i, none⟩ (.int .i64 x)) g n (updS f i x) := by
  have := Bk.set h i (.int .i64 x)
  rw [icells_set] at this
  exact this
theorem IRow.at {w : World} {g n : Nat} {f : Nat → Int} (h : IRow w g n f) {k : Nat} (hk : k < n) : w.cell? ⟨g, k, none⟩ = some (.int .i64 (f k)) := by
  rw [Bk.cell h]
  simp [icells, hk]
theorem int_row : (Tryd.prog.info? 3).map (fun i => (i.zero, i.size, i.bytes)) = some (some (.int .i64 0), 1, 8) := by kernel_rfl
theorem made_ints (n : Nat) : madeCells (Value.int .i64 0).cells (n * 1) = icells n (fun _ => 0) := by
  apply Array.ext
  · simp [icells, madeCells]
  · intro j h1 h2
    simp [icells, madeCells, Value.cells, Nat.mod_one]
theorem make_ints (n : Nat) (hn : n ≤ 5864062014805) (w : World) : (Instr.makeSlice 25 (.int .i64 (n : Int)) (.int .i64 (n : Int))).run Tryd.prog w = .ok (.slice (some ⟨w.heap.size, 0, none⟩) n n) (w.alloc (.cells (icells n (fun _ => 0)) 3)) := by
  obtain ⟨i, hi, hz, h1, h2⟩ := info_parts int_row
  have := run_make (P := Tryd.prog) w 25 3 i (.int .i64 0) Tryd.underlying25 hi hz .i64 .i64 (n : Int) (n : Int) (by omega) (Int.le_refl _) (by rw [h2]; omega) (by omega)
  rw [Int.toNat_natCast, h1, made_ints] at this
  exact this
def bcells (n : Nat) (f : Nat → Bool) : Array Value := ((List.range n).map fun j => Value.bool (f j)).toArray
def BRow (w : World) (g n : Nat) (f : Nat → Bool) : Prop := Bk w g 4 (bcells n f)
theorem bcells_set (n : Nat) (f : Nat → Bool) (i : Nat) (x : Bool) : (bcells n f).setIfInBounds i (.bool x) = bcells n (updG f i x) := by
  apply Array.ext_getElem?
  intro j
  rw [Array.getElem?_setIfInBounds]
  by_cases e : i = j
  · subst e
    by_cases hj : i < n <;> simp [bcells, updG, hj]
  · have e' : ¬ j = i := fun h => e h.symm
    by_cases hj : j < n <;> simp [bcells, updG, hj, e, e']
theorem BRow.put {w : World} {g n : Nat} {f : Nat → Bool} (h : BRow w g n f) (i : Nat) (x : Bool) : BRow (w.setCell ⟨g, i, none⟩ (.bool x)) g n (updG f i x) := by
  have := Bk.set h i (.bool x)
  rw [bcells_set] at this
  exact this
theorem BRow.at {w : World} {g n : Nat} {f : Nat → Bool} (h : BRow w g n f) {k : Nat} (hk : k < n) : w.cell? ⟨g, k, none⟩ = some (.bool (f k)) := by
  rw [Bk.cell h]
  simp [bcells, hk]
theorem bool_row : (Tryd.prog.info? 4).map (fun i => (i.zero, i.size, i.bytes)) = some (some (.bool false), 1, 1) := by kernel_rfl
theorem made_bools (n : Nat) : madeCells (Value.bool false).cells (n * 1) = bcells n (fun _ => false) := by
  apply Array.ext
  · simp [bcells, madeCells]
  · intro j h1 h2
    simp [bcells, madeCells, Value.cells, Nat.mod_one]
theorem make_bools (n : Nat) (hn : n ≤ 5864062014805) (w : World) : (Instr.makeSlice 71 (.int .i64 (n : Int)) (.int .i64 (n : Int))).run Tryd.prog w = .ok (.slice (some ⟨w.heap.size, 0, none⟩) n n) (w.alloc (.cells (bcells n (fun _ => false)) 4)) := by
  obtain ⟨i, hi, hz, h1, h2⟩ := info_parts bool_row
  have := run_make (P := Tryd.prog) w 71 4 i (.bool false) Tryd.underlying71 hi hz .i64 .i64 (n : Int) (n : Int) (by omega) (Int.le_refl _) (by rw [h2]; omega) (by omega)
  rw [Int.toNat_natCast, h1, made_bools] at this
  exact this
theorem long_drop {s : Nat → Int} {l : List Sy} {i : Nat} {x : Sy} (h : l[i]? = some x) (n : Int) : long s (l.drop i) n = if x.1 then long s (l.drop (i + 1)) (cap (n + 1)) else if s x.2.toNat < 0 then -1 else long s (l.drop (i + 1)) (cap (n + s x.2.toNat)) := by
  obtain ⟨h1, h2⟩ := List.getElem?_eq_some_iff.1 h
  rw [List.drop_eq_getElem_cons h1, h2]
  rfl
theorem long_end {s : Nat → Int} {l : List Sy} (n : Int) : long s (l.drop l.length) n = n := by rw [List.drop_length]; rfl
end Go.Proofs.YteojbnkjphghkaaDoor
