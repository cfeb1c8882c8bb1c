/-
  Made rows of counts, of booleans.
-/
import Derived.Test.YtjolkhiggcmoiaaGreatDoorQDoc
import Derived.Laws.MakeOwn
namespace Go.Proofs.YtjolkhiggcmoiaaGreatDoor
open Go.RowKit
set_option linter.unusedVariables false
set_option linter.unusedSimpArgs false
def icells (n : Nat) (f : Nat → Int) : Array Value := ((List.range n).map fun j => Value.int .i64 (f j)).toArray
def IRow (w : World) (g n : Nat) (f : Nat → Int) : Prop := Bk w g 3 (icells n f)
def setI (f : Nat → Int) (i : Nat) (x : Int) (j : Nat) : Int := if j = i then x else f j
theorem icells_set (n : Nat) (f : Nat → Int) (i : Nat) (x : Int) : (icells n f).setIfInBounds i (.int .i64 x) = icells n (setI f i x) := by
  apply Array.ext_getElem?
  intro j
  rw [Array.getElem?_setIfInBounds]
  by_cases e : i = j
  · subst e
    by_cases hj : i < n <;> simp [icells, setI, hj]
  · have e' : ¬ j = i := fun h => e h.symm
    by_cases hj : j < n <;> simp [icells, setI, hj, e, e']
theorem IRow.put {w : World} {g n : Nat} {f : Nat → Int} (h : IRow w g n f) (i : Nat) (x : Int) : IRow (w.setCell ⟨g, i, none⟩ (.int .i64 x)) g n (setI f i x) := by
  have := Bk.set h i (.int .i64 x)
  rw [icells_set] at this
  exact this
theorem IRow.at {w : World} {g n : Nat} {f : Nat → Int} (h : IRow w g n f) {k : Nat} (hk : k < n) : w.cell? ⟨g, k, none⟩ = some (.int .i64 (f k)) := by
  rw [Bk.cell h]
  simp [icells, hk]
theorem int_row : (Tryz.prog.info? 3).map (fun i => (i.zero, i.size, i.bytes)) = some (some (.int .i64 0), 1, 8) := by kernel_rfl
theorem made_ints (n : Nat) : madeCells (Value.int .i64 0).cells (n * 1) = icells n (fun _ => 0) := by
  apply Array.ext
  · simp [icells, madeCells]
  · intro j h1 h2
    simp [icells, madeCells, Value.cells, Nat.mod_one]
theorem make_ints (n : Nat) (hn : n ≤ 5864062014805) (w : World) : (Instr.makeSlice 30 (.int .i64 (n : Int)) (.int .i64 (n : Int))).run Tryz.prog w = .ok (.slice (some ⟨w.heap.size, 0, none⟩) n n) (w.alloc (.cells (icells n (fun _ => 0)) 3)) := by
  obtain ⟨i, hi, hz, h1, h2⟩ := info_parts int_row
  have := run_make (P := Tryz.prog) w 30 3 i (.int .i64 0) Tryz.underlying30 hi hz .i64 .i64 (n : Int) (n : Int) (by omega) (Int.le_refl _) (by rw [h2]; omega) (by omega)
  rw [Int.toNat_natCast, h1, made_ints] at this
  exact this
def bcells (S : Nat) (f : Nat → Bool) : Array Value := Array.ofFn (n := S) fun i => Value.bool (f i)
def BRow (w : World) (g S : Nat) (f : Nat → Bool) : Prop := Bk w g 4 (bcells S f)
theorem bcells_get (S : Nat) (f : Nat → Bool) (i : Nat) (h : i < S) : (bcells S f)[i]? = some (.bool (f i)) := by simp [bcells, h]
theorem BRow.get {w : World} {g S : Nat} {f : Nat → Bool} (h : BRow w g S f) (i : Nat) (hi : i < S) : w.cell? ⟨g, i, none⟩ = some (.bool (f i)) := (h.cell i).trans (bcells_get S f i hi)
def setB (f : Nat → Bool) (i j : Nat) : Bool := if j = i then true else f j
theorem bcells_set (S : Nat) (f : Nat → Bool) (i : Nat) : (bcells S f).setIfInBounds i (.bool true) = bcells S (setB f i) := by
  apply Array.ext_getElem?
  intro j
  rw [Array.getElem?_setIfInBounds]
  by_cases e : i = j
  · subst e
    by_cases hj : i < S <;> simp [bcells, setB, hj]
  · have e' : ¬ j = i := fun h => e h.symm
    by_cases hj : j < S <;> simp [bcells, setB, hj, e, e']
theorem BRow.put {w : World} {g S : Nat} {f : Nat → Bool} (h : BRow w g S f) (i : Nat) : BRow (w.setCell ⟨g, i, none⟩ (.bool true)) g S (setB f i) := by
  have := h.set i (.bool true)
  rw [bcells_set] at this
  exact this
theorem bool_row : (Tryz.prog.info? 4).map (fun i => (i.zero, i.size, i.bytes)) = some (some (.bool false), 1, 1) := by kernel_rfl
theorem made_bools (S : Nat) : madeCells (Value.bool false).cells (S * 1) = bcells S (fun _ => false) := by
  apply Array.ext
  · simp [bcells, madeCells]
  · intro j h1 h2
    simp [bcells, madeCells, Value.cells, Nat.mod_one]
theorem make_bools (S : Nat) (hS : S ≤ 1000000) (w : World) : (Instr.makeSlice 62 (.int .i64 (S : Int)) (.int .i64 (S : Int))).run Tryz.prog w = .ok (.slice (some ⟨w.heap.size, 0, none⟩) S S) (w.alloc (.cells (bcells S (fun _ => false)) 4)) := by
  obtain ⟨i, hi, hz, h1, h2⟩ := info_parts bool_row
  have := run_makeSlice (P := Tryz.prog) w 62 4 i (.bool false) Tryz.underlying62 hi hz .i64 .i64 (S : Int) (S : Int) (by omega) (Int.le_refl _) (by rw [h1, Int.toNat_natCast]; omega) (by rw [h2]; omega) (by omega)
  rw [Int.toNat_natCast, h1, made_bools] at this
  exact this
theorem BRow.free {w : World} {g S : Nat} {f : Nat → Bool} (h : BRow w g S f) (i : Nat) : w.frozen? ⟨g, i, none⟩ = false := Bk.free h i
theorem IRow.free {w : World} {g n : Nat} {f : Nat → Int} (h : IRow w g n f) (i : Nat) : w.frozen? ⟨g, i, none⟩ = false := Bk.free h i
theorem IRow.congr {w : World} {g n : Nat} {f h : Nat → Int} (hi : IRow w g n f) (e : ∀ j, j < n → f j = h j) : IRow w g n h := by
  have : icells n f = icells n h := by
    apply Array.ext_getElem?
    intro j
    by_cases hj : j < n <;> simp [icells, hj]
    exact e j hj
  unfold IRow at *
  rw [← this]
  exact hi
theorem BRow.congr {w : World} {g n : Nat} {f h : Nat → Bool} (hi : BRow w g n f) (e : ∀ j, j < n → f j = h j) : BRow w g n h := by
  have : bcells n f = bcells n h := by
    apply Array.ext_getElem?
    intro j
    by_cases hj : j < n <;> simp [bcells, hj]
    exact e j hj
  unfold BRow at *
  rw [← this]
  exact hi
end Go.Proofs.YtjolkhiggcmoiaaGreatDoor
