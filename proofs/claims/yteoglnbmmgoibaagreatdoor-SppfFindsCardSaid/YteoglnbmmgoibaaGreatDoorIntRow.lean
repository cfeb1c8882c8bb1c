/-
  A made row of counts.
-/
import Derived.Test.YteoglnbmmgoibaaGreatDoorHas0
import Derived.Laws.MakeOwn
namespace Go.Proofs.YteoglnbmmgoibaaGreatDoor
open Go.RowKit
set_option linter.unusedVariables false
set_option linter.unusedSimpArgs false
def icells (n : Nat) (f : Nat → Int) : Array Value := ((List.range n).map fun j => Value.int .i64 (f j)).toArray
def IRow (w : World) (g n : Nat) (f : Nat → Int) : Prop := Bk w g 3 (icells n f)
def setI (f : Nat → Int) (i : Nat) (x : Int) (j : Nat) : Int := if j = i then x else f j
theorem icells_set (n : Nat) (f : Nat → Int) (i : Nat) (x : Int) : (icells n f).setIfInBounds i (.int .i64 x) = icells n (setI f i x) := by
  apply Array.ext_getElem?
  intro j
  rw [Array.getElem?_setIfInBounds]
  by_cases e : i = j
  · subst e
    by_cases hj : i < n <;> simp [icells, setI, hj]
  · have e' : ¬ j = i := fun h => e h.symm
    by_cases hj : j < n <;> simp [icells, setI, hj, e, e']
theorem IRow.put {w : World} {g n : Nat} {f : Nat → Int} (h : IRow w g n f) (i : Nat) (x : Int) : IRow (w.setCell ⟨g, i, none⟩ (.int .i64 x)) g n (setI f i x) := by
  have := Bk.set h i (.int .i64 x)
  rw [icells_set] at this
  exact this
theorem IRow.at {w : World} {g n : Nat} {f : Nat → Int} (h : IRow w g n f) {k : Nat} (hk : k < n) : w.cell? ⟨g, k, none⟩ = some (.int .i64 (f k)) := by
  rw [Bk.cell h]
  simp [icells, hk]
theorem int_row : (Tryz.prog.info? 3).map (fun i => (i.zero, i.size, i.bytes)) = some (some (.int .i64 0), 1, 8) := by kernel_rfl
theorem made_ints (n : Nat) : madeCells (Value.int .i64 0).cells (n * 1) = icells n (fun _ => 0) := by
  apply Array.ext
  · simp [icells, madeCells]
  · intro j h1 h2
    simp [icells, madeCells, Value.cells, Nat.mod_one]
theorem make_ints (n : Nat) (hn : n ≤ 5864062014805) (w : World) : (Instr.makeSlice 45 (.int .i64 (n : Int)) (.int .i64 (n : Int))).run Tryz.prog w = .ok (.slice (some ⟨w.heap.size, 0, none⟩) n n) (w.alloc (.cells (icells n (fun _ => 0)) 3)) := by
  obtain ⟨i, hi, hz, h1, h2⟩ := info_parts int_row
  have := run_make (P := Tryz.prog) w 45 3 i (.int .i64 0) Tryz.underlying45 hi hz .i64 .i64 (n : Int) (n : Int) (by omega) (Int.le_refl _) (by rw [h2]; omega) (by omega)
  rw [Int.toNat_natCast, h1, made_ints] at this
  exact this
end Go.Proofs.YteoglnbmmgoibaaGreatDoor
