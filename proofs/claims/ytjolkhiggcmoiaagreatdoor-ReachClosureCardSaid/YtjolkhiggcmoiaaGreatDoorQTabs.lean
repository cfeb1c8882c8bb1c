/-
  The row's listed table: what the walks read of it; the row's witness.
-/
import Derived.Test.YtjolkhiggcmoiaaGreatDoorQBase
import Derived.Test.YtjolkhiggcmoiaaGreatDoorQLaws
import Derived.Lib.LaidTab
import Derived.LaidMore
import Derived.OpenShut
import Derived.Stop.Joined
namespace Go.Proofs.YtjolkhiggcmoiaaGreatDoor
open Go.ChangeShapes Go.WideShapes Go.ChangeAt Go.RowKit
set_option linter.unusedVariables false
def laidList : List (String × DataW Unit) := [("math/bits.deBruijn64tab", Rows.laid_math_bits_deBruijn64tab)]
def tabInts : List Int := Lib.deBruijn64tab.map fun (n : Nat) => (n : Int)
theorem tabName : Tryz.prog.globalNamed "math/bits.deBruijn64tab" = some 0 := by kernel_rfl
theorem tabVar : (Tryz.prog.globals[0]?).map (·.type) = some 168 := by kernel_rfl
theorem tabType' : Tryz.prog.underlying 168 = some (.array 64 5) := by kernel_rfl
theorem byteType' : Tryz.prog.underlying 5 = some (.int .u8) := by kernel_rfl
theorem tab_datum : (Rows.laid_math_bits_deBruijn64tab : DataW Unit) = Lib.tabData .u8 tabInts := by kernel_rfl
theorem tab_of_laid {W : World} (h : laidMetH Tryz.prog laidList W) : Tab W := by
  rw [MakeChecks.laidMetH_plain _ _ _ (by kernel_rfl)] at h
  unfold laidList at h
  rw [tab_datum] at h
  have ht : Lib.TabIs Tryz.prog W "math/bits.deBruijn64tab" .u8 tabInts := Lib.tabIs_of_head tabName tabVar tabType' byteType' (by kernel_rfl) (by kernel_rfl) h
  intro j hj
  have hc := ht.cell tabName j (by simp [tabInts, Lib.deBruijn64tab]; omega)
  rw [hc]
  have hl : j < Lib.deBruijn64tab.length := by simp [Lib.deBruijn64tab]; omega
  simp [tabInts, List.getD, hl]
theorem door_met (os : Os) (args : Array Value) : laidMetH Tryz.prog laidList ((World.doorLaid Tryz.prog 14 os).forCall (fun _ _ => 0) ⟨#[], args, []⟩).memory :=
  laidMetH_of_parts3 (fuel := 8) (laidMet_of_run' 8 (by kernel_rfl) (by kernel_rfl)) (by kernel_rfl) (by kernel_rfl)
end Go.Proofs.YtjolkhiggcmoiaaGreatDoor
