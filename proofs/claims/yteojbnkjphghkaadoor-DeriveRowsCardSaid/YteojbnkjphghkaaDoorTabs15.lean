/-
  The listed table: what the walks read of it.
-/
import Derived.Test.YteojbnkjphghkaaDoorPl15
import Derived.Test.YteojbnkjphghkaaDoorTabsOnly
import Derived.Lib.LaidTab
namespace Go.Proofs.YteojbnkjphghkaaDoor
open Go.ChangeShapes Go.WideShapes Go.ChangeAt Go.RowKit
set_option linter.unusedVariables false
def tabInts : List Int := Lib.deBruijn64tab.map fun (n : Nat) => (n : Int)
theorem tabName : Tryd.prog.globalNamed "math/bits.deBruijn64tab" = some 0 := by kernel_rfl
theorem tabVar : (Tryd.prog.globals[0]?).map (·.type) = some 125 := by kernel_rfl
theorem tabType : Tryd.prog.underlying 125 = some (.array 64 5) := by kernel_rfl
theorem byteType : Tryd.prog.underlying 5 = some (.int .u8) := by kernel_rfl
theorem tab_datum : (Rows.laid_math_bits_deBruijn64tab : DataW Unit) = Lib.tabData .u8 tabInts := by kernel_rfl
theorem tab_of_laid {W : World} (h : laidMetH Tryd.prog laidList W) : Tab W := by
  rw [MakeChecks.laidMetH_plain _ _ _ (by kernel_rfl)] at h
  unfold laidList at h
  rw [tab_datum] at h
  have ht : Lib.TabIs Tryd.prog W "math/bits.deBruijn64tab" .u8 tabInts := Lib.tabIs_of_head tabName tabVar tabType byteType (by kernel_rfl) (by kernel_rfl) h
  intro j hj
  have hc := ht.cell tabName j (by simp [tabInts, Lib.deBruijn64tab]; omega)
  rw [hc]
  have hl : j < Lib.deBruijn64tab.length := by simp [Lib.deBruijn64tab]; omega
  simp [tabInts, List.getD, hl]
end Go.Proofs.YteojbnkjphghkaaDoor
