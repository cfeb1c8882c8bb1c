/-
  Which symbols are good: of what can be empty, of what has a word; what made's step does.
-/
import Derived.Test.YteojbnkjphghkaaDoorStep
import Derived.Test.YteojbnkjphghkaaDoorLong13
namespace Go.Proofs.YteojbnkjphghkaaDoor
open Go.RowKit
set_option linter.unusedVariables false
set_option linter.unusedSimpArgs false
def slR (gR S : Nat) : Value := .slice (some ⟨gR, 0, none⟩) S S
theorem IRow_at {w : World} {g n : Nat} {f : Nat → Bool} (h : BRow w g n f) {k : Nat} (hk : k < n) : w.cell? ⟨g, k, none⟩ = some (.bool (f k)) := BRow.at h hk
/-- What made's step does. -/
def MP1 (good : (Nat → Bool) → Sy → Bool) (gR S : Nat) (E : Nat → Bool) (h : Nat) (l : List Sy) (w : World) (e : Ending) (w' : World) : Prop := Far (fun k => k = gR) w w' ∧
  ((e = .returned (.bool false) ∧ BRow w' gR S E ∧ (l.all (good E) = true → E h = true)) ∨ (e = .returned (.bool true) ∧ BRow w' gR S (updG E h true) ∧ E h = false ∧ l.all (good E) = true))
theorem updG_self {E : Nat → Bool} {h : Nat} {b : Bool} (hE : E h = b) : updG E h b = E := by
  funext k
  unfold updG
  split
  · rename_i e; subst e; exact hE.symm
  · rfl
end Go.Proofs.YteojbnkjphghkaaDoor
