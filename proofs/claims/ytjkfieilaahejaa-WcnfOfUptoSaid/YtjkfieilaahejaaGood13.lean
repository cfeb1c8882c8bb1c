/-
  Which symbols are good: of what can be empty, of what has a word; what made's step does.
-/
import Derived.Test.YtjkfieilaahejaaLong13
namespace Go.Proofs.Ytjkfieilaahejaa
open Go.RowKit
set_option linter.unusedVariables false
set_option linter.unusedSimpArgs false
def slR (gR S : Nat) : Value := .slice (some ⟨gR, 0, none⟩) S S
theorem step_call {P : Program} {w : World} {ops : Array Oper} {o : Oper} {a : Act} {K : Act → World → Prop} {Q : Exit → Act → World → Prop} {E : Prop} {R : Value → World → Prop} (hgd : o.guard = none) (f : FuncId) (args : Array Value)
    (hr : (execOp a.eval o).run P w = .ok (.enter f args) w) (hc : Calls P f args w fun e w' => ∃ v, e = .returned v ∧ R v w') (h : ∀ v w', R v w' → K (a.put o.dst v) w') : if Region.wanted o (yielded ops a.tmps) = true then Oper.wp P o a w K Q else E := by
  have hw : Region.wanted o (yielded ops a.tmps) = true := by simp [Region.wanted, hgd]
  rw [if_pos hw]
  unfold Oper.wp
  rw [hr]
  exact hc.mono fun e w' ⟨v, he, hR⟩ => by subst he; exact h v w' hR
theorem IRow_at {w : World} {g n : Nat} {f : Nat → Bool} (h : BRow w g n f) {k : Nat} (hk : k < n) : w.cell? ⟨g, k, none⟩ = some (.bool (f k)) := BRow.at h hk
theorem bk_ne {w : World} {g k : Nat} {t t' : TypeId} {cs cs' : Array Value} (h : Bk w g t cs) (h' : Bk w k t' cs') (ht : t ≠ t') : g ≠ k := fun e => by
  subst e
  unfold Bk at h h'
  rw [h] at h'
  cases h'
  exact ht rfl
/-- What made's step does. -/
def MP1 (good : (Nat → Bool) → Sy → Bool) (gR S : Nat) (E : Nat → Bool) (h : Nat) (l : List Sy) (w : World) (e : Ending) (w' : World) : Prop := Far (fun k => k = gR) w w' ∧
  ((e = .returned (.bool false) ∧ BRow w' gR S E ∧ (l.all (good E) = true → E h = true)) ∨ (e = .returned (.bool true) ∧ BRow w' gR S (updG E h true) ∧ E h = false ∧ l.all (good E) = true))
theorem updG_self {E : Nat → Bool} {h : Nat} {b : Bool} (hE : E h = b) : updG E h b = E := by
  funext k
  unfold updG
  split
  · rename_i e; subst e; exact hE.symm
  · rfl
end Go.Proofs.Ytjkfieilaahejaa
