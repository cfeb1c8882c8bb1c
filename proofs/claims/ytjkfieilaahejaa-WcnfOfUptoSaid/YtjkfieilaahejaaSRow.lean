/-
  A row of symbols of the call's own.
-/
import Derived.Test.YtjkfieilaahejaaCopy
namespace Go.Proofs.Ytjkfieilaahejaa
open Go.RowKit
set_option linter.unusedVariables false
set_option linter.unusedSimpArgs false
theorem scells_set {R : List Sy} {i : Nat} {t : Sy} (hi : i < R.length) : scells (R.set i t) = ((scells R).set (i * 2) (.bool t.1)).set (i * 2 + 1) (.int .i64 t.2) := by
  induction R generalizing i with
  | nil => simp at hi
  | cons x R ih =>
    cases i with
    | zero => simp [scells, scell]
    | succ i =>
      have := ih (i := i) (by simpa using hi)
      rw [List.set_cons_succ]
      show scell x ++ scells (R.set i t) = ((scell x ++ scells R).set ((i + 1) * 2) _).set ((i + 1) * 2 + 1) _
      rw [this, List.set_append_right _ _ (by simp [scell]; omega), List.set_append_right _ _ (by simp [scell]; omega)]
      simp only [scell, List.length_cons, List.length_nil]
      rw [show (i + 1) * 2 - (0 + 1 + 1) = i * 2 by omega, show (i + 1) * 2 + 1 - (0 + 1 + 1) = i * 2 + 1 by omega]
/-- A row of symbols of the call's own. -/
def SRow (w : World) (B : Nat) (v : Value) (R : List Sy) : Prop := w.ownsRow B 50 2 v R.length (scells R)
theorem SRow.at {w : World} {B g n cap : Nat} {R : List Sy} (h : SRow w B (.slice (some ⟨g, 0, none⟩) n cap) R) {m : Nat} {s : Sy} (hm : R[m]? = some s) : w.cell? ⟨g, m * 2, none⟩ = some (.bool s.1) ∧ w.cell? ⟨g, m * 2 + 1, none⟩ = some (.int .i64 s.2) ∧ w.frozen? ⟨g, m * 2, none⟩ = false ∧ w.frozen? ⟨g, m * 2 + 1, none⟩ = false := by
  have hB : Body w (.slice (some ⟨g, 0, none⟩) n cap) R := Src.own h
  obtain ⟨b, off, c, e, _, c0, c1⟩ := hB.sym hm
  rcases h.2 with ⟨e', _⟩ | ⟨g', cap', cur, e', _, hg, _⟩
  · cases e'
  · cases e'
    cases e
    rw [Nat.zero_add] at c0 c1
    exact ⟨c0, c1, frozen_of_row w g _ cur _ hg, frozen_of_row w g _ cur _ hg⟩
theorem SRow.set {w : World} {B g n cap : Nat} {R : List Sy} (h : SRow w B (.slice (some ⟨g, 0, none⟩) n cap) R) (hn : R.length = n) {i : Nat} (hi : i < n) (t : Sy) : SRow ((w.setCell ⟨g, i * 2, none⟩ (.bool t.1)).setCell ⟨g, i * 2 + 1, none⟩ (.int .i64 t.2)) B (.slice (some ⟨g, 0, none⟩) n cap) (R.set i t) := by
  subst hn
  unfold SRow
  rw [List.length_set, scells_set hi]
  exact ((World.ownsRow.stored h (i * 2) _).1.stored (i * 2 + 1) _).1
end Go.Proofs.Ytjkfieilaahejaa
