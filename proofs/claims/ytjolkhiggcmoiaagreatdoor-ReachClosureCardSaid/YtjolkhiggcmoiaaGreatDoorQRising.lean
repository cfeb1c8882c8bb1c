/-
  rising: are the cells told rising, each once?
-/
import Derived.Test.YtjolkhiggcmoiaaGreatDoorQLine
namespace Go.Proofs.YtjolkhiggcmoiaaGreatDoor
open Go.RowKit Go.Shelf
set_option linter.unusedVariables false
set_option linter.unusedSimpArgs false
attribute [local go_sem] Oper.semAt_some
/-- The last cell's number, -1 where there is none. -/
def lastR (s : Nat) (l : List (Nat × Nat)) : Int := match l.getLast? with | none => -1 | some p => (p.1 * s + p.2 : Nat)
theorem lastR_app (s : Nat) (l : List (Nat × Nat)) (p : Nat × Nat) : lastR s (l ++ [p]) = (p.1 * s + p.2 : Nat) := by simp [lastR]
theorem lastR_lt {s : Nat} {L pre : List (Nat × Nat)} {p : Nat × Nat} (hr : L.Pairwise lexLt) (h2 : ∀ x ∈ L, x.2 < s) (h : pre ++ [p] <+: L) : lastR s pre < (p.1 * s + p.2 : Nat) := by
  unfold lastR
  cases e : pre.getLast? with
  | none => show (-1 : Int) < _; omega
  | some q =>
    show ((q.1 * s + q.2 : Nat) : Int) < _
    obtain ⟨m, rfl⟩ := List.getLast?_eq_some_iff.1 e
    have hq := (List.pairwise_append.1 (hr.sublist h.sublist)).2.2 q (by simp) p (by simp)
    have hb := h2 q (h.subset (by simp))
    rcases hq with h1 | ⟨h1, h3⟩
    · have := Nat.mul_le_mul_right s (Nat.succ_le_of_lt h1)
      rw [Nat.succ_mul] at this
      omega
    · rw [h1]; omega
structure RI (W0 : World) (h4 h6 h7 h8 s : Nat) (pre : List (Nat × Nat)) (V : World) : Prop where
  b4 : Bk V h4 3 #[.int .i64 (s : Nat)]
  b6 : Bk V h6 4 #[.bool false]
  b7 : Bk V h7 3 #[.int .i64 (pre.length : Nat)]
  b8 : Bk V h8 3 #[.int .i64 (lastR s pre)]
  far : Far (fun k => k = h7 ∨ k = h8) W0 V
theorem RI.go {W0 A B : World} {h4 h6 h7 h8 s : Nat} {pre : List (Nat × Nat)} {row : Option Nat} (h : RI W0 h4 h6 h7 h8 s pre A) (hg : A.grownBy B row) (hr : ∀ r, row = some r → W0.heap.size ≤ r ∧ ∃ o : Obj, A.heap[r]? = some o ∧ o.isCells = false) : RI W0 h4 h6 h7 h8 s pre B :=
  ⟨bk_other h.b4 (grown_F hg) fun k e => (hr k e).2, bk_other h.b6 (grown_F hg) fun k e => (hr k e).2, bk_other h.b7 (grown_F hg) fun k e => (hr k e).2, bk_other h.b8 (grown_F hg) fun k e => (hr k e).2, far_own h.far hg hr⟩
section
variable {w w' : World} {B side : Nat} {F : Nat → Prop} {M : Nat → Nat → Bool}
set_option maxHeartbeats 8000000
set_option maxRecDepth 100000
end
end Go.Proofs.YtjolkhiggcmoiaaGreatDoor
