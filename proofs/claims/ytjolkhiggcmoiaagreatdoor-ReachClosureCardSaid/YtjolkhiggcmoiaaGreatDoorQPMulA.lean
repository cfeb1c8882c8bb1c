/-
  The program's Mul whatever it is asked.
-/
import Derived.Test.YtjolkhiggcmoiaaGreatDoorQPFit
import Derived.Test.YtjolkhiggcmoiaaGreatDoorQAid
namespace Go.Proofs.YtjolkhiggcmoiaaGreatDoor
open Go.RowKit Go.Shelf
set_option linter.unusedVariables false
set_option linter.unusedSimpArgs false
section
set_option maxHeartbeats 1000000
set_option maxRecDepth 100000
/-- What Mul answers. -/
def mulE (sa sb : Nat) : Nat := fitE (fun k => if k = 0 then sa else sb) 2
def mulSd (sa sb : Nat) : Nat := if mulE sa sb = 0 then sa else 0
def mulMM (sa sb : Nat) (A B : Nat → Nat → Bool) : Nat → Nat → Bool := if mulE sa sb = 0 then mulM A B else zeroM
theorem mulE_ok {sa sb : Nat} (h : mulE sa sb = 0) : sa = sb ∧ sa ≠ 0 := by
  unfold mulE at h
  have h0 : ∀ k, k < 2 → (fun k => if k = 0 then sa else sb) k ≠ 0 := fun k hk hz => by
    rw [fitE_nil hk hz] at h; cases h
  have h1 : (fun k => if k = 0 then sa else sb) 1 = (fun k => if k = 0 then sa else sb) 0 := by
    by_cases e : (fun k => if k = 0 then sa else sb) 1 = (fun k => if k = 0 then sa else sb) 0
    · exact e
    · rw [fitE_side h0 (by decide : 1 < 2) e] at h; cases h
  have h2 := h0 0 (by decide)
  simp at h1 h2
  exact ⟨h1.symm, h2⟩
theorem HasF.has {w : World} {v : Value} {F : Nat → Prop} {s : Nat} {M : Nat → Nat → Bool} (h : HasF w v F s M) : HasSide w v s := by
  rcases h with ⟨e, h0, _⟩ | ⟨B, e, hX⟩
  · exact .inl ⟨e, h0⟩
  · exact .inr ⟨B, F, M, e, hX⟩
end
end Go.Proofs.YtjolkhiggcmoiaaGreatDoor
