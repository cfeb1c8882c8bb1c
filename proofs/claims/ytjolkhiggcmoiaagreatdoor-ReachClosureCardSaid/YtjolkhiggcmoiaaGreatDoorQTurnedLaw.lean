/-
  QuadTurned walked.
-/
import Derived.Test.YtjolkhiggcmoiaaGreatDoorQCellsM
import Derived.StillTailTactics
namespace Go.Proofs.YtjolkhiggcmoiaaGreatDoor
open Go.RowKit Go.Shelf
set_option linter.unusedVariables false
set_option linter.unusedSimpArgs false
/-! ### What is told is there -/
def OfS (M : Nat → Nat → Bool) (S : List (Nat × Nat)) (y : Nat × Nat) : Prop := ∃ p ∈ S, ∃ x ∈ cellsUp (blk (sub M p.1 p.2)) 64, y = (64 * p.1 + x.1, 64 * p.2 + x.2)
theorem fold_mem (p : Nat × Nat) {y : Nat × Nat} {a : Nat} : ∀ (xs : List (Nat × Nat)) (L : Nat → List (Nat × Nat)), y ∈ (xs.foldl (addC p) L) a → y ∈ L a ∨ ∃ x ∈ xs, y = (64 * p.1 + x.1, 64 * p.2 + x.2)
  | [], L, h => .inl h
  | x :: xs, L, h => by
    rw [List.foldl_cons] at h
    rcases fold_mem p xs _ h with h | ⟨z, hz, e⟩
    · unfold addC updL at h
      split at h
      · rw [List.mem_append, List.mem_singleton] at h
        rcases h with h | h
        · exact .inl h
        · exact .inr ⟨x, List.mem_cons_self .., h⟩
      · exact .inl h
    · exact .inr ⟨z, List.mem_cons_of_mem _ hz, e⟩
theorem strip_mem (M : Nat → Nat → Bool) {y : Nat × Nat} {a : Nat} : ∀ (S : List (Nat × Nat)) (L : Nat → List (Nat × Nat)), y ∈ (S.foldl (addP M) L) a → y ∈ L a ∨ OfS M S y
  | [], L, h => .inl h
  | p :: S, L, h => by
    rw [List.foldl_cons] at h
    rcases strip_mem M S _ h with h | ⟨z, hz, e⟩
    · unfold addP at h
      rcases fold_mem p _ _ h with h | ⟨x, hx, e⟩
      · exact .inl h
      · exact .inr ⟨p, List.mem_cons_self .., x, hx, e⟩
    · exact .inr ⟨z, List.mem_cons_of_mem _ hz, e⟩
theorem cellsS_mem {M : Nat → Nat → Bool} {S : List (Nat × Nat)} {y : Nat × Nat} (h : y ∈ cellsS M S) : OfS M S y := by
  rw [cellsS_eq, List.mem_flatMap] at h
  obtain ⟨a, _, h⟩ := h
  unfold stripL at h
  rcases strip_mem M S _ h with h | h
  · cases h
  · exact h
theorem cellsF_mem {M : Nat → Nat → Bool} {y : Nat × Nat} : ∀ {n : Nat} {S : List (Nat × Nat)}, y ∈ cellsF M n S → OfS M S y
  | 0, S, h => by simp [cellsF] at h
  | n + 1, S, h => by
    unfold cellsF at h
    split at h
    · cases h
    · rcases List.mem_append.1 h with h | h
      · obtain ⟨p, hp, r⟩ := cellsS_mem h
        exact ⟨p, List.mem_of_mem_take hp, r⟩
      · obtain ⟨p, hp, r⟩ := cellsF_mem h
        exact ⟨p, List.mem_of_mem_drop hp, r⟩
theorem told_there {M : Nat → Nat → Bool} {n : Nat} {S : List (Nat × Nat)} {y : Nat × Nat} (h : y ∈ cellsF M n S) : M y.1 y.2 = true := by
  obtain ⟨p, _, x, hx, rfl⟩ := cellsF_mem h
  obtain ⟨h1, h2, h3⟩ := mem_cellsUp.1 (show (x.1, x.2) ∈ cellsUp (blk (sub M p.1 p.2)) 64 from hx)
  rw [bt_blk _ _ _ h2] at h3
  exact h3
theorem seqType2 : ((Tryz.prog.underlying 85).map fun d => match d with | .func .. => true | _ => false) = some true := by kernel_rfl
theorem fn_nil2 (g : Fn) (a b : Array Value) (w : World) : (binOp .eql 85 (.func g a b) .nilFunc).run Tryz.prog w = .ok (.bool false) w := by
  cases hs : Tryz.prog.underlying 85 with
  | none => have := seqType2; rw [hs] at this; cases this
  | some s =>
    have h := seqType2
    rw [hs] at h
    cases s <;> simp at h
    have e : ∀ d, (Op.equalIn (d + 1) 85 (.func g a b) .nilFunc).run Tryz.prog w = .ok false w := fun d => by simp [Op.equalIn, run_underlying hs]
    simp [binOp, Op.equal]
    rw [show Op.maxDepth = 9999 + 1 from rfl, e]
    rfl
/-- A frame under a name. -/
theorem name_frame {F : Fence} {n : Nat} {P : Program} {c : Code} {Q : Exit → Act → World → Prop} {X : Array Value} {ds : List Deferred} {w : World} (h : ∀ T, X = T → c.wpIn F n P Q { tmps := T, defers := ds } w) : c.wpIn F n P Q { tmps := X, defers := ds } w := h X rfl
attribute [local go_sem] Oper.semAt_some
section
set_option maxHeartbeats 8000000
set_option maxRecDepth 100000
end
end Go.Proofs.YtjolkhiggcmoiaaGreatDoor
