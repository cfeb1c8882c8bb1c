/-
  A block is equal to itself, by the language's comparison of arrays.
-/
import Derived.Test.YtbcklcikmhpclaaDoorHas
import Derived.Test.YtbcklcikmhpclaaDoorMath
namespace Go.Proofs.YtbcklcikmhpclaaDoor
open Go.RowKit
set_option linter.unusedVariables false
set_option linter.unusedSimpArgs false
theorem forIn_yields {P : Program} {α σ : Type} (w : World) (s : σ) (b : α → σ → Sem (ForInStep σ)) : ∀ l : List α, (∀ i ∈ l, (b i s).run P w = .ok (.yield s) w) → (forIn l s b).run P w = .ok s w
  | [], _ => by simp
  | x :: l, h => by
    rw [List.forIn_cons, Sem.run_bind, h x (by simp)]
    exact forIn_yields w s b l fun i hi => h i (by simp [hi])
set_option maxRecDepth 100000 in
theorem eq_self (f : Nat → Nat) (w : World) : (Op.equalIn 10000 25 (.agg (Rw f)) (.agg (Rw f))).run Tryd.prog w = .ok true w := by
  have hs : ∃ i, Tryd.prog.info? 23 = some i ∧ i.size = 1 := by
    have := wordSize
    cases h : Tryd.prog.info? 23 with
    | none => rw [h] at this; cases this
    | some i => rw [h] at this; exact ⟨i, rfl, by simpa using this⟩
  obtain ⟨i, hi, h1⟩ := hs
  have hsz : (sizeOf 23).run Tryd.prog w = .ok 1 w := by simp [sizeOf, typeInfo, hi, h1]
  have wd : Tryd.prog.underlying 23 = some (.int .u64) := by kernel_rfl
  show (Op.equalIn (9998 + 1 + 1) 25 (.agg (Rw f)) (.agg (Rw f))).run Tryd.prog w = .ok true w
  generalize 9998 = d
  unfold Op.equalIn
  simp only [Sem.run_bind, run_underlying blockType, hsz, Result.andThen_ok]
  have hl : ∀ i ∈ List.range' 0 64, i < 64 := fun i hi => by simpa using (List.mem_range'_1.1 hi).2
  simp
  rw [forIn_yields w (none, ()) _ _ (fun i hi => ?_)]
  · rfl
  · have g := Rw_get f i (hl i hi)
    have e := run_equalIn_int (P := Tryd.prog) w d 23 .u64 .u64 (f i) (f i) wd
    simp [Sem.run_bind, part, g, e, Result.andThen]
/-- Two blocks that are the same: the comparison at a walk. -/
theorem eq_blk {f g : Nat → Nat} (h : Rw f = Rw g) (w : World) : (Op.equalIn 10000 25 (.agg (Rw f)) (.agg (Rw g))).run Tryd.prog w = .ok true w := by
  rw [← h]; exact eq_self f w
end Go.Proofs.YtbcklcikmhpclaaDoor
