/-
  A block is equal to itself, by the language's comparison of arrays.
-/
import Derived.Test.YtoaeeojnelmlnaaDoorQHold
import Derived.Test.YtoaeeojnelmlnaaDoorMath
namespace Go.Proofs.YtoaeeojnelmlnaaDoor
open Go.RowKit
set_option linter.unusedVariables false
set_option linter.unusedSimpArgs false
theorem forIn_yields {P : Program} {α σ : Type} (w : World) (s : σ) (b : α → σ → Sem (ForInStep σ)) : ∀ l : List α, (∀ i ∈ l, (b i s).run P w = .ok (.yield s) w) → (forIn l s b).run P w = .ok s w
  | [], _ => by simp
  | x :: l, h => by
    rw [List.forIn_cons, Sem.run_bind, h x (by simp)]
    exact forIn_yields w s b l fun i hi => h i (by simp [hi])
set_option maxRecDepth 100000 in
theorem eq_self (f : Nat → Nat) (w : World) : (Op.equalIn 10000 97 (.agg (Rw f)) (.agg (Rw f))).run Tryd.prog w = .ok true w := by
  have hs : ∃ i, Tryd.prog.info? 95 = some i ∧ i.size = 1 := by
    have := wordSize
    cases h : Tryd.prog.info? 95 with
    | none => rw [h] at this; cases this
    | some i => rw [h] at this; exact ⟨i, rfl, by simpa using this⟩
  obtain ⟨i, hi, h1⟩ := hs
  have hsz : (sizeOf 95).run Tryd.prog w = .ok 1 w := by simp [sizeOf, typeInfo, hi, h1]
  have wd : Tryd.prog.underlying 95 = some (.int .u64) := by kernel_rfl
  show (Op.equalIn (9998 + 1 + 1) 97 (.agg (Rw f)) (.agg (Rw f))).run Tryd.prog w = .ok true w
  generalize 9998 = d
  unfold Op.equalIn
  simp only [Sem.run_bind, run_underlying blockType, hsz, Result.andThen_ok]
  have hl : ∀ i ∈ List.range' 0 64, i < 64 := fun i hi => by simpa using (List.mem_range'_1.1 hi).2
  simp
  rw [forIn_yields w (none, ()) _ _ (fun i hi => ?_)]
  · rfl
  · have g := Rw_get f i (hl i hi)
    have e := run_equalIn_int (P := Tryd.prog) w d 95 .u64 .u64 (f i) (f i) wd
    simp [Sem.run_bind, part, g, e, Result.andThen]
/-- Two blocks that are the same: the comparison at a walk. -/
theorem eq_blk {f g : Nat → Nat} (h : Rw f = Rw g) (w : World) : (Op.equalIn 10000 97 (.agg (Rw f)) (.agg (Rw g))).run Tryd.prog w = .ok true w := by
  rw [← h]; exact eq_self f w
/-- Are the first 64 rows the same? -/
def sameB (f g : Nat → Nat) : Bool := (List.range' 0 64).all fun i => ((f i : Int) == (g i : Int))
theorem forIn_first {P : Program} {α σ : Type} (w : World) (p : α → Bool) (s d : σ) (b : α → σ → Sem (ForInStep σ)) :
    ∀ l : List α, (∀ i ∈ l, (b i s).run P w = .ok (if p i then .yield s else .done d) w) → (forIn l s b).run P w = .ok (if l.all p then s else d) w
  | [], _ => by simp
  | x :: l, h => by
    rw [List.forIn_cons, Sem.run_bind, h x (by simp)]
    have ih := forIn_first w p s d b l fun i hi => h i (by simp [hi])
    cases hp : p x
    · simp [hp]
    · simp [hp, ih]
theorem eq_run (f g : Nat → Nat) (w : World) : (Op.equalIn 10000 97 (.agg (Rw f)) (.agg (Rw g))).run Tryd.prog w = .ok (sameB f g) w := by
  have hs : ∃ i, Tryd.prog.info? 95 = some i ∧ i.size = 1 := by
    have := wordSize
    cases h : Tryd.prog.info? 95 with
    | none => rw [h] at this; cases this
    | some i => rw [h] at this; exact ⟨i, rfl, by simpa using this⟩
  obtain ⟨i, hi, h1⟩ := hs
  have hsz : (sizeOf 95).run Tryd.prog w = .ok 1 w := by simp [sizeOf, typeInfo, hi, h1]
  have wd : Tryd.prog.underlying 95 = some (.int .u64) := by kernel_rfl
  show (Op.equalIn (9998 + 1 + 1) 97 (.agg (Rw f)) (.agg (Rw g))).run Tryd.prog w = .ok (sameB f g) w
  generalize 9998 = d
  unfold Op.equalIn
  simp only [Sem.run_bind, run_underlying blockType, hsz, Result.andThen_ok]
  have hl : ∀ i ∈ List.range' 0 64, i < 64 := fun i hi => by simpa using (List.mem_range'_1.1 hi).2
  simp
  rw [forIn_first w (fun i => ((f i : Int) == (g i : Int))) (none, ()) (some false, ()) _ _ (fun i hi => ?_)]
  · unfold sameB
    cases (List.range' 0 64).all fun i => ((f i : Int) == (g i : Int)) <;> rfl
  · have g1 := Rw_get f i (hl i hi)
    have g2 := Rw_get g i (hl i hi)
    have e := run_equalIn_int (P := Tryd.prog) w d 95 .u64 .u64 (f i) (g i) wd
    simp only [Sem.run_bind, part, g1, g2, e]
    cases hb : ((f i : Int) == (g i : Int)) <;> simp [Result.andThen, part, g1, g2, e, hb, Sem.run_bind]
theorem same_true {f g : Nat → Nat} (h : sameB f g = true) : ∀ i, i < 64 → f i = g i := fun i hi => by
  unfold sameB at h
  have := List.all_eq_true.1 h i (List.mem_range'_1.2 ⟨by omega, by omega⟩)
  simp at this
  omega
theorem same_false {f g : Nat → Nat} (h : sameB f g = false) : ∃ i, i < 64 ∧ f i ≠ g i := by
  unfold sameB at h
  obtain ⟨i, hi, hn⟩ := List.all_eq_false.1 h
  refine ⟨i, by have := (List.mem_range'_1.1 hi).2; omega, fun e => hn ?_⟩
  rw [e]; simp
/-- A bit that is new. -/
theorem new_bit {x y : Nat} (hx : x < 18446744073709551616) (hy : y < 18446744073709551616) (hne : x ||| y ≠ x) : ∃ c, c < 64 ∧ (x ||| y).testBit c = true ∧ x.testBit c = false := by
  refine Classical.byContradiction fun hno => hne (word_eq (Nat.or_lt_two_pow (n := 64) hx hy) hx fun c hc => ?_)
  cases h1 : x.testBit c
  · cases h2 : (x ||| y).testBit c
    · rfl
    · exact absurd ⟨c, hc, h2, h1⟩ hno
  · rw [Nat.testBit_or, h1, Bool.true_or]
end Go.Proofs.YtoaeeojnelmlnaaDoor
