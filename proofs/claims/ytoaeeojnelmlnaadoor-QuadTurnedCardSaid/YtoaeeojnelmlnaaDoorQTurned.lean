/-
  Turn's stages together turn a block over.
-/
import Derived.Test.YtoaeeojnelmlnaaDoorQTurn
namespace Go.Proofs.YtoaeeojnelmlnaaDoor
open Go.RowKit
set_option linter.unusedVariables false
set_option linter.unusedSimpArgs false
theorem hb1 : ∀ s, s < 6 → ∀ r, r < 64 → (ms s).testBit r = decide (r &&& hs s = 0) := by decide +kernel
theorem hb2 : ∀ s, s < 6 → ∀ r, r < 64 → r &&& hs s = 0 → r ^^^ hs s = r + hs s ∧ r + hs s < 64 ∧ (hs s ≤ r → (r - hs s) &&& hs s ≠ 0) := by decide +kernel
theorem hb3 : ∀ s, s < 6 → ∀ r, r < 64 → r &&& hs s ≠ 0 → r ^^^ hs s = r - hs s ∧ hs s ≤ r ∧ (r - hs s) &&& hs s = 0 := by decide +kernel
/-- Where a stage takes the bit at (r, c) from. -/
def sw (h : Nat) (p : Nat × Nat) : Nat × Nat := if decide (p.1 &&& h = 0) = decide (p.2 &&& h = 0) then p else (p.1 ^^^ h, p.2 ^^^ h)
def swAll : Nat → Nat × Nat → Nat × Nat
  | 0, p => p
  | s + 1, p => swAll s (sw (hs s) p)
theorem un_bit (f : Nat → Nat) (h M i c : Nat) : (un f h M i).testBit c = (((f i).testBit (c + h) ^^ (f (i + h)).testBit c) && M.testBit c) := by
  unfold un
  rw [Nat.testBit_and, Nat.testBit_xor, Nat.testBit_div_two_pow]
theorem stage_bit (g : Nat → Nat) (s : Nat) (hs6 : s < 6) (i c : Nat) (hi : i < 64) (hc : c < 64) :
    (nw g (hs s) (ms s) i).testBit c = (g (sw (hs s) (i, c)).1).testBit (sw (hs s) (i, c)).2 := by
  have i0 := hb2 s hs6 i hi
  have i1 := hb3 s hs6 i hi
  have mc := hb1 s hs6 c hc
  have c0 := hb2 s hs6 c hc
  have c1 := hb3 s hs6 c hc
  have mcs := hb1 s hs6 (c - hs s) (by omega)
  have hpos := (hs_facts s hs6).1
  unfold nw sw
  by_cases hI : i &&& hs s = 0
  · rw [if_pos hI, Nat.testBit_xor, Nat.testBit_mul_two_pow, un_bit]
    by_cases hC : c &&& hs s = 0
    · obtain ⟨_, _, e3⟩ := c0 hC
      simp only [hI, hC, if_true]
      by_cases hle : hs s ≤ c
      · have hm := mcs
        rw [show decide ((c - hs s) &&& hs s = 0) = false by simpa using e3 hle] at hm
        rw [hm]; simp
      · simp [hle]
    · obtain ⟨e1, e2, e3⟩ := c1 hC
      obtain ⟨f1, _, _⟩ := i0 hI
      have hm := mcs
      rw [show decide ((c - hs s) &&& hs s = 0) = true by simpa using e3] at hm
      simp only [hI, hC, decide_true, decide_false, Bool.true_eq_false, if_false, e1, f1]
      rw [hm, show c - hs s + hs s = c by omega]
      simp only [e2, decide_true, Bool.true_and, Bool.and_true]
      rw [← Bool.xor_assoc, Bool.xor_self, Bool.false_xor]
  · obtain ⟨f1, f2, f3⟩ := i1 hI
    rw [if_neg hI, Nat.testBit_xor, un_bit, mc, show i - hs s + hs s = i by omega]
    by_cases hC : c &&& hs s = 0
    · obtain ⟨e1, _, _⟩ := c0 hC
      simp only [hI, hC, decide_true, decide_false, Bool.false_eq_true, if_false, e1, f1, Bool.and_true]
      rw [Bool.xor_comm ((g (i - hs s)).testBit (c + hs s)), ← Bool.xor_assoc, Bool.xor_self, Bool.false_xor]
    · simp [hI, hC]
theorem sw_lt : ∀ s, s < 6 → ∀ i, i < 64 → ∀ c, c < 64 → (sw (hs s) (i, c)).1 < 64 ∧ (sw (hs s) (i, c)).2 < 64 := by decide +kernel
theorem sw_all : ∀ i, i < 64 → ∀ c, c < 64 → swAll 6 (i, c) = (c, i) := by decide +kernel
theorem stages_bit (f : Nat → Nat) : ∀ s, s ≤ 6 → ∀ i c, i < 64 → c < 64 → (stage f s i).testBit c = (f (swAll s (i, c)).1).testBit (swAll s (i, c)).2
  | 0, _, i, c, _, _ => rfl
  | s + 1, hs, i, c, hi, hc => by
    obtain ⟨l1, l2⟩ := sw_lt s (by omega) i hi c hc
    have h1 := stage_bit (stage f s) s (by omega) i c hi hc
    have h2 := stages_bit f s (by omega) _ _ l1 l2
    exact h1.trans h2
theorem stage_wf (f : Nat → Nat) (hf : Wf f) : ∀ s, s ≤ 6 → Wf (stage f s)
  | 0, _ => hf
  | s + 1, hs => by
    obtain ⟨_, _, _, p4, p5⟩ := hs_facts s (by omega)
    exact nw_lt (stage_wf f hf s (by omega)) p4 p5
theorem turned (f : Nat → Nat) (hf : Wf f) : Rw (stage f 6) = Rw (blk fun r c => bt f c r) :=
  Rw_blk (stage_wf f hf 6 (by omega)) fun r c hr hc => by
    rw [stages_bit f 6 (by omega) r c hr hc, sw_all r hr c hc]
    rfl
/-- The program's Turn: rows and columns change places. -/
theorem turn_blk (f : Nat → Nat) (w : World) (hf : Wf f) :
    Calls Tryd.prog 63 #[.agg (Rw f)] w fun e w' => e = .returned (.agg (Rw (blk fun r c => bt f c r))) ∧ Below w.heap.size w w' := by
  rw [← turned f hf]
  exact turn_any f w hf
end Go.Proofs.YtoaeeojnelmlnaaDoor
