/-
  Blocks by their bits: a block is what its 64 times 64 bits are.
-/
import Derived.Test.YtjolkhiggcmoiaaGreatDoorBits
namespace Go.Proofs.YtjolkhiggcmoiaaGreatDoor
open Go.RowKit
set_option linter.unusedVariables false
set_option linter.unusedSimpArgs false

/-- The word whose bits below k are p. -/
def word (p : Nat → Bool) : Nat → Nat
  | 0 => 0
  | k + 1 => if p k then word p k ||| 2 ^ k else word p k
theorem word_lt (p : Nat → Bool) : ∀ k, word p k < 2 ^ k
  | 0 => by simp [word]
  | k + 1 => by
    have h := word_lt p k
    have h2 : 2 ^ (k + 1) = 2 ^ k * 2 := Nat.pow_succ 2 k
    unfold word
    split
    · exact Nat.or_lt_two_pow (by omega) (by omega)
    · omega
theorem word_bit (p : Nat → Bool) : ∀ k c, (word p k).testBit c = (decide (c < k) && p c)
  | 0, c => by simp [word]
  | k + 1, c => by
    have ih := word_bit p k c
    unfold word
    split
    · rename_i hp
      rw [Nat.testBit_or, ih, Nat.testBit_two_pow]
      by_cases h : k = c
      · subst h; simp [hp]
      · have : (c < k + 1) = (c < k) := by simp; omega
        simp [h, this]
    · rename_i hp
      rw [ih]
      by_cases h : k = c
      · subst h
        have hp' : p k = false := by simpa using hp
        simp [hp']
      · have : (c < k + 1) = (c < k) := by simp; omega
        simp [this]
/-- The block whose bits are S. -/
def blk (S : Nat → Nat → Bool) : Nat → Nat := fun r => word (S r) 64
theorem blk_wf (S : Nat → Nat → Bool) : Wf (blk S) := fun i _ => word_lt (S i) 64
theorem blk_bit (S : Nat → Nat → Bool) (r c : Nat) (hc : c < 64) : (blk S r).testBit c = S r c := by
  unfold blk; rw [word_bit]; simp [hc]
theorem high_bit {x i : Nat} (hx : x < 18446744073709551616) (hi : 64 ≤ i) : x.testBit i = false :=
  Nat.testBit_lt_two_pow (Nat.lt_of_lt_of_le (show x < 2 ^ 64 from hx) (Nat.pow_le_pow_right (by decide) hi))
theorem word_eq {x y : Nat} (hx : x < 18446744073709551616) (hy : y < 18446744073709551616) (h : ∀ c, c < 64 → x.testBit c = y.testBit c) : x = y := by
  apply Nat.eq_of_testBit_eq
  intro i
  by_cases hi : i < 64
  · exact h i hi
  · rw [high_bit hx (by omega), high_bit hy (by omega)]
theorem Rw_congr {f g : Nat → Nat} (h : ∀ i, i < 64 → f i = g i) : Rw f = Rw g := by
  apply Array.ext_getElem?
  intro i
  by_cases hi : i < 64
  · rw [Rw_get _ _ hi, Rw_get _ _ hi, h i hi]
  · rw [Array.getElem?_eq_none (by rw [Rw_size]; omega), Array.getElem?_eq_none (by rw [Rw_size]; omega)]
theorem Rw_bits {f g : Nat → Nat} (hf : Wf f) (hg : Wf g) (h : ∀ r c, r < 64 → c < 64 → (f r).testBit c = (g r).testBit c) : Rw f = Rw g :=
  Rw_congr fun i hi => word_eq (hf i hi) (hg i hi) fun c hc => h i c hi hc
/-- A block f is the block of the bits S. -/
theorem Rw_blk {f : Nat → Nat} {S : Nat → Nat → Bool} (hf : Wf f) (h : ∀ r c, r < 64 → c < 64 → (f r).testBit c = S r c) : Rw f = Rw (blk S) :=
  Rw_bits hf (blk_wf S) fun r c hr hc => by rw [blk_bit S r c hc]; exact h r c hr hc
theorem blk_congr {S T : Nat → Nat → Bool} (h : ∀ r c, r < 64 → c < 64 → S r c = T r c) : Rw (blk S) = Rw (blk T) :=
  Rw_blk (blk_wf S) fun r c hr hc => by rw [blk_bit S r c hc]; exact h r c hr hc
theorem putB_bit (f : Nat → Nat) (r c i j : Nat) : (putB f r c i).testBit j = ((f i).testBit j || (decide (i = r) && decide (j = c))) := by
  unfold putB upd
  by_cases h : i = r
  · subst h
    rw [if_pos rfl, Nat.testBit_or, Nat.testBit_two_pow]
    by_cases e : j = c
    · subst e; simp
    · have e' : ¬ c = j := fun h => e h.symm
      simp [e, e']
  · rw [if_neg h]; simp [h]

/-- The cells of S that come ahead of (r, c), row by row. -/
def upto (S : Nat → Nat → Bool) (r c : Nat) : Nat → Nat → Bool := fun i j => (decide (i < r) || (decide (i = r) && decide (j < c))) && S i j
theorem upto_zero (S : Nat → Nat → Bool) : Rw (fun _ => 0) = Rw (blk (upto S 0 0)) :=
  Rw_blk Wf.zero fun r c _ _ => by simp [upto]
theorem upto_next (S : Nat → Nat → Bool) (r : Nat) : Rw (blk (upto S r 64)) = Rw (blk (upto S (r + 1) 0)) :=
  blk_congr fun i j hi hj => by
    unfold upto
    congr 1
    simp only [hj, decide_true, Bool.and_true, Nat.not_lt_zero, decide_false, Bool.and_false, Bool.or_false]
    rw [Bool.eq_iff_iff]; simp; omega
theorem upto_hit (S : Nat → Nat → Bool) (r c : Nat) (hr : r < 64) (hc : c < 64) (h : S r c = true) : Rw (putB (blk (upto S r c)) r c) = Rw (blk (upto S r (c + 1))) :=
  Rw_blk ((blk_wf _).putB hr hc) fun i j hi hj => by
    rw [putB_bit, blk_bit _ _ _ hj]
    unfold upto
    by_cases e : i = r ∧ j = c
    · obtain ⟨rfl, rfl⟩ := e; simp [h]
    · have h1 : (decide (i = r) && decide (j = c)) = false := by
        by_cases e1 : i = r
        · have : ¬ j = c := fun e2 => e ⟨e1, e2⟩
          simp [this]
        · simp [e1]
      rw [h1, Bool.or_false]
      congr 1
      rw [Bool.eq_iff_iff]; simp; omega
theorem upto_miss (S : Nat → Nat → Bool) (r c : Nat) (h : S r c = false) : Rw (blk (upto S r c)) = Rw (blk (upto S r (c + 1))) :=
  blk_congr fun i j hi hj => by
    unfold upto
    by_cases e : i = r ∧ j = c
    · obtain ⟨rfl, rfl⟩ := e; simp [h]
    · congr 1
      rw [Bool.eq_iff_iff]; simp; omega
theorem upto_end (S : Nat → Nat → Bool) : Rw (blk (upto S 64 0)) = Rw (blk S) :=
  blk_congr fun i j hi hj => by unfold upto; simp [hi]

/-- The bits of a block. -/
def bt (f : Nat → Nat) (r c : Nat) : Bool := (f r).testBit c
theorem blk_bt {f : Nat → Nat} (hf : Wf f) : Rw f = Rw (blk (bt f)) := Rw_blk hf fun _ _ _ _ => rfl
theorem bt_blk (S : Nat → Nat → Bool) (r c : Nat) (hc : c < 64) : bt (blk S) r c = S r c := blk_bit S r c hc
end Go.Proofs.YtjolkhiggcmoiaaGreatDoor
