/-
  Plain facts on blocks of 64 words, and the array value that holds one.
-/
import Derived.WalkKit
import Derived.Laws.Tables
namespace Go.Proofs.YtjolkhiggcmoiaaGreatDoor
open Go.RowKit

/-- The cells of a block whose row i holds the word f i. -/
def Rw (f : Nat → Nat) : Array Value := Array.ofFn (n := 64) fun i => .int .u64 (f i.val)
theorem Rw_size (f : Nat → Nat) : (Rw f).size = 64 := by simp [Rw]
theorem Rw_get (f : Nat → Nat) (i : Nat) (h : i < 64) : (Rw f)[i]? = some (.int .u64 (f i)) := by simp [Rw, h]
theorem Rw_one (f : Nat → Nat) : (Rw f).all (·.oneCell') = true := by
  rw [Array.all_eq_true_iff_forall_mem]
  intro v hv
  simp only [Rw, Array.mem_ofFn] at hv
  obtain ⟨i, rfl⟩ := hv
  rfl
/-- Row r holds v; the others are as they were. -/
def upd (f : Nat → Nat) (r v : Nat) : Nat → Nat := fun i => if i = r then v else f i
theorem Rw_set (f : Nat → Nat) (r v : Nat) : (Rw f).setIfInBounds r (.int .u64 v) = Rw (upd f r v) := by
  apply Array.ext_getElem?
  intro i
  rw [Array.getElem?_setIfInBounds]
  by_cases hi : i < 64
  · rw [Rw_get _ _ hi, Rw_get _ _ hi]
    by_cases h : r = i
    · subst h; rw [if_pos rfl, if_pos (by rw [Rw_size]; exact hi)]; simp [upd]
    · rw [if_neg h]; simp [upd, show ¬ i = r from fun e => h e.symm]
  · have h1 : (Rw f)[i]? = none := by simp [Rw_size]; omega
    have h2 : (Rw (upd f r v))[i]? = none := by simp [Rw_size]; omega
    rw [h1, h2]
    by_cases h : r = i
    · subst h; rw [if_pos rfl, if_neg (by rw [Rw_size]; exact hi)]
    · rw [if_neg h]

/-- With the cell (r, c). -/
def putB (f : Nat → Nat) (r c : Nat) : Nat → Nat := upd f r (f r ||| 2 ^ c)
theorem low_of_bit (x c : Nat) (h : x.testBit c = false) : x % 2 ^ (c + 1) = x % 2 ^ c := by
  rw [Nat.testBit_eq_decide_div_mod_eq] at h
  have h0 : x / 2 ^ c % 2 = 0 := by simp at h; exact h
  have h1 := Nat.mod_mul (a := 2 ^ c) (b := 2) (x := x)
  rw [Nat.pow_succ, h1, h0]; simp
theorem add_bit (x c : Nat) (h : x.testBit c = false) : x + 2 ^ c = x ||| 2 ^ c := by
  have hl := low_of_bit x c h
  have hb : x % 2 ^ c < 2 ^ c := Nat.mod_lt _ (Nat.two_pow_pos c)
  have hp : 2 ^ (c + 1) = 2 ^ c + 2 ^ c := by rw [Nat.pow_succ]; omega
  have e1 : x = 2 ^ (c + 1) * (x / 2 ^ (c + 1)) + x % 2 ^ c := by
    have := Nat.div_add_mod x (2 ^ (c + 1)); rw [hl] at this; exact this.symm
  have e2 := Nat.two_pow_add_eq_or_of_lt (i := c) hb 1
  have e3 := Nat.two_pow_add_eq_or_of_lt (i := c + 1) (b := 2 ^ c * 1 + x % 2 ^ c) (by omega) (x / 2 ^ (c + 1))
  have e4 := Nat.two_pow_add_eq_or_of_lt (i := c + 1) (b := x % 2 ^ c) (by omega) (x / 2 ^ (c + 1))
  have e5 : x + 2 ^ c = 2 ^ (c + 1) * (x / 2 ^ (c + 1)) + (2 ^ c * 1 + x % 2 ^ c) := by omega
  rw [e5, e3, e2, Nat.mul_one, Nat.or_comm (2 ^ c), ← Nat.or_assoc, ← e4, ← e1]
theorem bit_or (x c : Nat) (h : x.testBit c = true) : x ||| 2 ^ c = x := by
  apply Nat.eq_of_testBit_eq
  intro i
  rw [Nat.testBit_or, Nat.testBit_two_pow]
  by_cases e : c = i
  · subst e; simp [h]
  · simp [e]
theorem wrap_u64_nat (n : Nat) (h : n < 18446744073709551616) : IntKind.u64.wrap (n : Int) = n := by
  rw [IntKind.wrap_u64]; omega
theorem pow_c (c : Nat) (hc : c < 64) : IntKind.u64.wrap (2 ^ c) = ((2 ^ c : Nat) : Int) := by
  have h : (2 : Nat) ^ c < 2 ^ 64 := Nat.pow_lt_pow_right (by decide) hc
  have e : ((2 : Int) ^ c) = ((2 ^ c : Nat) : Int) := by simp
  rw [e, wrap_u64_nat _ (by omega)]
theorem or_lt64 (x c : Nat) (hx : x < 18446744073709551616) (hc : c < 64) : x ||| 2 ^ c < 18446744073709551616 :=
  Nat.or_lt_two_pow (n := 64) hx (Nat.pow_lt_pow_right (by decide) hc)
theorem add_word (x c : Nat) (hx : x < 18446744073709551616) (hc : c < 64) (h : x.testBit c = false) :
    IntKind.u64.wrap (x + IntKind.u64.wrap (2 ^ c)) = ((x ||| 2 ^ c : Nat) : Int) := by
  have h2 := or_lt64 x c hx hc
  have h3 := add_bit x c h
  rw [pow_c c hc]
  have e : ((x : Int) + ((2 ^ c : Nat) : Int)) = ((x + 2 ^ c : Nat) : Int) := by simp
  rw [e, h3, wrap_u64_nat _ h2]
/-- All rows are words. -/
def Wf (f : Nat → Nat) : Prop := ∀ i, i < 64 → f i < 18446744073709551616
theorem Wf.putB {f : Nat → Nat} (h : Wf f) {r c : Nat} (hr : r < 64) (hc : c < 64) : Wf (putB f r c) := by
  intro i hi
  unfold YtjolkhiggcmoiaaGreatDoor.putB upd
  split
  · exact or_lt64 _ _ (h r hr) hc
  · exact h i hi
theorem Wf.zero : Wf fun _ => 0 := fun _ _ => Nat.zero_lt_succ _
theorem i64_and63 (n : Int) : bits .and .i64 n 63 = ((n % 64).toNat : Int) := by
  have h63 : (BitVec.ofInt 64 63).toNat = 2 ^ 6 - 1 := by decide
  have key : (BitVec.ofInt 64 n &&& BitVec.ofInt 64 63).toNat = (n % ((2 ^ 64 : Nat) : Int)).toNat % 2 ^ 6 := by
    rw [BitVec.toNat_and, BitVec.toNat_ofInt, h63, Nat.and_two_pow_sub_one_eq_mod]
  show IntKind.i64.wrap ((BitVec.ofInt 64 n &&& BitVec.ofInt 64 63).toNat : Nat) = _
  rw [key, IntKind.wrap_i64]
  omega
/-- A number taken by 64. -/
def md (n : Int) : Nat := (n % 64).toNat
theorem md_lt (n : Int) : md n < 64 := by unfold md; omega
theorem and63 (n : Int) : bits .and .i64 n 63 = (md n : Int) := i64_and63 n
/-- The block of the first k cells of a list, their numbers taken by 64. -/
def foldB (R C : Nat → Int) : Nat → Nat → Nat
  | 0 => fun _ => 0
  | k + 1 => putB (foldB R C k) (md (R k)) (md (C k))
theorem foldB_wf (R C : Nat → Int) : ∀ k, Wf (foldB R C k)
  | 0 => Wf.zero
  | k + 1 => (foldB_wf R C k).putB (md_lt _) (md_lt _)
theorem ofNat64 (a : Nat) (h : a < 18446744073709551616) : (BitVec.ofInt 64 (a : Int)).toNat = a := by
  rw [BitVec.ofInt_natCast, BitVec.toNat_ofNat]; exact Nat.mod_eq_of_lt (by omega)
theorem bits_or64 (a b : Nat) (ha : a < 18446744073709551616) (hb : b < 18446744073709551616) : bits .or .u64 (a : Int) (b : Int) = ((a ||| b : Nat) : Int) := by
  have hx : a ||| b < 2 ^ 64 := Nat.or_lt_two_pow (by omega) (by omega)
  show IntKind.u64.wrap ((BitVec.ofInt 64 (a : Int) ||| BitVec.ofInt 64 (b : Int)).toNat : Int) = _
  rw [BitVec.toNat_or, ofNat64 a ha, ofNat64 b hb, wrap_u64_nat _ (by omega)]
theorem bits_and64 (a b : Nat) (ha : a < 18446744073709551616) (hb : b < 18446744073709551616) : bits .and .u64 (a : Int) (b : Int) = ((a &&& b : Nat) : Int) := by
  have hx : a &&& b < 2 ^ 64 := Nat.and_lt_two_pow _ (by omega)
  show IntKind.u64.wrap ((BitVec.ofInt 64 (a : Int) &&& BitVec.ofInt 64 (b : Int)).toNat : Int) = _
  rw [BitVec.toNat_and, ofNat64 a ha, ofNat64 b hb, wrap_u64_nat _ (by omega)]
theorem bits_xor64 (a b : Nat) (ha : a < 18446744073709551616) (hb : b < 18446744073709551616) : bits .xor .u64 (a : Int) (b : Int) = ((a ^^^ b : Nat) : Int) :=
  bits_xor_u64_nat a b ha hb
/-- a without the bits of b. -/
def less (a b : Nat) : Nat := a &&& (18446744073709551615 ^^^ b)
theorem less_lt (a b : Nat) (ha : a < 18446744073709551616) : less a b < 18446744073709551616 :=
  Nat.lt_of_le_of_lt Nat.and_le_left ha
theorem testBit_all (i : Nat) : Nat.testBit 18446744073709551615 i = decide (i < 64) := Nat.testBit_two_pow_sub_one 64 i
theorem less_bit (a b i : Nat) (ha : a < 18446744073709551616) : (less a b).testBit i = (a.testBit i && !b.testBit i) := by
  unfold less
  rw [Nat.testBit_and, Nat.testBit_xor, testBit_all]
  by_cases hi : i < 64
  · simp [hi]
  · have h2 : a.testBit i = false := Nat.testBit_lt_two_pow (Nat.lt_of_lt_of_le (show a < 2 ^ 64 from ha) (Nat.pow_le_pow_right (by decide) (by omega)))
    simp [h2]
theorem bits_less64 (a b : Nat) (ha : a < 18446744073709551616) (hb : b < 18446744073709551616) : bits .andNot .u64 (a : Int) (b : Int) = ((less a b : Nat) : Int) := by
  have hx : less a b < 18446744073709551616 := less_lt a b ha
  show IntKind.u64.wrap ((BitVec.ofInt 64 (a : Int) &&& ~~~ BitVec.ofInt 64 (b : Int)).toNat : Int) = _
  rw [BitVec.toNat_and, BitVec.toNat_not, ofNat64 a ha, ofNat64 b hb]
  have e : 2 ^ 64 - 1 - b = 18446744073709551615 ^^^ b := by
    apply Nat.eq_of_testBit_eq
    intro i
    rw [Nat.testBit_xor, testBit_all]
    have hb' : b < 2 ^ 64 := hb
    have := Nat.testBit_two_pow_sub_succ hb' i
    rw [show 2 ^ 64 - 1 - b = 2 ^ 64 - (b + 1) by omega, this]
    by_cases hi : i < 64
    · simp [hi]
    · have h2 : b.testBit i = false := Nat.testBit_lt_two_pow (Nat.lt_of_lt_of_le hb' (Nat.pow_le_pow_right (by decide) (by omega)))
      simp [hi, h2]
  rw [e]
  exact wrap_u64_nat _ hx
/-- The word with the one bit c. -/
def pw (c : Nat) : Nat := 2 ^ c
theorem pw_lt {c : Nat} (hc : c < 64) : pw c < 18446744073709551616 := by
  show 2 ^ c < 2 ^ 64
  exact Nat.pow_lt_pow_right (by decide) hc
theorem wrap_pw {c : Nat} (hc : c < 64) : IntKind.u64.wrap (2 ^ c) = (pw c : Int) := pow_c c hc
theorem and_pw (x c : Nat) : (x &&& pw c = 0) ↔ x.testBit c = false := by
  unfold pw
  rw [nat_bit, Nat.testBit_eq_decide_div_mod_eq]
  have hp : 0 < 2 ^ c := Nat.two_pow_pos c
  have h2 : x / 2 ^ c % 2 = 0 ∨ x / 2 ^ c % 2 = 1 := by omega
  rcases h2 with h2 | h2 <;> rw [h2] <;> simp
/-- Without the cell (r, c). -/
def offB (f : Nat → Nat) (r c : Nat) : Nat → Nat := upd f r (less (f r) (pw c))
theorem less_pw (x c : Nat) (hx : x < 18446744073709551616) (h : x.testBit c = true) : less x (pw c) = x - pw c := by
  have h1 : (less x (pw c)).testBit c = false := by rw [less_bit _ _ _ hx]; simp [pw, Nat.testBit_two_pow_self]
  have h2 := add_bit _ _ h1
  have h3 : less x (pw c) ||| 2 ^ c = x := by
    apply Nat.eq_of_testBit_eq
    intro i
    rw [Nat.testBit_or, less_bit _ _ _ hx, pw, Nat.testBit_two_pow]
    by_cases e : c = i
    · subst e; simp [h]
    · simp [e]
  rw [h3] at h2
  unfold pw at h2 ⊢
  omega
theorem less_no (x c : Nat) (hx : x < 18446744073709551616) (h : x.testBit c = false) : less x (pw c) = x := by
  apply Nat.eq_of_testBit_eq
  intro i
  rw [less_bit _ _ _ hx, pw, Nat.testBit_two_pow]
  by_cases e : c = i
  · subst e; simp [h]
  · simp [e]
attribute [irreducible] Rw
end Go.Proofs.YtjolkhiggcmoiaaGreatDoor

