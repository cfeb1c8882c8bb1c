/-
  Places of a word as two words of bits; TrailingZeros64 over its table.
-/
import Derived.Test.YteojbnkjphghkaaDoorQuietFar
import Derived.Laws.Bits64b
import Derived.Laws.BitsAllLaws
import Derived.WalkSmall
import Derived.Lib.TrailingZeros
namespace Go.Proofs.YteojbnkjphghkaaDoor
open Go.RowKit
set_option linter.unusedVariables false
set_option linter.unusedSimpArgs false
/-- Is a state in the set of two words? -/
def memS (u v : Nat) (q : Nat) : Bool := if q < 64 then u.testBit q else v.testBit (q - 64)
def setV (u v : Nat) : Value := .agg #[.int .u64 (u : Int), .int .u64 (v : Int)]
theorem alloc_far' (w : World) (o : Obj) : Far (fun _ => False) w (w.alloc o) := (Far.refl _ w).alloc o
theorem bit_shr (u q : Nat) (hu : u < 18446744073709551616) : (bits BinOp.and IntKind.u64 ((u : Int) / 2 ^ q) 1 == 1) = u.testBit q := by
  have e : (u : Int) / 2 ^ q = ((u / 2 ^ q : Nat) : Int) := by simp
  have hle : u / 2 ^ q ≤ u := Nat.div_le_self _ _
  generalize hx : u / 2 ^ q = x at *
  rw [e, and_one_u64 _ (by omega) (by omega), Nat.testBit_eq_decide_div_mod_eq, hx, Bool.eq_iff_iff]
  simp
  omega
theorem pow_lt (q : Nat) (hq : q < 64) : 2 ^ q < 18446744073709551616 := Nat.lt_of_lt_of_le (Nat.pow_lt_pow_right (by decide) hq) (by decide)
theorem or_put (u q : Nat) (hu : u < 18446744073709551616) (hq : q < 64) : bits BinOp.or IntKind.u64 (u : Int) (IntKind.u64.wrap (2 ^ q)) = ((u ||| 2 ^ q : Nat) : Int) := by
  have hp := pow_lt q hq
  have e : (2 : Int) ^ q = ((2 ^ q : Nat) : Int) := by simp
  have hw : IntKind.u64.wrap ((2 : Int) ^ q) = ((2 ^ q : Nat) : Int) := by
    rw [e]
    generalize 2 ^ q = x at *
    rw [IntKind.wrap_u64]
    omega
  rw [hw]
  exact bits_or_u64_nat u (2 ^ q) hu hp
theorem or_lt (u q : Nat) (hu : u < 18446744073709551616) (hq : q < 64) : u ||| 2 ^ q < 18446744073709551616 := Nat.or_lt_two_pow (n := 64) (by omega) (by have := pow_lt q hq; omega)
theorem mem_put_low (u v q p : Nat) (hq : q < 64) : memS (u ||| 2 ^ q) v p = (memS u v p || decide (p = q)) := by
  unfold memS
  by_cases hp : p < 64
  · have e : decide (q = p) = decide (p = q) := by rw [decide_eq_decide]; omega
    rw [if_pos hp, if_pos hp, Nat.testBit_or, Nat.testBit_two_pow, e]
  · rw [if_neg hp, if_neg hp, Bool.eq_iff_iff]
    simp
    omega
theorem mem_put_high (u v r p : Nat) : memS u (v ||| 2 ^ r) p = (memS u v p || decide (p = 64 + r)) := by
  unfold memS
  by_cases hp : p < 64
  · rw [if_pos hp, if_pos hp, Bool.eq_iff_iff]
    simp
    omega
  · have e : decide (r = p - 64) = decide (p = 64 + r) := by rw [decide_eq_decide]; omega
    rw [if_neg hp, if_neg hp, Nat.testBit_or, Nat.testBit_two_pow, e]
/-- a without the bits of b. -/
def less (a b : Nat) : Nat := a &&& (18446744073709551615 ^^^ b)
theorem less_lt (a b : Nat) (ha : a < 18446744073709551616) : less a b < 18446744073709551616 :=
  Nat.lt_of_le_of_lt Nat.and_le_left ha
theorem testBit_all (i : Nat) : Nat.testBit 18446744073709551615 i = decide (i < 64) := Nat.testBit_two_pow_sub_one 64 i
theorem less_bit (a b i : Nat) (ha : a < 18446744073709551616) : (less a b).testBit i = (a.testBit i && !b.testBit i) := by
  unfold less
  rw [Nat.testBit_and, Nat.testBit_xor, testBit_all]
  by_cases hi : i < 64
  · simp [hi]
  · have h2 : a.testBit i = false := Nat.testBit_lt_two_pow (Nat.lt_of_lt_of_le (show a < 2 ^ 64 from ha) (Nat.pow_le_pow_right (by decide) (by omega)))
    simp [h2]
theorem less_sub (a b : Nat) (hb : b < 18446744073709551616) : less a b = a &&& (18446744073709551615 - b) := by
  unfold less
  apply Nat.eq_of_testBit_eq
  intro i
  rw [Nat.testBit_and, Nat.testBit_and, Nat.testBit_xor, testBit_all]
  have := Nat.testBit_two_pow_sub_succ (show b < 2 ^ 64 from hb) i
  rw [show 18446744073709551615 - b = 2 ^ 64 - (b + 1) by omega, this]
  by_cases hi : i < 64
  · simp [hi]
  · have h2 : b.testBit i = false := Nat.testBit_lt_two_pow (Nat.lt_of_lt_of_le (show b < 2 ^ 64 from hb) (Nat.pow_le_pow_right (by decide) (by omega)))
    simp [hi, h2]
theorem bits_less (a b : Nat) (ha : a < 18446744073709551616) (hb : b < 18446744073709551616) : bits .andNot .u64 (a : Int) (b : Int) = ((less a b : Nat) : Int) := by
  rw [less_sub a b hb]
  exact u64_andNot_nat a b ha hb
theorem mem_less (u v u' v' p : Nat) (hu : u < 18446744073709551616) (hv : v < 18446744073709551616) : memS (less u u') (less v v') p = (memS u v p && !memS u' v' p) := by
  unfold memS
  split
  · exact less_bit _ _ _ hu
  · exact less_bit _ _ _ hv
/-- The package's table lies in its variable. -/
def Tab (w : World) : Prop := ∀ j, j < 64 → w.cell? ⟨0, j, none⟩ = some (.int .u8 (Lib.deBruijn64tab.getD j 0))
theorem Tab.stays {w w' : World} (h : Tab w) (hb : Below w.heap.size w w') : Tab w' := fun j hj =>
  (hb.cell (p := ⟨0, j, none⟩) (block_lt_of_cell (h j hj))).trans (h j hj)
theorem neg_word (x a : Nat) (hx : x < 18446744073709551616) (hx0 : x ≠ 0) (hlow : x &&& (18446744073709551616 - x) = a) :
    IntKind.u64.wrap (bits .and .u64 (x : Int) (IntKind.u64.wrap (-(x : Int))) * 285870213051353865) / 288230376151711744 = ((a * 285870213051353865 % 18446744073709551616 / 288230376151711744 : Nat) : Int) := by
  have e : IntKind.u64.wrap (-(x : Int)) = ((18446744073709551616 - x : Nat) : Int) := by rw [IntKind.wrap_u64]; omega
  rw [e, bits_and_u64_nat x _ hx (by omega), hlow, IntKind.wrap_u64]
  omega
section
set_option maxHeartbeats 400000
set_option maxRecDepth 100000
theorem tz_core (x k idx : Nat) (w : World) (hne : ((x : Int) == 0) = false)
    (key : IntKind.u64.wrap (bits .and .u64 (x : Int) (IntKind.u64.wrap (-(x : Int))) * 285870213051353865) / 288230376151711744 = (idx : Int))
    (hi : idx < 64) (hk : k < 64) (hcell : w.cell? ⟨0, idx, none⟩ = some (.int .u8 k)) :
    Calls Tryd.prog 52 #[.int .u64 x] w fun e w' => e = .returned (.int .i64 k) ∧ w = w' := by
  go_enter Tryd.func52, Tryd.ntmps52
  go_wp2_with (simp only [key])
  go_ret
  exact ⟨rfl, rfl⟩
theorem tz_any (x : Nat) (w : World) (hx : x < 18446744073709551616) (hx0 : x ≠ 0) (hT : Tab w) :
    Calls Tryd.prog 52 #[.int .u64 x] w fun e w' => e = .returned (.int .i64 (Lib.ctz 64 x)) ∧ w = w' := by
  obtain ⟨hlow, hk⟩ := Lib.lowest_bit 64 x hx0 hx
  obtain ⟨hi, htab⟩ := Lib.deBruijn64_at _ hk
  have hcell := hT _ hi
  rw [htab] at hcell
  exact tz_core x _ _ w (by simp; omega) (neg_word x _ hx hx0 hlow) hi hk hcell
end
/-- The lowest bit of x, and x without it. -/
theorem low_facts (x : Nat) (hx : x < 18446744073709551616) (hx0 : x ≠ 0) :
    Lib.ctz 64 x < 64 ∧ x.testBit (Lib.ctz 64 x) = true ∧ ∀ i, (x &&& (x - 1)).testBit i = (x.testBit i && !decide (i = Lib.ctz 64 x)) := by
  have e : Lib.ctz 64 x = Lib.ctzFrom 64 x := by simp [Lib.ctz, hx0]
  rw [e]
  obtain ⟨m, hm, hk⟩ := Lib.ctzFrom_spec 64 x (by omega) hx
  generalize Lib.ctzFrom 64 x = k at *
  have hp : 0 < 2 ^ k := Nat.two_pow_pos k
  have hpp : 2 ^ (k + 1) = 2 ^ k * 2 := Nat.pow_succ 2 k
  have h1 : x = 2 ^ (k + 1) * m + 2 ^ k := by rw [hm, hpp, Nat.mul_add, Nat.mul_one, Nat.mul_assoc]
  have h2 : x - 1 = 2 ^ (k + 1) * m + (2 ^ k - 1) := by omega
  have b1 : ∀ i, x.testBit i = if i < k + 1 then (2 ^ k).testBit i else m.testBit (i - (k + 1)) := fun i => by
    rw [h1]; exact Nat.testBit_two_pow_mul_add m (by omega) i
  have b2 : ∀ i, (x - 1).testBit i = if i < k + 1 then (2 ^ k - 1).testBit i else m.testBit (i - (k + 1)) := fun i => by
    rw [h2]; exact Nat.testBit_two_pow_mul_add m (by omega) i
  refine ⟨hk, ?_, fun i => ?_⟩
  · rw [b1, if_pos (by omega)]; exact Nat.testBit_two_pow_self
  · rw [Nat.testBit_and, b1, b2]
    by_cases hi : i < k + 1
    · rw [if_pos hi, if_pos hi, Nat.testBit_two_pow, Nat.testBit_two_pow_sub_one]
      by_cases he : i = k
      · subst he; simp
      · have : ¬ k = i := fun h => he h.symm
        simp [this]
    · rw [if_neg hi, if_neg hi, Bool.and_self]
      have : ¬ i = k := by omega
      simp [this]
theorem low_min (x : Nat) (hx : x < 18446744073709551616) (hx0 : x ≠ 0) (i : Nat) (hi : i < Lib.ctz 64 x) : x.testBit i = false := by
  have e : Lib.ctz 64 x = Lib.ctzFrom 64 x := by simp [Lib.ctz, hx0]
  rw [e] at hi
  obtain ⟨m, hm, hk⟩ := Lib.ctzFrom_spec 64 x (by omega) hx
  generalize Lib.ctzFrom 64 x = k at *
  have hp : 0 < 2 ^ k := Nat.two_pow_pos k
  have hpp : 2 ^ (k + 1) = 2 ^ k * 2 := Nat.pow_succ 2 k
  have h1 : x = 2 ^ (k + 1) * m + 2 ^ k := by rw [hm, hpp, Nat.mul_add, Nat.mul_one, Nat.mul_assoc]
  rw [h1, Nat.testBit_two_pow_mul_add m (by omega), if_pos (by omega), Nat.testBit_two_pow]
  simp; omega
/-- The members below b, rising. -/
def Upto (X0 X1 b : Nat) (l : List Nat) : Prop := l.Pairwise (· < ·) ∧ (∀ p, p ∈ l ↔ p < b ∧ memS X0 X1 p = true) ∧ l.length ≤ b
/-- Of word k, x is what is left from b on. -/
def Rest (X0 X1 k b x : Nat) : Prop := (64 * k ≤ b ∧ b ≤ 64 * k + 64) ∧ x < 18446744073709551616 ∧ ∀ j, j < 64 → (x.testBit j = true ↔ memS X0 X1 (64 * k + j) = true ∧ b ≤ 64 * k + j)
theorem upto_nil (X0 X1 : Nat) : Upto X0 X1 0 [] := ⟨List.Pairwise.nil, fun p => by simp, Nat.le_refl _⟩
theorem rest_first (X0 X1 k : Nat) (hk : k < 2) (h0 : X0 < 18446744073709551616) (h1 : X1 < 18446744073709551616) : Rest X0 X1 k (64 * k) (if k = 0 then X0 else X1) := by
  refine ⟨⟨Nat.le_refl _, by omega⟩, by split <;> assumption, fun j hj => ?_⟩
  unfold memS
  rcases (show k = 0 ∨ k = 1 by omega) with rfl | rfl
  · rw [if_pos rfl, if_pos (by omega)]; simp
  · rw [if_neg (by decide), if_neg (by omega), show 64 * 1 + j - 64 = j by omega]; simp
theorem rest_last {X0 X1 k b : Nat} {l : List Nat} (hU : Upto X0 X1 b l) (hR : Rest X0 X1 k b 0) : Upto X0 X1 (64 * (k + 1)) l := by
  refine ⟨hU.1, fun p => ?_, by have := hU.2.2; have := hR.1.2; omega⟩
  rw [hU.2.1 p]
  refine ⟨fun h => ⟨by have := hR.1.2; omega, h.2⟩, fun h => ⟨?_, h.2⟩⟩
  rcases Nat.lt_or_ge p b with hlt | hge
  · exact hlt
  · have h1 := hR.1
    have := (hR.2.2 (p - 64 * k) (by omega)).2 ⟨by rw [show 64 * k + (p - 64 * k) = p by omega]; exact h.2, by omega⟩
    simp at this
theorem rest_next {X0 X1 k b x : Nat} {l : List Nat} (hU : Upto X0 X1 b l) (hR : Rest X0 X1 k b x) (hx0 : x ≠ 0) :
    ∃ b', Upto X0 X1 b' (l ++ [64 * k + Lib.ctz 64 x]) ∧ Rest X0 X1 k b' (x &&& (x - 1)) := by
  obtain ⟨hb, hx, hj⟩ := hR
  obtain ⟨hc, hct, hcr⟩ := low_facts x hx hx0
  have hmin := low_min x hx hx0
  generalize Lib.ctz 64 x = c at *
  obtain ⟨hm, hbc⟩ := (hj c hc).1 hct
  refine ⟨64 * k + c + 1, ⟨?_, fun p => ?_, ?_⟩, ⟨by omega, by omega⟩, Nat.lt_of_le_of_lt Nat.and_le_left hx, fun j hj' => ?_⟩
  · rw [List.pairwise_append]
    refine ⟨hU.1, List.pairwise_singleton _ _, fun p hp q hq => ?_⟩
    have := ((hU.2.1 p).1 hp).1
    rw [List.mem_singleton] at hq
    omega
  · rw [List.mem_append, hU.2.1 p, List.mem_singleton]
    constructor
    · rintro (h | rfl)
      · exact ⟨by omega, h.2⟩
      · exact ⟨by omega, hm⟩
    · rintro ⟨h1, h2⟩
      by_cases hpb : p < b
      · exact .inl ⟨hpb, h2⟩
      · by_cases hpc : p = 64 * k + c
        · exact .inr hpc
        · have h3 := (hj (p - 64 * k) (by omega)).2 ⟨by rw [show 64 * k + (p - 64 * k) = p by omega]; exact h2, by omega⟩
          rw [hmin (p - 64 * k) (by omega)] at h3
          cases h3
  · have := hU.2.2
    rw [List.length_append, List.length_singleton]
    omega
  · rw [hcr j, Bool.and_eq_true, hj j hj']
    constructor
    · rintro ⟨⟨h1, h2⟩, h3⟩
      have hne : j ≠ c := by simpa using h3
      refine ⟨h1, ?_⟩
      rcases Nat.lt_or_ge j c with hlt | hge
      · have := (hj j hj').2 ⟨h1, h2⟩
        rw [hmin j hlt] at this
        cases this
      · omega
    · rintro ⟨h1, h2⟩
      exact ⟨⟨h1, by omega⟩, by simp; omega⟩
theorem mem_both (u v u' v' p : Nat) : memS (u &&& u') (v &&& v') p = (memS u v p && memS u' v' p) := by
  unfold memS
  split <;> rw [Nat.testBit_and]
end Go.Proofs.YteojbnkjphghkaaDoor
