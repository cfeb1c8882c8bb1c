/-
  The members of a set of states, rising: the list so far.
-/
import Derived.Test.YtihlfphokgicbaaDoorBTz
namespace Go.Proofs.YtihlfphokgicbaaDoor
open Go.RowKit
set_option linter.unusedVariables false
set_option linter.unusedSimpArgs false
theorem low_min (x : Nat) (hx : x < 18446744073709551616) (hx0 : x ≠ 0) (i : Nat) (hi : i < Lib.ctz 64 x) : x.testBit i = false := by
  have e : Lib.ctz 64 x = Lib.ctzFrom 64 x := by simp [Lib.ctz, hx0]
  rw [e] at hi
  obtain ⟨m, hm, hk⟩ := Lib.ctzFrom_spec 64 x (by omega) hx
  generalize Lib.ctzFrom 64 x = k at *
  have hp : 0 < 2 ^ k := Nat.two_pow_pos k
  have hpp : 2 ^ (k + 1) = 2 ^ k * 2 := Nat.pow_succ 2 k
  have h1 : x = 2 ^ (k + 1) * m + 2 ^ k := by rw [hm, hpp, Nat.mul_add, Nat.mul_one, Nat.mul_assoc]
  rw [h1, Nat.testBit_two_pow_mul_add m (by omega), if_pos (by omega), Nat.testBit_two_pow]
  simp; omega
/-- The members below b, rising. -/
def Upto (X0 X1 b : Nat) (l : List Nat) : Prop := l.Pairwise (· < ·) ∧ (∀ p, p ∈ l ↔ p < b ∧ memS X0 X1 p = true) ∧ l.length ≤ b
/-- Of word k, x is what is left from b on. -/
def Rest (X0 X1 k b x : Nat) : Prop := (64 * k ≤ b ∧ b ≤ 64 * k + 64) ∧ x < 18446744073709551616 ∧ ∀ j, j < 64 → (x.testBit j = true ↔ memS X0 X1 (64 * k + j) = true ∧ b ≤ 64 * k + j)
theorem upto_nil (X0 X1 : Nat) : Upto X0 X1 0 [] := ⟨List.Pairwise.nil, fun p => by simp, Nat.le_refl _⟩
theorem rest_first (X0 X1 k : Nat) (hk : k < 2) (h0 : X0 < 18446744073709551616) (h1 : X1 < 18446744073709551616) : Rest X0 X1 k (64 * k) (if k = 0 then X0 else X1) := by
  refine ⟨⟨Nat.le_refl _, by omega⟩, by split <;> assumption, fun j hj => ?_⟩
  unfold memS
  rcases (show k = 0 ∨ k = 1 by omega) with rfl | rfl
  · rw [if_pos rfl, if_pos (by omega)]; simp
  · rw [if_neg (by decide), if_neg (by omega), show 64 * 1 + j - 64 = j by omega]; simp
theorem rest_last {X0 X1 k b : Nat} {l : List Nat} (hU : Upto X0 X1 b l) (hR : Rest X0 X1 k b 0) : Upto X0 X1 (64 * (k + 1)) l := by
  refine ⟨hU.1, fun p => ?_, by have := hU.2.2; have := hR.1.2; omega⟩
  rw [hU.2.1 p]
  refine ⟨fun h => ⟨by have := hR.1.2; omega, h.2⟩, fun h => ⟨?_, h.2⟩⟩
  rcases Nat.lt_or_ge p b with hlt | hge
  · exact hlt
  · have h1 := hR.1
    have := (hR.2.2 (p - 64 * k) (by omega)).2 ⟨by rw [show 64 * k + (p - 64 * k) = p by omega]; exact h.2, by omega⟩
    simp at this
theorem rest_next {X0 X1 k b x : Nat} {l : List Nat} (hU : Upto X0 X1 b l) (hR : Rest X0 X1 k b x) (hx0 : x ≠ 0) :
    ∃ b', Upto X0 X1 b' (l ++ [64 * k + Lib.ctz 64 x]) ∧ Rest X0 X1 k b' (x &&& (x - 1)) := by
  obtain ⟨hb, hx, hj⟩ := hR
  obtain ⟨hc, hct, hcr⟩ := low_facts x hx hx0
  have hmin := low_min x hx hx0
  generalize Lib.ctz 64 x = c at *
  obtain ⟨hm, hbc⟩ := (hj c hc).1 hct
  refine ⟨64 * k + c + 1, ⟨?_, fun p => ?_, ?_⟩, ⟨by omega, by omega⟩, Nat.lt_of_le_of_lt Nat.and_le_left hx, fun j hj' => ?_⟩
  · rw [List.pairwise_append]
    refine ⟨hU.1, List.pairwise_singleton _ _, fun p hp q hq => ?_⟩
    have := ((hU.2.1 p).1 hp).1
    rw [List.mem_singleton] at hq
    omega
  · rw [List.mem_append, hU.2.1 p, List.mem_singleton]
    constructor
    · rintro (h | rfl)
      · exact ⟨by omega, h.2⟩
      · exact ⟨by omega, hm⟩
    · rintro ⟨h1, h2⟩
      by_cases hpb : p < b
      · exact .inl ⟨hpb, h2⟩
      · by_cases hpc : p = 64 * k + c
        · exact .inr hpc
        · have h3 := (hj (p - 64 * k) (by omega)).2 ⟨by rw [show 64 * k + (p - 64 * k) = p by omega]; exact h2, by omega⟩
          rw [hmin (p - 64 * k) (by omega)] at h3
          cases h3
  · have := hU.2.2
    rw [List.length_append, List.length_singleton]
    omega
  · rw [hcr j, Bool.and_eq_true, hj j hj']
    constructor
    · rintro ⟨⟨h1, h2⟩, h3⟩
      have hne : j ≠ c := by simpa using h3
      refine ⟨h1, ?_⟩
      rcases Nat.lt_or_ge j c with hlt | hge
      · have := (hj j hj').2 ⟨h1, h2⟩
        rw [hmin j hlt] at this
        cases this
      · omega
    · rintro ⟨h1, h2⟩
      exact ⟨⟨h1, by omega⟩, by simp; omega⟩
theorem mem_both (u v u' v' p : Nat) : memS (u &&& u') (v &&& v') p = (memS u v p && memS u' v' p) := by
  unfold memS
  split <;> rw [Nat.testBit_and]
/-- A list of states as cells. -/
def icells (l : List Nat) : List Value := l.map fun (p : Nat) => .int .i64 (p : Int)
theorem icells_app (l : List Nat) (p : Nat) : icells (l ++ [p]) = icells l ++ [.int .i64 (p : Int)] := by simp [icells]
end Go.Proofs.YtihlfphokgicbaaDoor
