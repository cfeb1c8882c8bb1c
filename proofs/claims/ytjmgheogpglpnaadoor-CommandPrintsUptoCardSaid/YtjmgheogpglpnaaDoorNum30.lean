/-
  Numbers as texts: what the program asks of a text and what the document asks is the same.
-/
import Derived.Test.YtjmgheogpglpnaaDoorSplit30
import Derived.Lib.Atoi
namespace Go.Proofs.YtjmgheogpglpnaaDoor
set_option linter.unusedVariables false
set_option linter.unusedSimpArgs false
open Go.Lib (decFrom decDigits digitVal parseUint10 atoiAll)
theorem digitVal_some (b : UInt8) (h : 48 ≤ b.toNat ∧ b.toNat ≤ 57) : digitVal b = some (b.toNat - 48) := if_pos h
theorem digitVal_none (b : UInt8) (h : ¬ (48 ≤ b.toNat ∧ b.toNat ≤ 57)) : digitVal b = none := if_neg h
theorem decFrom_app (c : UInt8) : ∀ (l : Tx) (acc : Nat), decFrom acc (l ++ [c]) = match decFrom acc l with
    | none => none
    | some n => match digitVal c with
      | none => none
      | some d => some (n * 10 + d)
  | [], acc => by
    show decFrom acc [c] = _
    simp only [decFrom]
    cases digitVal c <;> rfl
  | b :: l, acc => by
    rw [List.cons_append]
    simp only [decFrom]
    cases digitVal b with
    | none => rfl
    | some d => exact decFrom_app c l _
theorem ofNat_digit (c : UInt8) (h : 48 ≤ c.toNat) : UInt8.ofNat (48 + (c.toNat - 48)) = c := by
  rw [show 48 + (c.toNat - 48) = c.toNat by omega]
  exact UInt8.ofNat_toNat
theorem toNat_ofDigit {d : Nat} (h : d < 10) : (UInt8.ofNat (48 + d)).toNat = 48 + d := by
  rw [UInt8.toNat_ofNat']
  omega
theorem dec_dec (u : Nat) : decFrom 0 (decDigits u) = some u := by
  induction u using Nat.strongRecOn with
  | _ u ih =>
    rw [decDigits]
    split
    · rename_i h
      simp only [decFrom]
      rw [digitVal_some _ (by rw [toNat_ofDigit h]; omega), toNat_ofDigit h]
      simp
    · rename_i h
      have hm : u % 10 < 10 := Nat.mod_lt _ (by decide)
      rw [decFrom_app, ih (u / 10) (by omega)]
      dsimp only
      rw [digitVal_some _ (by rw [toNat_ofDigit hm]; omega), toNat_ofDigit hm]
      dsimp only
      congr 1
      omega
theorem head_app {a b : Tx} (h : a ≠ []) : (a ++ b).head? = a.head? := by
  cases a with
  | nil => exact absurd rfl h
  | cons x y => rfl
theorem decDigits_ne (u : Nat) : decDigits u ≠ [] := by
  rw [decDigits]
  split <;> simp
theorem decDigits_head (u : Nat) (h : 1 ≤ u) : (decDigits u).head? ≠ some 48 := by
  induction u using Nat.strongRecOn with
  | _ u ih =>
    rw [decDigits]
    split
    · rename_i h'
      intro e
      have : UInt8.ofNat (48 + u) = 48 := by simpa using e
      have := congrArg UInt8.toNat this
      rw [toNat_ofDigit h'] at this
      simp at this
      omega
    · rename_i h'
      rw [head_app (decDigits_ne _)]
      exact ih (u / 10) (by omega) (by omega)
theorem snoc_cases {α : Type} (l : List α) : l = [] ∨ ∃ m c, l = m ++ [c] := by
  rcases List.eq_nil_or_concat l with h | ⟨m, c, h⟩
  · exact .inl h
  · exact .inr ⟨m, c, by rw [h]; simp⟩
theorem dec_unique : ∀ (n : Nat) (x : Tx) (v : Nat), x.length = n → x ≠ [] → (x.length = 1 ∨ x.head? ≠ some 48) → decFrom 0 x = some v → decDigits v = x := by
  intro n
  induction n with
  | zero => intro x v h hne; exact absurd (List.length_eq_zero_iff.1 h) hne
  | succ n ih =>
    intro x v hn hne hh hv
    rcases snoc_cases x with rfl | ⟨y, c, rfl⟩
    · exact absurd rfl hne
    rw [decFrom_app] at hv
    rw [List.length_append, List.length_singleton] at hn
    cases hy : decFrom 0 y with
    | none => rw [hy] at hv; cases hv
    | some a =>
      rw [hy] at hv
      dsimp only at hv
      by_cases hc : 48 ≤ c.toNat ∧ c.toNat ≤ 57
      · rw [digitVal_some c hc] at hv
        dsimp only at hv
        injection hv with hv
        by_cases hy0 : y = []
        · subst hy0
          have ha : a = 0 := by simpa [decFrom] using hy.symm
          rw [decDigits, dif_pos (by omega)]
          rw [← hv, ha, Nat.zero_mul, Nat.zero_add, ofNat_digit c hc.1]
          rfl
        · have hhy : y.head? ≠ some 48 := by
            rcases hh with h | h
            · have : y.length ≠ 0 := fun e => hy0 (List.length_eq_zero_iff.1 e)
              rw [List.length_append, List.length_singleton] at h; omega
            · rwa [head_app hy0] at h
          have hy' := ih y a (by omega) hy0 (.inr hhy) hy
          have ha : 1 ≤ a := by
            by_cases h0 : a = 0
            · subst h0
              rw [← hy'] at hhy
              exact absurd (by rw [decDigits, dif_pos (by decide)]; rfl) hhy
            · omega
          rw [decDigits, dif_neg (by omega)]
          have e1 : v / 10 = a := by omega
          have e2 : v % 10 = c.toNat - 48 := by omega
          rw [e1, e2, hy', ofNat_digit c hc.1]
      · rw [digitVal_none c hc] at hv
        cases hv
theorem parse_dec : ∀ (l : Tx) (acc k : Nat), acc < 10 ^ k → k + l.length ≤ 18 → parseUint10 acc l = match decFrom acc l with
    | none => .syntax
    | some n => .ok n
  | [], acc, k, _, _ => rfl
  | c :: r, acc, k, ha, hk => by
    simp only [parseUint10, decFrom]
    rw [List.length_cons] at hk
    by_cases hc : 48 ≤ c.toNat ∧ c.toNat ≤ 57
    · have hp : 10 ^ k ≤ 10 ^ 17 := Nat.pow_le_pow_right (by decide) (by omega)
      have hb : acc * 10 + (c.toNat - 48) < 10 ^ (k + 1) := by rw [Nat.pow_succ]; omega
      have hp2 : (10 : Nat) ^ 17 = 100000000000000000 := by decide
      rw [if_pos hc, if_neg (by omega), if_neg (by omega), digitVal_some c hc]
      exact parse_dec r _ (k + 1) hb (by omega)
    · rw [if_neg hc, digitVal_none c hc]
/-- The document's number of a text. -/
def numR (x : Tx) : Option Nat := if x.length < 1 ∨ 9 < x.length ∨ (1 < x.length ∧ x.head? = some 48) then none else decFrom 0 x
theorem numR_dec {x : Tx} {n : Nat} (h : numR x = some n) : x = decDigits n ∧ x.length ≤ 9 ∧ n < 1000000000 := by
  unfold numR at h
  split at h
  · cases h
  · rename_i hn
    have hx : x ≠ [] := fun e => hn (.inl (by rw [e]; decide))
    have hl : 1 ≤ x.length := by have : x.length ≠ 0 := fun e => hx (List.length_eq_zero_iff.1 e); omega
    have hu := dec_unique x.length x n rfl hx (by by_cases h1 : x.length = 1; exact .inl h1; exact .inr fun e => hn (.inr (.inr ⟨by omega, e⟩))) h
    refine ⟨hu.symm, by omega, ?_⟩
    have := Go.Lib.decFrom_lt x 0 n h
    have hp : 10 ^ x.length ≤ 10 ^ 9 := Nat.pow_le_pow_right (by decide) (by omega)
    have hp2 : (10 : Nat) ^ 9 = 1000000000 := by decide
    omega
theorem numR_of (n : Nat) : numR (decDigits n) = if n < 1000000000 then some n else none := by
  have hne := decDigits_ne n
  have hl : 1 ≤ (decDigits n).length := by have : (decDigits n).length ≠ 0 := fun e => hne (List.length_eq_zero_iff.1 e); omega
  by_cases h9 : 9 < (decDigits n).length
  · have : numR (decDigits n) = none := if_pos (.inr (.inl h9))
    rw [this, if_neg ?_]
    intro hlt
    rw [Go.Lib.decDigits_length] at h9
    have h1 : ∀ k m, m < 10 ^ (k + 1) → Go.Lib.nDigits m ≤ k + 1 := by
      intro k
      induction k with
      | zero => intro m hm; rw [Go.Lib.nDigits_small (by omega)]; omega
      | succ k ih =>
        intro m hm
        by_cases h10 : m < 10
        · rw [Go.Lib.nDigits_small h10]; omega
        · rw [Go.Lib.nDigits_big h10]
          have := ih (m / 10) (by rw [Nat.pow_succ] at hm; omega)
          omega
    have := h1 8 n (by have hp2 : (10 : Nat) ^ 9 = 1000000000 := (by decide); omega)
    omega
  · have hh : ¬ (1 < (decDigits n).length ∧ (decDigits n).head? = some 48) := by
      rintro ⟨h1, h2⟩
      by_cases h0 : n = 0
      · subst h0
        rw [decDigits, dif_pos (by decide)] at h1
        simp at h1
      · exact decDigits_head n (by omega) h2
    have : numR (decDigits n) = decFrom 0 (decDigits n) := if_neg (by
      rintro (h | h | h)
      · omega
      · exact h9 h
      · exact hh h)
    have h2 := dec_dec n
    rw [this, h2, if_pos ?_]
    exact (numR_dec (this.trans h2)).2.2
theorem numT_numR (x : Tx) : numT x = numR x := by
  cases hr : numR x with
  | some n =>
    obtain ⟨h1, h2, h3⟩ := numR_dec hr
    have hd := dec_dec n
    rw [← h1] at hd
    have hne : x ≠ [] := by rw [h1]; exact decDigits_ne n
    unfold numT
    have ha : atoiAll x = .ok (n : Int) := by
      cases x with
      | nil => exact absurd rfl hne
      | cons c r =>
        have hc : 48 ≤ c.toNat ∧ c.toNat ≤ 57 := by
          by_cases hc : 48 ≤ c.toNat ∧ c.toNat ≤ 57
          · exact hc
          · simp only [decFrom] at hd
            rw [digitVal_none c hc] at hd
            cases hd
        have hp : Go.Lib.parseMag (c :: r) = .ok n := by
          unfold Go.Lib.parseMag
          rw [if_neg (by simp), parse_dec (c :: r) 0 9 (by decide) (by omega), hd]
        unfold atoiAll
        dsimp only
        rw [if_neg (by omega), hp]
        dsimp only
        rw [if_neg (by omega), if_neg (by omega), if_neg (by omega)]
    rw [ha]
    dsimp only
    rw [if_pos ⟨h2, by unfold Go.Lib.itoa; rw [if_neg (by omega)]; simpa using h1, by omega⟩]
    simp
  | none =>
    unfold numT
    split
    · rename_i n ha
      split
      · rename_i h
        obtain ⟨hl, hx, h0⟩ := h
        have hx' : x = decDigits n.toNat := by rw [hx]; unfold Go.Lib.itoa; rw [if_neg (by omega)]
        rw [hx', numR_of] at hr
        split at hr
        · cases hr
        · rename_i hbig
          -- nine digits spell less than a thousand million
          exfalso
          have hd := dec_dec n.toNat
          have := Go.Lib.decFrom_lt _ 0 _ hd
          rw [← hx'] at this
          have hp : 10 ^ x.length ≤ 10 ^ 9 := Nat.pow_le_pow_right (by decide) hl
          have hp2 : (10 : Nat) ^ 9 = 1000000000 := by decide
          omega
      · rfl
    · rfl
end Go.Proofs.YtjmgheogpglpnaaDoor
