/-
  What a command is written as, as a pure function; a line that is read is written again.
-/
import Derived.Test.YtjmgheogpglpnaaDoorWrite30
import Derived.Test.YtjmgheogpglpnaaDoorRParse30
namespace Go.Proofs.YtjmgheogpglpnaaDoor
open Go.RowKit
set_option linter.unusedVariables false
set_option linter.unusedSimpArgs false
/-- The words behind the verb's. -/
def tailF (v : Nat) (c : CI) : List Tx := if v ≤ 2 then [c.text] else if v = 5 then hwT c.how :: c.names else if v = 7 then c.names ++ c.nums.map Lib.itoa else c.names
def writeF (c : CI) : Tx := if 1 ≤ c.v ∧ c.v ≤ 10 then joinW (wordV c.v.toNat :: tailF c.v.toNat c) else []
theorem how_word {x : Tx} {h : Nat} (hx : howOf x = some h) : hwT (h : Int) = x := by
  unfold howOf at hx
  split at hx
  · rename_i hm
    have hm' : x = [] ∨ x = tMatrix ∨ x = tTensor ∨ x = tGll := by simpa [hows] using hm
    rcases hm' with rfl | rfl | rfl | rfl <;> (injection hx with hx; subst hx; decide)
  · cases hx
theorem num_word {x : Tx} {n : Nat} (hx : numT x = some n) : Lib.itoa (n : Int) = x := by
  rw [numT_numR] at hx
  rw [(numR_dec hx).1]
  simp [Lib.itoa]
theorem line_text {l x0 y : Tx} {xs : List Tx} (h : splitW l = x0 :: y :: xs) : joinW [x0, l.drop (x0.length + 1)] = l := by
  rcases blank_cases l with hn | ⟨a, b, rfl, ha⟩
  · rw [splitW_no hn] at h; cases h
  · rw [splitW_yes ha] at h
    injection h with h1 h2
    subst h1
    simp [joinW]
theorem run_nil {xs : List Tx} {c d : Cm} (h : runL [] xs c = some d) : xs = [] ∧ d = c := by
  cases xs with
  | nil => simp only [runL, Option.some.injEq] at h; exact ⟨rfl, h.symm⟩
  | cons a b => simp [runL] at h
theorem run_cons {t : Lt} {ts : List Lt} {xs : List Tx} {c d : Cm} (h : runL (t :: ts) xs c = some d) : ∃ x ys c', xs = x :: ys ∧ stepL t x c = some c' ∧ runL ts ys c' = some d := by
  cases xs with
  | nil => simp [runL] at h
  | cons x ys =>
    unfold runL at h
    cases hs : stepL t x c with
    | none => rw [hs] at h; cases h
    | some c' => rw [hs] at h; exact ⟨x, ys, c', rfl, hs, h⟩
theorem step_n {x : Tx} {c d : Cm} (h : stepL .n x c = some d) : d = { c with names := c.names ++ [x] } := by
  unfold stepL at h
  split at h
  · cases h
  · exact (Option.some.inj h).symm
theorem step_k {x : Tx} {c d : Cm} (h : stepL .k x c = some d) : ∃ n : Nat, Lib.itoa (n : Int) = x ∧ d = { c with nums := c.nums ++ [n] } := by
  unfold stepL at h
  split at h
  · cases h
  · dsimp only at h
    split at h
    · cases h
    · rename_i n hn
      exact ⟨n, num_word hn, (Option.some.inj h).symm⟩
theorem step_h {x : Tx} {c d : Cm} (h : stepL .h x c = some d) : ∃ n : Nat, hwT (n : Int) = x ∧ d = { c with how := n } := by
  unfold stepL at h
  split at h
  · cases h
  · dsimp only at h
    split at h
    · cases h
    · rename_i n hn
      exact ⟨n, how_word hn, (Option.some.inj h).symm⟩
theorem line_words {v : Nat} (h3 : 3 ≤ v) {xs : List Tx} {c : Cm} (h : runL (formV v) xs { cm0 with v := v } = some c) : c.v = v ∧ tailF v (upC c) = xs := by
  unfold formV at h
  unfold tailF
  rw [if_neg (by omega)]
  by_cases e3 : v = 3
  · subst e3
    rw [if_pos rfl] at h
    obtain ⟨a, ys, c1, rfl, s1, h⟩ := run_cons h
    obtain ⟨rfl, rfl⟩ := run_nil h
    rw [step_n s1]
    exact ⟨rfl, rfl⟩
  rw [if_neg e3] at h
  by_cases e4 : v = 4 ∨ v = 6
  · rw [if_pos e4] at h
    obtain ⟨a1, ys, c1, rfl, s1, h⟩ := run_cons h
    obtain ⟨a2, ys, c2, rfl, s2, h⟩ := run_cons h
    obtain ⟨a3, ys, c3, rfl, s3, h⟩ := run_cons h
    obtain ⟨rfl, rfl⟩ := run_nil h
    rw [step_n s3, step_n s2, step_n s1, if_neg (by omega), if_neg (by omega)]
    exact ⟨rfl, rfl⟩
  rw [if_neg e4] at h
  by_cases e5 : v = 5
  · subst e5
    rw [if_pos rfl] at h
    obtain ⟨a1, ys, c1, rfl, s1, h⟩ := run_cons h
    obtain ⟨a2, ys, c2, rfl, s2, h⟩ := run_cons h
    obtain ⟨rfl, rfl⟩ := run_nil h
    obtain ⟨n, hn, e⟩ := step_h s1
    rw [step_n s2, e, if_pos rfl]
    refine ⟨rfl, ?_⟩
    show hwT (n : Int) :: [a2] = _
    rw [hn]
  rw [if_neg e5] at h ⊢
  by_cases e7 : v = 7
  · subst e7
    rw [if_pos rfl] at h
    obtain ⟨a1, ys, c1, rfl, s1, h⟩ := run_cons h
    obtain ⟨a2, ys, c2, rfl, s2, h⟩ := run_cons h
    obtain ⟨a3, ys, c3, rfl, s3, h⟩ := run_cons h
    obtain ⟨a4, ys, c4, rfl, s4, h⟩ := run_cons h
    obtain ⟨a5, ys, c5, rfl, s5, h⟩ := run_cons h
    obtain ⟨rfl, rfl⟩ := run_nil h
    obtain ⟨n4, hn4, q4⟩ := step_k s4
    obtain ⟨n5, hn5, q5⟩ := step_k s5
    rw [q5, q4, step_n s3, step_n s2, step_n s1, if_pos rfl]
    refine ⟨rfl, ?_⟩
    show [a1, a2, a3] ++ [Lib.itoa (n4 : Int), Lib.itoa (n5 : Int)] = _
    rw [hn4, hn5]
    rfl
  rw [if_neg e7] at h ⊢
  obtain ⟨rfl, rfl⟩ := run_nil h
  exact ⟨rfl, rfl⟩
/-- A line that is read is written again. -/
theorem write_again {l : Tx} {c : Cm} (h : parseF l = .inr c) : writeF (upC c) = l := by
  rw [parse_ref] at h
  obtain ⟨x0, xs, hsp⟩ : ∃ x0 xs, splitW l = x0 :: xs := by
    cases h : splitW l with
    | nil => exact absurd h (splitW_ne l)
    | cons a b => exact ⟨a, b, rfl⟩
  rw [refF_cons hsp] at h
  have hv10 := verbOf_le x0
  unfold refV at h
  by_cases h0 : verbOf x0 = 0
  · rw [if_pos h0] at h; cases h
  rw [if_neg h0] at h
  have hw := (word_verb x0 h0).2.2
  obtain ⟨v, hv⟩ : ∃ v, v = verbOf x0 := ⟨_, rfl⟩
  rw [← hv] at h hw h0 hv10
  by_cases h2 : v ≤ 2
  · rw [if_pos h2] at h
    cases xs with
    | nil => rw [if_pos rfl] at h; cases h
    | cons y ys =>
      rw [if_neg (by simp)] at h
      injection h with h
      subst h
      unfold writeF
      rw [if_pos (by show (1 : Int) ≤ (v : Int) ∧ (v : Int) ≤ 10; omega)]
      show joinW (wordV v :: tailF v _) = l
      unfold tailF
      rw [if_pos h2, hw]
      exact line_text hsp
  · rw [if_neg h2] at h
    split at h
    · cases h
    · rename_i c' hc
      injection h with h
      subst h
      obtain ⟨e1, e2⟩ := line_words (by omega) hc
      unfold writeF
      rw [if_pos (by show (1 : Int) ≤ (c'.v : Int) ∧ (c'.v : Int) ≤ 10; omega)]
      show joinW (wordV c'.v :: tailF c'.v _) = l
      rw [e1, e2, hw, ← hsp]
      exact join_split l
end Go.Proofs.YtjmgheogpglpnaaDoor
