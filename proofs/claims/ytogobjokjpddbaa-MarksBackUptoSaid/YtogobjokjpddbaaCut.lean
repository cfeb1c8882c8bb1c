/-
  The marks of a text, by its bytes: plain facts.
-/
import Derived.Test.YtogobjokjpddbaaByte
namespace Go.Proofs.Ytogobjokjpddbaa
open Go.RowKit
set_option linter.unusedVariables false
set_option linter.unusedSimpArgs false
/-- The byte of a text at a place, as a number; 0 behind its end. -/
def byt (s : ByteArray) (k : Nat) : Nat := if h : k < s.size then s[k].toNat else 0
theorem byt_eq {s : ByteArray} {k : Nat} (h : k < s.size) : s[k].toNat = byt s k := by unfold byt; rw [dif_pos h]
theorem byt_lt (s : ByteArray) (k : Nat) : byt s k < 256 := by
  unfold byt; split
  · exact UInt8.toNat_lt _
  · decide
section
variable (c : Nat → Nat) (n : Nat)
/-- The first place from i on where p does not hold, at most so far. -/
def runF (p : Nat → Bool) : Nat → Nat → Nat
  | 0, i => i
  | f + 1, i => if p (c i) = true then runF p f (i + 1) else i
def run (p : Nat → Bool) (i : Nat) : Nat := runF c p (n - i) i
theorem run_step {p : Nat → Bool} {i : Nat} (h : i < n) (hp : p (c i) = true) : run c n p i = run c n p (i + 1) := by
  unfold run
  rw [show n - i = (n - (i + 1)) + 1 by omega]
  simp only [runF, hp, if_true]
theorem run_stop {p : Nat → Bool} {i : Nat} (hp : p (c i) = false) : run c n p i = i := by
  unfold run
  cases n - i with
  | zero => rfl
  | succ f => simp [runF, hp]
theorem run_end {p : Nat → Bool} {i : Nat} (h : n ≤ i) : run c n p i = i := by
  unfold run; rw [show n - i = 0 by omega]; rfl
theorem run_all (p : Nat → Bool) : ∀ f i, n - i = f → i ≤ run c n p i ∧ (i ≤ n → run c n p i ≤ n) ∧ (run c n p i < n → p (c (run c n p i)) = false) ∧ ∀ m, i ≤ m → m < run c n p i → p (c m) = true
  | 0, i, h => by
    rw [run_end c n (by omega)]
    exact ⟨by omega, fun h => h, fun _ => by omega, fun m _ _ => by omega⟩
  | f + 1, i, h => by
    cases hp : p (c i)
    · rw [run_stop c n hp]
      exact ⟨by omega, fun h => h, fun _ => hp, fun m _ _ => by omega⟩
    · rw [run_step c n (by omega) hp]
      obtain ⟨h1, h2, h3, h4⟩ := run_all p f (i + 1) (by omega)
      refine ⟨by omega, fun _ => h2 (by omega), h3, fun m a b => ?_⟩
      by_cases e : m = i
      · rw [e]; exact hp
      · exact h4 m (by omega) b
theorem run_ge (p : Nat → Bool) (i : Nat) : i ≤ run c n p i := (run_all c n p _ i rfl).1
theorem run_le (p : Nat → Bool) {i : Nat} (h : i ≤ n) : run c n p i ≤ n := (run_all c n p _ i rfl).2.1 h
theorem run_at (p : Nat → Bool) {i : Nat} (h : run c n p i < n) : p (c (run c n p i)) = false := (run_all c n p _ i rfl).2.2.1 h
theorem run_in (p : Nat → Bool) {i m : Nat} (h : i ≤ m) (h' : m < run c n p i) : p (c m) = true := (run_all c n p _ i rfl).2.2.2 m h h'
theorem run_mid (p : Nat → Bool) {i m : Nat} (h : i ≤ m) (h' : m ≤ run c n p i) (hn : m ≤ n) : run c n p m = run c n p i := by
  induction m with
  | zero => rw [show i = 0 by omega]
  | succ m ih =>
    by_cases e : i = m + 1
    · rw [e]
    · rw [← ih (by omega) (by omega) (by omega)]
      exact (run_step c n (by omega) (run_in c n p (i := i) (m := m) (by omega) (by omega))).symm
/-- Where the mark that begins at i ends. -/
def mend (i : Nat) : Nat := if kindN (c i) ≤ 3 then run c n innerN (i + 1) else i + 1
theorem mend_gt (i : Nat) : i < mend c n i := by unfold mend; split; exact run_ge c n innerN (i + 1); omega
theorem mend_le {i : Nat} (h : i < n) : mend c n i ≤ n := by unfold mend; split; exact run_le c n innerN h; omega
/-- The marks from i on (kind, place, end), and the place of the first byte that begins none (the end). -/
def cutF : Nat → Nat → List (Nat × Nat × Nat) × Nat
  | 0, _ => ([], n)
  | f + 1, i => if i < n then
      if blankN (c i) = true then cutF f (i + 1)
      else if kindN (c i) = 0 then ([], i)
      else ((kindN (c i), i, mend c n i) :: (cutF f (mend c n i)).1, (cutF f (mend c n i)).2)
    else ([], n)
theorem cutF_same : ∀ f g i, n - i < f → n - i < g → cutF c n f i = cutF c n g i
  | 0, g, i, h, _ => absurd h (Nat.not_lt_zero _)
  | f + 1, 0, i, _, h => absurd h (Nat.not_lt_zero _)
  | f + 1, g + 1, i, hf, hg => by
    by_cases hi : i < n
    · have := mend_gt c n i
      simp only [cutF]
      rw [cutF_same f g (i + 1) (by omega) (by omega), cutF_same f g (mend c n i) (by omega) (by omega)]
    · simp only [cutF, if_neg hi]
def cut (i : Nat) : List (Nat × Nat × Nat) × Nat := cutF c n (n - i + 1) i
theorem cut_end {i : Nat} (h : n ≤ i) : cut c n i = ([], n) := by unfold cut; simp only [cutF]; rw [if_neg (by omega)]
theorem cut_blank {i : Nat} (h : i < n) (hb : blankN (c i) = true) : cut c n i = cut c n (i + 1) := by
  unfold cut
  rw [show n - i + 1 = (n - (i + 1) + 1) + 1 by omega]
  conv => lhs; unfold cutF
  rw [if_pos h, if_pos hb]
theorem cut_none {i : Nat} (h : i < n) (hb : kindN (c i) = 0) (hn : blankN (c i) = false) : cut c n i = ([], i) := by
  unfold cut; simp only [cutF]; rw [if_pos h, if_neg (by simp [hn]), if_pos hb]
theorem cut_mark {i : Nat} (h : i < n) (hk : kindN (c i) ≠ 0) : cut c n i = ((kindN (c i), i, mend c n i) :: (cut c n (mend c n i)).1, (cut c n (mend c n i)).2) := by
  have hb : ¬ blankN (c i) = true := fun hb => hk (blank_kind _ hb)
  have := mend_gt c n i
  unfold cut
  conv => lhs; unfold cutF
  rw [if_pos h, if_neg hb, if_neg hk, cutF_same c n (n - i) (n - mend c n i + 1) _ (by omega) (by omega)]
theorem cut_skip (i : Nat) : ∀ f, n - i = f → cut c n i = cut c n (run c n blankN i) := by
  intro f
  induction f generalizing i with
  | zero => intro h; rw [run_end c n (by omega)]
  | succ f ih =>
    intro h
    cases hb : blankN (c i)
    · rw [run_stop c n hb]
    · rw [run_step c n (by omega) hb, cut_blank c n (by omega) hb]; exact ih (i + 1) (by omega)
/-- Where the last mark ends. -/
def lastEnd (i : Nat) : List (Nat × Nat × Nat) → Nat
  | [] => i
  | x :: l => lastEnd x.2.2 l
/-- Facts on the marks from i on, by their list. -/
def Good (i : Nat) : List (Nat × Nat × Nat) → Prop
  | [] => True
  | x :: l => x.2.1 = run c n blankN i ∧ x.2.1 < n ∧ x.1 = kindN (c x.2.1) ∧ x.1 ≠ 0 ∧ x.2.2 = mend c n x.2.1 ∧ Good x.2.2 l
theorem cut_facts : ∀ f i, i ≤ n → n - i = f → Good c n i (cut c n i).1 ∧ (cut c n i).2 = run c n blankN (lastEnd i (cut c n i).1) ∧ (cut c n i).2 ≤ n ∧ ((cut c n i).2 < n → kindN (c (cut c n i).2) = 0) ∧ (cut c n i).1.length ≤ f := by
  intro f
  induction f using Nat.strongRecOn with
  | _ f ih =>
    intro i hi h
    have hs := cut_skip c n i _ rfl
    have hg := run_ge c n blankN i
    have hl := run_le c n blankN hi
    have hat := run_at c n blankN (i := i)
    have hself : run c n blankN (run c n blankN i) = run c n blankN i := run_mid c n blankN hg (Nat.le_refl _) hl
    rw [hs]
    generalize hj : run c n blankN i = j at *
    by_cases hjn : j < n
    · have hb := hat hjn
      by_cases hk : kindN (c j) = 0
      · rw [cut_none c n hjn hk hb]
        exact ⟨trivial, by simp [lastEnd, hj], by simp; omega, fun _ => hk, Nat.zero_le _⟩
      · have hm := mend_gt c n j
        have hm' := mend_le c n hjn
        obtain ⟨a1, a2, a3, a4, a5⟩ := ih (n - mend c n j) (by omega) (mend c n j) hm' rfl
        rw [cut_mark c n hjn hk]
        refine ⟨⟨hj.symm, hjn, rfl, hk, rfl, a1⟩, a2, a3, a4, ?_⟩
        simp only [List.length_cons]
        omega
    · rw [cut_end c n (by omega)]
      exact ⟨trivial, by simp [lastEnd, hj]; omega, by simp, fun h => absurd h (by simp), Nat.zero_le _⟩
end
end Go.Proofs.Ytogobjokjpddbaa
