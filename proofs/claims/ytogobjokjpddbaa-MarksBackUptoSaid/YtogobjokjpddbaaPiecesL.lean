/-
  The marks of a text: plain facts for the laws that look at them one by one.
-/
import Derived.Test.YtogobjokjpddbaaListM
namespace Go.Proofs.Ytogobjokjpddbaa
open Go.RowKit
set_option linter.unusedVariables false
set_option linter.unusedSimpArgs false
theorem byt_ext {s : ByteArray} {i e j : Nat} (he : e ≤ s.size) (hj : j < e - i) : byt (s.extract i e) j = byt s (i + j) := by
  have h1 : j < (s.extract i e).size := by rw [ByteArray.size_extract]; omega
  have h2 : i + j < s.size := by omega
  unfold byt
  rw [dif_pos h1, dif_pos h2]
  congr 1
  exact ByteArray.getElem_extract ..
theorem run_whole {c : Nat → Nat} {n : Nat} {p : Nat → Bool} {i : Nat} (hi : i ≤ n) (h : ∀ j, i ≤ j → j < n → p (c j) = true) : run c n p i = n := by
  have h1 := run_le c n p hi
  have h2 := run_ge c n p i
  rcases Nat.lt_or_ge (run c n p i) n with hlt | hge
  · have := run_at c n p hlt
    rw [h _ h2 hlt] at this
    cases this
  · omega
theorem inner_in {s : ByteArray} {i j : Nat} (hi : i < s.size) (hk : 1 ≤ kindN (byt s i) ∧ kindN (byt s i) ≤ 3) (h1 : i ≤ j) (h2 : j < mend (byt s) s.size i) : innerN (byt s j) = true := by
  unfold mend at h2
  rw [if_pos hk.2] at h2
  by_cases e : j = i
  · rw [e]; exact (innerN_iff _).2 hk
  · exact run_in (byt s) s.size innerN (i := i + 1) (m := j) (by omega) h2
theorem kd_ext {s : ByteArray} {i : Nat} (hi : i < s.size) (hk : kindN (byt s i) ≠ 0) : kd (s.extract i (mend (byt s) s.size i)) = kindN (byt s i) := by
  have hgt := mend_gt (byt s) s.size i
  have hle := mend_le (byt s) s.size hi
  have hin := fun (hk : 1 ≤ kindN (byt s i) ∧ kindN (byt s i) ≤ 3) (j : Nat) (h1 : i ≤ j) (h2 : j < mend (byt s) s.size i) => inner_in hi hk h1 h2
  have hsg : ¬ kindN (byt s i) ≤ 3 → mend (byt s) s.size i = i + 1 := fun h => by unfold mend; rw [if_neg h]
  generalize mend (byt s) s.size i = e at *
  have hsz : (s.extract i e).size = e - i := by rw [ByteArray.size_extract]; omega
  have hb : ∀ j, j < e - i → byt (s.extract i e) j = byt s (i + j) := fun j hj => byt_ext hle hj
  have h0 := hb 0 (by omega)
  rw [Nat.add_zero] at h0
  unfold kd
  rw [hsz, h0]
  rw [if_pos]
  refine ⟨by omega, ?_⟩
  unfold mend
  rw [h0]
  by_cases h3 : kindN (byt s i) ≤ 3
  · rw [if_pos h3]
    refine run_whole (by omega) fun j h1 h2 => ?_
    rw [hb j h2]
    exact hin ⟨by omega, h3⟩ (i + j) (by omega) (by omega)
  · rw [if_neg h3]
    have := hsg h3
    omega
theorem after_mark {s : ByteArray} {i : Nat} (hi : i < s.size) (hk : kindN (byt s i) ≠ 0) (h1 : innerN (byt s (mend (byt s) s.size i - 1)) = true) : mend (byt s) s.size i < s.size → innerN (byt s (mend (byt s) s.size i)) = false := by
  intro hlt
  unfold mend at *
  by_cases h3 : kindN (byt s i) ≤ 3
  · rw [if_pos h3] at *
    exact run_at (byt s) s.size innerN hlt
  · rw [if_neg h3] at *
    rw [Nat.add_sub_cancel] at h1
    exact absurd ((innerN_iff _).1 h1).2 h3
/-- What stands ahead of the next mark, and the marks from there on. -/
structure Pc (s : ByteArray) (k a : Nat) : Prop where
  good : Good (byt s) s.size a ((ml s).drop k)
  le : a ≤ s.size
  gap : 0 < k → 0 < a ∧ (innerN (byt s (a - 1)) = true → a < s.size → innerN (byt s a) = false)
  last : lastEnd a ((ml s).drop k) = lastEnd 0 (ml s)
theorem Pc.zero (s : ByteArray) : Pc s 0 0 := ⟨ml_good s, Nat.zero_le _, fun h => absurd h (Nat.lt_irrefl _), rfl⟩
theorem Pc.mark {s : ByteArray} {k a : Nat} (h : Pc s k a) {x : Nat × Nat × Nat} (hx : (ml s)[k]? = some x) :
    x.2.1 = run (byt s) s.size blankN a ∧ x.2.1 < s.size ∧ x.1 = kindN (byt s x.2.1) ∧ x.1 ≠ 0 ∧ x.2.2 = mend (byt s) s.size x.2.1 ∧ Pc s (k + 1) x.2.2 := by
  have hlt := (List.getElem?_eq_some_iff.1 hx).1
  have hd : (ml s).drop k = x :: (ml s).drop (k + 1) := by
    rw [List.drop_eq_getElem_cons hlt]
    rw [(List.getElem?_eq_some_iff.1 hx).2]
  have g := h.good
  rw [hd] at g
  obtain ⟨g1, g2, g3, g4, g5, g6⟩ := g
  refine ⟨g1, g2, g3, g4, g5, g6, by rw [g5]; exact mend_le _ _ g2, fun _ => ⟨by rw [g5]; have := mend_gt (byt s) s.size x.2.1; omega, fun hi hlt => ?_⟩, ?_⟩
  · rw [g5] at hi hlt ⊢
    exact after_mark g2 (by rw [← g3]; exact g4) hi hlt
  · have hl := h.last
    rw [hd] at hl
    exact hl
theorem Pc.done {s : ByteArray} {a : Nat} (h : Pc s (ml s).length a) (hst : ¬ stopAt s < s.size) : ∀ m, a ≤ m → m < s.size → blankN (byt s m) = true := by
  have hl := h.last
  rw [List.drop_length] at hl
  have hr := stop_run s
  have hle := stopAt_le s
  intro m h1 h2
  refine run_in (byt s) s.size blankN (i := a) h1 ?_
  rw [show a = lastEnd 0 (ml s) from hl, ← hr]
  omega
end Go.Proofs.Ytogobjokjpddbaa
