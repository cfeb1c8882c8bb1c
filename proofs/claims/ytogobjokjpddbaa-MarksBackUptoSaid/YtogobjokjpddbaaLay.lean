/-
  A text laid out of marks with blanks between: its marks are these.
-/
import Derived.Test.YtogobjokjpddbaaPiecesL
namespace Go.Proofs.Ytogobjokjpddbaa
open Go.RowKit
set_option linter.unusedVariables false
set_option linter.unusedSimpArgs false
theorem byt_left {A B : ByteArray} {m : Nat} (h : m < A.size) : byt (A ++ B) m = byt A m := by
  unfold byt
  have h1 : m < (A ++ B).size := by rw [ByteArray.size_append]; omega
  rw [dif_pos h1, dif_pos h, ByteArray.getElem_append_left h]
theorem byt_right {A B : ByteArray} {m : Nat} : byt (A ++ B) (A.size + m) = byt B m := by
  unfold byt
  by_cases h : m < B.size
  · have h1 : A.size + m < (A ++ B).size := by rw [ByteArray.size_append]; omega
    rw [dif_pos h1, dif_pos h, ByteArray.getElem_append_right (by omega)]
    congr 2
    omega
  · have h1 : ¬ A.size + m < (A ++ B).size := by rw [ByteArray.size_append]; omega
    rw [dif_neg h1, dif_neg h]
theorem blank_inner {c : Nat} (h : blankN c = true) : innerN c = false := by
  cases hi : innerN c
  · rfl
  · have := (innerN_iff c).1 hi
    rw [blank_kind c h] at this
    omega
theorem kd_facts {t : ByteArray} (h : kd t ≠ 0) : 0 < t.size ∧ kd t = kindN (byt t 0) ∧ blankN (byt t 0) = false ∧ (kindN (byt t 0) ≤ 3 → ∀ j, j < t.size → innerN (byt t j) = true) ∧ (¬ kindN (byt t 0) ≤ 3 → t.size = 1) := by
  unfold kd at *
  split at h
  · rename_i h0
    rw [if_pos h0]
    refine ⟨h0.1, rfl, ?_, fun h3 j hj => ?_, fun h3 => ?_⟩
    · cases hb : blankN (byt t 0)
      · rfl
      · exact absurd (blank_kind _ hb) h
    · exact inner_in (s := t) (i := 0) h0.1 ⟨by omega, h3⟩ (Nat.zero_le _) (by rw [h0.2]; exact hj)
    · have := h0.2
      unfold mend at this
      rw [if_neg h3] at this
      omega
  · exact absurd rfl h
theorem cut_piece {S t : ByteArray} {a g : Nat} (hle : a + g + t.size ≤ S.size) (hb : ∀ m, a ≤ m → m < a + g → blankN (byt S m) = true) (ht : ∀ j, j < t.size → byt S (a + g + j) = byt t j) (hk : kd t ≠ 0)
    (haft : a + g + t.size < S.size → blankN (byt S (a + g + t.size)) = true) :
    cut (byt S) S.size a = ((kd t, a + g, a + g + t.size) :: (cut (byt S) S.size (a + g + t.size)).1, (cut (byt S) S.size (a + g + t.size)).2) := by
  obtain ⟨k1, k2, k3, k4, k5⟩ := kd_facts hk
  have h0 := ht 0 k1
  rw [Nat.add_zero] at h0
  have hrun : run (byt S) S.size blankN a = a + g := by
    have hge := run_ge (byt S) S.size blankN a
    have hl := run_le (byt S) S.size blankN (i := a) (by omega)
    rcases Nat.lt_trichotomy (run (byt S) S.size blankN a) (a + g) with hlt | he | hgt
    · have h1 := run_at (byt S) S.size blankN (i := a) (by omega)
      rw [hb _ hge hlt] at h1
      cases h1
    · exact he
    · have h1 := run_in (byt S) S.size blankN (i := a) (m := a + g) (by omega) hgt
      rw [h0, k3] at h1
      cases h1
  have hm : mend (byt S) S.size (a + g) = a + g + t.size := by
    unfold mend
    rw [h0]
    by_cases h3 : kindN (byt t 0) ≤ 3
    · rw [if_pos h3]
      have hin : ∀ m, a + g + 1 ≤ m → m < a + g + t.size → innerN (byt S m) = true := fun m h1 h2 => by
        have := ht (m - (a + g)) (by omega)
        rw [show a + g + (m - (a + g)) = m by omega] at this
        rw [this]
        exact k4 h3 _ (by omega)
      have hge := run_ge (byt S) S.size innerN (a + g + 1)
      have hl := run_le (byt S) S.size innerN (i := a + g + 1) (by omega)
      rcases Nat.lt_trichotomy (run (byt S) S.size innerN (a + g + 1)) (a + g + t.size) with hlt | he | hgt
      · have h1 := run_at (byt S) S.size innerN (i := a + g + 1) (by omega)
        rw [hin _ hge hlt] at h1
        cases h1
      · exact he
      · have h1 := run_in (byt S) S.size innerN (i := a + g + 1) (m := a + g + t.size) (by omega) hgt
        rw [blank_inner (haft (by omega))] at h1
        cases h1
    · rw [if_neg h3]
      have := k5 h3
      omega
  rw [cut_skip (byt S) S.size a _ rfl, hrun, cut_mark (byt S) S.size (by omega) (by rw [h0, ← k2]; exact hk), hm, h0, k2]
def lay (gap t : Nat → ByteArray) : Nat → ByteArray
  | 0 => ⟨#[]⟩
  | k + 1 => lay gap t k ++ gap k ++ t k
theorem lay_succ (gap t : Nat → ByteArray) (k : Nat) : lay gap t (k + 1) = lay gap t k ++ gap k ++ t k := rfl
theorem lay_size (gap t : Nat → ByteArray) (k : Nat) : (lay gap t (k + 1)).size = (lay gap t k).size + (gap k).size + (t k).size := by rw [lay_succ, ByteArray.size_append, ByteArray.size_append]
theorem app_none (A : ByteArray) : A = A ++ ⟨#[]⟩ := by
  apply ByteArray.ext
  simp [ByteArray.data_append]
theorem lay_prefix (gap t : Nat → ByteArray) (k : Nat) : ∀ n, k ≤ n → ∃ r, lay gap t n = lay gap t k ++ r
  | 0, h => by rw [Nat.le_zero.1 h]; exact ⟨⟨#[]⟩, app_none _⟩
  | n + 1, h => by
    by_cases e : k = n + 1
    · subst e; exact ⟨⟨#[]⟩, app_none _⟩
    · obtain ⟨r, hr⟩ := lay_prefix gap t k n (by omega)
      exact ⟨r ++ gap n ++ t n, by rw [lay_succ, hr]; simp [ByteArray.append_assoc]⟩
structure Good2 (n : Nat) (gap t : Nat → ByteArray) : Prop where
  blank : ∀ k, k < n → ∀ m, m < (gap k).size → blankN (byt (gap k) m) = true
  some : ∀ k, k < n → 0 < k → 0 < (gap k).size
  mark : ∀ k, k < n → kd (t k) ≠ 0
def lm (gap t : Nat → ByteArray) (j : Nat) : Nat × Nat × Nat := (kd (t j), (lay gap t j).size + (gap j).size, (lay gap t (j + 1)).size)
theorem lay_at {gap t : Nat → ByteArray} {n k : Nat} (hk : k < n) : (∀ m, m < (gap k).size → byt (lay gap t n) ((lay gap t k).size + m) = byt (gap k) m) ∧
    (∀ j, j < (t k).size → byt (lay gap t n) ((lay gap t k).size + (gap k).size + j) = byt (t k) j) ∧ (lay gap t (k + 1)).size ≤ (lay gap t n).size := by
  obtain ⟨r, hr⟩ := lay_prefix gap t (k + 1) n hk
  refine ⟨fun m hm => ?_, fun j hj => ?_, ?_⟩
  · rw [hr, byt_left (by rw [lay_size]; omega), lay_succ, byt_left (by rw [ByteArray.size_append]; omega), byt_right]
  · rw [hr, byt_left (by rw [lay_size]; omega), lay_succ, ← ByteArray.size_append, byt_right]
  · rw [hr, ByteArray.size_append]; omega
theorem cut_lay {gap t : Nat → ByteArray} {n : Nat} (G : Good2 n gap t) : ∀ d k, n - k = d → k ≤ n →
    cut (byt (lay gap t n)) (lay gap t n).size (lay gap t k).size = ((List.range' k d).map (lm gap t), (lay gap t n).size)
  | 0, k, hd, hk => by
    have e : k = n := by omega
    subst e
    rw [cut_end _ _ (Nat.le_refl _)]
    rfl
  | d + 1, k, hd, hk => by
    have ih := cut_lay G d (k + 1) (by omega) (by omega)
    have hkn : k < n := by omega
    obtain ⟨l1, l2, l3⟩ := lay_at (gap := gap) (t := t) hkn
    have hsz := lay_size gap t k
    rw [cut_piece (S := lay gap t n) (t := t k) (a := (lay gap t k).size) (g := (gap k).size) (by omega)
      (fun m h1 h2 => by
        have := l1 (m - (lay gap t k).size) (by omega)
        rw [show (lay gap t k).size + (m - (lay gap t k).size) = m by omega] at this
        rw [this]
        exact G.blank k hkn _ (by omega))
      l2 (G.mark k hkn)
      (fun h => by
        have hk1 : k + 1 < n := by
          rcases Nat.lt_or_ge (k + 1) n with h' | h'
          · exact h'
          · have e : n = k + 1 := by omega
            subst e
            omega
        have hg := G.some (k + 1) hk1 (by omega)
        have := (lay_at (gap := gap) (t := t) hk1).1 0 hg
        rw [Nat.add_zero, lay_size] at this
        rw [this]
        exact G.blank (k + 1) hk1 0 hg)]
    rw [← hsz, ih, List.range'_succ, List.map_cons]
    unfold lm
    rw [hsz]
theorem ml_lay {gap t : Nat → ByteArray} {n : Nat} (G : Good2 n gap t) : ml (lay gap t n) = (List.range n).map (lm gap t) ∧ stopAt (lay gap t n) = (lay gap t n).size := by
  have h := cut_lay G n 0 (by omega) (Nat.zero_le _)
  have h0 : (lay gap t 0).size = 0 := rfl
  rw [h0] at h
  unfold ml stopAt
  rw [h, List.range_eq_range']
  exact ⟨rfl, rfl⟩
theorem ext_mid (A B C : ByteArray) : (A ++ B ++ C).extract A.size (A.size + B.size) = B := by
  apply ByteArray.ext
  apply Array.toList_inj.1
  have e1 : A.data.size = A.size := rfl
  have e2 : B.data.size = B.size := rfl
  have l1 : A.data.toList.length = A.size := by simp
  have l2 : B.data.toList.length = B.size := by simp
  simp only [ByteArray.data_extract, ByteArray.data_append, Array.toList_extract, List.extract_eq_take_drop, Array.toList_append]
  rw [List.append_assoc, List.drop_append, List.drop_eq_nil_of_le (by omega), List.nil_append, l1, Nat.sub_self, List.drop_zero, Nat.add_sub_cancel_left, List.take_append, List.take_of_length_le (by omega), l2, Nat.sub_self]
  simp
theorem lay_ext {gap t : Nat → ByteArray} {n k : Nat} (hk : k < n) : (lay gap t n).extract (lm gap t k).2.1 (lm gap t k).2.2 = t k := by
  obtain ⟨r, hr⟩ := lay_prefix gap t (k + 1) n hk
  have := ext_mid (lay gap t k ++ gap k) (t k) r
  rw [ByteArray.size_append] at this
  unfold lm
  rw [hr, lay_succ]
  dsimp only
  rw [ByteArray.size_append, ByteArray.size_append]
  exact this
end Go.Proofs.Ytogobjokjpddbaa
