/-
  Sorted productions, each once: what they are.
-/
import Derived.Test.YtjkfieilaahejaaCSort
import Derived.Test.YtjkfieilaahejaaPlain
namespace Go.Proofs.Ytjkfieilaahejaa
open Go.RowKit
set_option linter.unusedVariables false
set_option linter.unusedSimpArgs false
abbrev Pd := Int × List Sy
/-- In their order, each once. -/
def Up (l : List Pd) : Prop := l.Pairwise fun x y => ordP x y < 0
theorem up_same : ∀ {l r : List Pd}, Up l → Up r → (∀ x, x ∈ l ↔ x ∈ r) → l = r
  | [], [], _, _, _ => rfl
  | [], y :: r, _, _, h => by have := (h y).2 (by simp); simp at this
  | x :: l, [], _, _, h => by have := (h x).1 (by simp); simp at this
  | x :: l, y :: r, hl, hr, h => by
    have hl' := List.pairwise_cons.1 hl
    have hr' := List.pairwise_cons.1 hr
    have exy : x = y := by
      have h1 := (h x).1 (by simp)
      have h2 := (h y).2 (by simp)
      rcases List.mem_cons.1 h1 with e | h1
      · exact e
      · rcases List.mem_cons.1 h2 with e | h2
        · exact e.symm
        · have a := hr'.1 x h1
          have b := hl'.1 y h2
          have c := (tot_ordP.turn x y).1 b
          omega
    subst exy
    have key : ∀ z, z ∈ l ↔ z ∈ r := fun z => by
      have hz := h z
      simp only [List.mem_cons] at hz
      constructor
      · intro hm
        rcases hz.1 (.inr hm) with e | e
        · subst e; have := hl'.1 z hm; have := tot_ordP.same z; omega
        · exact e
      · intro hm
        rcases hz.2 (.inr hm) with e | e
        · subst e; have := hr'.1 z hm; have := tot_ordP.same z; omega
        · exact e
    rw [up_same hl'.2 hr'.2 key]
theorem tot_le_lt {x y z : Pd} (h1 : ordP x y ≤ 0) (h2 : ordP y z < 0) : ordP x z < 0 := by
  have h3 := tot_ordP.le x y z h1 (by omega)
  have h4 : ¬ ordP x z = 0 := fun h => by
    have := ordP_zero h
    subst this
    have := (tot_ordP.turn y x).1 h2
    omega
  omega
theorem dd_up {T : List Tr} (h : T.Pairwise (fun x y => ordP (pl x) (pl y) ≤ 0)) : ∀ (m : Nat), m ≤ T.length →
    (dd T m).Pairwise (fun x y => ordP (pl x) (pl y) < 0) ∧ (0 < m → (∀ x ∈ dd T m, ordP (pl x) (pl (tAt T (m - 1))) ≤ 0)) ∧ ∀ x, x ∈ (dd T m).map pl ↔ x ∈ (T.take m).map pl
  | 0, _ => ⟨by simp [dd], fun h => by omega, fun x => by simp [dd]⟩
  | m + 1, hm => by
    obtain ⟨h1, h2, h3⟩ := dd_up h m (by omega)
    have htk : T.take (m + 1) = T.take m ++ [tAt T m] := by
      rw [List.take_succ_eq_append_getElem (by omega)]
      simp [tAt, List.getD, List.getElem?_eq_getElem (show m < T.length by omega)]
    rw [dd_succ, htk]
    cases hk : keepAt T m with
    | true =>
      simp only [if_true]
      have hlt : ∀ x ∈ dd T m, ordP (pl x) (pl (tAt T m)) < 0 := by
        intro x hx
        rcases Nat.eq_zero_or_pos m with h0 | h0
        · subst h0; simp [dd] at hx
        · have a := h2 h0 x hx
          have b : ordP (pl (tAt T (m - 1))) (pl (tAt T m)) ≤ 0 := by
            have := List.pairwise_iff_getElem.1 h (m - 1) m (by omega) (by omega) (by omega)
            simpa [tAt, List.getD, List.getElem?_eq_getElem (show m < T.length by omega), List.getElem?_eq_getElem (show m - 1 < T.length by omega)] using this
          have c : ¬ ordP (pl (tAt T m)) (pl (tAt T (m - 1))) = 0 := by
            unfold keepAt at hk
            have : ¬ m = 0 := by omega
            simpa [this] using hk
          have d : ¬ ordP (pl (tAt T (m - 1))) (pl (tAt T m)) = 0 := fun e => by
            have := ordP_zero e
            rw [this] at c
            exact c (tot_ordP.same _)
          exact tot_le_lt a (by omega)
      refine ⟨List.pairwise_append.2 ⟨h1, by simp, fun x hx y hy => ?_⟩, fun _ x hx => ?_, fun x => ?_⟩
      · rw [List.mem_singleton.1 hy]; exact hlt x hx
      · rw [Nat.add_sub_cancel]
        rcases List.mem_append.1 hx with h4 | h4
        · have := hlt x h4; omega
        · rw [List.mem_singleton.1 h4]; have := tot_ordP.same (pl (tAt T m)); omega
      · rw [List.map_append, List.map_append, List.mem_append, List.mem_append, h3]
    | false =>
      have h0 : ¬ m = 0 := fun e => by subst e; simp [keepAt] at hk
      have e1 : pl (tAt T m) = pl (tAt T (m - 1)) := by
        unfold keepAt at hk
        have : ordP (pl (tAt T m)) (pl (tAt T (m - 1))) = 0 := by simpa [h0] using hk
        exact ordP_zero this
      simp only [Bool.false_eq_true, if_false, List.append_nil]
      refine ⟨h1, fun _ x hx => ?_, fun x => ?_⟩
      · rw [Nat.add_sub_cancel, e1]; exact h2 (by omega) x hx
      · rw [h3, List.map_append, List.mem_append]
        constructor
        · exact .inl
        · rintro (h4 | h4)
          · exact h4
          · rw [List.map_singleton, List.mem_singleton] at h4
            subst h4
            rw [e1]
            refine List.mem_map_of_mem (List.mem_of_getElem? (i := m - 1) ?_)
            rw [List.getElem?_take_of_lt (by omega)]
            exact tAt_get (by omega)
/-- What the sorted list with each once is: rising, of the same productions. -/
theorem canon {T1 T2 : List Tr} (h : SortOf T1 T2) : Up ((dd T2 T2.length).map pl) ∧ (∀ x, x ∈ (dd T2 T2.length).map pl ↔ x ∈ T1.map pl) ∧ (dd T2 T2.length).length ≤ T1.length := by
  obtain ⟨h1, _, h3⟩ := dd_up h.2 T2.length (Nat.le_refl _)
  refine ⟨List.pairwise_map.2 h1, fun x => ?_, ?_⟩
  · rw [h3, List.take_length]
    exact (h.1.map pl).mem_iff
  · rw [← h.1.length_eq]; exact dd_len _ _
theorem fits_le {T R : List Tr} (hl : R.length ≤ T.length) (h : ∀ t ∈ R, ∃ u ∈ T, u.2.2.length = t.2.2.length) (hf : Fits T) : Fits R :=
  fits_of (by have := hf.1.1; omega) fun t ht => by obtain ⟨u, hu, e⟩ := h t ht; rw [← e]; exact hf.1.2 u hu
theorem ok_le {S : Int} {T R : List Tr} (h : ∀ t ∈ R, ∃ u ∈ T, u.1 = t.1 ∧ ∀ s ∈ t.2.2, s ∈ u.2.2) (hT : CnfOK S T) : CnfOK S R := by
  refine ⟨hT.1, fun t ht => ?_⟩
  obtain ⟨u, hu, e, hs⟩ := h t ht
  have := hT.2 u hu
  exact ⟨e ▸ this.1, fun s h => this.2 s (hs s h)⟩
theorem mem_of_pl {T R : List Tr} (h : ∀ x ∈ R.map pl, x ∈ T.map pl) {t : Tr} (ht : t ∈ R) : ∃ u ∈ T, u.1 = t.1 ∧ u.2.2 = t.2.2 := by
  obtain ⟨u, hu, e⟩ := List.mem_map.1 (h _ (List.mem_map_of_mem ht))
  exact ⟨u, hu, show (pl u).1 = (pl t).1 by rw [e], show (pl u).2 = (pl t).2 by rw [e]⟩
theorem mem_rev {T T' : List Tr} (h : T'.map pl = T.map (fun t => (t.1, t.2.2.reverse))) {t : Tr} (ht : t ∈ T') : ∃ u ∈ T, u.1 = t.1 ∧ t.2.2 = u.2.2.reverse := by
  have : pl t ∈ T'.map pl := List.mem_map_of_mem ht
  rw [h] at this
  obtain ⟨u, hu, e⟩ := List.mem_map.1 this
  exact ⟨u, hu, show ((u.1, u.2.2.reverse) : Pd).1 = (pl t).1 by rw [e], show (pl t).2 = ((u.1, u.2.2.reverse) : Pd).2 by rw [e]⟩
theorem rev_rev {T T1 T2 : List Tr} (h1 : T1.map pl = T.map (fun t => (t.1, t.2.2.reverse))) (h2 : T2.map pl = T1.map (fun t => (t.1, t.2.2.reverse))) : T2.map pl = T.map pl := by
  have e : T1.map (fun t => ((t.1, t.2.2.reverse) : Pd)) = (T1.map pl).map (fun p => (p.1, p.2.reverse)) := by rw [List.map_map]; rfl
  rw [h2, e, h1, List.map_map]
  congr 1
  funext t
  simp [pl]
end Go.Proofs.Ytjkfieilaahejaa
