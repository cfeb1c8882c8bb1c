/-
  The document's weak form and the program's: alike, or both too big.
-/
import Derived.Test.YtjkfieilaahejaaRAdd14
import Derived.Test.YtjkfieilaahejaaFormMath14
namespace Go.Proofs.Ytjkfieilaahejaa
open Go.RowKit
set_option linter.unusedVariables false
set_option linter.unusedSimpArgs false
theorem chainR_len : ∀ (l : List Sy) (s : Fs) (h : Int), 2 ≤ l.length → (chainR l s h).n + 2 = s.n + l.length ∧ (chainR l s h).ps.length + 1 = s.ps.length + l.length
  | [], s, h, h2 => by simp at h2
  | [x], s, h, h2 => by simp at h2
  | [x, y], s, h, _ => by simp [chainR, addF]
  | x :: y :: z :: l, s, h, _ => by
    have := chainR_len (y :: z :: l) { s with n := s.n + 1, ps := s.ps ++ [(h, [x, (false, (s.n : Int))])] } s.n (by simp)
    simp only [chainR]
    simp only [List.length_cons, List.length_append, List.length_singleton, List.length_nil] at this ⊢
    omega
theorem chain_both : ∀ (l : List Sy) (s : Fs) (h : Int), 2 ≤ l.length → (1024 < (chainF l s h).n → 1024 < (chainR l s h).n) ∧ ((chainF l s h).n ≤ 1024 → chainR l s h = chainF l s h)
  | [], s, h, h2 => by simp at h2
  | [x], s, h, h2 => by simp at h2
  | [x, y], s, h, _ => ⟨id, fun _ => rfl⟩
  | x :: y :: z :: l, s, h, _ => by
    have := chain_both (y :: z :: l) { s with n := s.n + 1, ps := s.ps ++ [(h, [x, (false, (s.n : Int))])] } s.n (by simp)
    have hlen := (chainR_len (y :: z :: l) { s with n := s.n + 1, ps := s.ps ++ [(h, [x, (false, (s.n : Int))])] } s.n (by simp)).1
    simp only [List.length_cons] at hlen
    simp only [chainR, chainF]
    by_cases hc : 1024 ≤ s.n
    · rw [if_pos hc]
      refine ⟨fun _ => by omega, fun h => ?_⟩
      simp only at h
      omega
    · rw [if_neg hc]
      exact this
theorem labsF_two (x : Sy) (m : Int) (s : Fs) (hx : x.1 = false) : labsF [x, (false, m)] s = (s, [x, (false, m)]) := by
  simp [labsF, lab1, hx]
theorem addR_form (s : Fs) (h : Int) (l : List Sy) : (1024 < (formF s h l).n → 1024 < (addR s h l).n) ∧ ((formF s h l).n ≤ 1024 → addR s h l = formF s h l) := by
  unfold formF addR
  by_cases hs : shortB l = true
  · rw [if_pos hs, if_pos hs]
    exact ⟨id, fun _ => rfl⟩
  · rw [if_neg hs, if_neg hs]
    by_cases h1 : l.length = 1
    · rw [if_pos h1, if_pos h1]
      obtain ⟨x, rfl⟩ := List.length_eq_one_iff.1 h1
      have hx : x.1 = false := by simpa [shortB] using hs
      rw [List.singleton_append, labsF_two _ _ _ hx]
      exact ⟨id, fun _ => rfl⟩
    · rw [if_neg h1, if_neg h1]
      have h0 : l.length ≠ 0 := fun e => by
        have : l = [] := List.length_eq_zero_iff.1 e
        subst this
        exact hs rfl
      have hl := labsF_len l s
      have hb := chain_both (labsF l s).2 (labsF l s).1 h (by omega)
      by_cases h2 : 1026 < l.length
      · rw [if_pos h2]
        refine ⟨fun _ => by show 1024 < 1025; omega, fun h4 => ?_⟩
        have h5 := hb.2 h4
        have h6 := (chainR_len (labsF l s).2 (labsF l s).1 h (by omega)).1
        rw [h5] at h6
        omega
      · rw [if_neg h2]
        exact hb
/-- The document's weak form. -/
def ofR : List (Int × List Sy) → Fs → Option Fs
  | [], s => some s
  | p :: ps, s => if 1024 < (addR s p.1 p.2).n then none else ofR ps (addR s p.1 p.2)
theorem ofR_eq : ∀ (l : List (Int × List Sy)) (s : Fs), ofR l s = ofF l s
  | [], s => rfl
  | p :: l, s => by
    have h := addR_form s p.1 p.2
    unfold ofR ofF
    by_cases hc : 1024 < (formF s p.1 p.2).n
    · rw [if_pos hc, if_pos (h.1 hc)]
    · have h2 := h.2 (by omega)
      rw [h2, if_neg hc, if_neg hc]
      exact ofR_eq l _
end Go.Proofs.Ytjkfieilaahejaa
