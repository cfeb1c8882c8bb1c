/-
  Behind Without no nonterminal is empty, and the other shortest lengths stay.
-/
import Derived.Test.YtjkfieilaahejaaWithout13
import Derived.Test.YtjkfieilaahejaaLeastMath13
namespace Go.Proofs.Ytjkfieilaahejaa
set_option linter.unusedVariables false
set_option linter.unusedSimpArgs false
theorem cap_id {n : Int} (h : n ≤ 65) : cap n = n := by unfold cap; split <;> omega
theorem drop_long {s : Nat → Int} {E : Nat → Bool} (hE : ∀ k, E k = true → s k = 0) {l x : List Sy} (h : Drop E l x) : ∀ n : Int, 0 ≤ n → n ≤ 65 → long s x n = long s l n := by
  induction h with
  | nil => intro n _ _; rfl
  | @stay y l x h ih =>
    intro n h1 h2
    unfold long
    split
    · exact ih _ (cap_rng (by omega)).1 (cap_rng (by omega)).2.1
    · split
      · rfl
      · exact ih _ (cap_rng (by omega)).1 (cap_rng (by omega)).2.1
  | @go y l x hg h ih =>
    intro n h1 h2
    obtain ⟨b, k⟩ := y
    unfold goS at hg
    simp only [Bool.and_eq_true, Bool.not_eq_true'] at hg
    have := hE _ hg.2
    rw [ih n h1 h2]
    conv => rhs; unfold long
    rw [if_neg (by simp [hg.1]), if_neg (by dsimp only; omega)]
    rw [show n + s (b, k).2.toNat = n by dsimp only at *; omega, cap_id h2]
def strip (E : Nat → Bool) (l : List Sy) : List Sy := l.filter fun y => !goS E y
theorem strip_drop (E : Nat → Bool) : ∀ l : List Sy, Drop E l (strip E l)
  | [] => .nil
  | y :: l => by
    unfold strip
    rw [List.filter_cons]
    by_cases h : goS E y = true
    · rw [if_neg (by simp [h])]
      exact .go h (strip_drop E l)
    · rw [if_pos (by simpa using h)]
      exact .stay (strip_drop E l)
def uF (s t : Nat → Int) (k : Nat) : Int := if s k = 0 then 0 else t k
theorem leaves {T R : List Tr} {E : Nat → Bool} {s t : Nat → Int} (hE : ∀ k, E k = true ↔ s k = 0) (hR : ∀ x, x ∈ R.map pl ↔ x ∈ outT E T) (sc : ClosedS T s) (sl : LeastS T s) (tc : ClosedS R t) (tl : LeastS R t) (n : Nat) : (0 < s n → t n = s n) ∧ (s n < 0 → t n < 0) := by
  have hA : lei (s n) (t n) := tl s (fun r hr => by
    obtain ⟨u, hu, e1, _, hd⟩ := outT_mem.1 ((hR (pl r)).1 (List.mem_map_of_mem hr))
    have := sc u hu
    rw [← drop_long (fun k h => (hE k).1 h) hd 0 (by decide) (by decide)] at this
    simp only [pl] at e1 this
    rw [e1]
    exact this) n
  have hB : lei (uF s t n) (s n) := sl (uF s t) (fun u hu => by
    by_cases h0 : s u.1.toNat = 0
    · rw [show uF s t u.1.toNat = 0 from if_pos h0]
      have := (long_rng (s := uF s t) u.2.2 0 (by decide) (by decide)).1
      unfold lei
      omega
    · rw [show uF s t u.1.toNat = t u.1.toNat from if_neg h0]
      have hd := strip_drop E u.2.2
      by_cases hx : strip E u.2.2 = []
      · have hz : long s u.2.2 0 = 0 := by
          rw [← drop_long (fun k h => (hE k).1 h) hd 0 (by decide) (by decide), hx]
          rfl
        have := sc u hu
        rw [hz] at this
        unfold lei at this
        omega
      · obtain ⟨r, hr, e⟩ := List.mem_map.1 ((hR (u.1, strip E u.2.2)).2 (outT_mem.2 ⟨u, hu, rfl, hx, hd⟩))
        have := tc r hr
        simp only [pl, Prod.mk.injEq] at e
        rw [e.1, e.2] at this
        rw [← drop_long (s := uF s t) (fun k h => if_pos ((hE k).1 h)) hd 0 (by decide) (by decide)]
        rw [long_congr (s' := uF s t) (strip E u.2.2) 0 fun y hy hb => by
          have hg : goS E y = false := by simpa [strip] using (List.mem_filter.1 hy).2
          have : ¬ s y.2.toNat = 0 := fun h => by
            have := (hE y.2.toNat).2 h
            simp [goS, hb, this] at hg
          exact (if_neg this).symm] at this
        exact this) n
  unfold lei at hA hB
  unfold uF at hB
  constructor
  · intro h
    rw [if_neg (by omega)] at hB
    omega
  · intro h
    omega
theorem noempty {T R : List Tr} {E E' : Nat → Bool} (hR : ∀ x, x ∈ R.map pl ↔ x ∈ outT E T) (hl : LeastG goodE R E') (n : Nat) : E' n = false := by
  cases h : E' n with
  | false => rfl
  | true =>
    have := hl (fun _ => false) (fun r hr ha => by
      obtain ⟨u, hu, _, e2, _⟩ := outT_mem.1 ((hR (pl r)).1 (List.mem_map_of_mem hr))
      simp only [pl] at e2
      cases hx : r.2.2 with
      | nil => exact absurd hx e2
      | cons y l =>
        rw [hx] at ha
        simp [goodE] at ha) n h
    exact this.symm
end Go.Proofs.Ytjkfieilaahejaa
