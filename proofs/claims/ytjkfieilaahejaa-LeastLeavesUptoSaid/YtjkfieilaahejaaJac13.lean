/-
  The document's lengths, level by level: they come to rest, and where they rest they are the least.
-/
import Derived.Test.YtjkfieilaahejaaShort13
namespace Go.Proofs.Ytjkfieilaahejaa
open Go.RowKit
set_option linter.unusedVariables false
set_option linter.unusedSimpArgs false
/-- One level, the first m productions gone over. -/
def nx (s : Nat → Int) (T : List Tr) : Nat → Nat → Int
  | 0 => fun _ => -1
  | m + 1 => match T[m]? with
    | some t => if 0 ≤ long s t.2.2 0 ∧ (nx s T m t.1.toNat < 0 ∨ long s t.2.2 0 < nx s T m t.1.toNat) then updS (nx s T m) t.1.toNat (long s t.2.2 0) else nx s T m
    | none => nx s T m
theorem nx_succ {s : Nat → Int} {T : List Tr} {m : Nat} {t : Tr} (h : T[m]? = some t) : nx s T (m + 1) = if 0 ≤ long s t.2.2 0 ∧ (nx s T m t.1.toNat < 0 ∨ long s t.2.2 0 < nx s T m t.1.toNat) then updS (nx s T m) t.1.toNat (long s t.2.2 0) else nx s T m := by
  conv => lhs; unfold nx
  rw [h]
theorem nx_is (s : Nat → Int) (T : List Tr) : ∀ m, m ≤ T.length → (∀ t ∈ T.take m, lei (nx s T m t.1.toNat) (long s t.2.2 0)) ∧ (∀ h, 0 ≤ nx s T m h → ∃ t ∈ T.take m, t.1.toNat = h ∧ nx s T m h = long s t.2.2 0) ∧ RngS (nx s T m)
  | 0, _ => ⟨fun t ht => by simp at ht, fun h hh => absurd hh (show ¬ (0 : Int) ≤ -1 by decide), fun h => ⟨show (-1 : Int) ≤ -1 by decide, show (-1 : Int) ≤ 65 by decide⟩⟩
  | m + 1, hm => by
    obtain ⟨a, b, c⟩ := nx_is s T m (by omega)
    obtain ⟨t, ht⟩ : ∃ t, T[m]? = some t := ⟨T[m], List.getElem?_eq_getElem hm⟩
    have htk : T.take (m + 1) = T.take m ++ [t] := by
      obtain ⟨h1, h2⟩ := List.getElem?_eq_some_iff.1 ht
      rw [← h2, List.take_succ_eq_append_getElem h1]
    have hmem : ∀ u, u ∈ T.take (m + 1) ↔ u ∈ T.take m ∨ u = t := fun u => by rw [htk]; simp
    have hr := long_rng (s := s) t.2.2 0 (Int.le_refl _) (by decide)
    rw [nx_succ ht]
    by_cases hc : 0 ≤ long s t.2.2 0 ∧ (nx s T m t.1.toNat < 0 ∨ long s t.2.2 0 < nx s T m t.1.toNat)
    · rw [if_pos hc]
      refine ⟨fun u hu => ?_, fun h hh => ?_, fun h => ?_⟩
      · by_cases e : u.1.toNat = t.1.toNat
        · rw [e, show updS (nx s T m) t.1.toNat (long s t.2.2 0) t.1.toNat = long s t.2.2 0 from if_pos rfl]
          rcases (hmem u).1 hu with h1 | h1
          · have := a u h1
            rw [e] at this
            refine lei_trans ?_ this
            unfold lei
            omega
          · rw [h1]; exact lei_refl _
        · rw [show updS (nx s T m) t.1.toNat (long s t.2.2 0) u.1.toNat = nx s T m u.1.toNat from if_neg e]
          rcases (hmem u).1 hu with h1 | h1
          · exact a u h1
          · exact absurd (by rw [h1]) e
      · by_cases e : h = t.1.toNat
        · subst e
          exact ⟨t, (hmem t).2 (.inr rfl), rfl, if_pos rfl⟩
        · rw [show updS (nx s T m) t.1.toNat (long s t.2.2 0) h = nx s T m h from if_neg e] at hh ⊢
          obtain ⟨u, hu, h1, h2⟩ := b h hh
          exact ⟨u, (hmem u).2 (.inl hu), h1, h2⟩
      · unfold updS
        split
        · omega
        · exact c h
    · rw [if_neg hc]
      refine ⟨fun u hu => ?_, fun h hh => ?_, c⟩
      · rcases (hmem u).1 hu with h1 | h1
        · exact a u h1
        · rw [h1]; unfold lei; omega
      · obtain ⟨u, hu, h1, h2⟩ := b h hh
        exact ⟨u, (hmem u).2 (.inl hu), h1, h2⟩
def jac (T : List Tr) : Nat → Nat → Int
  | 0 => fun _ => -1
  | k + 1 => nx (jac T k) T T.length
theorem jac_a (T : List Tr) (k : Nat) : ∀ t ∈ T, lei (jac T (k + 1) t.1.toNat) (long (jac T k) t.2.2 0) := fun t ht => (nx_is (jac T k) T T.length (Nat.le_refl _)).1 t (by rw [List.take_length]; exact ht)
theorem jac_b (T : List Tr) (k : Nat) (h : Nat) (hh : 0 ≤ jac T (k + 1) h) : ∃ t ∈ T, t.1.toNat = h ∧ jac T (k + 1) h = long (jac T k) t.2.2 0 := by
  obtain ⟨t, ht, r⟩ := (nx_is (jac T k) T T.length (Nat.le_refl _)).2.1 h hh
  rw [List.take_length] at ht
  exact ⟨t, ht, r⟩
theorem jac_rng (T : List Tr) : ∀ k, RngS (jac T k)
  | 0 => fun h => ⟨show (-1 : Int) ≤ -1 by decide, show (-1 : Int) ≤ 65 by decide⟩
  | k + 1 => (nx_is (jac T k) T T.length (Nat.le_refl _)).2.2
theorem jac_dec (T : List Tr) : ∀ k h, lei (jac T (k + 1) h) (jac T k h)
  | 0, h => .inl (show (-1 : Int) < 0 by decide)
  | k + 1, h => by
    by_cases hh : 0 ≤ jac T (k + 1) h
    · obtain ⟨t, ht, h1, h2⟩ := jac_b T k h hh
      have := jac_a T (k + 1) t ht
      rw [h1] at this
      rw [h2]
      exact lei_trans this (long_mono (fun x => jac_dec T k x) t.2.2 0 0 (Int.le_refl _) (Int.le_refl _))
    · exact .inl (by omega)
theorem jac_dec2 (T : List Tr) (h i : Nat) : ∀ d, lei (jac T (i + d) h) (jac T i h)
  | 0 => lei_refl _
  | d + 1 => lei_trans (jac_dec T (i + d) h) (jac_dec2 T h i d)
theorem jac_least (T : List Tr) : ∀ k, LeastS T (jac T k)
  | 0 => fun u hu h => .inl (show (-1 : Int) < 0 by decide)
  | k + 1 => fun u hu h => by
    by_cases hh : 0 ≤ jac T (k + 1) h
    · obtain ⟨t, ht, h1, h2⟩ := jac_b T k h hh
      have := hu t ht
      rw [h1] at this
      rw [h2]
      exact lei_trans this (long_mono (fun x => jac_least T k u hu x) t.2.2 0 0 (Int.le_refl _) (Int.le_refl _))
    · exact .inl (by omega)
theorem jac_closed {T : List Tr} {k : Nat} (h : ∀ x, jac T (k + 1) x = jac T k x) : ClosedS T (jac T k) := fun t ht => by
  have := jac_a T k t ht
  rwa [h] at this
theorem jac_out {S : Nat} {T : List Tr} (hok : CnfOK (S : Int) T) {h : Nat} (hS : S ≤ h) : ∀ k, jac T k h = -1
  | 0 => rfl
  | k + 1 => by
    have hr := jac_rng T (k + 1) h
    by_cases hh : 0 ≤ jac T (k + 1) h
    · obtain ⟨t, ht, h1, _⟩ := jac_b T k h hh
      have := (hok.2 t ht).1
      omega
    · omega
theorem long_child {s : Nat → Int} (hs : RngS s) : ∀ (l : List Sy) (n : Int), 0 ≤ n → n ≤ 65 → 0 ≤ long s l n → ∀ x ∈ l, x.1 = false → s x.2.toNat ≤ long s l n
  | [], n, h1, h2, h3, x, hx, _ => absurd hx (List.not_mem_nil)
  | (b, k) :: l, n, h1, h2, h3, x, hx, hx1 => by
    unfold long at h3 ⊢
    cases b with
    | true =>
      rw [if_pos rfl] at h3 ⊢
      have c := cap_rng (x := n + 1) (by omega)
      rcases List.mem_cons.1 hx with rfl | h4
      · cases hx1
      · exact long_child hs l _ c.1 c.2.1 h3 x h4 hx1
    | false =>
      simp only [Bool.false_eq_true, if_false] at h3 ⊢
      by_cases h5 : s k.toNat < 0
      · rw [if_pos h5] at h3; omega
      · rw [if_neg h5] at h3 ⊢
        have c := cap_rng (x := n + s k.toNat) (by omega)
        rcases List.mem_cons.1 hx with rfl | h4
        · have g := cap_ge (x := n + s k.toNat) (n := s k.toNat) (by omega) (hs _).2
          have := (long_rng (s := s) l _ c.1 c.2.1).2.2 h3
          dsimp only
          omega
        · exact long_child hs l _ c.1 c.2.1 h3 x h4 hx1
/-- What changes at a level has in its body what changed at the level before, and is no shorter. -/
theorem chg_step {T : List Tr} {k h : Nat} (hc : jac T (k + 2) h ≠ jac T (k + 1) h) : ∃ x, jac T (k + 1) x ≠ jac T k x ∧ jac T (k + 1) x ≤ jac T (k + 2) h := by
  have hd : lei (jac T (k + 2) h) (jac T (k + 1) h) := jac_dec T (k + 1) h
  have r2 := jac_rng T (k + 2) h
  have r1 := jac_rng T (k + 1) h
  have h2 : 0 ≤ jac T (k + 2) h := by unfold lei at hd; omega
  obtain ⟨t, ht, e1, e2⟩ := jac_b T (k + 1) h h2
  replace e2 : jac T (k + 2) h = long (jac T (k + 1)) t.2.2 0 := e2
  have ha := jac_a T k t ht
  rw [e1] at ha
  refine Classical.byContradiction fun hno => ?_
  have hsame : long (jac T (k + 1)) t.2.2 0 = long (jac T k) t.2.2 0 := long_congr _ _ fun x hx hx1 => by
    refine Classical.byContradiction fun hne => hno ⟨x.2.toNat, hne, ?_⟩
    rw [e2]
    exact long_child (jac_rng T (k + 1)) t.2.2 0 (Int.le_refl _) (by decide) (by omega) x hx hx1
  rw [← hsame, ← e2] at ha
  unfold lei at ha hd
  omega
theorem chg_chain {T : List Tr} : ∀ (k h : Nat), jac T (k + 1) h ≠ jac T k h → ∃ f : Nat → Nat, f k = h ∧ (∀ j, j ≤ k → jac T (j + 1) (f j) ≠ jac T j (f j)) ∧ ∀ j, j < k → jac T (j + 1) (f j) ≤ jac T (j + 2) (f (j + 1))
  | 0, h, hc => ⟨fun _ => h, rfl, fun j hj => by obtain rfl : j = 0 := by omega
                                                 exact hc, fun j hj => absurd hj (Nat.not_lt_zero _)⟩
  | k + 1, h, hc => by
    obtain ⟨x, hx, hv⟩ := chg_step hc
    obtain ⟨f, f1, f2, f3⟩ := chg_chain k x hx
    refine ⟨fun j => if j = k + 1 then h else f j, if_pos rfl, fun j hj => ?_, fun j hj => ?_⟩
    · dsimp only
      by_cases e : j = k + 1
      · subst e; rw [if_pos rfl]; exact hc
      · rw [if_neg e]; exact f2 j (by omega)
    · dsimp only
      rw [if_neg (show ¬ j = k + 1 by omega)]
      by_cases e : j = k
      · subst e; rw [if_pos rfl, f1]; exact hv
      · rw [if_neg (show ¬ j + 1 = k + 1 by omega)]; exact f3 j (by omega)
theorem pigeon : ∀ (S : Nat) (f : Nat → Nat), (∀ i, i ≤ S → f i < S) → ∃ i j, i < j ∧ j ≤ S ∧ f i = f j
  | 0, f, h => absurd (h 0 (Nat.le_refl _)) (Nat.not_lt_zero _)
  | S + 1, f, h => by
    by_cases hx : ∃ i, i ≤ S ∧ f i = f (S + 1)
    · obtain ⟨i, hi, e⟩ := hx
      exact ⟨i, S + 1, by omega, Nat.le_refl _, e⟩
    · obtain ⟨i, j, h1, h2, h3⟩ := pigeon S (fun i => if f (S + 1) < f i then f i - 1 else f i) fun i hi => by
        have a := h i (by omega)
        have b := h (S + 1) (Nat.le_refl _)
        have c : f i ≠ f (S + 1) := fun e => hx ⟨i, hi, e⟩
        split <;> omega
      have ci : f i ≠ f (S + 1) := fun e => hx ⟨i, by omega, e⟩
      have cj : f j ≠ f (S + 1) := fun e => hx ⟨j, by omega, e⟩
      refine ⟨i, j, h1, by omega, ?_⟩
      split at h3 <;> split at h3 <;> omega
theorem chain_mono {T : List Tr} {f : Nat → Nat} {k : Nat} (h : ∀ j, j < k → jac T (j + 1) (f j) ≤ jac T (j + 2) (f (j + 1))) (i : Nat) : ∀ d, i + d ≤ k → jac T (i + 1) (f i) ≤ jac T (i + d + 1) (f (i + d))
  | 0, _ => Int.le_refl _
  | d + 1, hd => Int.le_trans (chain_mono h i d (by omega)) (h (i + d) (by omega))
/-- At the level of the nonterminals' count nothing changes any more. -/
theorem jac_rest {S : Nat} {T : List Tr} (hok : CnfOK (S : Int) T) (h : Nat) : jac T (S + 1) h = jac T S h := by
  refine Classical.byContradiction fun hc => ?_
  obtain ⟨f, f1, f2, f3⟩ := chg_chain S h hc
  have hlt : ∀ i, i ≤ S → f i < S := fun i hi => Classical.byContradiction fun hge => f2 i hi (by rw [jac_out hok (by omega) (i + 1), jac_out hok (by omega) i])
  obtain ⟨i, j, h1, h2, h3⟩ := pigeon S f hlt
  have hm := chain_mono f3 i (j - i) (by omega)
  rw [show i + (j - i) = j by omega, ← h3] at hm
  have d1 := jac_dec T j (f i)
  have d2 := jac_dec2 T (f i) (i + 1) (j - (i + 1))
  rw [show i + 1 + (j - (i + 1)) = j by omega] at d2
  have n1 := f2 j h2
  rw [← h3] at n1
  have n2 := f2 i (by omega)
  have d3 := jac_dec T i (f i)
  have r := jac_rng T j (f i)
  have r1 := jac_rng T (j + 1) (f i)
  have r2 := jac_rng T (i + 1) (f i)
  have r3 := jac_rng T i (f i)
  unfold lei at d1 d2 d3
  omega
/-- Two vectors that are closed and least are one. -/
theorem sh_uniq {T : List Tr} {s s' : Nat → Int} (c : ClosedS T s) (l : LeastS T s) (g : RngS s) (c' : ClosedS T s') (l' : LeastS T s') (g' : RngS s') (h : Nat) : s h = s' h := by
  have a := l' s c h
  have b := l s' c' h
  have := g h
  have := g' h
  unfold lei at a b
  omega
end Go.Proofs.Ytjkfieilaahejaa
