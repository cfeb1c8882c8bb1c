/-
  Shortest words, empty, fruitful nonterminals: vectors that are closed under the productions, and the least of them.
-/
import Derived.Test.YteojbnkjphghkaaDoorCheckC
namespace Go.Proofs.YteojbnkjphghkaaDoor
open Go.RowKit
set_option linter.unusedVariables false
set_option linter.unusedSimpArgs false
def cap (x : Int) : Int := if 65 < x then 65 else x
theorem cap_rng {x : Int} (h : 0 ≤ x) : 0 ≤ cap x ∧ cap x ≤ 65 ∧ cap x ≤ x := by unfold cap; split <;> omega
theorem cap_mono {x y : Int} (h : x ≤ y) : cap x ≤ cap y := by unfold cap; split <;> split <;> omega
theorem cap_ge {x n : Int} (h : n ≤ x) (h1 : n ≤ 65) : n ≤ cap x := by unfold cap; split <;> omega
/-- How long a body is, n ahead of it; -1: a nonterminal of it has no length. -/
def long (s : Nat → Int) : List Sy → Int → Int
  | [], n => n
  | x :: l, n => if x.1 then long s l (cap (n + 1)) else if s x.2.toNat < 0 then -1 else long s l (cap (n + s x.2.toNat))
/-- a is at most b, where what is below 0 is beyond all. -/
def lei (a b : Int) : Prop := b < 0 ∨ (0 ≤ a ∧ a ≤ b)
theorem long_mono {s s' : Nat → Int} (h : ∀ k, lei (s' k) (s k)) : ∀ (l : List Sy) (n n' : Int), 0 ≤ n' → n' ≤ n → lei (long s' l n') (long s l n)
  | [], n, n', h1, h2 => .inr ⟨h1, h2⟩
  | (b, k) :: l, n, n', h1, h2 => by
    unfold long
    cases b with
    | true => exact long_mono h l _ _ (cap_rng (by omega)).1 (cap_mono (by omega))
    | false =>
      simp only [Bool.false_eq_true, if_false]
      rcases h k.toNat with h3 | ⟨h3, h4⟩
      · rw [if_pos h3]; exact .inl (by decide)
      · rw [if_neg (show ¬ s' k.toNat < 0 by omega), if_neg (show ¬ s k.toNat < 0 by omega)]
        exact long_mono h l _ _ (cap_rng (by omega)).1 (cap_mono (by omega))
theorem long_rng {s : Nat → Int} : ∀ (l : List Sy) (n : Int), 0 ≤ n → n ≤ 65 → -1 ≤ long s l n ∧ long s l n ≤ 65 ∧ (0 ≤ long s l n → n ≤ long s l n)
  | [], n, h1, h2 => ⟨by unfold long; omega, by unfold long; omega, fun _ => by unfold long; omega⟩
  | (b, k) :: l, n, h1, h2 => by
    unfold long
    cases b with
    | true =>
      rw [if_pos rfl]
      have c := cap_rng (x := n + 1) (by omega)
      have g := cap_ge (x := n + 1) (n := n) (by omega) h2
      obtain ⟨a1, a2, a3⟩ := long_rng (s := s) l (cap (n + 1)) c.1 c.2.1
      exact ⟨a1, a2, fun h => by have := a3 h; omega⟩
    | false =>
      simp only [Bool.false_eq_true, if_false]
      by_cases hs : s k.toNat < 0
      · rw [if_pos hs]; exact ⟨by omega, by omega, fun h => by omega⟩
      · rw [if_neg hs]
        have c := cap_rng (x := n + s k.toNat) (by omega)
        have g := cap_ge (x := n + s k.toNat) (n := n) (by omega) h2
        obtain ⟨a1, a2, a3⟩ := long_rng (s := s) l (cap (n + s k.toNat)) c.1 c.2.1
        exact ⟨a1, a2, fun h => by have := a3 h; omega⟩
theorem long_all {s : Nat → Int} : ∀ (l : List Sy) (n : Int), 0 ≤ n → (0 ≤ long s l n ↔ ∀ x ∈ l, x.1 = true ∨ 0 ≤ s x.2.toNat)
  | [], n, h1 => ⟨fun _ x hx => absurd hx (List.not_mem_nil), fun _ => h1⟩
  | (b, k) :: l, n, h1 => by
    unfold long
    cases b with
    | true =>
      rw [if_pos rfl, long_all l _ (cap_rng (by omega)).1]
      exact ⟨fun h x hx => (List.mem_cons.1 hx).elim (fun e => .inl (by rw [e])) (h x), fun h x hx => h x (List.mem_cons_of_mem _ hx)⟩
    | false =>
      simp only [Bool.false_eq_true, if_false]
      by_cases hs : s k.toNat < 0
      · rw [if_pos hs]
        exact ⟨fun h => by omega, fun h => (h (false, k) (List.mem_cons_self ..)).elim (fun h2 => by cases h2) (fun h2 => by dsimp only at h2; omega)⟩
      · rw [if_neg hs, long_all l _ (cap_rng (by omega)).1]
        exact ⟨fun h x hx => (List.mem_cons.1 hx).elim (fun e => .inr (by rw [e]; dsimp only; omega)) (h x), fun h x hx => h x (List.mem_cons_of_mem _ hx)⟩
theorem long_pos {s : Nat → Int} : ∀ (l : List Sy) (n : Int), 0 ≤ n → n ≤ 65 → (∃ x ∈ l, x.1 = true ∨ 1 ≤ s x.2.toNat) → 0 ≤ long s l n → 1 ≤ long s l n
  | [], n, h1, h2, h3, _ => by obtain ⟨x, hx, _⟩ := h3; cases hx
  | (b, k) :: l, n, h1, h2, h3, h4 => by
    unfold long at h4 ⊢
    cases b with
    | true =>
      rw [if_pos rfl] at h4 ⊢
      have c := cap_rng (x := n + 1) (by omega)
      have g := cap_ge (x := n + 1) (n := 1) (by omega) (by omega)
      have := (long_rng (s := s) l (cap (n + 1)) c.1 c.2.1).2.2 h4
      omega
    | false =>
      simp only [Bool.false_eq_true, if_false] at h4 ⊢
      by_cases hs : s k.toNat < 0
      · rw [if_pos hs] at h4; omega
      · rw [if_neg hs] at h4 ⊢
        have c := cap_rng (x := n + s k.toNat) (by omega)
        by_cases hk : 1 ≤ s k.toNat
        · have g := cap_ge (x := n + s k.toNat) (n := 1) (by omega) (by omega)
          have := (long_rng (s := s) l _ c.1 c.2.1).2.2 h4
          omega
        · refine long_pos l _ c.1 c.2.1 ?_ h4
          obtain ⟨x, hx, h5⟩ := h3
          rcases List.mem_cons.1 hx with rfl | h6
          · rcases h5 with h5 | h5
            · cases h5
            · exact absurd h5 hk
          · exact ⟨x, h6, h5⟩
theorem long_zero {s : Nat → Int} : ∀ l : List Sy, (∀ x ∈ l, x.1 = false ∧ s x.2.toNat = 0) → long s l 0 = 0
  | [], _ => rfl
  | (b, k) :: l, h => by
    obtain ⟨h1, h2⟩ := h (b, k) (List.mem_cons_self ..)
    dsimp only at h1 h2
    subst h1
    unfold long
    rw [if_neg (by simp), h2, if_neg (by decide)]
    exact long_zero l fun x hx => h x (List.mem_cons_of_mem _ hx)
theorem long_congr {s s' : Nat → Int} : ∀ (l : List Sy) (n : Int), (∀ x ∈ l, x.1 = false → s x.2.toNat = s' x.2.toNat) → long s l n = long s' l n
  | [], _, _ => rfl
  | (b, k) :: l, n, h => by
    unfold long
    cases b with
    | true => exact long_congr l _ fun x hx => h x (List.mem_cons_of_mem _ hx)
    | false =>
      have := h (false, k) (List.mem_cons_self ..) rfl
      dsimp only at this ⊢
      rw [this]
      simp only [Bool.false_eq_true, if_false]
      split
      · rfl
      · exact long_congr l _ fun x hx => h x (List.mem_cons_of_mem _ hx)
/-- Each production's head is at most as long as its body. -/
def ClosedS (T : List Tr) (s : Nat → Int) : Prop := ∀ t ∈ T, lei (s t.1.toNat) (long s t.2.2 0)
/-- Each length is that of a body. -/
def ReachS (T : List Tr) (s : Nat → Int) : Prop := ∀ h, 0 ≤ s h → ∃ t ∈ T, t.1.toNat = h ∧ 0 ≤ long s t.2.2 0 ∧ long s t.2.2 0 ≤ s h
def LeastS (T : List Tr) (s : Nat → Int) : Prop := ∀ u, ClosedS T u → ∀ h, lei (u h) (s h)
def RngS (s : Nat → Int) : Prop := ∀ h, -1 ≤ s h ∧ s h ≤ 65
def updS (s : Nat → Int) (h : Nat) (n : Int) : Nat → Int := fun k => if k = h then n else s k
theorem lei_refl (a : Int) : lei a a := by unfold lei; omega
theorem lei_trans {a b c : Int} (h : lei a b) (k : lei b c) : lei a c := by unfold lei at *; omega
theorem stepS {T : List Tr} {s : Nat → Int} {t : Tr} (ht : t ∈ T) (hr : ReachS T s) (hl : LeastS T s) (hg : RngS s) (h0 : 0 ≤ long s t.2.2 0) (h1 : ¬ (0 ≤ s t.1.toNat ∧ s t.1.toNat ≤ long s t.2.2 0)) :
    ReachS T (updS s t.1.toNat (long s t.2.2 0)) ∧ LeastS T (updS s t.1.toNat (long s t.2.2 0)) ∧ RngS (updS s t.1.toNat (long s t.2.2 0)) := by
  have hm : ∀ k, lei (updS s t.1.toNat (long s t.2.2 0) k) (s k) := fun k => by
    unfold updS lei
    split
    · rename_i e; subst e; omega
    · omega
  refine ⟨fun h hh => ?_, fun u hu h => ?_, fun h => ?_⟩
  · by_cases e : h = t.1.toNat
    · subst e
      have := long_mono hm t.2.2 0 0 (Int.le_refl _) (Int.le_refl _)
      refine ⟨t, ht, rfl, ?_, ?_⟩
      · unfold lei at this; omega
      · show _ ≤ updS s t.1.toNat (long s t.2.2 0) t.1.toNat
        rw [show updS s t.1.toNat (long s t.2.2 0) t.1.toNat = long s t.2.2 0 from if_pos rfl]
        unfold lei at this; omega
    · rw [show updS s t.1.toNat (long s t.2.2 0) h = s h from if_neg e] at hh ⊢
      obtain ⟨v, hv, h2, h3, h4⟩ := hr h hh
      have := long_mono hm v.2.2 0 0 (Int.le_refl _) (Int.le_refl _)
      refine ⟨v, hv, h2, ?_, ?_⟩ <;> (unfold lei at this; omega)
  · by_cases e : h = t.1.toNat
    · subst e
      rw [show updS s t.1.toNat (long s t.2.2 0) t.1.toNat = long s t.2.2 0 from if_pos rfl]
      exact lei_trans (hu t ht) (long_mono (hl u hu) t.2.2 0 0 (Int.le_refl _) (Int.le_refl _))
    · rw [show updS s t.1.toNat (long s t.2.2 0) h = s h from if_neg e]
      exact hl u hu h
  · unfold updS
    split
    · have := long_rng (s := s) t.2.2 0 (Int.le_refl _) (by decide); omega
    · exact hg h
/-- A body is good, if all its symbols are. -/
def goodE (is : Nat → Bool) (x : Sy) : Bool := !x.1 && is x.2.toNat
def goodF (is : Nat → Bool) (x : Sy) : Bool := x.1 || is x.2.toNat
def ClosedG (good : (Nat → Bool) → Sy → Bool) (T : List Tr) (E : Nat → Bool) : Prop := ∀ t ∈ T, t.2.2.all (good E) = true → E t.1.toNat = true
def LeastG (good : (Nat → Bool) → Sy → Bool) (T : List Tr) (E : Nat → Bool) : Prop := ∀ C, ClosedG good T C → ∀ h, E h = true → C h = true
def MonoG (good : (Nat → Bool) → Sy → Bool) : Prop := ∀ E C : Nat → Bool, (∀ h, E h = true → C h = true) → ∀ x, good E x = true → good C x = true
theorem monoE : MonoG goodE := fun E C h x hx => by
  unfold goodE at *
  simp only [Bool.and_eq_true] at *
  exact ⟨hx.1, h _ hx.2⟩
theorem monoF : MonoG goodF := fun E C h x hx => by
  unfold goodF at *
  simp only [Bool.or_eq_true] at *
  exact hx.imp id (h _)
def updG (E : Nat → Bool) (h : Nat) (b : Bool) : Nat → Bool := fun k => if k = h then b else E k
theorem stepG {good : (Nat → Bool) → Sy → Bool} (hm : MonoG good) {T : List Tr} {E : Nat → Bool} {t : Tr} (ht : t ∈ T) (hl : LeastG good T E) (hb : t.2.2.all (good E) = true) : LeastG good T (updG E t.1.toNat true) := fun C hC h hh => by
  unfold updG at hh
  split at hh
  · rename_i e
    subst e
    refine hC t ht ?_
    rw [List.all_eq_true] at hb ⊢
    exact fun x hx => hm E C (hl C hC) x (hb x hx)
  · exact hl C hC h hh
/-- What can be empty is what has the length 0. -/
theorem empty_iff {T : List Tr} {s : Nat → Int} {E : Nat → Bool} (hc : ClosedS T s) (hl : LeastS T s) (ec : ClosedG goodE T E) (el : LeastG goodE T E) (h : Nat) : E h = true ↔ s h = 0 := by
  constructor
  · intro hE
    have := el (fun k => s k == 0) (fun t ht hb => by
      rw [List.all_eq_true] at hb
      have hz := long_zero (s := s) t.2.2 fun x hx => by
        have := hb x hx
        unfold goodE at this
        simpa using this
      have := hc t ht
      rw [hz] at this
      unfold lei at this
      simp
      omega) h hE
    simpa using this
  · intro hs
    have hu : ClosedS T (fun k => if E k then 0 else if s k = 0 then 1 else s k) := fun t ht => by
      by_cases hlong : long (fun k => if E k then 0 else if s k = 0 then 1 else s k) t.2.2 0 < 0
      · exact .inl hlong
      · refine .inr ?_
        have hle : ∀ k, lei (s k) ((fun k => if E k then 0 else if s k = 0 then 1 else s k) k) := fun k => by
          dsimp only
          unfold lei
          split
          · rename_i hE
            have := el (fun k => s k == 0) (fun t ht hb => by
              rw [List.all_eq_true] at hb
              have hz := long_zero (s := s) t.2.2 fun x hx => by
                have := hb x hx
                unfold goodE at this
                simpa using this
              have := hc t ht
              rw [hz] at this
              unfold lei at this
              simp
              omega) k hE
            simp at this
            omega
          · split <;> omega
        have hmn := long_mono hle t.2.2 0 0 (Int.le_refl _) (Int.le_refl _)
        have hct := hc t ht
        dsimp only
        by_cases hE : E t.1.toNat = true
        · rw [if_pos hE]; omega
        · rw [if_neg hE]
          have hnb : ¬ t.2.2.all (goodE E) = true := fun e => hE (ec t ht e)
          have h1 : 1 ≤ long (fun k => if E k then 0 else if s k = 0 then 1 else s k) t.2.2 0 := by
            refine long_pos t.2.2 0 (Int.le_refl _) (by decide) ?_ (by omega)
            rw [List.all_eq_true] at hnb
            have ha := (long_all (s := fun k => if E k then 0 else if s k = 0 then 1 else s k) t.2.2 0 (Int.le_refl _)).1 (by omega)
            refine Classical.byContradiction fun hno => hnb fun x hx => ?_
            have h2 : ¬ (x.1 = true ∨ 1 ≤ (fun k => if E k then (0 : Int) else if s k = 0 then 1 else s k) x.2.toNat) := fun e => hno ⟨x, hx, e⟩
            have h3 := ha x hx
            unfold goodE
            cases h4 : x.1 with
            | true => exact absurd (.inl h4) h2
            | false =>
              rw [h4] at h2 h3
              dsimp only at h2 h3
              by_cases h5 : E x.2.toNat = true
              · rw [h5]; rfl
              · rw [if_neg h5] at h2 h3
                exfalso
                split at h2 <;> simp at h2 h3 <;> omega
          unfold lei at hct hmn
          split <;> omega
    have := hl _ hu h
    rw [hs] at this
    unfold lei at this
    by_cases hE : E h = true
    · exact hE
    · rw [if_neg hE] at this
      simp at this
/-- What is fruitful is what has a length. -/
theorem fruit_iff {T : List Tr} {s : Nat → Int} {E : Nat → Bool} (hc : ClosedS T s) (hl : LeastS T s) (ec : ClosedG goodF T E) (el : LeastG goodF T E) (h : Nat) : E h = true ↔ 0 ≤ s h := by
  constructor
  · intro hE
    have := el (fun k => decide (0 ≤ s k)) (fun t ht hb => by
      rw [List.all_eq_true] at hb
      have hz := (long_all (s := s) t.2.2 0 (Int.le_refl _)).2 fun x hx => by
        have := hb x hx
        unfold goodF at this
        simpa using this
      have := hc t ht
      unfold lei at this
      simp
      omega) h hE
    simpa using this
  · intro hs
    have hu : ClosedS T (fun k => if E k then s k else -1) := fun t ht => by
      by_cases hlong : long (fun k => if E k then s k else -1) t.2.2 0 < 0
      · exact .inl hlong
      · refine .inr ?_
        have ha := (long_all (s := fun k => if E k then s k else -1) t.2.2 0 (Int.le_refl _)).1 (by omega)
        have hx : ∀ x ∈ t.2.2, x.1 = true ∨ E x.2.toNat = true := fun x hx => by
          rcases ha x hx with h1 | h1
          · exact .inl h1
          · refine .inr (Classical.byContradiction fun h2 => ?_)
            rw [if_neg h2] at h1
            omega
        have hEt : E t.1.toNat = true := ec t ht (by
          rw [List.all_eq_true]
          intro x hx2
          unfold goodF
          rw [Bool.or_eq_true]
          exact hx x hx2)
        have he : long (fun k => if E k then s k else -1) t.2.2 0 = long s t.2.2 0 := long_congr _ _ fun x hx2 h1 => by
          rcases hx x hx2 with h3 | h3
          · rw [h1] at h3; cases h3
          · rw [if_pos h3]
        have := hc t ht
        rw [he] at hlong ⊢
        dsimp only
        rw [if_pos hEt]
        unfold lei at this
        omega
    have := hl _ hu h
    unfold lei at this
    by_cases hE : E h = true
    · exact hE
    · rw [if_neg hE] at this; omega
/-- Where the productions are closed, a length that is there is just that of a body. -/
theorem reach_eq {T : List Tr} {s : Nat → Int} (hc : ClosedS T s) (hr : ReachS T s) {h : Nat} (hh : 0 ≤ s h) : ∃ t ∈ T, t.1.toNat = h ∧ long s t.2.2 0 = s h := by
  obtain ⟨t, ht, h1, h2, h3⟩ := hr h hh
  have := hc t ht
  rw [h1] at this
  unfold lei at this
  exact ⟨t, ht, h1, by omega⟩
end Go.Proofs.YteojbnkjphghkaaDoor
