/-
  What one step or more lead to: mathematics.
-/
import Derived.Test.YtjolkhiggcmoiaaGreatDoorQPRows
namespace Go.Proofs.YtjolkhiggcmoiaaGreatDoor
open Go.RowKit Go.Shelf
set_option linter.unusedVariables false
set_option linter.unusedSimpArgs false
/-- One step or more: the least that has the steps and goes on. -/
def TC (M : Nat → Nat → Bool) (i j : Nat) : Prop := ∀ R : Nat → Nat → Prop, (∀ a b, M a b = true → R a b) → (∀ a b c, R a b → R b c → R a c) → R i j
theorem TC.one {M : Nat → Nat → Bool} {i j : Nat} (h : M i j = true) : TC M i j := fun R h1 _ => h1 _ _ h
theorem TC.trans {M : Nat → Nat → Bool} {i k j : Nat} (h : TC M i k) (h2 : TC M k j) : TC M i j := fun R h1 h3 => h3 _ _ _ (h R h1 h3) (h2 R h1 h3)
theorem TC.least {M : Nat → Nat → Bool} {i j : Nat} {R : Nat → Nat → Prop} (h : TC M i j) (h1 : ∀ a b, M a b = true → R a b) (h2 : ∀ a b c, R a b → R b c → R a c) : R i j := h R h1 h2
theorem TC.mono {M N : Nat → Nat → Bool} {i j : Nat} (h : TC M i j) (hs : ∀ a b, M a b = true → N a b = true) : TC N i j := h.least (fun a b h => .one (hs a b h)) fun a b c h1 h2 => h1.trans h2
theorem TC.last {M : Nat → Nat → Bool} {i j : Nat} (h : TC M i j) : M i j = true ∨ ∃ k, TC M i k ∧ M k j = true :=
  (h.least (R := fun a b => TC M a b ∧ (M a b = true ∨ ∃ k, TC M a k ∧ M k b = true)) (fun a b h => ⟨.one h, .inl h⟩) fun a b c h1 h2 => ⟨h1.1.trans h2.1, by
    rcases h2.2 with h | ⟨k, hk, h⟩
    · exact .inr ⟨b, h1.1, h⟩
    · exact .inr ⟨k, h1.1.trans hk, h⟩⟩).2
theorem TC.first {M : Nat → Nat → Bool} {i j : Nat} (h : TC M i j) : M i j = true ∨ ∃ k, M i k = true ∧ TC M k j :=
  (h.least (R := fun a b => TC M a b ∧ (M a b = true ∨ ∃ k, M a k = true ∧ TC M k b)) (fun a b h => ⟨.one h, .inl h⟩) fun a b c h1 h2 => ⟨h1.1.trans h2.1, by
    rcases h1.2 with h | ⟨k, h, hk⟩
    · exact .inr ⟨b, h, h2.1⟩
    · exact .inr ⟨k, h, hk.trans h2.1⟩⟩).2
theorem TC.within {M : Nat → Nat → Bool} {s i j : Nat} (hw : ∀ r c, M r c = true → r < s ∧ c < s) (h : TC M i j) : i < s ∧ j < s :=
  h.least (R := fun a b => a < s ∧ b < s) (fun a b h => hw a b h) fun a b c h1 h2 => ⟨h1.1, h2.2⟩
/-- One is the other one's closure. -/
def IsClo (M C : Nat → Nat → Bool) : Prop := ∀ i j, C i j = true ↔ TC M i j
theorem exists_clo (M : Nat → Nat → Bool) : ∃ C, IsClo M C := by
  classical exact ⟨fun i j => decide (TC M i j), fun i j => decide_eq_true_iff⟩
theorem IsClo.same {M C D : Nat → Nat → Bool} (h : IsClo M C) (h2 : IsClo M D) : ∀ r c, C r c = D r c := fun r c => by
  rw [Bool.eq_iff_iff, h r c, h2 r c]
theorem IsClo.congr {M C N D : Nat → Nat → Bool} (h : IsClo M C) (e1 : ∀ r c, N r c = M r c) (e2 : ∀ r c, D r c = C r c) : IsClo N D := by
  have : N = M := funext fun r => funext fun c => e1 r c
  subst this
  exact fun i j => by rw [e2]; exact h i j
theorem IsClo.within {M C : Nat → Nat → Bool} {s : Nat} (h : IsClo M C) (hw : ∀ r c, M r c = true → r < s ∧ c < s) : ∀ r c, C r c = true → r < s ∧ c < s := fun r c e => ((h r c).1 e).within hw
theorem IsClo.has {M C : Nat → Nat → Bool} (h : IsClo M C) {r c : Nat} (e : M r c = true) : C r c = true := (h r c).2 (.one e)
theorem IsClo.on {M C : Nat → Nat → Bool} (h : IsClo M C) {r k c : Nat} (e : C r k = true) (e2 : C k c = true) : C r c = true := (h r c).2 (((h r k).1 e).trans ((h k c).1 e2))
theorem IsClo.least {M C D : Nat → Nat → Bool} (h : IsClo M C) (h1 : ∀ a b, M a b = true → D a b = true) (h2 : ∀ a b c, D a b = true → D b c = true → D a c = true) {r c : Nat} (e : C r c = true) : D r c = true :=
  ((h r c).1 e).least (R := fun a b => D a b = true) h1 h2
theorem clo_done {M C : Nat → Nat → Bool} (h1 : ∀ i j, M i j = true → C i j = true) (h2 : ∀ i j, C i j = true → TC M i j) (h3 : ∀ i k j, C i k = true → C k j = true → C i j = true) : IsClo M C :=
  fun i j => ⟨h2 i j, fun h => h.least (R := fun a b => C a b = true) h1 fun a b c => h3 a b c⟩
theorem clo_self {M C : Nat → Nat → Bool} (h : IsClo M C) : IsClo C C := clo_done (fun _ _ h => h) (fun _ _ h => .one h) fun i k j a b => h.on a b
theorem clo_zero : IsClo (fun _ _ => false) (fun _ _ => false) := clo_done (fun _ _ h => h) (fun _ _ h => by cases h) fun i k j a b => by cases a
/-- A closure of a matrix between is the matrix's. -/
theorem clo_between {M N C D : Nat → Nat → Bool} (h : IsClo M C) (h1 : ∀ a b, M a b = true → N a b = true) (h2 : ∀ a b, N a b = true → C a b = true) (hd : IsClo N D) : ∀ r c, D r c = C r c := fun r c => by
  rw [Bool.eq_iff_iff]
  exact ⟨fun e => hd.least h2 (fun a b c x y => h.on x y) e, fun e => h.least (fun a b e => hd.has (h1 a b e)) (fun a b c x y => hd.on x y) e⟩
/-- The closure behind a step more. -/
def moreC (C : Nat → Nat → Bool) (i j : Nat) : Nat → Nat → Bool := fun r c => C r c || ((decide (r = i) || C r i) && (decide (c = j) || C j c))
theorem moreC_iff {C : Nat → Nat → Bool} {i j r c : Nat} : moreC C i j r c = true ↔ C r c = true ∨ ((r = i ∨ C r i = true) ∧ (c = j ∨ C j c = true)) := by
  unfold moreC
  simp only [Bool.or_eq_true, Bool.and_eq_true, decide_eq_true_eq]
theorem moreC_clo {M M' C : Nat → Nat → Bool} {i j : Nat} (h : IsClo M C) (hm : ∀ r c, M' r c = true ↔ M r c = true ∨ (r = i ∧ c = j)) : IsClo M' (moreC C i j) := by
  have hmo : ∀ a b, C a b = true → TC M' a b := fun a b e => ((h a b).1 e).mono fun a b e => (hm a b).2 (.inl e)
  refine clo_done (fun a b e => ?_) (fun a b e => ?_) fun a k b e1 e2 => ?_
  · rw [moreC_iff]
    rcases (hm a b).1 e with e | ⟨rfl, rfl⟩
    · exact .inl (h.has e)
    · exact .inr ⟨.inl rfl, .inl rfl⟩
  · rcases moreC_iff.1 e with e | ⟨ha, hb⟩
    · exact hmo _ _ e
    · have hij : TC M' i j := .one ((hm i j).2 (.inr ⟨rfl, rfl⟩))
      have haj : TC M' a j := by
        rcases ha with rfl | ha
        · exact hij
        · exact (hmo _ _ ha).trans hij
      rcases hb with rfl | hb
      · exact haj
      · exact haj.trans (hmo _ _ hb)
  · rw [moreC_iff] at *
    rcases e1 with e1 | ⟨a1, b1⟩ <;> rcases e2 with e2 | ⟨a2, b2⟩
    · exact .inl (h.on e1 e2)
    · refine .inr ⟨.inr ?_, b2⟩
      rcases a2 with rfl | a2
      · exact e1
      · exact h.on e1 a2
    · refine .inr ⟨a1, .inr ?_⟩
      rcases b1 with rfl | b1
      · exact e2
      · exact h.on b1 e2
    · exact .inr ⟨a1, b2⟩
/-- Rows that have all beyond: the closure as it grows. -/
def gainC (C : Nat → Nat → Bool) (G : Nat → Bool) (j : Nat) : Nat → Nat → Bool := fun r c => C r c || (G r && (decide (c = j) || C j c))
theorem gainC_iff {C : Nat → Nat → Bool} {G : Nat → Bool} {j r c : Nat} : gainC C G j r c = true ↔ C r c = true ∨ (G r = true ∧ (c = j ∨ C j c = true)) := by
  unfold gainC
  simp only [Bool.or_eq_true, Bool.and_eq_true, decide_eq_true_eq]
theorem gainC_col {C : Nat → Nat → Bool} {G : Nat → Bool} {j r : Nat} : gainC C G j r j = (C r j || G r) := by
  rw [Bool.eq_iff_iff, gainC_iff, Bool.or_eq_true]
  exact ⟨fun h => h.imp id fun h => h.1, fun h => h.imp id fun h => ⟨h, .inl rfl⟩⟩
theorem gainC_zero (C : Nat → Nat → Bool) (j r c : Nat) : gainC C (fun _ => false) j r c = C r c := by unfold gainC; simp
theorem gainC_all {M C : Nat → Nat → Bool} {G : Nat → Bool} {i j : Nat} (h : IsClo M C) (hi : G i = true) (hG : ∀ r, G r = true → r = i ∨ C r i = true) (hp : ∀ x, G x = true → ∀ r, M r x = true → C r j = true ∨ G r = true) :
    ∀ r c, gainC C G j r c = moreC C i j r c := fun r c => by
  have hok : ∀ a b, TC M a b → (C b j = true ∨ G b = true) → (C a j = true ∨ G a = true) := fun a b hab => hab.least (R := fun a b => (C b j = true ∨ G b = true) → (C a j = true ∨ G a = true))
    (fun a b e ho => ho.elim (fun e2 => .inl (h.on (h.has e) e2)) fun e2 => hp b e2 a e) fun a b c h1 h2 e => h1 (h2 e)
  rw [Bool.eq_iff_iff, gainC_iff, moreC_iff]
  constructor
  · rintro (e | ⟨e, e2⟩)
    · exact .inl e
    · exact .inr ⟨hG _ e, e2⟩
  · rintro (e | ⟨e, e2⟩)
    · exact .inl e
    · have : C r j = true ∨ G r = true := by
        rcases e with rfl | e
        · exact .inr hi
        · exact hok _ _ ((h r i).1 e) (.inr hi)
      rcases this with e3 | e3
      · rcases e2 with rfl | e2
        · exact .inl e3
        · exact .inl (h.on e3 e2)
      · exact .inr ⟨e3, e2⟩
/-- A step that is there by walks changes no closure. -/
theorem moreC_same {M C : Nat → Nat → Bool} {i j : Nat} (h : IsClo M C) (hij : C i j = true) : ∀ r c, moreC C i j r c = C r c := fun r c => by
  rw [Bool.eq_iff_iff, moreC_iff]
  refine ⟨fun e => e.elim id fun ⟨e1, e2⟩ => ?_, .inl⟩
  have : C r j = true := e1.elim (fun e => e ▸ hij) fun e => h.on e hij
  exact e2.elim (fun e => e ▸ this) fun e => h.on this e
/-- What is met by going on, from what a row has. -/
theorem met_clo {M : Nat → Nat → Bool} {G : Nat → Bool} {i : Nat} (h1 : ∀ x, (x = i ∨ G x = true) → ∀ j, M x j = true → G j = true) (h2 : ∀ x, G x = true → TC M i x) : ∀ x, G x = true ↔ TC M i x := fun x => by
  refine ⟨h2 x, fun h => ?_⟩
  have : ∀ a b, TC M a b → (a = i ∨ G a = true) → G b = true := fun a b hab => hab.least (R := fun a b => (a = i ∨ G a = true) → G b = true) (fun a b e ha => h1 a ha b e) fun a b c h1 h2 e => h2 (.inr (h1 e))
  exact this i x h (.inl rfl)
end Go.Proofs.YtjolkhiggcmoiaaGreatDoor
