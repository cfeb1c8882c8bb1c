/-
  What comes of a body when some of its empty nonterminals go: by the document's recursion, by the program's numbers.
-/
import Derived.Test.YtjkfieilaahejaaCnf
namespace Go.Proofs.Ytjkfieilaahejaa
set_option linter.unusedVariables false
set_option linter.unusedSimpArgs false
/-- May a symbol go? -/
def goS (em : Nat → Bool) (s : Sy) : Bool := !s.1 && em s.2.toNat
/-- The places of the symbols that may go, from place k on. -/
def placesF (em : Nat → Bool) : Nat → List Sy → List Nat
  | _, [] => []
  | k, s :: l => if goS em s then k :: placesF em (k + 1) l else placesF em (k + 1) l
/-- x comes of l. -/
inductive Drop (em : Nat → Bool) : List Sy → List Sy → Prop
  | nil : Drop em [] []
  | stay {s l x} : Drop em l x → Drop em (s :: l) (s :: x)
  | go {s l x} : goS em s = true → Drop em l x → Drop em (s :: l) x
/-- What is left, by a number's bits. -/
def leftB (em : Nat → Bool) : Nat → List Sy → List Sy
  | _, [] => []
  | g, s :: l => if goS em s then (if g % 2 = 1 then leftB em (g / 2) l else s :: leftB em (g / 2) l) else s :: leftB em g l
theorem drop_left (em : Nat → Bool) : ∀ (l : List Sy) (g : Nat), Drop em l (leftB em g l)
  | [], _ => .nil
  | s :: l, g => by
    unfold leftB
    split
    · rename_i h
      split
      · exact .go h (drop_left em l _)
      · exact .stay (drop_left em l _)
    · exact .stay (drop_left em l _)
theorem places_len (em : Nat → Bool) : ∀ (l : List Sy) (k m : Nat), (placesF em k l).length = (placesF em m l).length
  | [], _, _ => rfl
  | s :: l, k, m => by
    unfold placesF
    split
    · simp only [List.length_cons]; rw [places_len em l (k + 1) (m + 1)]
    · exact places_len em l _ _
theorem left_drop (em : Nat → Bool) {l x : List Sy} (h : Drop em l x) : ∃ g, g < 2 ^ (placesF em 0 l).length ∧ leftB em g l = x := by
  induction h with
  | nil => exact ⟨0, Nat.one_pos, rfl⟩
  | @stay s l x h ih =>
    obtain ⟨g, hg, e⟩ := ih
    by_cases hs : goS em s = true
    · refine ⟨2 * g, ?_, ?_⟩
      · unfold placesF
        rw [if_pos hs, List.length_cons, places_len em l (0 + 1) 0, Nat.pow_succ]
        omega
      · unfold leftB
        rw [if_pos hs, if_neg (by omega), Nat.mul_div_cancel_left _ (by decide), e]
    · refine ⟨g, ?_, ?_⟩
      · unfold placesF
        rw [if_neg hs, places_len em l (0 + 1) 0]
        exact hg
      · unfold leftB
        rw [if_neg hs, e]
  | @go s l x hs h ih =>
    obtain ⟨g, hg, e⟩ := ih
    refine ⟨2 * g + 1, ?_, ?_⟩
    · unfold placesF
      rw [if_pos hs, List.length_cons, places_len em l (0 + 1) 0, Nat.pow_succ]
      omega
    · unfold leftB
      rw [if_pos hs, if_pos (by omega), show (2 * g + 1) / 2 = g by omega, e]
theorem Drop.len {em : Nat → Bool} {l x : List Sy} (h : Drop em l x) : x.length ≤ l.length := by
  induction h with
  | nil => exact Nat.le_refl _
  | stay _ ih => simp; exact ih
  | go _ _ ih => simp; omega
theorem Drop.mem {em : Nat → Bool} {l x : List Sy} (h : Drop em l x) : ∀ s ∈ x, s ∈ l := by
  induction h with
  | nil => intro s hs; cases hs
  | stay _ ih =>
    intro s hs
    rcases List.mem_cons.1 hs with rfl | hs
    · exact List.mem_cons_self ..
    · exact List.mem_cons_of_mem _ (ih s hs)
  | go _ _ ih => intro s hs; exact List.mem_cons_of_mem _ (ih s hs)
/-- Does the symbol at a place stay, by the places and a number's bits? -/
def keepB (P : List Nat) (g k : Nat) : Bool := match P.idxOf? k with
  | none => true
  | some j => g / 2 ^ j % 2 == 0
def keepL (P : List Nat) (g : Nat) : Nat → List Sy → List Sy
  | _, [] => []
  | k, s :: l => if keepB P g k then s :: keepL P g (k + 1) l else keepL P g (k + 1) l
theorem places_ge (em : Nat → Bool) : ∀ (l : List Sy) (k i : Nat), i ∈ placesF em k l → k ≤ i ∧ i < k + l.length
  | [], _, _, h => by cases h
  | s :: l, k, i, h => by
    unfold placesF at h
    split at h
    · rcases List.mem_cons.1 h with rfl | h
      · simp
      · have := places_ge em l _ _ h; simp; omega
    · have := places_ge em l _ _ h; simp; omega
theorem idx_app {P Q : List Nat} {k : Nat} (h : k ∉ P) : (P ++ Q).idxOf? k = (Q.idxOf? k).map (· + P.length) := by
  induction P with
  | nil => simp
  | cons p P ih =>
    have h1 : p ≠ k := fun e => h (e ▸ List.mem_cons_self ..)
    have h2 : k ∉ P := fun m => h (List.mem_cons_of_mem _ m)
    rw [List.cons_append, List.idxOf?_cons, ih h2]
    have : (p == k) = false := by simpa using h1
    rw [this]
    cases Q.idxOf? k <;> simp
    omega
theorem keep_left (em : Nat → Bool) (g : Nat) : ∀ (l : List Sy) (k : Nat) (P pre : List Nat), P = pre ++ placesF em k l → (∀ p ∈ pre, p < k) → keepL P g k l = leftB em (g / 2 ^ pre.length) l
  | [], _, _, _, _, _ => rfl
  | s :: l, k, P, pre, hP, hp => by
    unfold keepL leftB
    have hk : k ∉ pre := fun m => by have := hp k m; omega
    by_cases hs : goS em s = true
    · have e1 : placesF em k (s :: l) = k :: placesF em (k + 1) l := by rw [placesF, if_pos hs]
      rw [e1] at hP
      have ei : P.idxOf? k = some pre.length := by
        rw [hP, idx_app hk, List.idxOf?_cons]
        simp
      have ek : keepB P g k = (g / 2 ^ pre.length % 2 == 0) := by unfold keepB; rw [ei]
      rw [if_pos hs, ek]
      have ih := keep_left em g l (k + 1) P (pre ++ [k]) (by rw [hP]; simp) (fun p hm => by
        rcases List.mem_append.1 hm with hm | hm
        · have := hp p hm; omega
        · simp at hm; omega)
      rw [ih, List.length_append, List.length_singleton, Nat.pow_succ, ← Nat.div_div_eq_div_mul]
      by_cases h2 : g / 2 ^ pre.length % 2 = 1
      · rw [if_pos h2, if_neg (by simp [h2])]
      · rw [if_neg h2, if_pos (by simp; omega)]
    · have e1 : placesF em k (s :: l) = placesF em (k + 1) l := by rw [placesF, if_neg hs]
      rw [e1] at hP
      have ei : P.idxOf? k = none := by
        rw [hP, idx_app hk]
        have : (placesF em (k + 1) l).idxOf? k = none := by
          rw [List.idxOf?_eq_none_iff]
          intro m
          have := places_ge em l _ _ m
          omega
        rw [this]; rfl
      have ek : keepB P g k = true := by unfold keepB; rw [ei]
      rw [if_neg hs, ek, if_pos rfl]
      rw [keep_left em g l (k + 1) P pre hP fun p hm => by have := hp p hm; omega]
/-- The program's bodies: number g's. -/
def bodyG (em : Nat → Bool) (l : List Sy) (g : Nat) : List Sy := keepL (placesF em 0 l) g 0 l
theorem bodyG_left (em : Nat → Bool) (l : List Sy) (g : Nat) : bodyG em l g = leftB em g l := by
  have := keep_left em g l 0 (placesF em 0 l) [] rfl (fun _ h => by cases h)
  simpa [bodyG] using this
theorem keepL_take (P : List Nat) (g : Nat) : ∀ (l : List Sy) (k i : Nat) (s : Sy), l[i]? = some s → keepL P g k (l.take (i + 1)) = keepL P g k (l.take i) ++ if keepB P g (k + i) then [s] else []
  | [], _, _, _, h => by simp at h
  | a :: l, k, 0, s, h => by
    simp only [List.getElem?_cons_zero, Option.some.injEq] at h
    subst h
    simp only [List.take_succ_cons, List.take_zero, Nat.add_zero, keepL]
    split <;> rfl
  | a :: l, k, i + 1, s, h => by
    rw [List.getElem?_cons_succ] at h
    have ih := keepL_take P g l (k + 1) i s h
    simp only [List.take_succ_cons, keepL]
    rw [show k + (i + 1) = k + 1 + i by omega]
    split
    · rw [ih]; rfl
    · exact ih
theorem keepL_len (P : List Nat) (g : Nat) : ∀ (l : List Sy) (k : Nat), (keepL P g k l).length ≤ l.length
  | [], _ => Nat.le_refl _
  | a :: l, k => by
    have := keepL_len P g l (k + 1)
    unfold keepL
    split <;> simp <;> omega
theorem places_take (em : Nat → Bool) : ∀ (l : List Sy) (k i : Nat) (s : Sy), l[i]? = some s → placesF em k (l.take (i + 1)) = placesF em k (l.take i) ++ if goS em s then [k + i] else []
  | [], _, _, _, h => by simp at h
  | a :: l, k, 0, s, h => by
    simp only [List.getElem?_cons_zero, Option.some.injEq] at h
    subst h
    simp only [List.take_succ_cons, List.take_zero, Nat.add_zero, placesF]
    split <;> rfl
  | a :: l, k, i + 1, s, h => by
    rw [List.getElem?_cons_succ] at h
    have ih := places_take em l (k + 1) i s h
    simp only [List.take_succ_cons, placesF]
    rw [show k + (i + 1) = k + 1 + i by omega]
    split
    · rw [ih]; rfl
    · exact ih
theorem places_bound (em : Nat → Bool) : ∀ (l : List Sy) (k : Nat), (placesF em k l).length ≤ l.length
  | [], _ => Nat.le_refl _
  | a :: l, k => by
    have := places_bound em l (k + 1)
    unfold placesF
    split <;> simp <;> omega
/-- What the document's recursion tells of a body, in its order. -/
def subs (em : Nat → Bool) : List Sy → List (List Sy)
  | [] => [[]]
  | s :: l => (if goS em s then subs em l else []) ++ (subs em l).map (s :: ·)
theorem subs_drop (em : Nat → Bool) : ∀ (l x : List Sy), x ∈ subs em l ↔ Drop em l x
  | [], x => by
    simp only [subs, List.mem_singleton]
    exact ⟨fun e => by rw [e]; exact .nil, fun h => by cases h; rfl⟩
  | s :: l, x => by
    simp only [subs, List.mem_append, List.mem_map]
    constructor
    · rintro (h | ⟨y, hy, rfl⟩)
      · split at h
        · rename_i hs; exact .go hs ((subs_drop em l x).1 h)
        · cases h
      · exact .stay ((subs_drop em l y).1 hy)
    · intro h
      cases h with
      | @stay _ _ y h => exact .inr ⟨y, (subs_drop em l y).2 h, rfl⟩
      | go hs h => exact .inl (by rw [if_pos hs]; exact (subs_drop em l x).2 h)
end Go.Proofs.Ytjkfieilaahejaa
