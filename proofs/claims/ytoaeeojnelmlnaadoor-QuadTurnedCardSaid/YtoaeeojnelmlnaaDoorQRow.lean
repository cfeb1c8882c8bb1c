/-
  Rows of rows: cells of a list whose elements are many cells each; reading and writing a part.
-/
import Derived.Test.YtoaeeojnelmlnaaDoorQTree
import Derived.Test.YtoaeeojnelmlnaaDoorMem
import Derived.Deep.MidRow
namespace Go.Proofs.YtoaeeojnelmlnaaDoor
open Go.RowKit
set_option linter.unusedVariables false
set_option linter.unusedSimpArgs false
/-- All elements have s cells. -/
def Even (s : Nat) (L : List (List Value)) : Prop := ∀ x ∈ L, x.length = s
theorem Even.cons {s : Nat} {x : List Value} {L : List (List Value)} (h : Even s (x :: L)) : x.length = s ∧ Even s L := ⟨h x (List.mem_cons_self ..), fun y hy => h y (List.mem_cons_of_mem _ hy)⟩
theorem flat_len {s : Nat} : ∀ {L : List (List Value)}, Even s L → L.flatten.length = L.length * s
  | [], _ => by simp
  | x :: L, h => by
    have := flat_len h.cons.2
    rw [List.flatten_cons, List.length_append, this, h.cons.1, List.length_cons, Nat.succ_mul]; omega
theorem flat_get {s : Nat} : ∀ {L : List (List Value)}, Even s L → ∀ {k : Nat} {x : List Value}, L[k]? = some x → ∀ {r : Nat}, r < s → L.flatten[k * s + r]? = x[r]?
  | [], _, k, x, hk, _, _ => by simp at hk
  | y :: L, h, 0, x, hk, r, hr => by
    have e : y = x := by simpa using hk
    subst e
    rw [List.flatten_cons, Nat.zero_mul, Nat.zero_add, List.getElem?_append_left (by rw [h.cons.1]; exact hr)]
  | y :: L, h, k + 1, x, hk, r, hr => by
    have h1 := h.cons
    rw [List.flatten_cons, List.getElem?_append_right (by rw [h1.1, Nat.succ_mul]; omega), h1.1, show (k + 1) * s + r - s = k * s + r by rw [Nat.succ_mul]; omega]
    exact flat_get h1.2 (by simpa using hk) hr
theorem flat_set {s : Nat} : ∀ {L : List (List Value)}, Even s L → ∀ {k : Nat} {x : List Value}, L[k]? = some x → ∀ {r : Nat} (u : Value), r < s → L.flatten.set (k * s + r) u = (L.set k (x.set r u)).flatten
  | [], _, k, x, hk, _, _, _ => by simp at hk
  | y :: L, h, 0, x, hk, r, u, hr => by
    have e : y = x := by simpa using hk
    subst e
    simp only [List.flatten_cons, Nat.zero_mul, Nat.zero_add, List.set_cons_zero]
    rw [List.set_append_left _ _ (by rw [h.cons.1]; exact hr)]
  | y :: L, h, k + 1, x, hk, r, u, hr => by
    have h1 := h.cons
    simp only [List.flatten_cons, List.set_cons_succ]
    rw [List.set_append_right _ _ (by rw [h1.1, Nat.succ_mul]; omega), h1.1, show (k + 1) * s + r - s = k * s + r by rw [Nat.succ_mul]; omega, flat_set h1.2 (by simpa using hk) u hr]
/-- Cells written one behind the other. -/
def setAll (xs : List Value) (o : Nat) : List Value → List Value
  | [] => xs
  | v :: vs => setAll (xs.set o v) (o + 1) vs
theorem setAll_get : ∀ (vs xs : List Value) (o j : Nat), o + vs.length ≤ xs.length → (setAll xs o vs)[j]? = if o ≤ j ∧ j < o + vs.length then vs[j - o]? else xs[j]?
  | [], xs, o, j, _ => by
    rw [if_neg (by simp)]; rfl
  | v :: vs, xs, o, j, h => by
    rw [setAll, setAll_get vs _ _ _ (by simp at h ⊢; omega)]
    simp only [List.length_cons] at h ⊢
    by_cases e : j = o
    · subst e
      rw [if_neg (by omega), if_pos (by omega), List.getElem?_set_self (by omega)]; simp
    · rw [List.getElem?_set_ne (by omega)]
      by_cases e2 : o ≤ j ∧ j < o + (vs.length + 1)
      · rw [if_pos (by omega), if_pos e2, show j - o = (j - (o + 1)) + 1 by omega]; simp
      · rw [if_neg (by omega), if_neg e2]
theorem flat_setAll {s : Nat} {L : List (List Value)} (h : Even s L) {k : Nat} {x y : List Value} (hk : L[k]? = some x) (hy : y.length = s) : setAll L.flatten (k * s) y = (L.set k y).flatten := by
  have hkl := (List.getElem?_eq_some_iff.1 hk).1
  have hE : Even s (L.set k y) := fun z hz => by
    rcases List.mem_or_eq_of_mem_set hz with hz | rfl
    · exact h z hz
    · exact hy
  have hle : k * s + s ≤ L.length * s := by
    have : (k + 1) * s ≤ L.length * s := Nat.mul_le_mul_right s hkl
    rwa [Nat.succ_mul] at this
  apply List.ext_getElem?
  intro j
  rw [setAll_get _ _ _ _ (by rw [flat_len h, hy]; exact hle), hy]
  rcases Nat.eq_zero_or_pos s with hs | hs
  · have h1 : L.flatten.length = 0 := by rw [flat_len h, hs, Nat.mul_zero]
    have h2 : (L.set k y).flatten.length = 0 := by rw [flat_len hE, hs, Nat.mul_zero]
    rw [if_neg (by omega), List.getElem?_eq_none (by omega), List.getElem?_eq_none (by omega)]
  · obtain ⟨q, r, hj, hr⟩ : ∃ q r, j = q * s + r ∧ r < s := ⟨j / s, j % s, by rw [Nat.mul_comm]; exact (Nat.div_add_mod j s).symm, Nat.mod_lt _ hs⟩
    rcases Nat.lt_or_ge q L.length with hq | hq
    · by_cases e : q = k
      · subst e
        rw [if_pos (by omega), hj, flat_get hE (x := y) (by rw [List.getElem?_set_self hkl]) hr, show q * s + r - q * s = r by omega]
      · have hne : ¬ (k * s ≤ j ∧ j < k * s + s) := by
          rintro ⟨a, b⟩
          rcases Nat.lt_or_gt_of_ne e with e | e
          · have := Nat.mul_le_mul_right s (show q + 1 ≤ k from e)
            rw [Nat.succ_mul] at this; omega
          · have := Nat.mul_le_mul_right s (show k + 1 ≤ q from e)
            rw [Nat.succ_mul] at this; omega
        rw [if_neg hne, hj, flat_get hE (x := L[q]) (by rw [List.getElem?_set_ne (by omega)]; exact List.getElem?_eq_getElem hq) hr, flat_get h (List.getElem?_eq_getElem hq) hr]
    · have h3 := Nat.mul_le_mul_right s hq
      rw [if_neg (by omega), List.getElem?_eq_none (by rw [flat_len h]; omega), List.getElem?_eq_none (by rw [flat_len hE, List.length_set]; omega)]
theorem flat_one {L : List (List Value)} (h : ∀ x ∈ L, ∀ u ∈ x, u.oneCell' = true) : ∀ u ∈ L.flatten, u.oneCell' = true := fun u hu => by
  obtain ⟨x, hx, hux⟩ := List.mem_flatten.1 hu
  exact h x hx u hux
/-- A part of a row in memory. -/
theorem own_range {w : World} {base : Nat} {e : TypeId} {s n g cap : Nat} {L : List (List Value)} (h : w.ownsRow base e s (.slice (some ⟨g, 0, none⟩) n cap) n L.flatten) (hE : Even s L) {k : Nat} {x : List Value} (hk : L[k]? = some x) : w.rangeAt g (k * s) x := fun j v hv => by
  have hj := (List.getElem?_eq_some_iff.1 hv).1
  have hx := hE x (List.mem_of_getElem? hk)
  have hkl := (List.getElem?_eq_some_iff.1 hk).1
  have hn : n * s = L.length * s := by rw [← h.1, flat_len hE]
  have hle : k * s + s ≤ L.length * s := by
    have : (k + 1) * s ≤ L.length * s := Nat.mul_le_mul_right s hkl
    rwa [Nat.succ_mul] at this
  rw [h.cellAt (k * s + j) (by omega), flat_get hE hk (by omega)]
  exact hv
theorem own_there {w : World} {base : Nat} {e : TypeId} {s n g cap : Nat} {L : List (List Value)} (h : w.ownsRow base e s (.slice (some ⟨g, 0, none⟩) n cap) n L.flatten) (hE : Even s L) {k : Nat} {x : List Value} (hk : L[k]? = some x) : w.there g (k * s) s := fun j hj => by
  have hx := hE x (List.mem_of_getElem? hk)
  exact ⟨(own_range h hE hk).isSome j (by omega), h.frozenAt _⟩
theorem own_setCells {base : Nat} {e : TypeId} {s n g cap : Nat} : ∀ (vs : List Value) {w : World} {xs : List Value} (o : Nat), w.ownsRow base e s (.slice (some ⟨g, 0, none⟩) n cap) n xs → (w.setCells g o vs).ownsRow base e s (.slice (some ⟨g, 0, none⟩) n cap) n (setAll xs o vs)
  | [], w, xs, o, h => h
  | v :: vs, w, xs, o, h => own_setCells vs (o + 1) (h.stored o v).1
theorem far_setCells (g : Nat) : ∀ (vs : List Value) (w : World) (o : Nat), Far (fun k => k = g) w (w.setCells g o vs)
  | [], w, o => Far.refl _ w
  | v :: vs, w, o => ((Far.refl _ w).set (F := fun k => k = g) ⟨g, o, none⟩ v (fun _ => rfl)).trans (far_setCells g vs _ (o + 1)) fun _ _ h => h
end Go.Proofs.YtoaeeojnelmlnaaDoor
