/-
  What a nonterminal derives of a word, and when a list of pieces has all of it.
-/
import Derived.Test.YteojbnkjphghkaaDoorCnf
namespace Go.Proofs.YteojbnkjphghkaaDoor
open Go.RowKit
set_option linter.unusedVariables false
set_option linter.unusedSimpArgs false
/-- A production's head and body. -/
abbrev Hb := Int × List Sy
/-- A nonterminal, and a piece of the word. -/
abbrev Pc := Int × Nat × Nat
inductive Der (P : List Hb) (W : List Int) : Int → Nat → Nat → Prop
  | eps {h : Int} {i : Nat} : (h, []) ∈ P → i ≤ W.length → Der P W h i i
  | one {h n : Int} {b : Bool} {i : Nat} : (h, [(b, n)]) ∈ P → W[i]? = some n → Der P W h i (i + 1)
  | two {h a c : Int} {b d : Bool} {i k j : Nat} : (h, [(b, a), (d, c)]) ∈ P → Der P W a i k → Der P W c k j → Der P W h i j
/-- The short bodies' pieces are there. -/
def ShortIn (P : List Hb) (W : List Int) (K : Pc → Prop) : Prop := (∀ h i, (h, []) ∈ P → i ≤ W.length → K (h, i, i)) ∧ ∀ h b n i, (h, [(b, n)]) ∈ P → W[i]? = some n → K (h, i, i + 1)
/-- What two pieces side by side make is there. -/
def PairIn (P : List Hb) (K : Pc → Prop) : Prop := ∀ h b a d c i k j, (h, [(b, a), (d, c)]) ∈ P → K (a, i, k) → K (c, k, j) → K (h, i, j)
theorem der_least {P : List Hb} {W : List Int} {K : Pc → Prop} (h1 : ShortIn P W K) (h2 : PairIn P K) {h : Int} {i j : Nat} (hd : Der P W h i j) : K (h, i, j) := by
  induction hd with
  | eps hp hi => exact h1.1 _ _ hp hi
  | one hp hw => exact h1.2 _ _ _ _ hp hw
  | two hp _ _ k1 k2 => exact h2 _ _ _ _ _ _ _ _ hp k1 k2
theorem der_in {P : List Hb} {W : List Int} {h : Int} {i j : Nat} (hd : Der P W h i j) : i ≤ j ∧ j ≤ W.length := by
  induction hd with
  | eps hp hi => exact ⟨Nat.le_refl _, hi⟩
  | one hp hw => exact ⟨by omega, (List.getElem?_eq_some_iff.1 hw).1⟩
  | two hp _ _ k1 k2 => omega
theorem der_head {P : List Hb} {W : List Int} {h : Int} {i j : Nat} (hd : Der P W h i j) : ∃ l, (h, l) ∈ P := by
  cases hd with
  | eps hp hi => exact ⟨_, hp⟩
  | one hp hw => exact ⟨_, hp⟩
  | two hp _ _ => exact ⟨_, hp⟩
/-- Of the first m pieces, all that two of them make is there. -/
def Done (P : List Hb) (K : List Pc) (m : Nat) : Prop := ∀ p ∈ K.take m, ∀ q ∈ K.take m, ∀ h b d, (h, [(b, p.1), (d, q.1)]) ∈ P → p.2.2 = q.2.1 → (h, p.2.1, q.2.2) ∈ K
theorem done_zero (P : List Hb) (K : List Pc) : Done P K 0 := fun p hp => by simp at hp
theorem done_next {P : List Hb} {K K' : List Pc} {m : Nat} {x : Pc} (hD : Done P K m) (hx : K[m]? = some x) (hp : K <+: K')
    (hL : ∀ q ∈ K, ∀ h b d, (h, [(b, x.1), (d, q.1)]) ∈ P → x.2.2 = q.2.1 → (h, x.2.1, q.2.2) ∈ K') (hR : ∀ p ∈ K, ∀ h b d, (h, [(b, p.1), (d, x.1)]) ∈ P → p.2.2 = x.2.1 → (h, p.2.1, x.2.2) ∈ K') : Done P K' (m + 1) := by
  obtain ⟨hm, e⟩ := List.getElem?_eq_some_iff.1 hx
  obtain ⟨t, rfl⟩ := hp
  have htk : (K ++ t).take (m + 1) = K.take m ++ [x] := by rw [List.take_append_of_le_length (by omega), List.take_succ_eq_append_getElem hm, e]
  have hin : ∀ y ∈ K.take m, y ∈ K := fun y hy => List.mem_of_mem_take hy
  have hxm : x ∈ K := List.mem_of_getElem? hx
  intro p hp q hq h b d hb hpq
  rw [htk] at hp hq
  rcases List.mem_append.1 hp with hp | hp
  · rcases List.mem_append.1 hq with hq | hq
    · exact List.mem_append_left _ (hD p hp q hq h b d hb hpq)
    · rw [List.mem_singleton.1 hq] at hb hpq ⊢
      exact hR p (hin p hp) h b d hb hpq
  · rw [List.mem_singleton.1 hp] at hb hpq ⊢
    have hqK : q ∈ K := by
      rcases List.mem_append.1 hq with hq | hq
      · exact hin q hq
      · rw [List.mem_singleton.1 hq]; exact hxm
    exact hL q hqK h b d hb hpq
theorem done_pair {P : List Hb} {K : List Pc} (h : Done P K K.length) : PairIn P (· ∈ K) := fun hd b a d c i k j hp h1 h2 => by
  have := h (a, i, k) (by rw [List.take_length]; exact h1) (c, k, j) (by rw [List.take_length]; exact h2) hd b d hp rfl
  exact this
theorem nodup_le {α : Type} [BEq α] [LawfulBEq α] : ∀ (l m : List α), l.Nodup → (∀ x ∈ l, x ∈ m) → l.length ≤ m.length
  | [], m, _, _ => Nat.zero_le _
  | x :: l, m, hn, hs => by
    have hx := hs x (List.mem_cons_self ..)
    have h1 := List.nodup_cons.1 hn
    have := nodup_le l (m.erase x) h1.2 fun y hy => (List.mem_erase_of_ne (show y ≠ x from fun e => h1.1 (e ▸ hy))).2 (hs y (List.mem_cons_of_mem _ hy))
    have h2 := List.length_erase_of_mem hx
    have h3 := List.length_pos_of_mem hx
    rw [List.length_cons]
    omega
/-- Pieces within bounds. -/
def PcIn (S n : Nat) (p : Pc) : Prop := (0 ≤ p.1 ∧ p.1 < S) ∧ p.2.1 ≤ p.2.2 ∧ p.2.2 ≤ n
theorem flats_len {α β : Type} {c : Nat} {f : α → List β} (hf : ∀ x, (f x).length = c) : ∀ l : List α, (l.flatMap f).length = l.length * c
  | [] => by simp
  | x :: l => by rw [List.flatMap_cons, List.length_append, hf, flats_len hf l, List.length_cons, Nat.succ_mul]; omega
theorem pcs_count {S n : Nat} {K : List Pc} (hn : K.Nodup) (hk : ∀ p ∈ K, PcIn S n p) : K.length ≤ S * ((n + 1) * (n + 1)) := by
  have h := nodup_le K ((List.range S).flatMap fun (a : Nat) => (List.range (n + 1)).flatMap fun i => (List.range (n + 1)).map fun j => (((a : Int), i, j) : Pc)) hn fun p hp => by
    obtain ⟨⟨h1, h2⟩, h3, h4⟩ := hk p hp
    obtain ⟨a, i, j⟩ := p
    simp only at h1 h2 h3 h4
    rw [List.mem_flatMap]
    refine ⟨a.toNat, List.mem_range.2 (by omega), ?_⟩
    rw [List.mem_flatMap]
    refine ⟨i, List.mem_range.2 (by omega), ?_⟩
    rw [List.mem_map]
    exact ⟨j, List.mem_range.2 (by omega), by rw [Int.toNat_of_nonneg h1]⟩
  rwa [flats_len (c := (n + 1) * (n + 1)) (fun a => by rw [flats_len (c := n + 1) (fun i => by rw [List.length_map, List.length_range]), List.length_range]), List.length_range] at h
end Go.Proofs.YteojbnkjphghkaaDoor
