/-
  The document's matrices: cells in order, two rising lists as one.
-/
import Derived.Test.YtjolkhiggcmoiaaGreatDoorQKeepsLaw
namespace Go.Proofs.YtjolkhiggcmoiaaGreatDoor
open Go.RowKit Go.Shelf
set_option linter.unusedVariables false
set_option linter.unusedSimpArgs false
/-- A cell as a value. -/
def cv (x : Nat × Nat) : Value := .agg #[.int .i64 (x.1 : Nat), .int .i64 (x.2 : Nat)]
instance (a b : Nat × Nat) : Decidable (lexLt a b) := by unfold lexLt; exact inferInstance
section
set_option maxHeartbeats 8000000
set_option maxRecDepth 100000
theorem before_any (a b c d : Nat) (w : World) : Calls Tryz.prog 118 #[.agg #[.int .i64 (a : Nat), .int .i64 (b : Nat)], .agg #[.int .i64 (c : Nat), .int .i64 (d : Nat)]] w fun e w' => e = .returned (.bool (decide (lexLt (a, b) (c, d)))) ∧ Far (fun _ => False) w w' := by
  have hf : Far (fun _ => False) w ((w.alloc (.cells #[.int .i64 (a : Nat), .int .i64 (b : Nat)] 71)).alloc (.cells #[.int .i64 (c : Nat), .int .i64 (d : Nat)] 71)) := ((Far.refl _ w).alloc _).alloc _
  have hf' := Lib.hid hf
  clear hf
  by_cases h1 : a < c
  · have i1 : (a : Int) < (c : Int) := by omega
    rw [show decide (lexLt (a, b) (c, d)) = true from decide_eq_true (Or.inl h1)]
    go_enter Tryz.func118, Tryz.ntmps118
    go_wp2_with fail
    go_ret
    exact ⟨rfl, hf'.out⟩
  · by_cases h2 : a = c
    · subst h2
      have i1 : ¬ (a : Int) < (a : Int) := by omega
      by_cases h3 : b < d
      · have i3 : (b : Int) < (d : Int) := by omega
        rw [show decide (lexLt (a, b) (a, d)) = true from decide_eq_true (Or.inr ⟨rfl, h3⟩)]
        go_enter Tryz.func118, Tryz.ntmps118
        go_wp2_with fail
        go_ret
        exact ⟨rfl, hf'.out⟩
      · have i3 : ¬ (b : Int) < (d : Int) := by omega
        rw [show decide (lexLt (a, b) (a, d)) = false from decide_eq_false fun h => by unfold lexLt at h; simp at h; omega]
        go_enter Tryz.func118, Tryz.ntmps118
        go_wp2_with fail
        go_ret
        exact ⟨rfl, hf'.out⟩
    · have i1 : ¬ (a : Int) < (c : Int) := by omega
      have i2 : ¬ (a : Int) = (c : Int) := by omega
      rw [show decide (lexLt (a, b) (c, d)) = false from decide_eq_false fun h => by unfold lexLt at h; simp at h; omega]
      go_enter Tryz.func118, Tryz.ntmps118
      go_wp2_with fail
      go_ret
      exact ⟨rfl, hf'.out⟩
end
/-! ### Two rising lists as one -/
theorem lex_tri (x y : Nat × Nat) : lexLt x y ∨ x = y ∨ lexLt y x := by
  obtain ⟨a, b⟩ := x
  obtain ⟨c, d⟩ := y
  simp only [lexLt, Prod.mk.injEq]
  omega
theorem rise_at {l : List (Nat × Nat)} (h : l.Pairwise lexLt) {i k : Nat} {x y : Nat × Nat} (hx : l[i]? = some x) (hy : l[k]? = some y) (hik : i < k) : lexLt x y := by
  obtain ⟨h1, rfl⟩ := List.getElem?_eq_some_iff.1 hx
  obtain ⟨h2, rfl⟩ := List.getElem?_eq_some_iff.1 hy
  exact List.pairwise_iff_getElem.1 h i k h1 h2 hik
structure MI (la lb o : List (Nat × Nat)) (i j : Nat) (mo : Bool) : Prop where
  rise : o.Pairwise lexLt
  mem : ∀ x, x ∈ o ↔ x ∈ la.take i ∨ x ∈ lb.take j
  lo1 : ∀ x, x ∈ o → ∀ k y, i ≤ k → la[k]? = some y → lexLt x y
  lo2 : ∀ x, x ∈ o → ∀ k y, j ≤ k → lb[k]? = some y → lexLt x y
  more : mo = true ↔ ∃ x, x ∈ lb.take j ∧ ¬ x ∈ la
  len : o.length ≤ i + j
section
variable {la lb o : List (Nat × Nat)} {i j : Nat} {mo : Bool}
theorem MI.start : MI la lb [] 0 0 false := ⟨List.Pairwise.nil, by simp, by simp, by simp, by simp, by simp⟩
theorem MI.push (h : MI la lb o i j mo) {x : Nat × Nat} (hx : ∀ y, y ∈ o → lexLt y x) : (o ++ [x]).Pairwise lexLt :=
  List.pairwise_append.2 ⟨h.rise, List.pairwise_singleton _ _, fun a ha b hb => by rw [List.mem_singleton.1 hb]; exact hx a ha⟩
theorem after {l : List (Nat × Nat)} (h : l.Pairwise lexLt) {x : Nat × Nat} {j : Nat} (hj : ∀ y, l[j]? = some y → lexLt x y) : ∀ k y, j ≤ k → l[k]? = some y → lexLt x y := fun k y hk hy => by
  by_cases e : j = k
  · subst e; exact hj y hy
  · have hkl := (List.getElem?_eq_some_iff.1 hy).1
    have hz : l[j]? = some (l[j]'(by omega)) := List.getElem?_eq_getElem _
    exact (hj _ hz).trans (rise_at h hz hy (by omega))
theorem MI.left (h : MI la lb o i j mo) (hla : la.Pairwise lexLt) (hlb : lb.Pairwise lexLt) {x : Nat × Nat} (hx : la[i]? = some x) (hj : ∀ y, lb[j]? = some y → lexLt x y) : MI la lb (o ++ [x]) (i + 1) j mo where
  rise := h.push fun y hy => h.lo1 y hy i x (Nat.le_refl _) hx
  mem y := by
    rw [List.mem_append, h.mem, List.take_add_one, hx, List.mem_append]
    simp only [Option.toList_some, List.mem_singleton]
    exact ⟨fun h => by rcases h with (h | h) | h <;> simp [h], fun h => by rcases h with (h | h) | h <;> simp [h]⟩
  lo1 y hy k z hk hz := by
    rcases List.mem_append.1 hy with hy | hy
    · exact h.lo1 y hy k z (by omega) hz
    · rw [List.mem_singleton.1 hy]; exact rise_at hla hx hz (by omega)
  lo2 y hy k z hk hz := by
    rcases List.mem_append.1 hy with hy | hy
    · exact h.lo2 y hy k z hk hz
    · rw [List.mem_singleton.1 hy]; exact after hlb hj k z hk hz
  more := h.more
  len := by rw [List.length_append, List.length_singleton]; have := h.len; omega
theorem MI.both (h : MI la lb o i j mo) (hla : la.Pairwise lexLt) (hlb : lb.Pairwise lexLt) {x : Nat × Nat} (hx : la[i]? = some x) (hy : lb[j]? = some x) : MI la lb (o ++ [x]) (i + 1) (j + 1) mo where
  rise := h.push fun y hy => h.lo1 y hy i x (Nat.le_refl _) hx
  mem y := by
    rw [List.mem_append, h.mem, List.take_add_one, List.take_add_one, hx, hy, List.mem_append, List.mem_append]
    simp only [Option.toList_some, List.mem_singleton]
    exact ⟨fun h => by rcases h with (h | h) | h <;> simp [h], fun h => by rcases h with (h | h) | (h | h) <;> simp [h]⟩
  lo1 y hy k z hk hz := by
    rcases List.mem_append.1 hy with hy | hy
    · exact h.lo1 y hy k z (by omega) hz
    · rw [List.mem_singleton.1 hy]; exact rise_at hla hx hz (by omega)
  lo2 y hy' k z hk hz := by
    rcases List.mem_append.1 hy' with hy' | hy'
    · exact h.lo2 y hy' k z (by omega) hz
    · rw [List.mem_singleton.1 hy']; exact rise_at hlb hy hz (by omega)
  more := by
    rw [h.more, List.take_add_one, hy]
    simp only [Option.toList_some, List.mem_append, List.mem_singleton]
    exact ⟨fun ⟨y, h1, h2⟩ => ⟨y, Or.inl h1, h2⟩, fun ⟨y, h1, h2⟩ => h1.elim (fun h1 => ⟨y, h1, h2⟩) fun e => absurd (List.mem_of_getElem? hx) (e ▸ h2)⟩
  len := by rw [List.length_append, List.length_singleton]; have := h.len; omega
theorem MI.right (h : MI la lb o i j mo) (hla : la.Pairwise lexLt) (hlb : lb.Pairwise lexLt) {x : Nat × Nat} (hx : lb[j]? = some x) (hi : ∀ y, la[i]? = some y → lexLt x y) : MI la lb (o ++ [x]) i (j + 1) true where
  rise := h.push fun y hy => h.lo2 y hy j x (Nat.le_refl _) hx
  mem y := by
    rw [List.mem_append, h.mem, List.take_add_one, hx, List.mem_append]
    simp only [Option.toList_some, List.mem_singleton]
    exact ⟨fun h => by rcases h with (h | h) | h <;> simp [h], fun h => by rcases h with h | (h | h) <;> simp [h]⟩
  lo1 y hy k z hk hz := by
    rcases List.mem_append.1 hy with hy | hy
    · exact h.lo1 y hy k z hk hz
    · rw [List.mem_singleton.1 hy]; exact after hla hi k z hk hz
  lo2 y hy k z hk hz := by
    rcases List.mem_append.1 hy with hy | hy
    · exact h.lo2 y hy k z (by omega) hz
    · rw [List.mem_singleton.1 hy]; exact rise_at hlb hx hz (by omega)
  more := ⟨fun _ => ⟨x, by rw [List.take_add_one, hx]; simp, fun hm => by
    obtain ⟨k, hk⟩ := List.getElem?_of_mem hm
    by_cases hki : k < i
    · have : x ∈ o := (h.mem x).2 (Or.inl (List.mem_take_iff_getElem.2 ⟨k, by have := (List.getElem?_eq_some_iff.1 hk).1; omega, (List.getElem?_eq_some_iff.1 hk).2⟩))
      exact (h.lo2 x this j x (Nat.le_refl _) hx).irrefl
    · exact (after hla hi k x (by omega) hk).irrefl⟩, fun _ => rfl⟩
  len := by rw [List.length_append, List.length_singleton]; have := h.len; omega
theorem MI.done (h : MI la lb o la.length lb.length mo) : o.Pairwise lexLt ∧ (∀ x, x ∈ o ↔ x ∈ la ∨ x ∈ lb) ∧ (mo = true ↔ ∃ x, x ∈ lb ∧ ¬ x ∈ la) := by
  have h1 := h.mem
  have h2 := h.more
  rw [List.take_length, List.take_length] at h1
  rw [List.take_length] at h2
  exact ⟨h.rise, h1, h2⟩
end
end Go.Proofs.YtjolkhiggcmoiaaGreatDoor
