/-
  The columns of a row, off a list of cells.
-/
import Derived.Test.YtjolkhiggcmoiaaGreatDoorQCanon
import Derived.Test.YtjolkhiggcmoiaaGreatDoorQLine
namespace Go.Proofs.YtjolkhiggcmoiaaGreatDoor
open Go.RowKit Go.Shelf
set_option linter.unusedVariables false
set_option linter.unusedSimpArgs false
def rowOf (L : List (Nat × Nat)) (i : Nat) : List Nat := (L.filter fun x => decide (x.1 = i)).map Prod.snd
theorem rowOf_step {L : List (Nat × Nat)} {k a b i : Nat} (h : L[k]? = some (a, b)) : rowOf (L.take (k + 1)) i = if a = i then rowOf (L.take k) i ++ [b] else rowOf (L.take k) i := by
  unfold rowOf
  rw [List.take_add_one, h, Option.toList_some, List.filter_append, List.map_append]
  by_cases e : a = i <;> simp [e]
theorem rowOf_le (L : List (Nat × Nat)) (i : Nat) : (rowOf L i).length ≤ L.length := by
  unfold rowOf
  rw [List.length_map]
  exact List.length_filter_le _ _
theorem rowOf_cols (M : Nat → Nat → Bool) {s i : Nat} (hi : i < s) : rowOf (cellsL M s) i = colsM M s i := by
  unfold rowOf
  have e : ((cellsL M s).filter fun x => decide (x.1 = i)) = (colsM M s i).map fun c => (i, c) := by
    refine rise_eq (List.Pairwise.filter _ (cellsK_rise M s s)) ?_ fun x => ?_
    · rw [List.pairwise_map]
      exact (colsM_rise M s i).imp fun h => .inr ⟨rfl, h⟩
    · rw [List.mem_filter, cellsL, mem_cellsK, List.mem_map]
      constructor
      · rintro ⟨⟨h1, h2, h3⟩, h4⟩
        have h4 : x.1 = i := of_decide_eq_true h4
        subst h4
        exact ⟨x.2, mem_colsM.2 ⟨h2, h3⟩, rfl⟩
      · rintro ⟨c, hc, rfl⟩
        obtain ⟨h1, h2⟩ := mem_colsM.1 hc
        exact ⟨⟨hi, h1, h2⟩, by simp⟩
  rw [e, List.map_map]
  simp [Function.comp_def]
theorem ncells_app (l : List Nat) (x : Nat) : ncells (l ++ [x]) = ncells l ++ [.int .i64 (x : Nat)] := by simp [ncells]
theorem own_lower {w : World} {b b' s : Nat} {e : TypeId} {v : Value} {n : Nat} {xs : List Value} (h : w.ownsRow b e s v n xs) (hb : b' ≤ b) : w.ownsRow b' e s v n xs := ⟨h.1, h.2.imp id fun ⟨g, cap, cur, e1, h2, r⟩ => ⟨g, cap, cur, e1, Nat.le_trans hb h2, r⟩⟩
end Go.Proofs.YtjolkhiggcmoiaaGreatDoor
