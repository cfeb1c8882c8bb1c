/-
  The document's products: counts of the cells ahead of a row, rows of cells by their numbers.
-/
import Derived.Test.YtjolkhiggcmoiaaGreatDoorQRef
import Derived.Test.YtjolkhiggcmoiaaGreatDoorQPRows
namespace Go.Proofs.YtjolkhiggcmoiaaGreatDoor
open Go.RowKit Go.Shelf
set_option linter.unusedVariables false
set_option linter.unusedSimpArgs false
/-- How many cells stand in rows ahead of r. -/
def posM (M : Nat → Nat → Bool) (side r : Nat) : Nat := (cellsK M side r).length
theorem posM_zero (M : Nat → Nat → Bool) (side : Nat) : posM M side 0 = 0 := rfl
theorem posM_succ (M : Nat → Nat → Bool) (side r : Nat) : posM M side (r + 1) = posM M side r + (colsM M side r).length := by
  unfold posM
  rw [cellsK_succ, List.length_append, List.length_map]
theorem posM_mono {M : Nat → Nat → Bool} {side r : Nat} : ∀ {s : Nat}, r ≤ s → posM M side r ≤ posM M side s
  | 0, h => by rw [show r = 0 by omega]; exact Nat.le_refl _
  | s + 1, h => by
    by_cases e : r = s + 1
    · rw [e]; exact Nat.le_refl _
    · rw [posM_succ]; have := posM_mono (M := M) (side := side) (r := r) (s := s) (by omega); omega
theorem posM_all (M : Nat → Nat → Bool) (side : Nat) : posM M side side = (cellsL M side).length := rfl
theorem cellsK_pre {M : Nat → Nat → Bool} {side r : Nat} : ∀ {s : Nat}, r ≤ s → cellsK M side r <+: cellsK M side s
  | 0, h => by rw [show r = 0 by omega]; exact List.prefix_refl _
  | s + 1, h => by
    by_cases e : r = s + 1
    · rw [e]; exact List.prefix_refl _
    · rw [cellsK_succ]
      exact (cellsK_pre (by omega)).trans (List.prefix_append _ _)
theorem pre_at {l m : List (Nat × Nat)} (h : l <+: m) {k : Nat} (hk : k < l.length) : m[k]? = l[k]? := by
  obtain ⟨t, rfl⟩ := h
  rw [List.getElem?_append_left hk]
/-- The cell number q of row i. -/
theorem cells_row {M : Nat → Nat → Bool} {side i q c : Nat} (hi : i < side) (hq : (colsM M side i)[q]? = some c) : (cellsL M side)[posM M side i + q]? = some (i, c) := by
  have hl := (List.getElem?_eq_some_iff.1 hq).1
  have hp := cellsK_pre (M := M) (side := side) (show i + 1 ≤ side by omega)
  unfold cellsL
  rw [pre_at hp (by show _ < posM M side (i + 1); rw [posM_succ]; omega), cellsK_succ, List.getElem?_append_right (by unfold posM; omega)]
  rw [show posM M side i + q - (cellsK M side i).length = q by unfold posM; omega, List.getElem?_map, hq]
  rfl
/-! ### The two passes of first -/
/-- Behind k cells: how many of them are in the row ahead of r. -/
def cntL (L : List (Nat × Nat)) (k r : Nat) : Nat := ((L.take k).filter fun x => decide (x.1 + 1 = r)).length
theorem cntL_zero (L : List (Nat × Nat)) (r : Nat) : cntL L 0 r = 0 := by simp [cntL]
theorem cntL_step {L : List (Nat × Nat)} {k a b : Nat} (h : L[k]? = some (a, b)) (r : Nat) : cntL L (k + 1) r = if r = a + 1 then cntL L k r + 1 else cntL L k r := by
  unfold cntL
  rw [List.take_add_one, h, Option.toList_some, List.filter_append, List.length_append]
  by_cases e : r = a + 1
  · subst e; simp
  · have e2 : ¬ a + 1 = r := fun h => e h.symm
    simp [e, e2]
theorem cntL_le (L : List (Nat × Nat)) (k r : Nat) : cntL L k r ≤ k := by
  unfold cntL
  have h1 := List.length_filter_le (fun x : Nat × Nat => decide (x.1 + 1 = r)) (L.take k)
  have h2 := List.length_take_le k L
  omega
theorem cntL_row (M : Nat → Nat → Bool) {side i : Nat} (hi : i < side) : cntL (cellsL M side) (cellsL M side).length (i + 1) = (colsM M side i).length := by
  unfold cntL
  rw [List.take_length]
  have e : ((cellsL M side).filter fun x => decide (x.1 + 1 = i + 1)) = (colsM M side i).map fun c => (i, c) := by
    refine rise_eq (List.Pairwise.filter _ (cellsK_rise M side side)) ?_ fun x => ?_
    · rw [List.pairwise_map]
      exact (colsM_rise M side i).imp fun h => .inr ⟨rfl, h⟩
    · rw [List.mem_filter, cellsL, mem_cellsK, List.mem_map]
      constructor
      · rintro ⟨⟨h1, h2, h3⟩, h4⟩
        have h4 : x.1 = i := by have := of_decide_eq_true h4; omega
        subst h4
        exact ⟨x.2, mem_colsM.2 ⟨h2, h3⟩, rfl⟩
      · rintro ⟨c, hc, rfl⟩
        obtain ⟨h1, h2⟩ := mem_colsM.1 hc
        exact ⟨⟨hi, h1, h2⟩, by simp⟩
  rw [e, List.length_map]
theorem cntL_none (M : Nat → Nat → Bool) (side : Nat) : cntL (cellsL M side) (cellsL M side).length 0 = 0 := by
  unfold cntL
  rw [List.take_length]
  have : ((cellsL M side).filter fun x => decide (x.1 + 1 = 0)) = [] := List.filter_eq_nil_iff.2 fun x _ => by simp
  rw [this]; rfl
/-- Behind i rounds of the second pass. -/
def sumA (M : Nat → Nat → Bool) (side i r : Nat) : Nat := if r ≤ i then posM M side r else (colsM M side (r - 1)).length
theorem sumA_zero (M : Nat → Nat → Bool) {side r : Nat} (hr : r ≤ side) : sumA M side 0 r = cntL (cellsL M side) (cellsL M side).length r := by
  unfold sumA
  by_cases e : r ≤ 0
  · have : r = 0 := by omega
    subst this
    simp [posM_zero, cntL_none]
  · rw [if_neg e]
    obtain ⟨q, rfl⟩ : ∃ q, r = q + 1 := ⟨r - 1, by omega⟩
    rw [cntL_row M (by omega)]
    rfl
theorem sumA_step (M : Nat → Nat → Bool) (side i r : Nat) : sumA M side (i + 1) r = if r = i + 1 then sumA M side i (i + 1) + sumA M side i i else sumA M side i r := by
  unfold sumA
  by_cases e : r = i + 1
  · subst e
    rw [if_pos (Nat.le_refl _), if_pos rfl, if_neg (by omega), if_pos (Nat.le_refl _), posM_succ]
    simp only [Nat.add_sub_cancel]
    omega
  · rw [if_neg e]
    by_cases h : r ≤ i
    · rw [if_pos (by omega), if_pos h]
    · rw [if_neg (by omega), if_neg h]
theorem sumA_all (M : Nat → Nat → Bool) {side r : Nat} (hr : r ≤ side) : sumA M side side r = posM M side r := by unfold sumA; rw [if_pos hr]
theorem colsM_len (M : Nat → Nat → Bool) (side r : Nat) : (colsM M side r).length ≤ side := colsM_le M side r
theorem posM_le (M : Nat → Nat → Bool) (side r : Nat) : posM M side r ≤ r * side := cellsK_le M side r
theorem sumA_le (M : Nat → Nat → Bool) {side i r : Nat} (hs : side ≤ 1024) (hr : r ≤ side) : sumA M side i r ≤ 1048576 := by
  unfold sumA
  split
  · have h1 := posM_le M side r
    have h2 : r * side ≤ 1024 * 1024 := Nat.mul_le_mul (by omega) hs
    omega
  · have := colsM_len M side (r - 1); omega
/-! ### A row of a product -/
/-- Which columns are met behind q cells of the row. -/
def metK (B : Nat → Nat → Bool) (cs : List Nat) (q j : Nat) : Bool := (cs.take q).any fun c => B c j
/-- .. and behind n cells of the next one's row. -/
def metN (B : Nat → Nat → Bool) (side : Nat) (cs : List Nat) (q n c j : Nat) : Bool := metK B cs q j || decide (j ∈ (colsM B side c).take n)
theorem metK_zero (B : Nat → Nat → Bool) (cs : List Nat) (j : Nat) : metK B cs 0 j = false := by simp [metK]
theorem metN_zero (B : Nat → Nat → Bool) (side : Nat) (cs : List Nat) (q c j : Nat) : metN B side cs q 0 c j = metK B cs q j := by simp [metN]
theorem metN_step {B : Nat → Nat → Bool} {side : Nat} {cs : List Nat} {q n c d : Nat} (h : (colsM B side c)[n]? = some d) (j : Nat) : metN B side cs q (n + 1) c j = if j = d then true else metN B side cs q n c j := by
  unfold metN
  rw [List.take_add_one, h, Option.toList_some]
  by_cases e : j = d
  · subst e; simp
  · simp [e]
theorem metK_step {B : Nat → Nat → Bool} {side : Nat} {cs : List Nat} {q c : Nat} (hw : ∀ r c, B r c = true → r < side ∧ c < side) (h : cs[q]? = some c) (j : Nat) : metN B side cs q (colsM B side c).length c j = metK B cs (q + 1) j := by
  unfold metN metK
  rw [List.take_add_one, h, Option.toList_some, List.any_append, List.take_length]
  congr 1
  rw [Bool.eq_iff_iff, decide_eq_true_eq, mem_colsM]
  simp only [List.any_cons, List.any_nil, Bool.or_false]
  exact ⟨fun h => h.2, fun h => ⟨(hw _ _ h).2, h⟩⟩
theorem metK_all {A B : Nat → Nat → Bool} {side i : Nat} (hs : side ≤ 1024) (ha : ∀ r c, A r c = true → r < side ∧ c < side) (j : Nat) : metK B (colsM A side i) (colsM A side i).length j = mulM A B i j := by
  unfold metK
  rw [List.take_length, Bool.eq_iff_iff, List.any_eq_true, mulM_iff hs ha]
  constructor
  · rintro ⟨c, hc, h⟩
    exact ⟨c, (mem_colsM.1 hc).2, h⟩
  · rintro ⟨c, h1, h2⟩
    exact ⟨c, mem_colsM.2 ⟨(ha _ _ h1).2, h1⟩, h2⟩
/-- The cells of the rows ahead of i, and those of row i ahead of column j. -/
def cellsR (M : Nat → Nat → Bool) (side i j : Nat) : List (Nat × Nat) := cellsK M side i ++ ((List.range j).filter fun c => M i c).map fun c => (i, c)
theorem cellsR_zero (M : Nat → Nat → Bool) (side i : Nat) : cellsR M side i 0 = cellsK M side i := by simp [cellsR]
theorem cellsR_all (M : Nat → Nat → Bool) (side i : Nat) : cellsR M side i side = cellsK M side (i + 1) := by rw [cellsK_succ]; rfl
theorem cellsR_step (M : Nat → Nat → Bool) (side i j : Nat) : cellsR M side i (j + 1) = if M i j = true then cellsR M side i j ++ [(i, j)] else cellsR M side i j := by
  unfold cellsR
  rw [List.range_succ, List.filter_append, List.map_append]
  by_cases h : M i j = true
  · rw [if_pos h]; simp [h]
  · rw [if_neg h]; simp [h]
theorem cellsR_len {M : Nat → Nat → Bool} {side i j : Nat} (hs : side ≤ 1024) (hi : i < side) (hj : j ≤ side) : (cellsR M side i j).length ≤ 1048576 := by
  unfold cellsR
  rw [List.length_append, List.length_map]
  have h1 := cellsK_le M side i
  have h2 := List.length_filter_le (fun c => M i c) (List.range j)
  rw [List.length_range] at h2
  have h3 : (i + 1) * side ≤ 1024 * 1024 := Nat.mul_le_mul (by omega) hs
  rw [Nat.succ_mul] at h3
  omega
theorem row_none {M : Nat → Nat → Bool} {side i : Nat} (h : posM M side i = posM M side (i + 1)) : colsM M side i = [] := by
  rw [posM_succ] at h
  exact List.length_eq_zero_iff.1 (by omega)
theorem mul_none {A B : Nat → Nat → Bool} {side i : Nat} (hs : side ≤ 1024) (ha : ∀ r c, A r c = true → r < side ∧ c < side) (h : colsM A side i = []) : cellsK (mulM A B) side (i + 1) = cellsK (mulM A B) side i := by
  rw [cellsK_succ]
  have : colsM (mulM A B) side i = [] := by
    unfold colsM
    refine List.filter_eq_nil_iff.2 fun c _ => ?_
    rw [mulM_iff hs ha]
    rintro ⟨t, h1, _⟩
    have := mem_colsM.2 ⟨(ha _ _ h1).2, h1⟩
    rw [h] at this
    cases this
  rw [this]
  simp
end Go.Proofs.YtjolkhiggcmoiaaGreatDoor
