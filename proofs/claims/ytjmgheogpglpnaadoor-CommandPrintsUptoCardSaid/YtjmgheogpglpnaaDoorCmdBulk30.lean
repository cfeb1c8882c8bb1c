/-
  A command that is handed in and is not too great.
-/
import Derived.Test.YtjmgheogpglpnaaDoorCmdW30
import Derived.Lib.ItoaLen
namespace Go.Proofs.YtjmgheogpglpnaaDoor
open Go.ChangeMaps Go.ChangeShapes Go.WideShapes Go.ChangeAt Go.RowKit Go.Deep
set_option linter.unusedVariables false
set_option linter.unusedSimpArgs false
theorem joinW_len : ∀ l : List Tx, (joinW l).length ≤ txSum l
  | [] => Nat.le_refl _
  | [x] => by simp [joinW, txSum]
  | x :: y :: r => by
    have := joinW_len (y :: r)
    simp only [joinW, List.length_append, List.length_cons, txSum] at this ⊢
    omega
theorem nums_len : ∀ l : List Int, (∀ n ∈ l, -9223372036854775808 ≤ n ∧ n ≤ 9223372036854775807) → txSum (l.map Lib.itoa) ≤ 22 * l.length
  | [], _ => Nat.le_refl _
  | x :: l, h => by
    have h1 := Lib.itoa_length_le x (h x (List.mem_cons_self ..)).1 (h x (List.mem_cons_self ..)).2
    have h2 := nums_len l fun n hn => h n (List.mem_cons_of_mem _ hn)
    simp only [List.map_cons, txSum, List.length_cons]
    omega
theorem verb_len (v : Nat) : (wordV v).length ≤ 7 := by
  unfold wordV
  split
  · simp
  · by_cases h : v - 1 < 10
    · have : v - 1 = 0 ∨ v - 1 = 1 ∨ v - 1 = 2 ∨ v - 1 = 3 ∨ v - 1 = 4 ∨ v - 1 = 5 ∨ v - 1 = 6 ∨ v - 1 = 7 ∨ v - 1 = 8 ∨ v - 1 = 9 := by omega
      rcases this with e | e | e | e | e | e | e | e | e | e <;> rw [e] <;> decide
    · rw [List.getD_eq_getElem?_getD, List.getElem?_eq_none (by show 10 ≤ _; omega)]
      simp
theorem hwT_len (h : Int) : (hwT h).length ≤ 6 := by
  unfold hwT
  (repeat' split) <;> decide
theorem write_len (c : CI) (hf : ∀ n ∈ c.nums, -9223372036854775808 ≤ n ∧ n ≤ 9223372036854775807) : (writeF c).length ≤ 32 + 22 * costC c := by
  have h1 := nums_len c.nums hf
  have h2 := verb_len c.v.toNat
  have h3 := hwT_len c.how
  unfold writeF
  split
  · refine Nat.le_trans (joinW_len _) ?_
    simp only [txSum]
    have : txSum (tailF c.v.toNat c) ≤ 7 + 22 * costC c + 1 := by
      unfold tailF costC
      split
      · simp only [txSum]; omega
      · split
        · simp only [txSum]; omega
        · split
          · rw [txSum_app]; omega
          · omega
    omega
  · simp
theorem names_cost (c : CI) : c.names.length ≤ costC c := by
  have : ∀ l : List Tx, l.length ≤ txSum l := fun l => by
    induction l with
    | nil => exact Nat.le_refl _
    | cons x l ih => simp only [List.length_cons, txSum]; omega
  have := this c.names
  unfold costC
  omega
theorem fit_i64 {n : Int} (h : Fit n) : -9223372036854775808 ≤ n ∧ n ≤ 9223372036854775807 := by
  unfold Fit at h; omega
set_option maxRecDepth 100000 in
theorem open_cmg {H : Type} {enc : TypeId × Value → H} {w : World} {base : Nat} {r : Reach} {b0 : Nat} {v : Value} {d : DataW H} {ps : List MemPlace} (hv : Value.okWide Tryd.prog w r b0 27 v)
    (h : DataW.Trod enc Tryd.prog w base (fun _ => true) true 27 v d ps) (hb : Rows.uptoBulk d ≤ 1048576) : ∃ c, CmG w v c ∧ Fit c.v ∧ Fit c.how ∧ costC c ≤ 1048576 := by
  obtain ⟨c, h1, h2, h3, h4, h5, h6⟩ := open_cmd' hv h
  have hc : costC c ≤ 1048576 := Nat.le_trans h5 hb
  have hf : ∀ n ∈ c.nums, -9223372036854775808 ≤ n ∧ n ≤ 9223372036854775807 := fun n hn => fit_i64 (h4 n hn)
  have hl := write_len c hf
  have hn := names_cost c
  have hm : c.nums.length ≤ costC c := by unfold costC; omega
  exact ⟨c, ⟨h1, cmw_of h1 h6, by omega, hf, by omega⟩, h2, h3, hc⟩
end Go.Proofs.YtjmgheogpglpnaaDoor
