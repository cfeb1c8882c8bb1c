/-
  Which beginnings and whose: the lists of numbers; lists of numbers, the same.
-/
import Derived.Test.YteojbnkjphghkaaDoorKeep15
import Derived.Test.YteojbnkjphghkaaDoorCollect15
namespace Go.Proofs.YteojbnkjphghkaaDoor
open Go.RowKit
set_option linter.unusedVariables false
set_option linter.unusedSimpArgs false
theorem sorted_ext : ∀ {l m : List Nat}, l.Pairwise (· < ·) → m.Pairwise (· < ·) → (∀ x, x ∈ l ↔ x ∈ m) → l = m
  | [], [], _, _, _ => rfl
  | [], y :: m, _, _, h => absurd ((h y).2 (List.mem_cons_self ..)) (by simp)
  | x :: l, [], _, _, h => absurd ((h x).1 (List.mem_cons_self ..)) (by simp)
  | x :: l, y :: m, hl, hm, h => by
    have hl' := List.pairwise_cons.1 hl
    have hm' := List.pairwise_cons.1 hm
    have e : x = y := by
      rcases List.mem_cons.1 ((h x).1 (List.mem_cons_self ..)) with e | e
      · exact e
      · rcases List.mem_cons.1 ((h y).2 (List.mem_cons_self ..)) with e2 | e2
        · exact e2.symm
        · have := hm'.1 _ e; have := hl'.1 _ e2; omega
    subst e
    rw [sorted_ext hl'.2 hm'.2 fun z => ⟨fun hz => ?_, fun hz => ?_⟩]
    · rcases List.mem_cons.1 ((h z).1 (List.mem_cons_of_mem _ hz)) with e | e
      · subst e; have := hl'.1 _ hz; omega
      · exact e
    · rcases List.mem_cons.1 ((h z).2 (List.mem_cons_of_mem _ hz)) with e | e
      · subst e; have := hm'.1 _ hz; omega
      · exact e
/-- The list of what P says, rising, if one may ask; nothing else. -/
def ListP (c : Int) (P : Nat → Prop) (xs : List Nat) : Prop := (c ≠ 0 → xs = []) ∧ (c = 0 → xs.Pairwise (· < ·) ∧ ∀ x, x ∈ xs ↔ P x)
theorem listP_same {c : Int} {P : Nat → Prop} {xs ys : List Nat} (h1 : ListP c P xs) (h2 : ListP c P ys) : xs = ys := by
  by_cases hc : c = 0
  · exact sorted_ext (h1.2 hc).1 (h2.2 hc).1 fun x => ((h1.2 hc).2 x).trans ((h2.2 hc).2 x).symm
  · rw [h1.1 hc, h2.1 hc]
theorem range_filter (p : Nat → Bool) (n : Nat) : ((List.range n).filter p).Pairwise (· < ·) ∧ ∀ x, x ∈ (List.range n).filter p ↔ x < n ∧ p x = true :=
  ⟨List.pairwise_lt_range.filter _, fun x => by rw [List.mem_filter, List.mem_range]⟩
theorem filt_succ (p : Nat → Bool) (n : Nat) : (List.range (n + 1)).filter p = (List.range n).filter p ++ (if p n then [n] else []) := by
  rw [List.range_succ, List.filter_append]
  congr 1
  cases h : p n <;> simp [h]
theorem ncells_app (l : List Nat) (t : Nat) : ncells l ++ [Value.int .i64 (t : Int)] = ncells (l ++ [t]) := by simp [ncells]
theorem nsrc_at {w : World} {v : Value} {xs : List Nat} (h : Src w 1 v xs.length (ncells xs)) {k : Nat} (hk : k < xs.length) : ∃ b off c, v = .slice (some ⟨b, off, none⟩) xs.length c ∧ w.cell? ⟨b, off + k, none⟩ = some (.int .i64 (xs.getD k 0 : Nat)) := by
  have hl : (ncells xs).length = xs.length := by simp [ncells]
  obtain ⟨b, off, c, e, _, hc⟩ := h.at (by omega)
  refine ⟨b, off, c, e, hc k _ ?_⟩
  simp [ncells, hk, List.getD]
section
set_option maxHeartbeats 4000000
set_option maxRecDepth 100000
theorem sameN_yes (v1 v2 : Value) (xs : List Nat) (w : World) (hn : xs.length ≤ maxLen) (h1 : Src w 1 v1 xs.length (ncells xs)) (h2 : Src w 1 v2 xs.length (ncells xs)) :
    Calls Tryd.prog 19 #[v1, v2] w fun e w' => e = .returned (.bool true) ∧ Far (fun _ => False) w w' := by
  unfold maxLen at hn
  obtain ⟨ao, ac, rfl⟩ := Src.form h1
  obtain ⟨bo, bc, rfl⟩ := Src.form h2
  have hA' := Lib.hid h1
  have hB' := Lib.hid h2
  clear h1 h2
  go_enter Tryd.func19, Tryd.ntmps19
  go_wp2_with fail
  go_loopw [5] (fun iv wr => ∃ i : Nat, iv = .int .i64 i ∧ i ≤ xs.length ∧ Far (fun _ => False) w wr) (fun iv _ => xs.length - (intOf iv).toNat)
  case atStart => exact ⟨0, rfl, Nat.zero_le _, Far.refl _ _⟩
  case round =>
    obtain ⟨i, rfl, hi, hfw⟩ := hrel
    by_cases hlt : i < xs.length
    · have e1 : decide ((i : Int) < (xs.length : Int)) = true := by rw [decide_eq_true_eq]; omega
      have hii : (i : Int) < (xs.length : Int) := by omega
      obtain ⟨ga, oa, c1, e, ca⟩ := nsrc_at (hA'.out.move hfw) hlt
      simp only [Value.slice.injEq] at e
      obtain ⟨rfl, _, rfl⟩ := e
      obtain ⟨gb, ob, c2, e, cb⟩ := nsrc_at (hB'.out.move hfw) hlt
      simp only [Value.slice.injEq] at e
      obtain ⟨rfl, _, rfl⟩ := e
      have hfw' := Lib.hid hfw
      obtain ⟨q, hq⟩ : ∃ q : Nat, q = xs.getD i 0 := ⟨_, rfl⟩
      rw [← hq] at ca cb
      have hne : ((q : Int) != (q : Int)) = false := by simp
      clear hfw hq
      go_wp2_with fail
      go_quiet (fail)
      go_wp2_with fail
      go_roundw
      case rel => exact ⟨i + 1, by go_num, by omega, hfw'.out.drewN _⟩
      case measure => simp [intOf]; omega
    · have e1 : decide ((i : Int) < (xs.length : Int)) = false := by rw [decide_eq_false_iff_not]; omega
      have hfw' := Lib.hid hfw
      clear hfw
      go_wp2_with fail
      go_ret
      exact ⟨rfl, hfw'.out⟩
end
end Go.Proofs.YteojbnkjphghkaaDoor
