/-
  Blocks of a matrix: which there are, how wide they are, what stands in them.
-/
import Derived.Test.YtoaeeojnelmlnaaDoorQSet
namespace Go.Proofs.YtoaeeojnelmlnaaDoor
open Go.RowKit
set_option linter.unusedVariables false
set_option linter.unusedSimpArgs false
section
variable {w w' : World} {B side lv root : Nat} {nv lvv : Value} {ns : List (Nat → Nat)} {A : Nat → Nat → Nat → Nat} {ps : List (Nat × Nat)} {F : Nat → Prop} {M : Nat → Nat → Bool}
theorem rw_range {w : World} {g o : Nat} {f : Nat → Nat} (h : w.rangeAt g o (Rw f).toList) : (loadVar 97 ⟨g, o, none⟩).run Tryd.prog w = .ok (.agg (Rw f)) w := by
  have := run_loadVar_mid (P := Tryd.prog) w g o 97 (Rw f).toList _ h blockType rfl (by rw [blockSize]; simp [Rw_size])
  simpa using this
theorem far_row {F : Nat → Prop} {a w : World} (h : Far F a w) {g : Nat} (hg : g < a.heap.size → F g) (Y : Array Value) : Far F a (w.setRow g Y) :=
  h.trans (G := fun k => k = g) ⟨rfl, rfl, rfl, by rw [size_setRow]; exact Nat.le_refl _, fun k _ hne => setRow_other w g k Y hne⟩ (fun k hk e => by subst e; exact hg hk)
/-- A whole leaf out of the arena. -/
theorem wpList_lf {ops : Array Oper} {rest : List Oper} {o : Oper} {a : Act} {w : World} {Q : Exit → Act → World → Prop} (hgd : Region.wanted o (yielded ops a.tmps) = true) (x : Operand) (ho : o.op = .load 97 x)
    (g k : Nat) (hx : a.eval x = .pointer (some ⟨g, k, none⟩)) {f : Nat → Nat} (hg : w.rangeAt g k (Rw f).toList)
    (h : wpList Tryd.prog ops Q rest (a.put o.dst (.agg (Rw f))) w) : wpList Tryd.prog ops Q (o :: rest) a w :=
  wpList_want hgd fun _ hK => by
    unfold Oper.wp execOp
    simp only [ho, hx, Instr.loadAt, Instr.sureAddr, Sem.run_bind, Sem.run_pure, Result.andThen_ok, rw_range hg]
    rw [Oper.upon_value]
    exact hK _ _ h
section
set_option maxHeartbeats 2000000
set_option maxRecDepth 100000
theorem qhas_yes (h : Qd w B side lv root nv lvv ns A ps M) (i j : Nat) (hi : i < lns side) (hj : j < lns side) :
    Calls Tryd.prog 104 #[.pointer (some ⟨B, 0, none⟩), .int .i64 i, .int .i64 j] w fun e w' => e = .returned (.bool true) ∧ w = w' := by
  have L := qlines_any h
  have d1 : decide ((i : Int) < ((lns side : Nat) : Int)) = true := by rw [decide_eq_true_eq]; omega
  have d2 : decide ((j : Int) < ((lns side : Nat) : Int)) = true := by rw [decide_eq_true_eq]; omega
  have d3 : (i : Int) < ((lns side : Nat) : Int) := by omega
  have d4 : (j : Int) < ((lns side : Nat) : Int) := by omega
  clear h
  go_enter Tryd.func104, Tryd.ntmps104
  go_wp2_with (go_at_call 86; refine L.mono ?_; rintro e w' ⟨rfl, rfl⟩)
  go_ret
  exact ⟨rfl, rfl⟩
theorem qhas_no (h : Qd w B side lv root nv lvv ns A ps M) (i j : Int) (hij : i < 0 ∨ ((lns side : Nat) : Int) ≤ i ∨ j < 0 ∨ ((lns side : Nat) : Int) ≤ j) :
    Calls Tryd.prog 104 #[.pointer (some ⟨B, 0, none⟩), .int .i64 i, .int .i64 j] w fun e w' => e = .returned (.bool false) ∧ w = w' := by
  have L := qlines_any h
  clear h
  by_cases h1 : i < 0
  · have d1 : decide (0 ≤ i) = false := by rw [decide_eq_false_iff_not]; omega
    have d2 : ¬ (0 ≤ i) := by omega
    go_enter Tryd.func104, Tryd.ntmps104
    go_wp2_with (go_at_call 86; refine L.mono ?_; rintro e w' ⟨rfl, rfl⟩)
    go_ret
    exact ⟨rfl, rfl⟩
  · obtain ⟨i, rfl⟩ : ∃ k : Nat, i = (k : Int) := ⟨i.toNat, by omega⟩
    by_cases h2 : ((lns side : Nat) : Int) ≤ (i : Int)
    · have d1 : decide ((i : Int) < ((lns side : Nat) : Int)) = false := by rw [decide_eq_false_iff_not]; omega
      have d2 : ¬ ((i : Int) < ((lns side : Nat) : Int)) := by omega
      go_enter Tryd.func104, Tryd.ntmps104
      go_wp2_with (go_at_call 86; refine L.mono ?_; rintro e w' ⟨rfl, rfl⟩)
      go_ret
      exact ⟨rfl, rfl⟩
    · have d1 : decide ((i : Int) < ((lns side : Nat) : Int)) = true := by rw [decide_eq_true_eq]; omega
      have d2 : (i : Int) < ((lns side : Nat) : Int) := by omega
      by_cases h3 : j < 0
      · have d3 : decide (0 ≤ j) = false := by rw [decide_eq_false_iff_not]; omega
        have d4 : ¬ (0 ≤ j) := by omega
        go_enter Tryd.func104, Tryd.ntmps104
        go_wp2_with (go_at_call 86; refine L.mono ?_; rintro e w' ⟨rfl, rfl⟩)
        go_ret
        exact ⟨rfl, rfl⟩
      · obtain ⟨j, rfl⟩ : ∃ k : Nat, j = (k : Int) := ⟨j.toNat, by omega⟩
        have d3 : decide ((j : Int) < ((lns side : Nat) : Int)) = false := by rw [decide_eq_false_iff_not]; omega
        have d4 : ¬ ((j : Int) < ((lns side : Nat) : Int)) := by omega
        have d5 : ¬ (j < lns side) := by omega
        go_enter Tryd.func104, Tryd.ntmps104
        go_wp2_with (go_at_call 86; refine L.mono ?_; rintro e w' ⟨rfl, rfl⟩)
        go_ret
        exact ⟨rfl, rfl⟩
/-- How many rows a block has within the side. -/
def wid (side i : Nat) : Nat := min 64 (side - 64 * i)
theorem qwidth_any (h : Qd w B side lv root nv lvv ns A ps M) (i : Nat) (hi : i < lns side) :
    Calls Tryd.prog 106 #[.pointer (some ⟨B, 0, none⟩), .int .i64 i] w fun e w' => e = .returned (.int .i64 (wid side i : Nat)) ∧ w = w' := by
  have p0 : w.cell? ⟨B, 0, none⟩ = some (.int .i64 (side : Nat)) := h.box.cell 0
  have hs := h.side2
  unfold lns at hi
  have e1 : IntKind.i64.wrap (64 * (i : Int)) = ((64 * i : Nat) : Int) := by rw [IntKind.wrap_i64]; omega
  have e2 : IntKind.i64.wrap ((side : Int) - ((64 * i : Nat) : Int)) = ((side - 64 * i : Nat) : Int) := by rw [IntKind.wrap_i64]; omega
  have e3 : min 64 ((side - 64 * i : Nat) : Int) = ((wid side i : Nat) : Int) := by unfold wid; omega
  clear h
  go_enter Tryd.func106, Tryd.ntmps106
  go_wp2_with fail
  all_goals go_ret
  all_goals exact ⟨congrArg (fun x => Ending.returned (.int .i64 x)) (by unfold wid; omega), rfl⟩
/-- The block at a place. -/
theorem qblock_any (h : Qd w B side lv root nv lvv ns A ps M) (i j : Nat) (hi : i < 2 ^ lv) (hj : j < 2 ^ lv) :
    Calls Tryd.prog 67 #[.pointer (some ⟨B, 0, none⟩), .int .i64 i, .int .i64 j] w fun e w' => e = .returned (.agg (Rw (blk (sub M i j)))) ∧ Far (fun _ => False) w w' := by
  have hz : ∀ w, (zeroValue 97).run Tryd.prog w = .ok (.agg (Rw fun _ => 0)) w := (zero_of_info blockZero).1
  have FI := fun W (hf : Far (fun _ => False) w W) => find_any (h.still hf) i j hi hj
  have h' := Lib.hid h
  clear h
  go_enter Tryd.func67, Tryd.ntmps67
  go_wp2_with fail
  refine (FI _ ((Far.refl _ w).alloc _)).mono ?_
  rintro e w1 ⟨rfl, hf⟩
  have hf1 : Far (fun _ => False) w w1 := ((Far.refl _ w).alloc _).then hf
  have d0 : Hold w1 w.heap.size (Rw fun _ => 0) := (hf.block _ (by simp) id).trans (Hold.new rfl)
  have h2 := Lib.hid (h'.out.still hf1)
  clear h' FI hf
  by_cases hn : A 0 i j = 0
  · rw [hn]
    have e0 : Rw (fun _ => 0) = Rw (blk (sub M i j)) := Rw_blk Wf.zero fun r c hr hc => by
      rw [show sub M i j r c = false from h2.out.bare i j hn r c hr hc]; simp
    go_wp2_with (first | (apply wpList_bd rfl rfl) | (apply wpList_st rfl _ _ rfl _ rfl _ rfl; focus (assumption)))
    exact ret_blk rfl w.heap.size rfl (Hold.row d0 _) rfl ⟨by rw [e0], far_row hf1 (fun h => absurd h (Nat.lt_irrefl _)) _⟩
  · obtain ⟨g, cap, rfl, hlt, _, _, hr, _⟩ := h2.out.leafAt hn
    have p4 : w1.cell? ⟨B, 4, none⟩ = some (.slice (some ⟨g, 0, none⟩) ps.length cap) := h2.out.box.cell 4
    obtain ⟨n, hN⟩ : ∃ n, A 0 i j = n := ⟨_, rfl⟩
    rw [hN] at hlt hn hr ⊢
    have hr' : w1.rangeAt g ((n - 1) * 64) (Rw (blk (sub M i j))).toList := hr
    have hx1 : IntKind.i64.wrap ((n : Int) - 1) = ((n - 1 : Nat) : Int) := by rw [IntKind.wrap_i64]; have := h2.out.many; omega
    have hn0 : ((n : Int) != 0) = true := by simp; omega
    clear h2 hN hr
    go_wp2_with (first | (refine wpList_lf rfl _ rfl _ _ rfl hr' ?_) | (apply wpList_st rfl _ _ rfl _ rfl _ rfl; focus (assumption)))
    exact ret_blk rfl w.heap.size rfl (Hold.row d0 _) rfl ⟨rfl, far_row hf1 (fun h => absurd h (Nat.lt_irrefl _)) _⟩
end
end
end Go.Proofs.YtoaeeojnelmlnaaDoor
