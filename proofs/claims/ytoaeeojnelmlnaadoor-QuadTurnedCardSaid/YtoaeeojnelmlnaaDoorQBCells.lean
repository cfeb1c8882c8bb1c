/-
  The cells of a block, rising; the sequence that hands them out.
-/
import Derived.Test.YtoaeeojnelmlnaaDoorQBlocks
import Derived.Test.YtoaeeojnelmlnaaDoorQTz
import Derived.WalkKit
namespace Go.Proofs.YtoaeeojnelmlnaaDoor
open Go.RowKit Go.Shelf
set_option linter.unusedVariables false
set_option linter.unusedSimpArgs false
/-- The columns of a row, rising. -/
def rowW (x : Nat) : List Nat := (List.range 64).filter fun c => x.testBit c
/-- The cells of the first k rows, rising. -/
def cellsUp (f : Nat → Nat) : Nat → List (Nat × Nat)
  | 0 => []
  | k + 1 => cellsUp f k ++ (rowW (f k)).map fun c => (k, c)
theorem filter_first (p q : Nat → Bool) (c : Nat) (hp : p c = true) (hlow : ∀ i, i < c → p i = false) (hq : ∀ i, q i = (p i && !decide (i = c))) : ∀ n, c < n → (List.range n).filter p = c :: (List.range n).filter q
  | 0, h => absurd h (Nat.not_lt_zero _)
  | n + 1, h => by
    rw [List.range_succ, List.filter_append, List.filter_append]
    by_cases e : c = n
    · subst e
      have h1 : (List.range c).filter p = [] := List.filter_eq_nil_iff.2 fun i hi => by rw [hlow i (List.mem_range.1 hi)]; simp
      have h2 : (List.range c).filter q = [] := List.filter_eq_nil_iff.2 fun i hi => by rw [hq, hlow i (List.mem_range.1 hi)]; simp
      rw [h1, h2]
      simp [hp, hq]
    · rw [filter_first p q c hp hlow hq n (by omega), List.cons_append]
      have : q n = p n := by rw [hq, decide_eq_false (by omega)]; simp
      simp [List.filter_cons, this]
theorem low_none (x : Nat) (hx : x < 18446744073709551616) (hx0 : x ≠ 0) : ∀ i, i < Lib.ctz 64 x → x.testBit i = false := by
  have e : Lib.ctz 64 x = Lib.ctzFrom 64 x := by simp [Lib.ctz, hx0]
  rw [e]
  obtain ⟨m, hm, hk⟩ := Lib.ctzFrom_spec 64 x (by omega) hx
  generalize Lib.ctzFrom 64 x = k at *
  have h1 : x = 2 ^ k * (2 * m + 1) := by rw [hm]
  intro i hi
  rw [h1, Nat.testBit_two_pow_mul]
  simp; omega
theorem rowW_low (x : Nat) (hx : x < 18446744073709551616) (hx0 : x ≠ 0) : rowW x = Lib.ctz 64 x :: rowW (x &&& (x - 1)) := by
  obtain ⟨hk, hb, hi⟩ := low_facts x hx hx0
  exact filter_first _ _ _ hb (low_none x hx hx0) hi 64 hk
theorem rowW_zero : rowW 0 = [] := by unfold rowW; simp
theorem rowW_lt {x c : Nat} (h : c ∈ rowW x) : c < 64 := by unfold rowW at h; rw [List.mem_filter] at h; exact List.mem_range.1 h.1
theorem rowW_le (x : Nat) : (rowW x).length ≤ 64 := by
  have := List.length_filter_le (fun c => x.testBit c) (List.range 64)
  simpa [rowW] using this
theorem cellsUp_le (f : Nat → Nat) : ∀ k, (cellsUp f k).length ≤ 64 * k
  | 0 => Nat.le_refl _
  | k + 1 => by have := cellsUp_le f k; have := rowW_le (f k); simp [cellsUp]; omega
theorem cellsUp_prefix (f : Nat → Nat) {k n : Nat} (h : k ≤ n) : cellsUp f k <+: cellsUp f n := by
  induction n with
  | zero => rw [Nat.le_zero.1 h]; exact List.prefix_refl _
  | succ n ih =>
    by_cases e : k = n + 1
    · subst e; exact List.prefix_refl _
    · exact (ih (by omega)).trans (List.prefix_append _ _)

theorem mem_rowW {x c : Nat} : c ∈ rowW x ↔ c < 64 ∧ x.testBit c = true := by unfold rowW; simp
theorem mem_cellsUp {f : Nat → Nat} {r c : Nat} : ∀ {k : Nat}, (r, c) ∈ cellsUp f k ↔ r < k ∧ c < 64 ∧ bt f r c = true
  | 0 => by simp [cellsUp]
  | k + 1 => by
    simp only [cellsUp, List.mem_append, mem_cellsUp (k := k), List.mem_map, mem_rowW, Prod.mk.injEq, bt]
    constructor
    · rintro (⟨h1, h2, h3⟩ | ⟨c', ⟨h1, h2⟩, rfl, rfl⟩)
      · exact ⟨by omega, h2, h3⟩
      · exact ⟨by omega, h1, h2⟩
    · rintro ⟨h1, h2, h3⟩
      by_cases e : r = k
      · subst e; exact .inr ⟨c, ⟨h2, h3⟩, rfl, rfl⟩
      · exact .inl ⟨by omega, h2, h3⟩
attribute [local go_sem] Oper.semAt_some
/-- A cell, as the loop's variable gets it. -/
def encC (x : Nat × Nat) : Array Value := #[.agg #[.int .i64 (x.1 : Int), .int .i64 (x.2 : Int)]]
abbrev TabK : Nat → Prop := fun k => k = 0
theorem Tab.keep {w w' : World} (h : Tab w) (k : KeepS TabK w w') : Tab w' := fun j hj => (cell_eq (p := ⟨0, j, none⟩) (k.1 _ rfl)).trans (h j hj)
theorem Tab.still {w w' : World} (h : Tab w) (hf : Far (fun _ => False) w w') : Tab w' := h.stays (hf.below (Nat.le_refl _) fun _ _ h => h)
theorem Tab.far {w w' : World} {F : Nat → Prop} (h : Tab w) (hf : Far F w w') (hF : ¬ F 0) : Tab w' := fun j hj =>
  (cell_eq (p := ⟨0, j, none⟩) (hf.block _ (block_lt_of_cell (h j hj)) hF)).trans (h j hj)
/-- A whole block out of its variable, within a fence and outside a round. -/
theorem wpListIn_ld {n : Nat} {ops : Array Oper} {rest : List Oper} {o : Oper} {a : Act} {w : World} {Q : Exit → Act → World → Prop} (hgd : Region.wanted o (yielded ops a.tmps) = true) (x : Operand) (ho : o.op = .load 97 x)
    (g : Nat) (hx : a.eval x = .pointer (some ⟨g, 0, none⟩)) {f : Nat → Nat} (hg : Hold w g (Rw f))
    (h : wpListIn Fence.wide n Tryd.prog ops Q rest (a.put o.dst (.agg (Rw f))) w) : wpListIn Fence.wide n Tryd.prog ops Q (o :: rest) a w := by
  refine wpListIn_step fun K hK => ?_
  rw [if_pos hgd]
  have hl := run_loadVar_row (P := Tryd.prog) w g 97 97 (Rw f) (0, 0) _ hg blockType rfl (by rw [blockSize, Rw_size])
  refine ⟨fun _ _ => trivial, ?_⟩
  rw [Fence.wide_round, Oper.semAt_none]
  unfold execOp
  simp only [ho, hx, Instr.loadAt, Instr.sureAddr, Sem.run_bind, Sem.run_pure, Result.andThen_ok, hl]
  exact hK _ _ h
theorem tz_in (n : Nat) (x : Nat) (w : World) (hx : x < 18446744073709551616) (hx0 : x ≠ 0) (hT : Tab w) :
    CallsIn Fence.wide n Tryd.prog 113 #[.int .u64 x] w fun e w' => e = .returned (.int .i64 (Lib.ctz 64 x)) ∧ w' = w :=
  callsIn_wide.2 ((tz_any x w hx hx0 hT).mono fun _ _ ⟨he, hw⟩ => ⟨he, hw.symm⟩)
set_option maxRecDepth 100000 in
set_option maxHeartbeats 4000000 in
theorem bcells_seq (n : Nat) (hn : 1 ≤ n) (f : Nat → Nat) (hf : Wf f) (bx : Nat) (w0 : World) (hbx : Hold w0 bx (Rw f)) (hT : Tab w0) :
    SeqOk n Tryd.prog 112 #[.pointer (some ⟨bx, 0, none⟩)] encC (fun pre x _ => (pre ++ [x]) <+: cellsUp f 64) (KeepS TabK) (fun xs => xs = cellsUp f 64) (fun _ => True) w0 := fun l J Jx W hW hJ hY h0 => by
  have d := hbx.below hW hbx.lt
  have hTW := hT.stays hW
  have HY := Lib.hid hY
  clear hY hbx hT hJ hW
  refine callsIn_of_wp Tryd.func112 rfl trivial ?_ rfl
  simp only [Tryd.ntmps112, List.size_toArray, List.length_cons, List.length_nil, Nat.reduceAdd, Nat.reduceSub, Array.replicate_succ, Array.replicate_zero, List.push_toArray, List.append_toArray, List.nil_append, List.cons_append]
  gi_wp2_with (apply wpListIn_ld rfl _ rfl _ rfl d)
  gi_loopw [6] (fun i wr => ∃ k : Nat, k ≤ 64 ∧ i = .int .i64 k ∧ J (cellsUp f k) wr ∧ Tab wr) (fun i _ => 64 - (intOf i).toNat)
  case atStart => exact ⟨0, Nat.zero_le _, rfl, h0, hTW⟩
  case round =>
    obtain ⟨k, hk, rfl, hJk, hTk⟩ := hrel
    by_cases hk6 : k < 64
    · have hdk : decide ((k : Int) < 64) = true := by rw [decide_eq_true_eq]; omega
      have hix := fun w => run_ix f k hk6 w
      gi_wp2
      gi_loopw [4] (fun v wr => ∃ (x : Nat) (pre : List (Nat × Nat)), v = .int .u64 x ∧ x < 18446744073709551616 ∧ (pre ++ (rowW x).map fun c => (k, c)) = cellsUp f (k + 1) ∧ J pre wr ∧ Tab wr) (fun v _ => (intOf v).toNat)
      case atStart => exact ⟨f k, _, rfl, hf k hk6, rfl, hJk, hTk⟩
      case round =>
        clear hJk hTk hix
        obtain ⟨x, pre, rfl, hx, hpre, hJ, hT⟩ := hrel
        by_cases hx0 : x = 0
        · subst hx0
          rw [rowW_zero, List.map_nil, List.append_nil] at hpre
          rw [hpre] at hJ
          gi_wp2
          go_roundw
          case rel => exact ⟨k + 1, by omega, by go_num, hJ, hT⟩
          case measure => simp [intOf]; omega
        · have hne : ((x : Int) != 0) = true := by simp; omega
          have hrow := rowW_low x hx hx0
          rw [hrow, List.map_cons] at hpre
          have hpx : (pre ++ [(k, Lib.ctz 64 x)]) <+: cellsUp f 64 := by
            refine List.IsPrefix.trans ⟨(rowW (x &&& (x - 1))).map fun c => (k, c), ?_⟩ (cellsUp_prefix f (show k + 1 ≤ 64 by omega))
            rw [← hpre]; simp
          have hX : bits .and .u64 (x : Int) ((x : Int) - 1) = ((x &&& (x - 1) : Nat) : Int) := by
            rw [show ((x : Int) - 1) = ((x - 1 : Nat) : Int) by omega, bits_and64 _ _ hx (by omega)]
          have hxl : x &&& (x - 1) < x := Nat.lt_of_le_of_lt Nat.and_le_right (by omega)
          have TZ := tz_in (n - 1) x wr hx hx0 hT
          obtain ⟨fn, tmps, assign, body, hy, hR⟩ := HY.out pre (k, Lib.ctz 64 x) wr hJ hpx
          have hnext : ((pre ++ [(k, Lib.ctz 64 x)]) ++ (rowW (x &&& (x - 1))).map fun c => (k, c)) = cellsUp f (k + 1) := by rw [← hpre]; simp
          have HN := Lib.hid hnext
          have HP := Lib.hid hpx
          clear hrow hpre hpx hnext hJ
          generalize Lib.ctz 64 x = c at *
          generalize x &&& (x - 1) = x' at *
          unfold encC at hy
          dsimp only at hy
          gi_wp2_with (refine ⟨trivial, ?_⟩; refine TZ.mono ?_; rintro e w' ⟨rfl, rfl⟩)
          refine hR.mono ?_
          rintro e W3 (⟨rfl, hJ3, hk3⟩ | ⟨rfl, hJx3⟩)
          · have hT3 := hT.keep hk3
            gi_wp2
            go_roundw
            case rel => exact ⟨x', _, rfl, by omega, HN.out, hJ3, hT3⟩
            case measure => simp [intOf]; omega
          · gi_wp2
            refine bodyPost_ret (results_none rfl _ _ _) rfl ?_
            exact ⟨⟨_, rfl⟩, .inr ⟨_, trivial, hJx3⟩⟩
    · have e : k = 64 := by omega
      subst e
      gi_wp2
      go_end0
      exact ⟨⟨_, rfl⟩, .inl ⟨_, rfl, hJk⟩⟩
theorem bcells_any (f : Nat → Nat) (w : World) : Calls Tryd.prog 88 #[.agg (Rw f)] w fun e w' =>
    e = .returned (.func (.func 112) #[] #[.pointer (some ⟨w.heap.size, 0, none⟩)]) ∧ w' = w.alloc (.cells (Rw f) 97) := by
  go_enter Tryd.func88, Tryd.ntmps88
  go_wp2_with fail
  go_ret
  exact ⟨rfl, rfl⟩
attribute [irreducible] cellsUp
end Go.Proofs.YtoaeeojnelmlnaaDoor
