/-
  The program's Cells: what the sequence hands out, in its order, for whatever body of a loop.
-/
import Derived.Test.YtbcklcikmhpclaaDoorList
import Derived.Test.YtbcklcikmhpclaaDoorMul
import Derived.RangeFuncNested
import Derived.RangeFuncBound
import Derived.RangeFuncCalls
import Derived.RangeFuncLeaves
import Derived.Shelf.Abstract
import Derived.Shelf.RegionOpen
import Derived.WalkKit
import Derived.OwnWalkIn
import Derived.TacticsInMore
import Derived.LoopNIn
import Derived.LoopIn
namespace Go.Proofs.YtbcklcikmhpclaaDoor
open Go.RowKit Go.Shelf
set_option linter.unusedVariables false
set_option linter.unusedSimpArgs false
attribute [local go_sem] Oper.semAt_some
/-- A cell, as the loop's variable gets it. -/
def encC (x : Nat × Nat) : Array Value := #[.agg #[.int .i64 (x.1 : Int), .int .i64 (x.2 : Int)]]
theorem Tab.past {w w' : World} {n : Nat} (h : Tab w) (hb : Below n w w') (hn : 0 < n) : Tab w' := fun j hj => (hb.cell (p := ⟨0, j, none⟩) hn).trans (h j hj)
/-- A whole block out of its variable, within a fence and outside a round. -/
theorem wpListIn_ld {n : Nat} {ops : Array Oper} {rest : List Oper} {o : Oper} {a : Act} {w : World} {Q : Exit → Act → World → Prop} (hgd : Region.wanted o (yielded ops a.tmps) = true) (x : Operand) (ho : o.op = .load 25 x)
    (g : Nat) (hx : a.eval x = .pointer (some ⟨g, 0, none⟩)) {f : Nat → Nat} (hg : Hold w g (Rw f))
    (h : wpListIn Fence.wide n Tryd.prog ops Q rest (a.put o.dst (.agg (Rw f))) w) : wpListIn Fence.wide n Tryd.prog ops Q (o :: rest) a w := by
  refine wpListIn_step fun K hK => ?_
  rw [if_pos hgd]
  have hl := run_loadVar_row (P := Tryd.prog) w g 25 25 (Rw f) (0, 0) _ hg blockType rfl (by rw [blockSize, Rw_size])
  refine ⟨fun _ _ => trivial, ?_⟩
  rw [Fence.wide_round, Oper.semAt_none]
  unfold execOp
  simp only [ho, hx, Instr.loadAt, Instr.sureAddr, Sem.run_bind, Sem.run_pure, Result.andThen_ok, hl]
  exact hK _ _ h
theorem tz_in (n : Nat) (x : Nat) (w : World) (hx : x < 18446744073709551616) (hx0 : x ≠ 0) (hT : Tab w) :
    CallsIn Fence.wide n Tryd.prog 28 #[.int .u64 x] w fun e w' => e = .returned (.int .i64 (Lib.ctz 64 x)) ∧ w' = w :=
  callsIn_wide.2 ((tz_any x w hx hx0 hT).mono fun _ _ ⟨he, hw⟩ => ⟨he, hw.symm⟩)
set_option maxRecDepth 100000 in
set_option maxHeartbeats 4000000 in
theorem cells_stops (n : Nat) (hn : 1 ≤ n) (f : Nat → Nat) (hf : Wf f) (bx n₀ : Nat) (w0 : World) (hbx : Hold w0 bx (Rw f)) (hT : Tab w0) (hg : 0 < n₀) :
    SeqStopsK Fence.wide n Tryd.prog 27 #[.pointer (some ⟨bx, 0, none⟩)] encC (Below n₀) (fun xs => xs = cellsUp f 64) (fun pre => pre <+: cellsUp f 64) (cellsUp f 64).length w0 := fun l J Jx W hW hJ hJx hY h0 => by
  have d := hbx.below hW hbx.lt
  have hTW := hT.stays hW
  have HY := Lib.hid hY
  clear hY hbx hT hJ hJx hW
  refine callsIn_of_wp Tryd.func27 rfl trivial ?_ rfl
  simp only [Tryd.ntmps27, List.size_toArray, List.length_cons, List.length_nil, Nat.reduceAdd, Nat.reduceSub, Array.replicate_succ, Array.replicate_zero, List.push_toArray, List.append_toArray, List.nil_append, List.cons_append]
  gi_wp2_with (apply wpListIn_ld rfl _ rfl _ rfl d)
  gi_loopw [6] (fun i wr => ∃ k : Nat, k ≤ 64 ∧ i = .int .i64 k ∧ J (cellsUp f k) wr ∧ Tab wr) (fun i _ => 64 - (intOf i).toNat)
  case atStart => exact ⟨0, Nat.zero_le _, rfl, h0, hTW⟩
  case round =>
    obtain ⟨k, hk, rfl, hJk, hTk⟩ := hrel
    by_cases hk6 : k < 64
    · have hdk : decide ((k : Int) < 64) = true := by rw [decide_eq_true_eq]; omega
      have hix := fun w => run_ix f k hk6 w
      gi_wp2
      gi_loopw [4] (fun v wr => ∃ (x : Nat) (pre : List (Nat × Nat)), v = .int .u64 x ∧ x < 18446744073709551616 ∧ (pre ++ (rowL x).map fun c => (k, c)) = cellsUp f (k + 1) ∧ J pre wr ∧ Tab wr) (fun v _ => (intOf v).toNat)
      case atStart => exact ⟨f k, _, rfl, hf k hk6, rfl, hJk, hTk⟩
      case round =>
        clear hJk hTk hix
        obtain ⟨x, pre, rfl, hx, hpre, hJ, hT⟩ := hrel
        by_cases hx0 : x = 0
        · subst hx0
          rw [rowL_zero, List.map_nil, List.append_nil] at hpre
          rw [hpre] at hJ
          gi_wp2
          go_roundw
          case rel => exact ⟨k + 1, by omega, by go_num, hJ, hT⟩
          case measure => simp [intOf]; omega
        · have hne : ((x : Int) != 0) = true := by simp; omega
          have hrow := rowL_low x hx hx0
          rw [hrow, List.map_cons] at hpre
          have hlen : pre.length < (cellsUp f 64).length := by
            have h1 := (cellsUp_prefix f (show k + 1 ≤ 64 by omega)).length_le
            rw [← hpre, List.length_append, List.length_cons] at h1
            omega
          have hpx : (pre ++ [(k, Lib.ctz 64 x)]) <+: cellsUp f 64 := by
            refine List.IsPrefix.trans ⟨(rowL (x &&& (x - 1))).map fun c => (k, c), ?_⟩ (cellsUp_prefix f (show k + 1 ≤ 64 by omega))
            rw [← hpre]; simp
          have hX : bits .and .u64 (x : Int) ((x : Int) - 1) = ((x &&& (x - 1) : Nat) : Int) := by
            rw [show ((x : Int) - 1) = ((x - 1 : Nat) : Int) by omega, bits_and64 _ _ hx (by omega)]
          have hxl : x &&& (x - 1) < x := Nat.lt_of_le_of_lt Nat.and_le_right (by omega)
          have TZ := tz_in (n - 1) x wr hx hx0 hT
          obtain ⟨fn, tmps, assign, body, hy, hR⟩ := HY.out pre (k, Lib.ctz 64 x) wr hJ hlen
          have hnext : ((pre ++ [(k, Lib.ctz 64 x)]) ++ (rowL (x &&& (x - 1))).map fun c => (k, c)) = cellsUp f (k + 1) := by rw [← hpre]; simp
          have HN := Lib.hid hnext
          have HP := Lib.hid hpx
          clear hrow hpre hlen hpx hnext hJ
          generalize Lib.ctz 64 x = c at *
          generalize x &&& (x - 1) = x' at *
          unfold encC at hy
          dsimp only at hy
          gi_wp2_with (refine ⟨trivial, ?_⟩; refine TZ.mono ?_; rintro e w' ⟨rfl, rfl⟩)
          refine hR.mono ?_
          rintro e W3 (⟨rfl, hJ3, hk3⟩ | ⟨rfl, hJx3⟩)
          · have hT3 := hT.past hk3 hg
            gi_wp2
            go_roundw
            case rel => exact ⟨x', _, rfl, by omega, HN.out, hJ3, hT3⟩
            case measure => simp [intOf]; omega
          · gi_wp2
            refine bodyPost_ret (results_none rfl _ _ _) rfl ?_
            exact ⟨⟨_, rfl⟩, .inr ⟨_, HP.out, hJx3⟩⟩
    · have e : k = 64 := by omega
      subst e
      gi_wp2
      go_end0
      exact ⟨⟨_, rfl⟩, .inl ⟨_, rfl, hJk⟩⟩
end Go.Proofs.YtbcklcikmhpclaaDoor
