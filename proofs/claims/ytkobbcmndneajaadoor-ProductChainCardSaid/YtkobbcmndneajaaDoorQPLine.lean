/-
  A set of rows as a line of sixteen words; its members.
-/
import Derived.Test.YtkobbcmndneajaaDoorQPFold
namespace Go.Proofs.YtkobbcmndneajaaDoor
open Go.RowKit Go.Shelf
set_option linter.unusedVariables false
set_option linter.unusedSimpArgs false
/-- Sixteen words. -/
def Rl (f : Nat → Nat) : Array Value := Array.ofFn (n := 16) fun i => Value.int .u64 (f i.val : Nat)
theorem Rl_size (f : Nat → Nat) : (Rl f).size = 16 := by simp [Rl]
theorem Rl_get (f : Nat → Nat) (i : Nat) (h : i < 16) : (Rl f)[i]? = some (.int .u64 (f i : Nat)) := by simp [Rl, h]
theorem Rl_one (f : Nat → Nat) : (Rl f).all (·.oneCell') = true := by
  rw [Array.all_eq_true_iff_forall_mem]
  intro v hv
  simp [Rl] at hv
  obtain ⟨i, rfl⟩ := hv
  rfl
theorem Rl_congr {f g : Nat → Nat} (h : ∀ i, i < 16 → f i = g i) : Rl f = Rl g := by
  unfold Rl
  congr 1
  funext i
  rw [h i.val i.isLt]
theorem Rl_set (f : Nat → Nat) (r x : Nat) (hr : r < 16) : (Rl f).setIfInBounds r (.int .u64 (x : Nat)) = Rl (upd f r x) := by
  apply Array.ext_getElem?
  intro i
  rw [Array.getElem?_setIfInBounds]
  by_cases hi : i < 16
  · by_cases e : r = i
    · subst e; rw [Rl_get (upd f r x) r hr]; simp [upd, Rl_size, hr]
    · have : ¬ i = r := fun h => e h.symm
      rw [Rl_get f i hi, Rl_get (upd f r x) i hi]
      simp [upd, e, this]
  · have : ¬ r = i := by omega
    rw [if_neg this, Array.getElem?_eq_none (by rw [Rl_size]; omega), Array.getElem?_eq_none (by rw [Rl_size]; omega)]
theorem lineType : Tryd.prog.underlying 162 = some (.array 16 87) := by kernel_rfl
theorem lineSize : (Tryd.prog.info? 162).map (·.size) = some 16 := by kernel_rfl
theorem lineZero : (Tryd.prog.info? 162).map (fun i => (i.zero, i.size)) = some (some (.agg (Rl fun _ => 0)), 16) := by kernel_rfl
theorem lineInfo : (Tryd.prog.info? 162).map (fun i => (i.zero, i.size, i.bytes)) = some (some (.agg (Rl fun _ => 0)), 16, 128) := by kernel_rfl
theorem lineEmpty : Tryd.prog.built 162 [] = some (Rl fun _ => 0) := by kernel_rfl
attribute [irreducible] Rl
theorem run_ixL (f : Nat → Nat) (k : Nat) (hk : k < 16) (w : World) : (Instr.index 162 (.agg (Rl f)) (.int .i64 k)).run Tryd.prog w = .ok (.int .u64 (f k : Nat)) w := by
  have hs : ∃ i, Tryd.prog.info? 87 = some i ∧ i.size = 1 := by
    have := wordSize
    cases h : Tryd.prog.info? 87 with
    | none => rw [h] at this; cases this
    | some i => rw [h] at this; exact ⟨i, rfl, by simpa using this⟩
  obtain ⟨i, hi, h1⟩ := hs
  have hsz : (sizeOf 87).run Tryd.prog w = .ok 1 w := by simp [sizeOf, typeInfo, hi, h1]
  unfold Instr.index
  simp [asIntOf, run_underlying lineType, part, hsz, Rl_get f k hk, Sem.run_bind, Result.andThen]
  intro h
  omega
/-- A whole line out of its variable, into it; the empty one. -/
theorem wpList_ldL {ops : Array Oper} {rest : List Oper} {o : Oper} {a : Act} {w : World} {Q : Exit → Act → World → Prop} (hgd : Region.wanted o (yielded ops a.tmps) = true) (x : Operand) (ho : o.op = .load 162 x)
    (g : Nat) (hx : a.eval x = .pointer (some ⟨g, 0, none⟩)) {f : Nat → Nat} (hg : Bk w g 162 (Rl f))
    (h : wpList Tryd.prog ops Q rest (a.put o.dst (.agg (Rl f))) w) : wpList Tryd.prog ops Q (o :: rest) a w :=
  wpList_want hgd fun _ hK => wp_load_row 162 x ho g hx 162 (Rl f) (0, 0) _ hg lineType rfl (by rw [lineSize, Rl_size]) (hK _ _ h)
theorem line_range {w : World} {g o : Nat} {f : Nat → Nat} (h : w.rangeAt g o (Rl f).toList) : (loadVar 162 ⟨g, o, none⟩).run Tryd.prog w = .ok (.agg (Rl f)) w := by
  have := run_loadVar_mid (P := Tryd.prog) w g o 162 (Rl f).toList _ h Tryd.underlying162 rfl (by rw [lineSize]; simp [Rl_size])
  simpa using this
theorem wpList_lmL {ops : Array Oper} {rest : List Oper} {o : Oper} {a : Act} {w : World} {Q : Exit → Act → World → Prop} (hgd : Region.wanted o (yielded ops a.tmps) = true) (x : Operand) (ho : o.op = .load 162 x)
    (g k : Nat) (hx : a.eval x = .pointer (some ⟨g, k, none⟩)) {f : Nat → Nat} (hg : w.rangeAt g k (Rl f).toList)
    (h : wpList Tryd.prog ops Q rest (a.put o.dst (.agg (Rl f))) w) : wpList Tryd.prog ops Q (o :: rest) a w :=
  wpList_want hgd fun _ hK => by
    unfold Oper.wp execOp
    simp only [ho, hx, Instr.loadAt, Instr.sureAddr, Sem.run_bind, Sem.run_pure, Result.andThen_ok, line_range hg]
    rw [Oper.upon_value]
    exact hK _ _ h
theorem wpList_stL {ops : Array Oper} {rest : List Oper} {o : Oper} {a : Act} {w : World} {Q : Exit → Act → World → Prop} (hgd : o.guard = none) (x y : Operand) (ho : o.op = .store 162 x y)
    (g : Nat) (hx : a.eval x = .pointer (some ⟨g, 0, none⟩)) {f : Nat → Nat} (f' : Nat → Nat) (hy : a.eval y = .agg (Rl f')) (hg : Bk w g 162 (Rl f))
    (h : wpList Tryd.prog ops Q rest (a.put o.dst undef) (w.setRow g (Rl f'))) : wpList Tryd.prog ops Q (o :: rest) a w :=
  wpList_store_row hgd 162 x y ho g (Rl f') hx hy 162 (Rl f) hg (by rw [lineSize, Rl_size]) (by rw [Rl_size, Rl_size]) (Rl_one f') h
theorem wpList_bdL {ops : Array Oper} {rest : List Oper} {o : Oper} {a : Act} {w : World} {Q : Exit → Act → World → Prop} (hgd : o.guard = none) (ho : o.op = .build 162 #[])
    (h : wpList Tryd.prog ops Q rest (a.put o.dst (.agg (Rl fun _ => 0))) w) : wpList Tryd.prog ops Q (o :: rest) a w :=
  wpList_build hgd 162 #[] ho (by simp [lineEmpty]) (by simpa [lineEmpty] using h)
/-! ### Sets of rows -/
/-- The words of a set. -/
def lnW (S : Nat → Bool) : Nat → Nat := blk fun j c => S (64 * j + c)
theorem lnW_lt (S : Nat → Bool) (k : Nat) (hk : k < 64) : lnW S k < 18446744073709551616 := blk_wf _ k hk
theorem lnW_row (M : Nat → Nat → Bool) (i : Nat) : lnW (M i) = blk (wordsS M i) := rfl
/-- A set's members below n, rising. -/
def setL (S : Nat → Bool) (n : Nat) : List Nat := (List.range n).filter S
theorem mem_setL {S : Nat → Bool} {n x : Nat} : x ∈ setL S n ↔ x < n ∧ S x = true := by unfold setL; simp
theorem setL_rise (S : Nat → Bool) (n : Nat) : (setL S n).Pairwise (· < ·) := List.Pairwise.filter _ List.pairwise_lt_range
theorem setL_le (S : Nat → Bool) (n : Nat) : (setL S n).length ≤ n := by unfold setL; have := List.length_filter_le S (List.range n); simpa using this
theorem setL_eq {S : Nat → Bool} {n : Nat} (hn : n ≤ 1024) (h : ∀ x, S x = true → x < n) : flatN (cellsUp (lnW S) 16) = setL S n := by
  refine up_nat (cellsUp_rise _ 16) (setL_rise S n) fun x => ?_
  rw [mem_setL]
  unfold flatN
  rw [List.mem_map]
  constructor
  · rintro ⟨y, hy, rfl⟩
    obtain ⟨h1, h2, h3⟩ := mem_cellsUp.1 (show (y.1, y.2) ∈ cellsUp (lnW S) 16 from hy)
    unfold lnW at h3
    rw [bt_blk _ _ _ h2] at h3
    exact ⟨h _ h3, h3⟩
  · rintro ⟨h1, h2⟩
    refine ⟨(x / 64, x % 64), mem_cellsUp.2 ⟨by omega, Nat.mod_lt _ (by decide), ?_⟩, by show 64 * (x / 64) + x % 64 = x; omega⟩
    unfold lnW
    rw [bt_blk _ _ _ (Nat.mod_lt _ (by decide)), Nat.div_add_mod]
    exact h2
section
set_option maxHeartbeats 8000000
set_option maxRecDepth 100000
theorem members_any (f : Nat → Nat) (hf : ∀ k, k < 16 → f k < 18446744073709551616) (w : World) (hT : Tab w) : Calls Tryd.prog 117 #[.agg (Rl f)] w fun e w' => ∃ v, e = .returned v ∧ w'.ownsRow w.heap.size 3 1 v (flatN (cellsUp f 16)).length (ncells (flatN (cellsUp f 16))) ∧ Far (fun _ => False) w w' := by
  obtain ⟨W1, hW1⟩ : ∃ V, V = w.alloc (.cells (Rl f) 162) := ⟨_, rfl⟩
  have hf1 : Far (fun _ => False) w W1 := hW1 ▸ (Far.refl _ w).alloc _
  have hB1 : Bk W1 w.heap.size 162 (Rl f) := hW1 ▸ Bk.new rfl
  have hW1' := Lib.hid hW1
  have hf1' := Lib.hid hf1
  have hzL : (Value.agg (Rl f)).cells = Rl f := rfl
  clear hW1 hf1
  go_enter Tryd.func117, Tryd.ntmps117
  go_upto_region 2 with fail
  rw [← hW1'.out]
  have hlenU : ∀ k, k ≤ 16 → (flatN (cellsUp f k)).length ≤ 1024 := fun k hk => by
    have := cellsUp_le f k
    unfold flatN
    rw [List.length_map]
    omega
  go_wp2_with (first | (refine wpList_ldL rfl _ rfl _ rfl hB1 ?_))
  clear hW1' hB1
  go_loopw [3, 4, 5, 7] (fun lv _ _ kv wr => ∃ k : Nat, k ≤ 16 ∧ kv = .int .i64 (k : Nat) ∧ wr.ownsRow w.heap.size 3 1 lv (flatN (cellsUp f k)).length (ncells (flatN (cellsUp f k))) ∧ Far (fun _ => False) w wr) (fun _ _ _ kv _ => 16 - (intOf kv).toNat)
  case atStart => exact ⟨0, by omega, rfl, by unfold cellsUp; exact World.ownsRow_nil _ _ _ _, hf1'.out⟩
  case round =>
    obtain ⟨k, hk, rfl, ho, hf0⟩ := hrel
    have hlk := hlenU k hk
    by_cases hlt : k < 16
    · have hki : (k : Int) < 16 := by omega
      have hix := fun w => run_ixL f k hlt w
      have hlk1 := hlenU (k + 1) (by omega)
      have hcu : flatN (cellsUp f (k + 1)) = flatN (cellsUp f k) ++ (rowW (f k)).map fun c => 64 * k + c := by
        conv => lhs; unfold cellsUp
        unfold flatN
        rw [List.map_append, List.map_map]
        rfl
      have ho' := Lib.hid ho
      have hf0' := Lib.hid hf0
      have hcu' := Lib.hid hcu
      clear ho hf0 hcu
      go_wp2_with fail
      go_loopw [3, 5] (fun lv xv wr => ∃ (x : Nat) (pre : List Nat), xv = .int .u64 (x : Nat) ∧ x < 18446744073709551616 ∧ pre ++ ((rowW x).map fun c => 64 * k + c) = flatN (cellsUp f (k + 1)) ∧ wr.ownsRow w.heap.size 3 1 lv pre.length (ncells pre) ∧ Far (fun _ => False) w wr) (fun _ xv _ => (intOf xv).toNat)
      case atStart => exact ⟨f k, _, rfl, hf k hlt, hcu'.out.symm, ho'.out, hf0'.out⟩
      case round =>
        clear ho' hf0' hix
        obtain ⟨x, pre, rfl, hx, hpre, ho, hf0⟩ := hrel
        by_cases hx0 : x = 0
        · subst hx0
          rw [rowW_zero, List.map_nil, List.append_nil] at hpre
          rw [hpre] at ho
          have ho' := Lib.hid ho
          have hf0' := Lib.hid hf0
          clear ho hf0 hpre
          go_wp2_with fail
          exact ⟨⟨k + 1, by omega, by go_num, ho'.out, hf0'.out⟩, by simp [intOf]; omega⟩
        · have hne : ((x : Int) != 0) = true := by simp; omega
          have hrow := rowW_low x hx hx0
          rw [hrow, List.map_cons] at hpre
          have hX : bits .and .u64 (x : Int) ((x : Int) - 1) = ((x &&& (x - 1) : Nat) : Int) := by
            rw [show ((x : Int) - 1) = ((x - 1 : Nat) : Int) by omega, bits_and64 _ _ hx (by omega)]
          have hxl : x &&& (x - 1) < x := Nat.lt_of_le_of_lt Nat.and_le_right (by omega)
          have hc64 : Lib.ctz 64 x < 64 := (low_facts x hx hx0).1
          have TZ : ∀ W, Far (fun _ => False) w W → _ := fun W hW => tz_any x W hx hx0 (hT.still hW)
          have hnext : ((pre ++ [64 * k + Lib.ctz 64 x]) ++ (rowW (x &&& (x - 1))).map fun c => 64 * k + c) = flatN (cellsUp f (k + 1)) := by rw [← hpre]; simp
          have hpl : pre.length + 1 ≤ 1024 := by
            have := congrArg List.length hnext
            rw [List.length_append, List.length_append, List.length_singleton] at this
            omega
          obtain ⟨lo, lc, rfl⟩ := q_form ho
          have HN := Lib.hid hnext
          have ho' := Lib.hid ho
          have hf0' := Lib.hid hf0
          have TZ' := Lib.hid TZ
          clear hrow hpre hnext ho hf0 TZ
          generalize Lib.ctz 64 x = c at *
          generalize x &&& (x - 1) = x' at *
          obtain ⟨pi, pi1, pz, pi4, pi5⟩ := info_parts int_info
          have TZ1 := TZ'.out _ hf0'.out
          obtain ⟨wo, hwo⟩ : ∃ wo, wo = wr := ⟨_, rfl⟩
          rw [← hwo] at ho' hf0' TZ1 ⊢
          clear hwo TZ'
          have C1 := Lib.hid (World.ownsRow.alloc ho'.out (.cells #[.int .i64 (64 * (k : Int) + (c : Int))] 3))
          have C7 := Lib.hid (World.news_of_block (w := wo.alloc (.cells #[.int .i64 (64 * (k : Int) + (c : Int))] 3)) (cs := #[.int .i64 (64 * (k : Int) + (c : Int))]) (t := 3) (fr := (0, 0)) (heap_alloc_new wo _))
          have C3 := Lib.hid (show ∀ u ∈ [(.int .i64 (64 * (k : Int) + (c : Int)) : Value)], u.oneCell' = true by simp [Value.oneCell'])
          have C4 : pre.length + 1 ≤ maxLen := by unfold maxLen; omega
          have C5 : (pre.length + 1) * 8 ≤ 140737488355328 := by omega
          have C6 : w.heap.size ≤ (wo.alloc (.cells #[.int .i64 (64 * (k : Int) + (c : Int))] 3)).heap.size := by have := hf0'.out.size; simp; omega
          have hci : (c : Int) < 64 := by omega
          go_wp2_with (first | (refine TZ1.mono ?_; rintro e w' ⟨rfl, rfl⟩; clear TZ1) | (at_builtin; refine wpList_append_own _ rfl _ _ 114 rfl w.heap.size 3 pi (.int .i64 0) 1 8 Tryd.underlying114 pi1 pz pi4 pi5 rfl (by decide) (.slice lo pre.length lc) pre.length _ rfl C1.out ⟨wo.heap.size, 0, none⟩ 1 1 [.int .i64 (64 * (k : Int) + (c : Int))] rfl rfl C7.out C3.out C4 C5 C6 ?_; intro v2 w6 ho6 hg6 hn6; have ho6' := Lib.hid ho6; have hg6' := Lib.hid hg6; clear ho6 hg6 hn6))
          have fa : Far (fun _ => False) w w6 := (hf0'.out.alloc _).trans (grown_F hg6'.out) fun q hq e => by
            have := (own_type ho'.out e).1
            omega
          have ho7 : w6.ownsRow w.heap.size 3 1 v2 (pre ++ [64 * k + c]).length (ncells (pre ++ [64 * k + c])) := by
            have := ho6'.out
            rw [List.length_append, List.length_singleton, show ncells (pre ++ [64 * k + c]) = ncells pre ++ [.int .i64 (64 * (k : Int) + (c : Int))] by simp [ncells]]
            exact this
          have ho8 := Lib.hid ho7
          have fa' := Lib.hid fa
          clear ho7 fa
          go_roundw
          case rel => exact ⟨x', _, rfl, by omega, HN.out, ho8.out, fa'.out⟩
          case measure => simp [intOf]; omega
    · have hke : k = 16 := by omega
      subst hke
      have ho' := Lib.hid ho
      have hf0' := Lib.hid hf0
      clear ho hf0
      go_wp2_with fail
      go_ret
      exact ⟨_, rfl, ho'.out, hf0'.out⟩
end
end Go.Proofs.YtkobbcmndneajaaDoor
