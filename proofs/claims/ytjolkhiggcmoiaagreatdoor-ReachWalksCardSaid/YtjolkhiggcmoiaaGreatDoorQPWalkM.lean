/-
  QPWalkM: QPFold, QPLine, QPLines, QPWalk.
-/
import Derived.Test.YtjolkhiggcmoiaaGreatDoorQPFit
/-! ## QPFold: A side, a matrix of any cells: what the laws of products begin with. -/
namespace Go.Proofs.YtjolkhiggcmoiaaGreatDoor
open Go.RowKit Go.Shelf
set_option linter.unusedVariables false
set_option linter.unusedSimpArgs false
theorem i64_and255 (n : Int) : bits .and .i64 n 255 = n % 256 := by
  have h1 : (BitVec.ofInt 64 255).toNat = 2 ^ 8 - 1 := by decide
  have key : (BitVec.ofInt 64 n &&& BitVec.ofInt 64 255).toNat = (n % ((2 ^ 64 : Nat) : Int)).toNat % 2 ^ 8 := by
    rw [BitVec.toNat_and, BitVec.toNat_ofInt, h1, Nat.and_two_pow_sub_one_eq_mod]
  show IntKind.i64.wrap ((BitVec.ofInt 64 n &&& BitVec.ofInt 64 255).toNat : Nat) = _
  rw [key, IntKind.wrap_i64]
  omega
theorem i64_and31 (n : Int) : bits .and .i64 n 31 = n % 32 := by
  have h1 : (BitVec.ofInt 64 31).toNat = 2 ^ 5 - 1 := by decide
  have key : (BitVec.ofInt 64 n &&& BitVec.ofInt 64 31).toNat = (n % ((2 ^ 64 : Nat) : Int)).toNat % 2 ^ 5 := by
    rw [BitVec.toNat_and, BitVec.toNat_ofInt, h1, Nat.and_two_pow_sub_one_eq_mod]
  show IntKind.i64.wrap ((BitVec.ofInt 64 n &&& BitVec.ofInt 64 31).toNat : Nat) = _
  rw [key, IntKind.wrap_i64]
  omega
/-- The matrix of the first cells of a list, their numbers taken by the side. -/
def foldR (s : Nat) (R C : Nat → Int) (n : Nat) : Nat → Nat → Bool := putL (fun k => red s (R k)) (fun k => red s (C k)) (min n 400)
section
set_option maxHeartbeats 8000000
set_option maxRecDepth 100000
end
end Go.Proofs.YtjolkhiggcmoiaaGreatDoor
/-! ## QPLine: A set of rows as a line of sixteen words; its members. -/
namespace Go.Proofs.YtjolkhiggcmoiaaGreatDoor
open Go.RowKit Go.Shelf
set_option linter.unusedVariables false
set_option linter.unusedSimpArgs false
/-- Sixteen words. -/
def Rl (f : Nat → Nat) : Array Value := Array.ofFn (n := 16) fun i => Value.int .u64 (f i.val : Nat)
theorem Rl_size (f : Nat → Nat) : (Rl f).size = 16 := by simp [Rl]
theorem Rl_get (f : Nat → Nat) (i : Nat) (h : i < 16) : (Rl f)[i]? = some (.int .u64 (f i : Nat)) := by simp [Rl, h]
theorem Rl_one (f : Nat → Nat) : (Rl f).all (·.oneCell') = true := by
  rw [Array.all_eq_true_iff_forall_mem]
  intro v hv
  simp [Rl] at hv
  obtain ⟨i, rfl⟩ := hv
  rfl
theorem Rl_congr {f g : Nat → Nat} (h : ∀ i, i < 16 → f i = g i) : Rl f = Rl g := by
  unfold Rl
  congr 1
  funext i
  rw [h i.val i.isLt]
theorem Rl_set (f : Nat → Nat) (r x : Nat) (hr : r < 16) : (Rl f).setIfInBounds r (.int .u64 (x : Nat)) = Rl (upd f r x) := by
  apply Array.ext_getElem?
  intro i
  rw [Array.getElem?_setIfInBounds]
  by_cases hi : i < 16
  · by_cases e : r = i
    · subst e; rw [Rl_get (upd f r x) r hr]; simp [upd, Rl_size, hr]
    · have : ¬ i = r := fun h => e h.symm
      rw [Rl_get f i hi, Rl_get (upd f r x) i hi]
      simp [upd, e, this]
  · have : ¬ r = i := by omega
    rw [if_neg this, Array.getElem?_eq_none (by rw [Rl_size]; omega), Array.getElem?_eq_none (by rw [Rl_size]; omega)]
theorem lineType : Tryz.prog.underlying 104 = some (.array 16 102) := by kernel_rfl
theorem lineSize : (Tryz.prog.info? 104).map (·.size) = some 16 := by kernel_rfl
theorem lineZero : (Tryz.prog.info? 104).map (fun i => (i.zero, i.size)) = some (some (.agg (Rl fun _ => 0)), 16) := by kernel_rfl
theorem lineInfo : (Tryz.prog.info? 104).map (fun i => (i.zero, i.size, i.bytes)) = some (some (.agg (Rl fun _ => 0)), 16, 128) := by kernel_rfl
theorem lineEmpty : Tryz.prog.built 104 [] = some (Rl fun _ => 0) := by kernel_rfl
attribute [irreducible] Rl
theorem run_ixL (f : Nat → Nat) (k : Nat) (hk : k < 16) (w : World) : (Instr.index 104 (.agg (Rl f)) (.int .i64 k)).run Tryz.prog w = .ok (.int .u64 (f k : Nat)) w := by
  have hs : ∃ i, Tryz.prog.info? 102 = some i ∧ i.size = 1 := by
    have := wordSize
    cases h : Tryz.prog.info? 102 with
    | none => rw [h] at this; cases this
    | some i => rw [h] at this; exact ⟨i, rfl, by simpa using this⟩
  obtain ⟨i, hi, h1⟩ := hs
  have hsz : (sizeOf 102).run Tryz.prog w = .ok 1 w := by simp [sizeOf, typeInfo, hi, h1]
  unfold Instr.index
  simp [asIntOf, run_underlying lineType, part, hsz, Rl_get f k hk, Sem.run_bind, Result.andThen]
  intro h
  omega
/-- A whole line out of its variable, into it; the empty one. -/
theorem wpList_ldL {ops : Array Oper} {rest : List Oper} {o : Oper} {a : Act} {w : World} {Q : Exit → Act → World → Prop} (hgd : Region.wanted o (yielded ops a.tmps) = true) (x : Operand) (ho : o.op = .load 104 x)
    (g : Nat) (hx : a.eval x = .pointer (some ⟨g, 0, none⟩)) {f : Nat → Nat} (hg : Bk w g 104 (Rl f))
    (h : wpList Tryz.prog ops Q rest (a.put o.dst (.agg (Rl f))) w) : wpList Tryz.prog ops Q (o :: rest) a w :=
  wpList_want hgd fun _ hK => wp_load_row 104 x ho g hx 104 (Rl f) (0, 0) _ hg lineType rfl (by rw [lineSize, Rl_size]) (hK _ _ h)
theorem line_range {w : World} {g o : Nat} {f : Nat → Nat} (h : w.rangeAt g o (Rl f).toList) : (loadVar 104 ⟨g, o, none⟩).run Tryz.prog w = .ok (.agg (Rl f)) w := by
  have := run_loadVar_mid (P := Tryz.prog) w g o 104 (Rl f).toList _ h Tryz.underlying104 rfl (by rw [lineSize]; simp [Rl_size])
  simpa using this
theorem wpList_lmL {ops : Array Oper} {rest : List Oper} {o : Oper} {a : Act} {w : World} {Q : Exit → Act → World → Prop} (hgd : Region.wanted o (yielded ops a.tmps) = true) (x : Operand) (ho : o.op = .load 104 x)
    (g k : Nat) (hx : a.eval x = .pointer (some ⟨g, k, none⟩)) {f : Nat → Nat} (hg : w.rangeAt g k (Rl f).toList)
    (h : wpList Tryz.prog ops Q rest (a.put o.dst (.agg (Rl f))) w) : wpList Tryz.prog ops Q (o :: rest) a w :=
  wpList_want hgd fun _ hK => by
    unfold Oper.wp execOp
    simp only [ho, hx, Instr.loadAt, Instr.sureAddr, Sem.run_bind, Sem.run_pure, Result.andThen_ok, line_range hg]
    rw [Oper.upon_value]
    exact hK _ _ h
theorem wpList_stL {ops : Array Oper} {rest : List Oper} {o : Oper} {a : Act} {w : World} {Q : Exit → Act → World → Prop} (hgd : o.guard = none) (x y : Operand) (ho : o.op = .store 104 x y)
    (g : Nat) (hx : a.eval x = .pointer (some ⟨g, 0, none⟩)) {f : Nat → Nat} (f' : Nat → Nat) (hy : a.eval y = .agg (Rl f')) (hg : Bk w g 104 (Rl f))
    (h : wpList Tryz.prog ops Q rest (a.put o.dst undef) (w.setRow g (Rl f'))) : wpList Tryz.prog ops Q (o :: rest) a w :=
  wpList_store_row hgd 104 x y ho g (Rl f') hx hy 104 (Rl f) hg (by rw [lineSize, Rl_size]) (by rw [Rl_size, Rl_size]) (Rl_one f') h
theorem wpList_bdL {ops : Array Oper} {rest : List Oper} {o : Oper} {a : Act} {w : World} {Q : Exit → Act → World → Prop} (hgd : o.guard = none) (ho : o.op = .build 104 #[])
    (h : wpList Tryz.prog ops Q rest (a.put o.dst (.agg (Rl fun _ => 0))) w) : wpList Tryz.prog ops Q (o :: rest) a w :=
  wpList_build hgd 104 #[] ho (by simp [lineEmpty]) (by simpa [lineEmpty] using h)
/-! ### Sets of rows -/
/-- The words of a set. -/
def lnW (S : Nat → Bool) : Nat → Nat := blk fun j c => S (64 * j + c)
theorem lnW_lt (S : Nat → Bool) (k : Nat) (hk : k < 64) : lnW S k < 18446744073709551616 := blk_wf _ k hk
theorem lnW_row (M : Nat → Nat → Bool) (i : Nat) : lnW (M i) = blk (wordsS M i) := rfl
/-- A set's members below n, rising. -/
def setL (S : Nat → Bool) (n : Nat) : List Nat := (List.range n).filter S
theorem mem_setL {S : Nat → Bool} {n x : Nat} : x ∈ setL S n ↔ x < n ∧ S x = true := by unfold setL; simp
theorem setL_rise (S : Nat → Bool) (n : Nat) : (setL S n).Pairwise (· < ·) := List.Pairwise.filter _ List.pairwise_lt_range
theorem setL_le (S : Nat → Bool) (n : Nat) : (setL S n).length ≤ n := by unfold setL; have := List.length_filter_le S (List.range n); simpa using this
theorem setL_eq {S : Nat → Bool} {n : Nat} (hn : n ≤ 1024) (h : ∀ x, S x = true → x < n) : flatN (cellsUp (lnW S) 16) = setL S n := by
  refine up_nat (cellsUp_rise _ 16) (setL_rise S n) fun x => ?_
  rw [mem_setL]
  unfold flatN
  rw [List.mem_map]
  constructor
  · rintro ⟨y, hy, rfl⟩
    obtain ⟨h1, h2, h3⟩ := mem_cellsUp.1 (show (y.1, y.2) ∈ cellsUp (lnW S) 16 from hy)
    unfold lnW at h3
    rw [bt_blk _ _ _ h2] at h3
    exact ⟨h _ h3, h3⟩
  · rintro ⟨h1, h2⟩
    refine ⟨(x / 64, x % 64), mem_cellsUp.2 ⟨by omega, Nat.mod_lt _ (by decide), ?_⟩, by show 64 * (x / 64) + x % 64 = x; omega⟩
    unfold lnW
    rw [bt_blk _ _ _ (Nat.mod_lt _ (by decide)), Nat.div_add_mod]
    exact h2
section
set_option maxHeartbeats 8000000
set_option maxRecDepth 100000
theorem members_any (f : Nat → Nat) (hf : ∀ k, k < 16 → f k < 18446744073709551616) (w : World) (hT : Tab w) : Calls Tryz.prog 56 #[.agg (Rl f)] w fun e w' => ∃ v, e = .returned v ∧ w'.ownsRow w.heap.size 3 1 v (flatN (cellsUp f 16)).length (ncells (flatN (cellsUp f 16))) ∧ Far (fun _ => False) w w' := by
  obtain ⟨W1, hW1⟩ : ∃ V, V = w.alloc (.cells (Rl f) 104) := ⟨_, rfl⟩
  have hf1 : Far (fun _ => False) w W1 := hW1 ▸ (Far.refl _ w).alloc _
  have hB1 : Bk W1 w.heap.size 104 (Rl f) := hW1 ▸ Bk.new rfl
  have hW1' := Lib.hid hW1
  have hf1' := Lib.hid hf1
  have hzL : (Value.agg (Rl f)).cells = Rl f := rfl
  clear hW1 hf1
  go_enter Tryz.func56, Tryz.ntmps56
  go_upto_region 2 with fail
  rw [← hW1'.out]
  have hlenU : ∀ k, k ≤ 16 → (flatN (cellsUp f k)).length ≤ 1024 := fun k hk => by
    have := cellsUp_le f k
    unfold flatN
    rw [List.length_map]
    omega
  go_wp2_with (first | (refine wpList_ldL rfl _ rfl _ rfl hB1 ?_))
  clear hW1' hB1
  go_loopw [3, 4, 5, 7] (fun lv _ _ kv wr => ∃ k : Nat, k ≤ 16 ∧ kv = .int .i64 (k : Nat) ∧ wr.ownsRow w.heap.size 3 1 lv (flatN (cellsUp f k)).length (ncells (flatN (cellsUp f k))) ∧ Far (fun _ => False) w wr) (fun _ _ _ kv _ => 16 - (intOf kv).toNat)
  case atStart => exact ⟨0, by omega, rfl, by unfold cellsUp; exact World.ownsRow_nil _ _ _ _, hf1'.out⟩
  case round =>
    obtain ⟨k, hk, rfl, ho, hf0⟩ := hrel
    have hlk := hlenU k hk
    by_cases hlt : k < 16
    · have hki : (k : Int) < 16 := by omega
      have hix := fun w => run_ixL f k hlt w
      have hlk1 := hlenU (k + 1) (by omega)
      have hcu : flatN (cellsUp f (k + 1)) = flatN (cellsUp f k) ++ (rowW (f k)).map fun c => 64 * k + c := by
        conv => lhs; unfold cellsUp
        unfold flatN
        rw [List.map_append, List.map_map]
        rfl
      have ho' := Lib.hid ho
      have hf0' := Lib.hid hf0
      have hcu' := Lib.hid hcu
      clear ho hf0 hcu
      go_wp2_with fail
      go_loopw [3, 5] (fun lv xv wr => ∃ (x : Nat) (pre : List Nat), xv = .int .u64 (x : Nat) ∧ x < 18446744073709551616 ∧ pre ++ ((rowW x).map fun c => 64 * k + c) = flatN (cellsUp f (k + 1)) ∧ wr.ownsRow w.heap.size 3 1 lv pre.length (ncells pre) ∧ Far (fun _ => False) w wr) (fun _ xv _ => (intOf xv).toNat)
      case atStart => exact ⟨f k, _, rfl, hf k hlt, hcu'.out.symm, ho'.out, hf0'.out⟩
      case round =>
        clear ho' hf0' hix
        obtain ⟨x, pre, rfl, hx, hpre, ho, hf0⟩ := hrel
        by_cases hx0 : x = 0
        · subst hx0
          rw [rowW_zero, List.map_nil, List.append_nil] at hpre
          rw [hpre] at ho
          have ho' := Lib.hid ho
          have hf0' := Lib.hid hf0
          clear ho hf0 hpre
          go_wp2_with fail
          exact ⟨⟨k + 1, by omega, by go_num, ho'.out, hf0'.out⟩, by simp [intOf]; omega⟩
        · have hne : ((x : Int) != 0) = true := by simp; omega
          have hrow := rowW_low x hx hx0
          rw [hrow, List.map_cons] at hpre
          have hX : bits .and .u64 (x : Int) ((x : Int) - 1) = ((x &&& (x - 1) : Nat) : Int) := by
            rw [show ((x : Int) - 1) = ((x - 1 : Nat) : Int) by omega, bits_and64 _ _ hx (by omega)]
          have hxl : x &&& (x - 1) < x := Nat.lt_of_le_of_lt Nat.and_le_right (by omega)
          have hc64 : Lib.ctz 64 x < 64 := (low_facts x hx hx0).1
          have TZ : ∀ W, Far (fun _ => False) w W → _ := fun W hW => tz_any x W hx hx0 (hT.still hW)
          have hnext : ((pre ++ [64 * k + Lib.ctz 64 x]) ++ (rowW (x &&& (x - 1))).map fun c => 64 * k + c) = flatN (cellsUp f (k + 1)) := by rw [← hpre]; simp
          have hpl : pre.length + 1 ≤ 1024 := by
            have := congrArg List.length hnext
            rw [List.length_append, List.length_append, List.length_singleton] at this
            omega
          obtain ⟨lo, lc, rfl⟩ := q_form ho
          have HN := Lib.hid hnext
          have ho' := Lib.hid ho
          have hf0' := Lib.hid hf0
          have TZ' := Lib.hid TZ
          clear hrow hpre hnext ho hf0 TZ
          generalize Lib.ctz 64 x = c at *
          generalize x &&& (x - 1) = x' at *
          obtain ⟨pi, pi1, pz, pi4, pi5⟩ := info_parts int_info
          have TZ1 := TZ'.out _ hf0'.out
          obtain ⟨wo, hwo⟩ : ∃ wo, wo = wr := ⟨_, rfl⟩
          rw [← hwo] at ho' hf0' TZ1 ⊢
          clear hwo TZ'
          have C1 := Lib.hid (World.ownsRow.alloc ho'.out (.cells #[.int .i64 (64 * (k : Int) + (c : Int))] 3))
          have C7 := Lib.hid (World.news_of_block (w := wo.alloc (.cells #[.int .i64 (64 * (k : Int) + (c : Int))] 3)) (cs := #[.int .i64 (64 * (k : Int) + (c : Int))]) (t := 3) (fr := (0, 0)) (heap_alloc_new wo _))
          have C3 := Lib.hid (show ∀ u ∈ [(.int .i64 (64 * (k : Int) + (c : Int)) : Value)], u.oneCell' = true by simp [Value.oneCell'])
          have C4 : pre.length + 1 ≤ maxLen := by unfold maxLen; omega
          have C5 : (pre.length + 1) * 8 ≤ 140737488355328 := by omega
          have C6 : w.heap.size ≤ (wo.alloc (.cells #[.int .i64 (64 * (k : Int) + (c : Int))] 3)).heap.size := by have := hf0'.out.size; simp; omega
          have hci : (c : Int) < 64 := by omega
          go_wp2_with (first | (refine TZ1.mono ?_; rintro e w' ⟨rfl, rfl⟩; clear TZ1) | (at_builtin; refine wpList_append_own _ rfl _ _ 30 rfl w.heap.size 3 pi (.int .i64 0) 1 8 Tryz.underlying30 pi1 pz pi4 pi5 rfl (by decide) (.slice lo pre.length lc) pre.length _ rfl C1.out ⟨wo.heap.size, 0, none⟩ 1 1 [.int .i64 (64 * (k : Int) + (c : Int))] rfl rfl C7.out C3.out C4 C5 C6 ?_; intro v2 w6 ho6 hg6 hn6; have ho6' := Lib.hid ho6; have hg6' := Lib.hid hg6; clear ho6 hg6 hn6))
          have fa : Far (fun _ => False) w w6 := (hf0'.out.alloc _).trans (grown_F hg6'.out) fun q hq e => by
            have := (own_type ho'.out e).1
            omega
          have ho7 : w6.ownsRow w.heap.size 3 1 v2 (pre ++ [64 * k + c]).length (ncells (pre ++ [64 * k + c])) := by
            have := ho6'.out
            rw [List.length_append, List.length_singleton, show ncells (pre ++ [64 * k + c]) = ncells pre ++ [.int .i64 (64 * (k : Int) + (c : Int))] by simp [ncells]]
            exact this
          have ho8 := Lib.hid ho7
          have fa' := Lib.hid fa
          clear ho7 fa
          go_roundw
          case rel => exact ⟨x', _, rfl, by omega, HN.out, ho8.out, fa'.out⟩
          case measure => simp [intOf]; omega
    · have hke : k = 16 := by omega
      subst hke
      have ho' := Lib.hid ho
      have hf0' := Lib.hid hf0
      clear ho hf0
      go_wp2_with fail
      go_ret
      exact ⟨_, rfl, ho'.out, hf0'.out⟩
end
end Go.Proofs.YtjolkhiggcmoiaaGreatDoor
/-! ## QPLines: lines: the columns of all rows of a matrix, each as a line. -/
namespace Go.Proofs.YtjolkhiggcmoiaaGreatDoor
open Go.RowKit Go.Shelf
set_option linter.unusedVariables false
set_option linter.unusedSimpArgs false
def lnRows (M : Nat → Nat → Bool) (n : Nat) : List (List Value) := (List.range n).map fun i => (Rl (lnW (M i))).toList
theorem lnRows_even (M : Nat → Nat → Bool) (n : Nat) : Even 16 (lnRows M n) := fun x hx => by
  simp only [lnRows, List.mem_map] at hx
  obtain ⟨i, _, rfl⟩ := hx
  rw [Array.length_toList, Rl_size]
theorem lnRows_get (M : Nat → Nat → Bool) {n i : Nat} (h : i < n) : (lnRows M n)[i]? = some (Rl (lnW (M i))).toList := by simp [lnRows, h]
theorem lnRows_len (M : Nat → Nat → Bool) (n : Nat) : (lnRows M n).length = n := by simp [lnRows]
theorem lnW_or (S : Nat → Bool) (j : Nat) (hj : j < 1024) : Rl (upd (lnW S) (j / 64) (lnW S (j / 64) ||| 2 ^ (j % 64))) = Rl (lnW fun c => S c || decide (c = j)) := Rl_congr fun k hk => by
  refine Nat.eq_of_testBit_eq fun c => ?_
  by_cases hc : c < 64
  · have e2 : (lnW (fun c => S c || decide (c = j)) k).testBit c = (S (64 * k + c) || decide (64 * k + c = j)) := blk_bit _ _ _ hc
    rw [e2]
    unfold upd
    by_cases e : k = j / 64
    · subst e
      rw [if_pos rfl, Nat.testBit_or, Nat.testBit_two_pow, show (lnW S (j / 64)).testBit c = S (64 * (j / 64) + c) from blk_bit _ _ _ hc]
      congr 1
      rw [decide_eq_decide]
      omega
    · rw [if_neg e, show (lnW S k).testBit c = S (64 * k + c) from blk_bit _ _ _ hc]
      have : ¬ (64 * k + c = j) := by omega
      simp [this]
  · have big : ∀ x, x < 18446744073709551616 → x.testBit c = false := fun x hx => Nat.testBit_lt_two_pow (Nat.lt_of_lt_of_le hx (by rw [show (18446744073709551616 : Nat) = 2 ^ 64 from rfl]; exact Nat.pow_le_pow_right (by decide) (by omega)))
    rw [big (lnW (fun c => S c || decide (c = j)) k) (lnW_lt _ k (by omega))]
    unfold upd
    by_cases e : k = j / 64
    · rw [if_pos e, Nat.testBit_or, big _ (lnW_lt S _ (by omega)), Nat.testBit_two_pow]
      have : ¬ (j % 64 = c) := by omega
      simp [this]
    · rw [if_neg e]
      exact big _ (lnW_lt S k (by omega))
theorem lnRows_put {M : Nat → Nat → Bool} {n i j : Nat} (hi : i < n) (hj : j < 1024) : (lnRows M n).flatten.set (i * 16 + j / 64) (.int .u64 ((lnW (M i) (j / 64) ||| 2 ^ (j % 64) : Nat))) = (lnRows (putM M i j) n).flatten := by
  rw [flat_set (lnRows_even M n) (lnRows_get M hi) _ (by omega)]
  congr 1
  apply List.ext_getElem?
  intro q
  have hset : (Rl (lnW (M i))).toList.set (j / 64) (.int .u64 ((lnW (M i) (j / 64) ||| 2 ^ (j % 64) : Nat))) = (Rl (lnW (putM M i j i))).toList := by
    rw [← Array.toList_setIfInBounds, Rl_set _ _ _ (by omega), lnW_or _ _ hj]
    congr 2
    unfold putM lnW
    congr 1
    funext a c
    simp
  by_cases e : q = i
  · subst e
    rw [List.getElem?_set_self (by rw [lnRows_len]; exact hi), lnRows_get _ hi, hset]
  · rw [List.getElem?_set_ne (fun h => e h.symm)]
    by_cases hq : q < n
    · rw [lnRows_get _ hq, lnRows_get _ hq]
      congr 3
      unfold putM lnW
      congr 1
      funext a c
      simp [e]
    · rw [List.getElem?_eq_none (by rw [lnRows_len]; omega), List.getElem?_eq_none (by rw [lnRows_len]; omega)]
theorem lnRows_congr {M M' : Nat → Nat → Bool} (h : ∀ r c, M r c = M' r c) (n : Nat) : lnRows M n = lnRows M' n := by
  have : M = M' := funext fun r => funext fun c => h r c
  rw [this]
theorem lnW_zero (k : Nat) (hk : k < 16) : lnW (fun _ => false) k = 0 := by
  refine Nat.eq_of_testBit_eq fun c => ?_
  rw [Nat.zero_testBit]
  by_cases hc : c < 64
  · exact blk_bit _ _ _ hc
  · exact Nat.testBit_lt_two_pow (Nat.lt_of_lt_of_le (lnW_lt _ k (by omega)) (by rw [show (18446744073709551616 : Nat) = 2 ^ 64 from rfl]; exact Nat.pow_le_pow_right (by decide) (by omega)))
theorem lnRows_zero (n : Nat) : (lnRows (fun _ _ => false) n).flatten = (madeCells (Value.agg (Rl fun _ => 0)).cells (n * 16)).toList := by
  have hz : ∀ k, k < 16 → (Rl (lnW fun _ => false)).toList[k]? = some (.int .u64 0) := fun k hk => by
    have := Rl_get (lnW fun _ => false) k hk
    rw [lnW_zero k hk] at this
    simpa using this
  have hE := lnRows_even (fun _ _ => false) n
  apply List.ext_getElem?
  intro q
  by_cases hq : q < n * 16
  · have hr : q % 16 < 16 := Nat.mod_lt _ (by decide)
    have hd : q / 16 < n := by omega
    have h1 : (lnRows (fun _ _ => false) n).flatten[q]? = some (.int .u64 0) := by
      have := flat_get hE (lnRows_get (fun _ _ => false) hd) hr
      rw [show q / 16 * 16 + q % 16 = q by omega] at this
      rw [this]
      exact hz _ hr
    rw [h1]
    have h2 := Rl_get (fun _ => 0) (q % 16) hr
    have h3 : ((Value.agg (Rl fun _ => 0)).cells) = Rl fun _ => 0 := rfl
    rw [h3]
    unfold madeCells
    simp [hq, Rl_size]
    have h4 := h2
    simp only [Array.getElem?_eq_some_iff] at h4
    obtain ⟨h5, h6⟩ := h4
    simp [h5, h6]
  · rw [List.getElem?_eq_none (by rw [flat_len hE, lnRows_len]; omega), List.getElem?_eq_none (by simp [madeCells]; omega)]
attribute [local go_sem] Oper.semAt_some
/-- The set of the cells told so far. -/
def preM (pre : List (Nat × Nat)) : Nat → Nat → Bool := fun r c => decide ((r, c) ∈ pre)
theorem preM_app (pre : List (Nat × Nat)) (y : Nat × Nat) : ∀ r c, putM (preM pre) y.1 y.2 r c = preM (pre ++ [y]) r c := fun r c => by
  unfold putM preM
  rw [Bool.eq_iff_iff]
  simp only [Bool.or_eq_true, Bool.and_eq_true, decide_eq_true_eq, List.mem_append, List.mem_singleton]
  rw [Prod.ext_iff]
theorem quo64 (y q : Nat) (h : q = y / 64) : (y : Int) / 64 = (q : Int) := by omega
theorem tmod64 (y c : Nat) (h : c = y % 64) : (y : Int).tmod 64 = (c : Int) := by rw [Int.tmod_eq_emod_of_nonneg (by omega)]; omega
theorem wrap_sm (q : Nat) (h : q < 1024) : IntKind.i64.wrap (q : Int) = (q : Int) := by rw [IntKind.wrap_i64]; omega
structure LI (W0 : World) (base g h3 side : Nat) (pre : List (Nat × Nat)) (V : World) : Prop where
  own : V.ownsRow base 104 16 (.slice (some ⟨g, 0, none⟩) side side) side (lnRows (preM pre) side).flatten
  box : Bk V h3 100 #[.slice (some ⟨g, 0, none⟩) side side]
  far : Far (fun k => k = g) W0 V
theorem LI.go {W0 A B : World} {base g h3 side : Nat} {pre : List (Nat × Nat)} {row : Option Nat} (h : LI W0 base g h3 side pre A) (hg : A.grownBy B row) (hr : ∀ r, row = some r → W0.heap.size ≤ r ∧ ∃ o : Obj, A.heap[r]? = some o ∧ o.isCells = false) : LI W0 base g h3 side pre B :=
  ⟨row_other h.own (grown_F hg) fun k e => (hr k e).2, bk_other h.box (grown_F hg) fun k e => (hr k e).2, far_own h.far hg hr⟩
section
variable {w : World} {B side : Nat} {F : Nat → Prop} {M : Nat → Nat → Bool}
set_option maxHeartbeats 8000000
set_option maxRecDepth 100000
theorem lines_any (h : Mx w B F side M) (hT : Tab w) : Calls Tryz.prog 55 #[.pointer (some ⟨B, 0, none⟩)] w fun e w' => ∃ g, e = .returned (.slice (some ⟨g, 0, none⟩) side side) ∧ w'.ownsRow w.heap.size 104 16 (.slice (some ⟨g, 0, none⟩) side side) side (lnRows M side).flatten ∧ Far (fun _ => False) w w' := by
  have hwin := h.within
  obtain ⟨s1, s2⟩ := h.sides
  have SD := h.side
  have hcan := cells_canon s2 hwin
  obtain ⟨li, hli, lz0, lz1, lz2⟩ := info_parts lineInfo
  have h' := Lib.hid h
  have hwin' := Lib.hid hwin
  have hcan' := Lib.hid hcan
  have hbytes : li.bytes * side ≤ 281474976710656 := by rw [lz2]; omega
  have hmaxl : side ≤ maxLen := by unfold maxLen; omega
  clear h hwin hcan
  refine (callsIn_wide (n := 10)).1 (callsIn_of_wp_marks Tryz.func55 rfl trivial (wpIn_wide.2 ?_) rfl)
  simp only [Tryz.ntmps55, List.size_toArray, List.length_cons, List.length_nil, Nat.reduceAdd, Nat.reduceSub, Array.replicate_succ, Array.replicate_zero, List.push_toArray, List.append_toArray, List.nil_append, List.cons_append]
  go_wp2_with fail
  refine SD.mono ?_
  rintro e w' ⟨rfl, rfl⟩
  clear SD
  go_upto_region 2 with (first | (refine wpList_make_full w rfl _ _ 100 rfl w.heap.size 104 li _ 16 Tryz.underlying100 hli lz0 lz1 .i64 .i64 _ _ side rfl rfl rfl rfl hbytes hmaxl (Nat.le_refl _) ?_; intro w1 ho1 hg1; have ho1' := Lib.hid ho1; have hf1' := Lib.hid ((Far.refl (fun _ => False) w).grown hg1 fun k _ e => by cases e); clear ho1 hg1))
  obtain ⟨g, hg⟩ : ∃ b, b = w.heap.size := ⟨_, rfl⟩
  rw [← hg] at ho1' ⊢
  obtain ⟨h3, hh3⟩ : ∃ b, b = w1.heap.size := ⟨_, rfl⟩
  obtain ⟨w2, hw2⟩ : ∃ V, V = w1.alloc (.cells #[.slice (some ⟨g, 0, none⟩) side side] 100) := ⟨_, rfl⟩
  rw [← hh3, ← hw2]
  have hf12 : Far (fun _ => False) w1 w2 := hw2 ▸ (Far.refl _ w1).alloc _
  have hB3 : Bk w2 h3 100 #[.slice (some ⟨g, 0, none⟩) side side] := hw2 ▸ Bk.new hh3
  have ho2 : w2.ownsRow g 104 16 (.slice (some ⟨g, 0, none⟩) side side) side (lnRows (fun _ _ => false) side).flatten := by
    have := row_same ho1'.out fun k hk hl => hf12.block k hl id
    rw [lnRows_zero]
    exact this
  have hf2 := Lib.hid (hf1'.out.then hf12)
  have hg' := Lib.hid hg
  have ho2' := Lib.hid ho2
  have hB3' := Lib.hid hB3
  have CE := qCells_any (h'.out.still hf2.out)
  clear hw2 hh3 hf12 hB3 ho2 hg ho1' hf1' hbytes hmaxl
  go_wp2_with fail
  refine CE.mono ?_
  rintro e W0 ⟨hb, v, rfl, hbX, hbO, hbz, hf7⟩
  have hI0 : LI W0 g g h3 side [] W0 := ⟨by rw [lnRows_congr (M' := fun _ _ => false) (fun r c => by simp [preM])]; exact row_same ho2'.out fun k hk hl => hf7.block k hl id, hB3'.out.far' hf7 id, Far.refl _ _⟩
  have hfw0 := Lib.hid (hf2.out.then hf7)
  have hTw0 := Lib.hid (hT.still hfw0.out)
  have hbX' := Lib.hid hbX
  have hbO' := Lib.hid hbO
  have hgl := Lib.hid (show g < W0.heap.size ∧ h3 < W0.heap.size from ⟨(hI0.own.lt g rfl).2, hI0.box.lt⟩)
  clear CE hbX hbO hbz hf7 ho2' hB3'
  go_wp2_with fail
  refine (wpIn_wide (n := 10)).1 ?_
  obtain ⟨aov, capv, rfl⟩ := q_form hbO'.out
  obtain ⟨L, hL⟩ : ∃ L, placesL M side = L := ⟨_, rfl⟩
  rw [hL] at hbO' hbX' hcan'
  have hLf : L.length ≤ 256 := by have := placesL_few M s2; rw [hL] at this; exact this
  have hLp : ∀ p ∈ L, p.1 < 16 ∧ p.2 < 16 := fun p hp => by
    rw [← hL] at hp
    obtain ⟨h1, h2, _⟩ := mem_placesL.1 hp
    have := lns_le s2
    omega
  clear hL
  refine name_frame fun T hTT => ?_
  refine range_ok (by decide) (by rw [← hTT]; rfl) (enters_of Tryz.func73 (by kernel_rfl) rfl) (qcells_seq (10 - 1) (by decide) hb w2.heap.size _ M L hLf hLp W0 hbX'.out hbO'.out hTw0.out) KT.trans (fun V l o o' hl h ho => KT.put (B := W0.heap.size) V l o o' hTw0.out.lt hl h ho) (fun _ => rfl)
    (fun pre V => LI W0 g g h3 side pre V) (fun _ _ _ => False) ?own ?ownx hI0
    (fun pre y a' V => ((pre ++ [y]) <+: cellsF M L.length L) ∧ LI W0 g g h3 side pre V ∧ a' = { tmps := ((((T.setIfInBounds 11 (.int .i64 (y.1 : Nat))).setIfInBounds 12 (.int .i64 (y.2 : Nat))).setIfInBounds 4 (.int .i64 (y.1 : Nat))).setIfInBounds 5 (.int .i64 (y.2 : Nat))), defers := [] }) ?hAx ?assign ?body ?done ?stop
  case own => exact fun u A B row h hg hr => LI.go h hg hr
  case ownx => exact fun c u A B row h _ _ => h
  case hAx => exact fun pre y a' u A B row ⟨h1, h2, h3⟩ hg hr => ⟨h1, h2.go hg hr, h3⟩
  case stop => exact fun D c pre V _ _ h _ => h.elim
  case assign =>
    intro l pre y V KK hI hok hK
    have hK' := hK _ V (KeepsFrom.refl _ _) (KT.refl _) hI ⟨hok, hI, rfl⟩
    subst hTT
    simp only [encP, List.zip_toArray, List.zip_cons_cons, List.zip_nil_right, List.foldl_toArray', List.foldl_cons, List.foldl_nil, List.setIfInBounds_toArray, List.set_cons_succ, List.set_cons_zero] at hK' ⊢
    gi_wp2
    exact hK'
  case body =>
    rintro l pre y a' V hl _ ⟨hpre, hI, rfl⟩
    have hm : M y.1 y.2 = true := told_there (hpre.subset (by simp))
    obtain ⟨hy1, hy2⟩ := hwin'.out _ _ hm
    subst hTT
    simp only [List.setIfInBounds_toArray, List.set_cons_succ, List.set_cons_zero]
    gi_wp2
    have hlen16 := hI.own
    have hj64 : (y.2 : Int) < 1024 := by omega
    have hyi1 : (y.1 : Int) < (side : Int) := by omega
    have wj : wrap64 ((y.2 : Int) / 64) = ((y.2 / 64 : Nat) : Int) := by rw [wrap64_of (by omega)]; omega
    have wj2 : IntKind.i64.wrap ((y.2 : Int) / 64) = ((y.2 / 64 : Nat) : Int) := by rw [IntKind.wrap_i64]; omega
    have wm : (y.2 : Int) % 64 = ((y.2 % 64 : Nat) : Int) := by omega
    have hjl : ((y.2 / 64 : Nat) : Int) < 16 := by omega
    have hjm : ((y.2 % 64 : Nat) : Int) < 64 := by omega
    obtain ⟨x, hx⟩ : ∃ x, lnW (preM pre y.1) (y.2 / 64) = x := ⟨_, rfl⟩
    have hxl : x < 18446744073709551616 := hx ▸ lnW_lt _ _ (by omega)
    have hor := or_pw x (y.2 % 64) hxl (Nat.mod_lt _ (by decide))
    have hcell : V.cell? ⟨g, y.1 * 16 + y.2 / 64, none⟩ = some (.int .u64 (x : Nat)) := by
      rw [hlen16.cellAt (y.1 * 16 + y.2 / 64) (by have := Nat.mul_le_mul_right 16 (show y.1 + 1 ≤ side by omega); omega), flat_get (lnRows_even _ _) (lnRows_get _ hy1) (by omega)]
      have := Rl_get (lnW (preM pre y.1)) (y.2 / 64) (by omega)
      rw [hx] at this
      simpa using this
    have hfro : V.frozen? ⟨g, y.1 * 16 + y.2 / 64, none⟩ = false := hlen16.frozenAt _
    obtain ⟨V', hV'⟩ : ∃ V', V' = V.drew.setCell ⟨g, y.1 * 16 + y.2 / 64, none⟩ (.int .u64 ((x ||| 2 ^ (y.2 % 64) : Nat))) := ⟨_, rfl⟩
    have hfd : Far (fun _ => False) V V.drew := (Far.refl _ V).drew
    have hfa : Far (fun q => q = g) V V' := hV' ▸ (hfd.mono (G := fun q => q = g) fun _ _ h => h.elim).set ⟨g, y.1 * 16 + y.2 / 64, none⟩ _ fun _ => rfl
    have hgt : ∃ cs, Bk V g 104 cs := (own_type hI.own rfl).2.2
    have hgh : h3 ≠ g := fun e => by
      obtain ⟨cs, hb9⟩ := hgt
      exact absurd (bk_type hI.box (e ▸ hb9)) (by decide)
    have hn : LI W0 g g h3 side (pre ++ [y]) V' := by
      refine ⟨?_, hI.box.far' hfa hgh, hI.far.trans hfa fun _ _ h => h⟩
      have h1 := (World.ownsRow.stored (w := V.drew) (show V.drew.ownsRow g 104 16 (.slice (some ⟨g, 0, none⟩) side side) side (lnRows (preM pre) side).flatten from hI.own) (y.1 * 16 + y.2 / 64) (.int .u64 ((x ||| 2 ^ (y.2 % 64) : Nat)))).1
      rw [← hx, lnRows_put hy1 (by omega), lnRows_congr (preM_app pre y), hx, ← hV'] at h1
      exact h1
    have hn' := Lib.hid hn
    have hgt' := Lib.hid hgt
    have hfa' := Lib.hid hfa
    have hIh := Lib.hid hI
    have hV'' := Lib.hid hV'
    have cD : V.drew.cell? ⟨g, y.1 * 16 + y.2 / 64, none⟩ = some (.int .u64 (x : Nat)) := hcell
    have fD : V.drew.frozen? ⟨g, y.1 * 16 + y.2 / 64, none⟩ = false := hfro
    have SD : (fun w' : World => Bk w' h3 100 #[.slice (some ⟨g, 0, none⟩) side side]) V.drew := hI.box
    have S9 := Lib.hid (show (fun w' : World => Bk w' h3 100 #[.slice (some ⟨g, 0, none⟩) side side]) V' from hn.box)
    clear hlen16 hn hgt hfa hI hV' hcell hfro hx hpre hm hfd hxl
    obtain ⟨jq, hjq⟩ : ∃ q, q = y.2 / 64 := ⟨_, rfl⟩
    obtain ⟨jc, hjc⟩ : ∃ q, q = y.2 % 64 := ⟨_, rfl⟩
    have hjc64 : jc < 64 := hjc ▸ Nat.mod_lt _ (by decide)
    have hmin : min jc 64 = jc := Nat.min_eq_left (Nat.le_of_lt hjc64)
    have wq := quo64 y.2 jq hjq
    have wt := tmod64 y.2 jc hjc
    have wjq := wrap_sm jq (hjq ▸ Nat.lt_of_le_of_lt (Nat.div_le_self _ _) (Nat.lt_of_lt_of_le hy2 s2))
    rw [← hjq] at hjl cD fD hV''
    rw [← hjc] at hor hV''
    have hjq' := Lib.hid hjq
    have hjc' := Lib.hid hjc
    clear hjq hjc wj wj2 wm hjm
    refine region_in (S := fun w' : World => Bk w' h3 100 #[.slice (some ⟨g, 0, none⟩) side side]) (by kernel_rfl) (by kernel_rfl) SD (fun hS => ?_)
    refine wpAnyH_take (i := 0) (v := ?v0w1) rfl (by kernel_rfl) (by kernel_rfl) (by kernel_rfl) (fun _ _ _ h => h) (Or.inl ⟨by rfl, ?y0w1⟩) (by assumption) ?r0w1
    case y0w1 => (intro w hSw; (try dsimp only at hSw); have g0 : w.cell? ⟨h3, 0, none⟩ = some (.slice (some ⟨g, 0, none⟩) side side) := Bk.cell hSw 0; go_simp; (try with_reducible rfl))
    simp only [Act.put, List.setIfInBounds_toArray, List.set_cons_zero, List.set_cons_succ]
    refine wpAnyH_take (i := 1) (v := ?v1w2) rfl (by kernel_rfl) (by kernel_rfl) (by kernel_rfl) (fun _ _ _ h => h) (Or.inl ⟨by rfl, ?y1w2⟩) (by assumption) ?r1w2
    case y1w2 => (intro w hSw; (try dsimp only at hSw); have g0 : w.cell? ⟨h3, 0, none⟩ = some (.slice (some ⟨g, 0, none⟩) side side) := Bk.cell hSw 0; go_simp; (try with_reducible rfl))
    simp only [Act.put, List.setIfInBounds_toArray, List.set_cons_zero, List.set_cons_succ]
    refine wpAnyH_take (i := 2) (v := ?v2w3) rfl (by kernel_rfl) (by kernel_rfl) (by kernel_rfl) (fun _ _ _ h => h) (Or.inl ⟨by rfl, ?y2w3⟩) (by assumption) ?r2w3
    case y2w3 => (intro w hSw; (try dsimp only at hSw); have g0 : w.cell? ⟨h3, 0, none⟩ = some (.slice (some ⟨g, 0, none⟩) side side) := Bk.cell hSw 0; go_simp; (try with_reducible rfl))
    simp only [Act.put, List.setIfInBounds_toArray, List.set_cons_zero, List.set_cons_succ]
    refine wpAnyH_take (i := 3) (v := ?v3w4) rfl (by kernel_rfl) (by kernel_rfl) (by kernel_rfl) (fun _ _ _ h => h) (Or.inl ⟨by rfl, ?y3w4⟩) (by assumption) ?r3w4
    case y3w4 => (intro w hSw; (try dsimp only at hSw); have g0 : w.cell? ⟨h3, 0, none⟩ = some (.slice (some ⟨g, 0, none⟩) side side) := Bk.cell hSw 0; go_simp; (try with_reducible rfl))
    simp only [Act.put, List.setIfInBounds_toArray, List.set_cons_zero, List.set_cons_succ]
    refine wpAnyH_take (i := 4) (v := ?v4w5) rfl (by kernel_rfl) (by kernel_rfl) (by kernel_rfl) (fun _ _ _ h => h) (Or.inl ⟨by rfl, ?y4w5⟩) (by assumption) ?r4w5
    case y4w5 => (intro w hSw; (try dsimp only at hSw); have g0 : w.cell? ⟨h3, 0, none⟩ = some (.slice (some ⟨g, 0, none⟩) side side) := Bk.cell hSw 0; go_simp; (try with_reducible rfl))
    simp only [Act.put, List.setIfInBounds_toArray, List.set_cons_zero, List.set_cons_succ]
    refine wpAnyH_take (i := 5) (v := ?v5w6) rfl (by kernel_rfl) (by kernel_rfl) (by kernel_rfl) (fun _ _ _ h => h) (Or.inl ⟨by rfl, ?y5w6⟩) (by assumption) ?r5w6
    case y5w6 => (intro w hSw; (try dsimp only at hSw); have g0 : w.cell? ⟨h3, 0, none⟩ = some (.slice (some ⟨g, 0, none⟩) side side) := Bk.cell hSw 0; go_simp; (try with_reducible rfl))
    simp only [Act.put, List.setIfInBounds_toArray, List.set_cons_zero, List.set_cons_succ]
    refine wpAnyH_take (i := 7) (v := ?v7w7) rfl (by kernel_rfl) (by kernel_rfl) (by kernel_rfl) (fun _ _ _ h => h) (Or.inl ⟨by rfl, ?y7w7⟩) (by assumption) ?r7w7
    case y7w7 => (intro w hSw; (try dsimp only at hSw); have g0 : w.cell? ⟨h3, 0, none⟩ = some (.slice (some ⟨g, 0, none⟩) side side) := Bk.cell hSw 0; go_simp; (try with_reducible rfl))
    simp only [Act.put, List.setIfInBounds_toArray, List.set_cons_zero, List.set_cons_succ]
    refine wpAnyH_take (i := 8) (v := ?v8w8) rfl (by kernel_rfl) (by kernel_rfl) (by kernel_rfl) (fun _ _ _ h => h) (Or.inl ⟨by rfl, ?y8w8⟩) (by assumption) ?r8w8
    case y8w8 => (intro w hSw; (try dsimp only at hSw); have g0 : w.cell? ⟨h3, 0, none⟩ = some (.slice (some ⟨g, 0, none⟩) side side) := Bk.cell hSw 0; go_simp; (try with_reducible rfl))
    simp only [Act.put, List.setIfInBounds_toArray, List.set_cons_zero, List.set_cons_succ]
    refine wpAnyH_take (i := 9) (v := ?v9w9) rfl (by kernel_rfl) (by kernel_rfl) (by kernel_rfl) (fun _ _ _ h => h) (Or.inl ⟨by rfl, ?y9w9⟩) (by assumption) ?r9w9
    case y9w9 => (intro w hSw; (try dsimp only at hSw); have g0 : w.cell? ⟨h3, 0, none⟩ = some (.slice (some ⟨g, 0, none⟩) side side) := Bk.cell hSw 0; go_simp; (try with_reducible rfl))
    simp only [Act.put, List.setIfInBounds_toArray, List.set_cons_zero, List.set_cons_succ]
    refine wpAnyH_take (i := 11) (v := ?v11w10) rfl (by kernel_rfl) (by kernel_rfl) (by kernel_rfl) (fun _ _ _ h => h) (Or.inl ⟨by rfl, ?y11w10⟩) (by assumption) ?r11w10
    case y11w10 => (intro w hSw; (try dsimp only at hSw); have g0 : w.cell? ⟨h3, 0, none⟩ = some (.slice (some ⟨g, 0, none⟩) side side) := Bk.cell hSw 0; go_simp; (try with_reducible rfl))
    simp only [Act.put, List.setIfInBounds_toArray, List.set_cons_zero, List.set_cons_succ]
    refine wpAnyH_ready (rs := [6]) (by kernel_rfl) (by decide) (AllReadyH.cons (o := ({ dst := some 19, op := Op.load 102 (Operand.tmp 18), type := 102, pos := "product.go:150", after := #[{ on := 5, ground := Ground.data }], guard := none } : Oper)) rfl (fun K' hK => ?_) AllReadyH.nil)
    go_simp
    refine hK.out _ _ hS fun hS1 => ?_
    clear hK
    (try simp only [Act.put, List.setIfInBounds_toArray, List.set_cons_zero, List.set_cons_succ])
    refine wpAnyH_take (i := 10) (v := ?v10w11) rfl (by kernel_rfl) (by kernel_rfl) (by kernel_rfl) (fun _ _ _ h => h) (Or.inl ⟨by rfl, ?y10w11⟩) (by assumption) ?r10w11
    case y10w11 => (intro w hSw; (try dsimp only at hSw); have g0 : w.cell? ⟨h3, 0, none⟩ = some (.slice (some ⟨g, 0, none⟩) side side) := Bk.cell hSw 0; go_simp; (try with_reducible rfl))
    simp only [Act.put, List.setIfInBounds_toArray, List.set_cons_zero, List.set_cons_succ]
    refine wpAnyH_take (i := 12) (v := ?v12w12) rfl (by kernel_rfl) (by kernel_rfl) (by kernel_rfl) (fun _ _ _ h => h) (Or.inl ⟨by rfl, ?y12w12⟩) (by assumption) ?r12w12
    case y12w12 => (intro w hSw; (try dsimp only at hSw); have g0 : w.cell? ⟨h3, 0, none⟩ = some (.slice (some ⟨g, 0, none⟩) side side) := Bk.cell hSw 0; go_simp; (try with_reducible rfl))
    simp only [Act.put, List.setIfInBounds_toArray, List.set_cons_zero, List.set_cons_succ]
    refine wpAnyH_ready (rs := [13]) (by kernel_rfl) (by decide) (AllReadyH.cons rfl (fun K' hK => ?_) AllReadyH.nil)
    go_simp
    have hV3 : (V.setCell ⟨g, y.1 * 16 + jq, none⟩ (.int .u64 ((x ||| 2 ^ jc : Nat)))).drew = V' := by rw [hV''.out]; rfl
    rw [hV3]
    refine hK.out _ _ S9.out fun hS2 => ?_
    clear hK
    refine wpAnyH_done (by kernel_rfl) ?_ _
    unfold OnlyNormal
    dsimp only
    refine ⟨keeps_far hfa'.out fun k hk => ?_, ⟨hfa'.out.size, fun k hk => hfa'.out.block k ?_ ?_⟩, hn'.out⟩
    · rw [hk]
      obtain ⟨cs, hb9⟩ := hgt'.out
      exact ⟨_, _, hb9⟩
    · rcases hk with rfl | ⟨cs, t, hb', _⟩
      · have := hTw0.out.lt; have := hIh.out.far.size; omega
      · exact hb'.lt
    · intro e
      subst e
      obtain ⟨cs9, hb9⟩ := hgt'.out
      rcases hk with e2 | ⟨cs, t, hb', ht⟩
      · have := hT.lt; have := hg'.out; omega
      · have := bk_type hb' hb9; subst this; revert ht; decide
  case done =>
    rintro D xs V hD rfl hI hK
    have c3 : V.cell? ⟨h3, 0, none⟩ = some (.slice (some ⟨g, 0, none⟩) side side) := hI.box.cell 0
    have hmk := Lib.hid (Marks.cons (Marks.nil w w.heap.size) (Marks.nil V w.heap.size) (Nat.le_trans hfw0.out.size hD) (Nat.le_trans hfw0.out.size hD) hK)
    have hI' := Lib.hid hI
    subst hTT
    clear hI hK
    go_wp2_with fail
    refine leave_marks hmk.out fun W' hfW => ?_
    refine ⟨.slice (some ⟨g, 0, none⟩) side side, by simp [results, Tryz.f55, go_sem], g, rfl, ?_, ?_⟩
    · have ho := row_same hI'.out.own fun k hk hl => hfW.block k hl fun e => by
        obtain ⟨_, _, cs, hb⟩ := own_type hI'.out.own hk
        have := e.2
        rw [show V.heap[k]? = _ from hb] at this
        cases this
      rw [lnRows_congr (M' := M) (fun r c => by
        unfold preM
        rw [Bool.eq_iff_iff, decide_eq_true_eq, hcan'.out]
        exact mem_cellsL hwin'.out), hg'.out] at ho
      rw [hg'.out]
      exact ho
    · exact ((hfw0.out.trans (G := fun k => w.heap.size ≤ k) (hI'.out.far.mono fun k _ e => by have := hg'.out; omega) fun k hk e => by omega).trans (G := fun k => w.heap.size ≤ k) (hfW.mono fun k _ e => e.1) fun k hk e => by omega)
end
end Go.Proofs.YtjolkhiggcmoiaaGreatDoor
/-! ## QPWalk: Walk: where just n steps lead. -/
namespace Go.Proofs.YtjolkhiggcmoiaaGreatDoor
open Go.RowKit Go.Shelf
set_option linter.unusedVariables false
set_option linter.unusedSimpArgs false
def sameL (f g : Nat → Nat) : Bool := (List.range' 0 16).all fun i => ((f i : Int) == (g i : Int))
set_option maxRecDepth 100000 in
theorem eq_runL (f g : Nat → Nat) (w : World) : (Op.equalIn 10000 104 (.agg (Rl f)) (.agg (Rl g))).run Tryz.prog w = .ok (sameL f g) w := by
  have hs : ∃ i, Tryz.prog.info? 102 = some i ∧ i.size = 1 := by
    have := wordSize
    cases h : Tryz.prog.info? 102 with
    | none => rw [h] at this; cases this
    | some i => rw [h] at this; exact ⟨i, rfl, by simpa using this⟩
  obtain ⟨i, hi, h1⟩ := hs
  have hsz : (sizeOf 102).run Tryz.prog w = .ok 1 w := by simp [sizeOf, typeInfo, hi, h1]
  have wd : Tryz.prog.underlying 102 = some (.int .u64) := by kernel_rfl
  show (Op.equalIn (9998 + 1 + 1) 104 (.agg (Rl f)) (.agg (Rl g))).run Tryz.prog w = .ok (sameL f g) w
  generalize 9998 = d
  unfold Op.equalIn
  simp only [Sem.run_bind, run_underlying lineType, hsz, Result.andThen_ok]
  have hl : ∀ i ∈ List.range' 0 16, i < 16 := fun i hi => by simpa using (List.mem_range'_1.1 hi).2
  simp
  rw [forIn_first w (fun i => ((f i : Int) == (g i : Int))) (none, ()) (some false, ()) _ _ (fun i hi => ?_)]
  · unfold sameL
    cases (List.range' 0 16).all fun i => ((f i : Int) == (g i : Int)) <;> rfl
  · have g1 := Rl_get f i (hl i hi)
    have g2 := Rl_get g i (hl i hi)
    have e := run_equalIn_int (P := Tryz.prog) w d 102 .u64 .u64 (f i) (g i) wd
    simp only [Sem.run_bind, part, g1, g2, e]
    cases hb : ((f i : Int) == (g i : Int)) <;> simp [Result.andThen, part, g1, g2, e, hb, Sem.run_bind]
theorem same_trueL {f g : Nat → Nat} (h : sameL f g = true) : ∀ i, i < 16 → f i = g i := fun i hi => by
  unfold sameL at h
  have := List.all_eq_true.1 h i (List.mem_range'_1.2 ⟨by omega, by omega⟩)
  simp at this
  omega
theorem same_falseL {f g : Nat → Nat} (h : sameL f g = false) : ∃ i, i < 16 ∧ f i ≠ g i := by
  unfold sameL at h
  obtain ⟨i, hi, hn⟩ := List.all_eq_false.1 h
  refine ⟨i, by have := (List.mem_range'_1.1 hi).2; omega, fun e => hn ?_⟩
  rw [e]; simp
/-! ### Where steps lead -/
def stepS (M : Nat → Nat → Bool) (side : Nat) (S : Nat → Bool) : Nat → Bool := fun c => (setL S side).any fun i => M i c
def walkS (M : Nat → Nat → Bool) (side start : Nat) : Nat → Nat → Bool
  | 0 => fun c => decide (c = start)
  | n + 1 => stepS M side (walkS M side start n)
theorem stepS_iff {M : Nat → Nat → Bool} {side : Nat} {S : Nat → Bool} (hw : ∀ r c, M r c = true → r < side ∧ c < side) {c : Nat} : stepS M side S c = true ↔ ∃ i, S i = true ∧ M i c = true := by
  unfold stepS
  rw [List.any_eq_true]
  constructor
  · rintro ⟨i, hi, h⟩
    exact ⟨i, (mem_setL.1 hi).2, h⟩
  · rintro ⟨i, h1, h2⟩
    exact ⟨i, mem_setL.2 ⟨(hw _ _ h2).1, h1⟩, h2⟩
theorem walkS_in {M : Nat → Nat → Bool} {side start : Nat} (hw : ∀ r c, M r c = true → r < side ∧ c < side) (hs : start < side) : ∀ n c, walkS M side start n c = true → c < side
  | 0, c, h => by simp only [walkS, decide_eq_true_eq] at h; omega
  | n + 1, c, h => by
    obtain ⟨i, _, h2⟩ := (stepS_iff hw).1 h
    exact (hw _ _ h2).2
theorem walkS_empty {M : Nat → Nat → Bool} {side start : Nat} (hw : ∀ r c, M r c = true → r < side ∧ c < side) {t : Nat} (h : ∀ c, walkS M side start t c = false) : ∀ k c, walkS M side start (t + k) c = false
  | 0, c => h c
  | k + 1, c => by
    cases e : walkS M side start (t + (k + 1)) c
    · rfl
    · obtain ⟨i, h1, _⟩ := (stepS_iff hw).1 (show stepS M side (walkS M side start (t + k)) c = true from e)
      rw [walkS_empty hw h k i] at h1
      cases h1
theorem lnW_same {S S' : Nat → Bool} (h : ∀ c, S c = S' c) : lnW S = lnW S' := by
  have : S = S' := funext h
  rw [this]
theorem lnW_none {S : Nat → Bool} (h : ∀ k, k < 16 → lnW S k = 0) : ∀ c, c < 1024 → S c = false := fun c hc => by
  have h1 : (lnW S (c / 64)).testBit (c % 64) = S (64 * (c / 64) + c % 64) := blk_bit _ _ _ (Nat.mod_lt _ (by decide))
  rw [h (c / 64) (by omega), Nat.zero_testBit, Nat.div_add_mod] at h1
  exact h1.symm
theorem lnW_join (S R : Nat → Bool) (k : Nat) (hk : k < 16) : lnW S k ||| lnW R k = lnW (fun c => S c || R c) k := by
  refine Nat.eq_of_testBit_eq fun c => ?_
  rw [Nat.testBit_or]
  by_cases hc : c < 64
  · rw [show (lnW S k).testBit c = S (64 * k + c) from blk_bit _ _ _ hc, show (lnW R k).testBit c = R (64 * k + c) from blk_bit _ _ _ hc, show (lnW (fun c => S c || R c) k).testBit c = (S (64 * k + c) || R (64 * k + c)) from blk_bit _ _ _ hc]
  · have big : ∀ x, x < 18446744073709551616 → x.testBit c = false := fun x hx => Nat.testBit_lt_two_pow (Nat.lt_of_lt_of_le hx (by rw [show (18446744073709551616 : Nat) = 2 ^ 64 from rfl]; exact Nat.pow_le_pow_right (by decide) (by omega)))
    rw [big _ (lnW_lt S k (by omega)), big _ (lnW_lt R k (by omega)), big _ (lnW_lt (fun c => S c || R c) k (by omega))]
    rfl
theorem lnW_one (start : Nat) (hs : start < 1024) : Rl (upd (fun _ => 0) (start / 64) (2 ^ (start % 64))) = Rl (lnW fun c => decide (c = start)) := Rl_congr fun k hk => by
  refine Nat.eq_of_testBit_eq fun c => ?_
  unfold upd
  by_cases hc : c < 64
  · rw [show (lnW (fun c => decide (c = start)) k).testBit c = decide (64 * k + c = start) from blk_bit _ _ _ hc]
    by_cases e : k = start / 64
    · rw [if_pos e, Nat.testBit_two_pow, decide_eq_decide]; omega
    · rw [if_neg e, Nat.zero_testBit]
      symm
      rw [decide_eq_false_iff_not]; omega
  · have big : ∀ x, x < 18446744073709551616 → x.testBit c = false := fun x hx => Nat.testBit_lt_two_pow (Nat.lt_of_lt_of_le hx (by rw [show (18446744073709551616 : Nat) = 2 ^ 64 from rfl]; exact Nat.pow_le_pow_right (by decide) (by omega)))
    rw [big _ (lnW_lt _ k (by omega))]
    by_cases e : k = start / 64
    · rw [if_pos e, Nat.testBit_two_pow, decide_eq_false_iff_not]; omega
    · rw [if_neg e, Nat.zero_testBit]
/-- The rows i of a list so far, joined. -/
def joinS (M : Nat → Nat → Bool) (l : List Nat) : Nat → Bool := fun c => l.any fun i => M i c
theorem joinS_app (M : Nat → Nat → Bool) (l : List Nat) (i : Nat) : ∀ c, (joinS M l c || M i c) = joinS M (l ++ [i]) c := fun c => by unfold joinS; simp
section
variable {w : World} {B side : Nat} {F : Nat → Prop} {M : Nat → Nat → Bool}
set_option maxHeartbeats 8000000
set_option maxRecDepth 100000
theorem walk_yes (h : Mx w B F side M) (hT : Tab w) (start n : Nat) (hst : start < side) (hn : n ≤ 1024) : Calls Tryz.prog 22 #[.pointer (some ⟨B, 0, none⟩), .int .i64 (start : Nat), .int .i64 (n : Nat)] w fun e w' => ∃ v, e = .returned (.tuple #[v, .int .i64 0]) ∧ w'.ownsRow w.heap.size 3 1 v (setL (walkS M side start n) side).length (ncells (setL (walkS M side start n) side)) ∧ Far (fun _ => False) w w' := by
  have hwin := h.within
  obtain ⟨s1, s2⟩ := h.sides
  have NO := pnone_any h.has
  rw [decide_eq_false (show ¬ side = 0 by omega)] at NO
  have SD := h.side
  have LN := lines_any h hT
  have hzl : ∀ w, (zeroValue 104).run Tryz.prog w = .ok (.agg (Rl fun _ => 0)) w := (zero_of_info lineZero).1
  have hsi : (start : Int) < (side : Int) := by omega
  have hni : (n : Int) ≤ 1024 := by omega
  have hin := walkS_in hwin hst
  have hin' := Lib.hid hin
  have hwin' := Lib.hid hwin
  clear h hin hwin
  go_enter Tryz.func22, Tryz.ntmps22
  go_wp2_with fail
  go_step3
  go_wp2_with fail
  refine NO.mono ?_
  rintro e w' ⟨rfl, rfl⟩
  clear NO
  go_wp2_with fail
  refine SD.mono ?_
  rintro e w' ⟨rfl, rfl⟩
  clear SD
  go_wp2_with fail
  refine LN.mono ?_
  rintro e w1 ⟨g, rfl, hrows, hf1⟩
  have hrows' := Lib.hid hrows
  have hf1' := Lib.hid hf1
  have hgl := (hrows.lt g rfl).2
  clear LN hrows hf1
  go_upto_region 7 with fail
  obtain ⟨h9, hh9⟩ : ∃ b, b = w1.heap.size := ⟨_, rfl⟩
  obtain ⟨w2, hw2⟩ : ∃ V, V = w1.alloc (.cells (Rl fun _ => 0) 104) := ⟨_, rfl⟩
  rw [← hh9, ← hw2]
  have hf12 : Far (fun _ => False) w1 w2 := hw2 ▸ (Far.refl _ w1).alloc _
  have hB9 : Bk w2 h9 104 (Rl fun _ => 0) := hw2 ▸ Bk.new hh9
  obtain ⟨sq, hsq⟩ : ∃ q, q = start / 64 := ⟨_, rfl⟩
  obtain ⟨sc, hsc⟩ : ∃ q, q = start % 64 := ⟨_, rfl⟩
  have hsq16 : sq < 16 := by omega
  have hsc64 : sc < 64 := by omega
  have hmin : min sc 64 = sc := Nat.min_eq_left (by omega)
  have wq := quo64 start sq hsq
  have wt := tmod64 start sc hsc
  have wjq := wrap_sm sq (by omega)
  have c9 : w2.cell? ⟨h9, sq, none⟩ = some (.int .u64 0) := by have := (hB9.cell sq).trans (Rl_get (fun _ => 0) sq hsq16); exact this
  have f9 := hB9.free sq
  have hgh : g < h9 := by omega
  have hsqi : (sq : Int) < 16 := by omega
  have hs1 : Rl (upd (fun _ => 0) sq (2 ^ sc)) = Rl (lnW (walkS M side start 0)) := by rw [hsq, hsc]; exact lnW_one start (by omega)
  have hw1 : IntKind.u64.wrap (2 ^ sc) = ((2 ^ sc : Nat) : Int) := wrap_pw hsc64
  have hs1' := Lib.hid hs1
  have hB9' := Lib.hid hB9
  have hrows2 := Lib.hid (row_same hrows'.out fun k hk hl => hf12.block k hl id)
  have hf2 := Lib.hid (hf1'.out.then hf12)
  have hh9' := Lib.hid (show w.heap.size ≤ h9 by have := hf1'.out.size; omega)
  clear hsq hsc hw2 hh9 hf12 hB9 hs1 hrows' hf1'
  go_wp2_with fail
  obtain ⟨w3, hw3⟩ : ∃ V, V = w2.setCell ⟨h9, sq, none⟩ (.int .u64 (2 ^ sc)) := ⟨_, rfl⟩
  rw [← hw3]
  have hB93 : Bk w3 h9 104 (Rl (lnW (walkS M side start 0))) := by
    have h1 := hB9'.out.set sq (.int .u64 (2 ^ sc))
    rw [show (Value.int .u64 ((2 : Int) ^ sc)) = Value.int .u64 ((2 ^ sc : Nat) : Int) by rw [Int.natCast_pow]; rfl, Rl_set _ _ _ hsq16, hs1'.out, show (Value.int .u64 ((2 ^ sc : Nat) : Int)) = (Value.int .u64 ((2 : Int) ^ sc)) by rw [Int.natCast_pow]; rfl, ← hw3] at h1
    exact h1
  have hrows3 : w3.ownsRow w.heap.size 104 16 (.slice (some ⟨g, 0, none⟩) side side) side (lnRows M side).flatten := hw3 ▸ row_same hrows2.out fun k hk hl => RowKit.Below.heap_setCell _ _ _ _ (by
    have : g = k := Option.some.inj hk
    show k ≠ h9
    omega)
  have hf3 : Far (fun k => k = h9) w w3 := hw3 ▸ (hf2.out.mono fun _ _ h => h.elim).set ⟨h9, sq, none⟩ _ fun _ => rfl
  have hB93' := Lib.hid hB93
  have hrows3' := Lib.hid hrows3
  have hf3' := Lib.hid hf3
  clear hB93 hrows3 hf3 hw3 c9 f9 hs1' hB9' hrows2 hf2 hw1
  go_step3
  go_wp2_with fail
  go_loopw [10, 12, 13, 14, 42] (fun _ _ _ _ iv wr => ∃ t : Nat, t ≤ n ∧ iv = .int .i64 (t : Nat) ∧ Bk wr h9 104 (Rl (lnW (walkS M side start t))) ∧ wr.ownsRow w.heap.size 104 16 (.slice (some ⟨g, 0, none⟩) side side) side (lnRows M side).flatten ∧ Far (fun k => k = h9) w wr) (fun _ _ _ _ iv _ => n - (intOf iv).toNat)
  case atStart => exact ⟨0, Nat.zero_le _, rfl, hB93'.out, hrows3'.out, hf3'.out⟩
  case round =>
    clear hB93' hrows3' hf3'
    obtain ⟨t, ht, rfl, hB9, hrows, hf⟩ := hrel
    obtain ⟨S, hS⟩ : ∃ S, walkS M side start t = S := ⟨_, rfl⟩
    rw [hS] at hB9
    have hSin : ∀ x, S x = true → x < side := fun x hx => hin'.out t x (by rw [hS]; exact hx)
    have hB9' := Lib.hid hB9
    have hrows' := Lib.hid hrows
    have hf' := Lib.hid hf
    have hS' := Lib.hid hS
    by_cases hlt : t < n
    · have hti : (t : Int) < (n : Int) := by omega
      clear hB9 hrows hf hS
      go_upto_region 11 with fail
      obtain ⟨h10, hh10⟩ : ∃ b, b = wr.heap.size := ⟨_, rfl⟩
      obtain ⟨w4, hw4⟩ : ∃ V, V = wr.alloc (.cells (Rl fun _ => 0) 104) := ⟨_, rfl⟩
      rw [← hh10, ← hw4]
      have hf14 : Far (fun _ => False) wr w4 := hw4 ▸ (Far.refl _ wr).alloc _
      have hB10 : Bk w4 h10 104 (Rl fun _ => 0) := hw4 ▸ Bk.new hh10
      have hB94 := hB9'.out.far' hf14 id
      have hT4 : Tab w4 := (hT.far (hf'.out.trans hf14 fun _ _ h => h.elim) (fun e => by have := hT.lt; have := hh9'.out; omega))
      have ME := members_any (lnW S) (fun k hk => lnW_lt S k (by omega)) w4 hT4
      rw [setL_eq s2 hSin] at ME
      have hB10' := Lib.hid hB10
      have hf4 := Lib.hid (hf'.out.trans hf14 fun _ _ h => h.elim)
      have hrows4 := Lib.hid (row_same hrows'.out fun k hk hl => hf14.block k hl id)
      have hB94' := Lib.hid hB94
      have hh10' := Lib.hid (show h9 < h10 ∧ w.heap.size ≤ h10 by have := hB9'.out.lt; have := hh9'.out; omega)
      clear hw4 hh10 hf14 hB10 hT4
      go_wp2_with (first | (refine wpList_ldL rfl _ rfl _ rfl hB94 ?_) | (refine ME.mono ?_; rintro e w5 ⟨v, rfl, hown, hf5⟩; obtain ⟨lo, lc, rfl⟩ := q_form hown; have hown' := Lib.hid hown; have hf5' := Lib.hid hf5; clear ME hown hf5 hB94))
      have hB105 := Lib.hid (hB10'.out.far' hf5'.out id)
      have hB95 := Lib.hid (hB94'.out.far' hf5'.out id)
      have hrows5 := Lib.hid (row_same hrows4.out fun k hk hl => hf5'.out.block k hl id)
      have hf5w := Lib.hid (hf4.out.trans hf5'.out fun _ _ h => h.elim)
      obtain ⟨nl, hnl⟩ : ∃ m, m = (setL S side).length := ⟨_, rfl⟩
      have hnlb : nl ≤ 1024 := by rw [hnl]; exact Nat.le_trans (setL_le S side) s2
      rw [← hnl] at hown' ⊢
      have hnl' := Lib.hid hnl
      clear hf4 hrows4 hB94' hB10' hf5' hnl
      obtain ⟨wo, hwo⟩ : ∃ wo, wo = w5 := ⟨_, rfl⟩
      rw [← hwo] at hB105 hB95 hrows5 hf5w hown' ⊢
      clear hwo
      go_loopw [12, 13, 14, 47] (fun _ _ _ jv wr => ∃ j : Nat, j ≤ nl ∧ jv = .int .i64 (j : Nat) ∧ Bk wr h10 104 (Rl (lnW (joinS M ((setL S side).take j)))) ∧ Far (fun k => k = h10) wo wr) (fun _ _ _ jv _ => nl - (intOf jv).toNat)
      case atStart => exact ⟨0, Nat.zero_le _, rfl, by
        have := hB105.out
        rw [show (Rl fun _ => 0) = Rl (lnW (joinS M ((setL S side).take 0))) from Rl_congr fun k hk => (lnW_zero k hk).symm] at this
        exact this, Far.refl _ _⟩
      case round =>
        obtain ⟨j, hj, rfl, hB10, hfo⟩ := hrel
        have hownr := row_same hown'.out fun q hq hl => hfo.block q hl fun e => by
          obtain ⟨_, _, cs, hb⟩ := own_type hown'.out hq
          subst e
          exact absurd (bk_type hb hB105.out) (by decide)
        have hrowsr := row_same hrows5.out fun q hq hl => hfo.block q hl fun e => by
          have : g = q := Option.some.inj hq
          have := hh10'.out
          omega
        have hB9r := hB95.out.far' hfo (by have := hh10'.out; omega)
        by_cases hjl : j < nl
        · have hji : (j : Int) < (nl : Int) := by omega
          obtain ⟨x, hx⟩ : ∃ x, (setL S side)[j]? = some x := ⟨(setL S side)[j]'(by rw [← hnl'.out]; exact hjl), List.getElem?_eq_getElem _⟩
          have hxs : x < side := (mem_setL.1 (List.mem_of_getElem? hx)).1
          have hxi : (x : Int) < (side : Int) := by omega
          obtain ⟨gl, c2, hsv, _⟩ := hownr.form (by omega)
          cases hsv
          have e0 : wr.cell? ⟨gl, j, none⟩ = some (.int .i64 (x : Nat)) := by have := hownr.cellAt j (by omega); rw [this]; exact ncells_at hx
          have hr : wr.rangeAt g (x * 16) (Rl (lnW (M x))).toList := own_range hrowsr (lnRows_even M side) (lnRows_get M hxs)
          have hstep : ∀ c, (joinS M ((setL S side).take j) c || M x c) = joinS M ((setL S side).take (j + 1)) c := fun c => by rw [joinS_app, List.take_add_one, hx]; rfl
          have hstep' := Lib.hid hstep
          have hB10' := Lib.hid hB10
          have hfo' := Lib.hid hfo
          obtain ⟨N, hN⟩ : ∃ N, lnW (joinS M ((setL S side).take j)) = N := ⟨_, rfl⟩
          obtain ⟨R, hR⟩ : ∃ R, lnW (M x) = R := ⟨_, rfl⟩
          have hNw : ∀ k, k < 16 → N k < 18446744073709551616 := fun k hk => hN ▸ lnW_lt _ k (by omega)
          have hRw : ∀ k, k < 16 → R k < 18446744073709551616 := fun k hk => hR ▸ lnW_lt _ k (by omega)
          rw [hN] at hB10'
          rw [hR] at hr
          have hN' := Lib.hid hN
          have hR' := Lib.hid hR
          clear hB10 hfo hownr hrowsr hB9r hx hstep hN hR
          go_wp2_with (first | (refine wpList_lmL rfl _ rfl _ _ rfl hr ?_))
          obtain ⟨wq9, hwq9⟩ : ∃ wq, wq = wr := ⟨_, rfl⟩
          rw [← hwq9] at hB10' hfo' ⊢
          clear hwq9 e0 hr
          go_loopw [13, 14, 55] (fun _ _ kv wr => ∃ k : Nat, k ≤ 16 ∧ kv = .int .i64 (k : Nat) ∧ Bk wr h10 104 (Rl fun q => if q < k then N q ||| R q else N q) ∧ Far (fun k => k = h10) wo wr) (fun _ _ kv _ => 16 - (intOf kv).toNat)
          case atStart => exact ⟨0, by omega, rfl, by
            have := hB10'.out
            rw [show Rl N = Rl (fun q => if q < 0 then N q ||| R q else N q) from Rl_congr fun q _ => by simp] at this
            exact this, hfo'.out⟩
          case round =>
            clear hB10' hfo'
            obtain ⟨k, hk, rfl, hB, hF⟩ := hrel
            by_cases hkl : k < 16
            · have hki : (k : Int) < 16 := by omega
              have hix := fun w => run_ixL R k hkl w
              have c10 : wr.cell? ⟨h10, k, none⟩ = some (.int .u64 (N k : Nat)) := by
                have := (hB.cell k).trans (Rl_get _ k hkl)
                rw [if_neg (Nat.lt_irrefl _)] at this
                exact this
              have f10 := hB.free k
              have hor : bits .or .u64 (N k : Int) (R k : Int) = ((N k ||| R k : Nat) : Int) := bits_or64 _ _ (hNw k hkl) (hRw k hkl)
              have hB3 : Bk (wr.setCell ⟨h10, k, none⟩ (.int .u64 ((N k ||| R k : Nat)))) h10 104 (Rl fun q => if q < k + 1 then N q ||| R q else N q) := by
                have h1 := hB.set k (.int .u64 ((N k ||| R k : Nat)))
                rw [Rl_set _ _ _ hkl] at h1
                rw [Rl_congr (g := upd (fun q => if q < k then N q ||| R q else N q) k (N k ||| R k)) fun q hq => ?_]
                · exact h1
                · unfold upd
                  by_cases e : q = k
                  · subst e; simp
                  · by_cases e2 : q < k
                    · simp [e, e2, show q < k + 1 by omega]
                    · simp [e, e2, show ¬ q < k + 1 by omega]
              have hB3' := Lib.hid hB3
              have hF3 := Lib.hid (hF.set ⟨h10, k, none⟩ (.int .u64 ((N k ||| R k : Nat))) fun _ => rfl)
              clear hB hF hB3
              go_wp2_with fail
              exact ⟨⟨k + 1, by omega, by go_num, hB3'.out, hF3.out⟩, by simp [intOf]; omega⟩
            · have hke : k = 16 := by omega
              subst hke
              have hB4 := Lib.hid (show Bk wr h10 104 (Rl (lnW (joinS M ((setL S side).take (j + 1))))) by
                rw [Rl_congr (g := fun q => if q < 16 then N q ||| R q else N q) fun q hq => ?_]
                · exact hB
                · rw [if_pos hq, ← hN'.out, ← hR'.out, lnW_join _ _ _ hq, lnW_same hstep'.out])
              have hF4 := Lib.hid hF
              clear hB hF
              go_wp2_with fail
              exact ⟨⟨j + 1, by omega, by go_num, hB4.out, hF4.out⟩, by simp [intOf]; omega⟩
        · have hje : j = nl := by omega
          subst hje
          have hfull : (setL S side).take j = setL S side := List.take_of_length_le (by rw [← hnl'.out]; exact Nat.le_refl _)
          rw [hfull] at hB10
          have hnx : ∀ c, joinS M (setL S side) c = walkS M side start (t + 1) c := fun c => by show _ = stepS M side (walkS M side start t) c; rw [hS'.out]; rfl
          rw [lnW_same hnx] at hB10
          obtain ⟨f, hfe⟩ : ∃ f, lnW (walkS M side start (t + 1)) = f := ⟨_, rfl⟩
          rw [hfe] at hB10
          obtain ⟨w6, hw6⟩ : ∃ V, V = wr.setRow h9 (Rl f) := ⟨_, rfl⟩
          have hB96 : Bk w6 h9 104 (Rl f) := hw6 ▸ setRow_heap wr h9 _ _ _ _ hB9r
          have hfr : Far (fun k => k = h9) wr w6 := hw6 ▸ far_row (F := fun k => k = h9) (Far.refl _ wr) (fun _ => rfl) _
          have hrows6 := row_same hrowsr fun q hq hl => hfr.block q hl fun e => by
            have : g = q := Option.some.inj hq
            omega
          have hFw : Far (fun k => k = h9) w w6 := (hf5w.out.trans (G := fun k => k = h10 ∨ k = h9) ((hfo.mono fun k _ e => .inl e).trans (hfr.mono fun k _ e => .inr e) fun _ _ h => h) fun k hk e => by have := hh10'.out; omega)
          have E := fun w' => eq_runL f (fun _ => 0) w'
          obtain ⟨b, hb⟩ : ∃ b, sameL f (fun _ => 0) = b := ⟨_, rfl⟩
          simp only [hb] at E
          have hB10' := Lib.hid hB10
          have hB9r' := Lib.hid hB9r
          have hB96' := Lib.hid hB96
          have hrows6' := Lib.hid hrows6
          have hFw' := Lib.hid hFw
          have hw6' := Lib.hid hw6
          have hfe' := Lib.hid hfe
          have hb' := Lib.hid hb
          have x1 := hB10
          have x2 := hB9r
          clear hB10 hfo hownr hrowsr hB9r hB96 hfr hrows6 hFw hw6 hfe hb hfull hnx
          cases b
          · go_wp2_with (first | (refine wpList_stL rfl _ _ rfl _ rfl f rfl x2 ?_; rw [← hw6'.out]; have x3 := hB96'.out; clear x1 x2) | (refine wpList_ldL rfl _ rfl _ rfl x1 ?_) | (refine wpList_ldL rfl _ rfl _ rfl x3 ?_; clear x3) | (refine wpList_bdL rfl rfl ?_))
            exact ⟨⟨t + 1, by omega, by go_num, by rw [hfe'.out]; exact hB96'.out, hrows6'.out, hFw'.out⟩, by simp [intOf]; omega⟩
          · have hz := same_trueL hb'.out
            have he0 : ∀ c, walkS M side start (t + 1) c = false := fun c => by
              by_cases hc : c < 1024
              · exact lnW_none (fun k hk => by rw [hfe'.out]; exact hz k hk) c hc
              · cases e : walkS M side start (t + 1) c
                · rfl
                · have := hin'.out _ _ e
                  omega
            have heq : ∀ c, walkS M side start (t + 1) c = walkS M side start n c := fun c => by
              rw [he0 c]
              have := walkS_empty hwin'.out he0 (n - (t + 1)) c
              rw [show t + 1 + (n - (t + 1)) = n by omega] at this
              exact this.symm
            have hFE := Lib.hid hFw'.out
            have hTe : Tab w6 := hT.far hFE.out (fun e => by have := hT.lt; have := hh9'.out; omega)
            have ME2 := members_any f (fun k hk => hfe'.out ▸ lnW_lt _ k (by omega)) w6 hTe
            have hl9 : flatN (cellsUp f 16) = setL (walkS M side start n) side := by
              rw [← hfe'.out, lnW_same heq]
              exact setL_eq s2 (hin'.out n)
            rw [hl9] at ME2
            clear hz he0 heq hTe hl9
            go_wp2_with (first | (refine wpList_stL rfl _ _ rfl _ rfl f rfl x2 ?_; rw [← hw6'.out]; have x3 := hB96'.out; clear x1 x2) | (refine wpList_ldL rfl _ rfl _ rfl x1 ?_) | (refine wpList_ldL rfl _ rfl _ rfl x3 ?_) | (refine wpList_bdL rfl rfl ?_) | (refine ME2.mono ?_; rintro e w9 ⟨v9, rfl, hown9, hf9⟩; obtain ⟨vo, vc, rfl⟩ := q_form hown9; have hown9' := Lib.hid hown9; have hf9' := Lib.hid hf9; clear ME2 hown9 hf9 x3))
            rw [Exit.noGoto_ret]
            refine bodyPost_ret (v := .tuple #[.slice vo (setL (walkS M side start n) side).length vc, .int .i64 0]) (by simp [results, Tryz.f22, go_sem]) rfl ⟨_, rfl, own_base hFE.out.size hown9'.out, ((hFE.out.mono (G := fun k => w.heap.size ≤ k) fun k _ e => by have := hh9'.out; omega).trans (G := fun _ => False) hf9'.out fun _ _ h => h.elim).mono fun k hk e => by omega⟩
    · have hte : t = n := by omega
      subst hte
      have x3 := hB9
      have hFE := Lib.hid hf
      have hTe : Tab wr := hT.far hf (fun e => by have := hT.lt; have := hh9'.out; omega)
      have ME2 := members_any (lnW S) (fun k hk => lnW_lt S k (by omega)) wr hTe
      rw [show flatN (cellsUp (lnW S) 16) = setL (walkS M side start t) side by rw [hS]; exact setL_eq s2 hSin] at ME2
      clear hB9 hf hTe hrows hS
      go_wp2_with (first | (refine wpList_ldL rfl _ rfl _ rfl x3 ?_) | (refine ME2.mono ?_; rintro e w9 ⟨v9, rfl, hown9, hf9⟩; obtain ⟨vo, vc, rfl⟩ := q_form hown9; have hown9' := Lib.hid hown9; have hf9' := Lib.hid hf9; clear ME2 hown9 hf9 x3))
      rw [Exit.noGoto_ret]
      refine bodyPost_ret (v := .tuple #[.slice vo (setL (walkS M side start t) side).length vc, .int .i64 0]) (by simp [results, Tryz.f22, go_sem]) rfl ⟨_, rfl, own_base hFE.out.size hown9'.out, ((hFE.out.mono (G := fun k => w.heap.size ≤ k) fun k _ e => by have := hh9'.out; omega).trans (G := fun _ => False) hf9'.out fun _ _ h => h.elim).mono fun k hk e => by omega⟩
end
end Go.Proofs.YtjolkhiggcmoiaaGreatDoor
