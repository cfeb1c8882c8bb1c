/-
  QGrows: QSmalls, QFresh, QGrowM, QGrow, QGet, QAbs, QSet, QBlock.
-/
import Derived.Test.YtjolkhiggcmoiaaGreatDoorQBase
import Derived.Great.BuildSlice
import Derived.StillTailTactics
/-! ## QSmalls: Small functions on matrices; a new matrix. -/
namespace Go.Proofs.YtjolkhiggcmoiaaGreatDoor
open Go.RowKit
set_option linter.unusedVariables false
set_option linter.unusedSimpArgs false
section
set_option maxHeartbeats 1000000
set_option maxRecDepth 100000
variable {w : World} {B side lv root : Nat} {nv lvv : Value} {ns : List (Nat → Nat)} {A : Nat → Nat → Nat → Nat} {ps : List (Nat × Nat)} {M : Nat → Nat → Bool}
theorem qnone_nil (w : World) : Calls Tryz.prog 53 #[.pointer none] w fun e w' => e = .returned (.bool true) ∧ w = w' := by
  go_enter Tryz.func53, Tryz.ntmps53
  go_wp2
  go_ret
  exact ⟨rfl, rfl⟩
theorem qnone_no (h : Qd w B side lv root nv lvv ns A ps M) : Calls Tryz.prog 53 #[.pointer (some ⟨B, 0, none⟩)] w fun e w' => e = .returned (.bool false) ∧ w = w' := by
  have p0 : w.cell? ⟨B, 0, none⟩ = some (.int .i64 (side : Nat)) := h.box.cell 0
  have h1 := h.side1
  have hs : ((side : Int) == 0) = false := by simp; omega
  clear h
  go_enter Tryz.func53, Tryz.ntmps53
  go_wp2
  go_ret
  exact ⟨rfl, rfl⟩
theorem qline_yes (h : Qd w B side lv root nv lvv ns A ps M) (i : Nat) (hi : i < side) : Calls Tryz.prog 57 #[.pointer (some ⟨B, 0, none⟩), .int .i64 i] w fun e w' => e = .returned (.bool true) ∧ w = w' := by
  have p0 : w.cell? ⟨B, 0, none⟩ = some (.int .i64 (side : Nat)) := h.box.cell 0
  have hs : decide ((i : Int) < (side : Int)) = true := by rw [decide_eq_true_eq]; omega
  have hs2 : (i : Int) < (side : Int) := by omega
  clear h
  go_enter Tryz.func57, Tryz.ntmps57
  go_wp2
  go_ret
  exact ⟨rfl, rfl⟩
theorem qline_no (h : Qd w B side lv root nv lvv ns A ps M) (i : Int) (hi : i < 0 ∨ (side : Int) ≤ i) : Calls Tryz.prog 57 #[.pointer (some ⟨B, 0, none⟩), .int .i64 i] w fun e w' => e = .returned (.bool false) ∧ w = w' := by
  have p0 : w.cell? ⟨B, 0, none⟩ = some (.int .i64 (side : Nat)) := h.box.cell 0
  clear h
  by_cases h0 : i < 0
  · have hs : decide (0 ≤ i) = false := by rw [decide_eq_false_iff_not]; omega
    have hs2 : ¬ (0 ≤ i) := by omega
    go_enter Tryz.func57, Tryz.ntmps57
    go_wp2
    go_ret
    exact ⟨rfl, rfl⟩
  · have hs : decide (i < (side : Int)) = false := by rw [decide_eq_false_iff_not]; omega
    have hs2 : ¬ (i < (side : Int)) := by omega
    go_enter Tryz.func57, Tryz.ntmps57
    go_wp2
    go_ret
    exact ⟨rfl, rfl⟩
/-- How many blocks stand in a row of blocks. -/
def lns (side : Nat) : Nat := (side + 63) / 64
theorem qlines_any (h : Qd w B side lv root nv lvv ns A ps M) : Calls Tryz.prog 58 #[.pointer (some ⟨B, 0, none⟩)] w fun e w' => e = .returned (.int .i64 (lns side : Nat)) ∧ w = w' := by
  have p0 : w.cell? ⟨B, 0, none⟩ = some (.int .i64 (side : Nat)) := h.box.cell 0
  have h2 := h.side2
  have e3 : ((side : Int) + 64 - 1) / 64 = ((lns side : Nat) : Int) := by unfold lns; omega
  clear h
  go_enter Tryz.func58, Tryz.ntmps58
  go_wp2
  go_ret
  exact ⟨congrArg (fun x => Ending.returned (.int .i64 x)) e3, rfl⟩
theorem lns_lt {lv side i : Nat} (hw : side ≤ 64 * 2 ^ lv) (hi : i < lns side) : i < 2 ^ lv := by unfold lns at hi; omega
theorem lns_le {side : Nat} (h : side ≤ 1024) : lns side ≤ 16 := by unfold lns; omega
theorem qside_any (h : Qd w B side lv root nv lvv ns A ps M) : Calls Tryz.prog 21 #[.pointer (some ⟨B, 0, none⟩)] w fun e w' => e = .returned (.int .i64 (side : Nat)) ∧ w = w' := by
  have p0 : w.cell? ⟨B, 0, none⟩ = some (.int .i64 (side : Nat)) := h.box.cell 0
  have N := qnone_no h
  clear h
  go_enter Tryz.func21, Tryz.ntmps21
  go_wp2_with fail
  refine N.mono ?_
  rintro e w' ⟨rfl, rfl⟩
  go_wp2_with fail
  go_ret
  exact ⟨rfl, rfl⟩
theorem qside_nil (w : World) : Calls Tryz.prog 21 #[.pointer none] w fun e w' => e = .returned (.int .i64 0) ∧ w = w' := by
  go_enter Tryz.func21, Tryz.ntmps21
  go_wp2_with fail
  refine (qnone_nil _).mono ?_
  rintro e w' ⟨rfl, rfl⟩
  go_wp2_with fail
  go_ret
  exact ⟨rfl, rfl⟩
theorem qempty_any (side : Nat) (h1 : 1 ≤ side) (h2 : side ≤ 1024) (w : World) : Calls Tryz.prog 76 #[.int .i64 side] w fun e w' => e = .returned (.pointer (some ⟨w.heap.size, 0, none⟩)) ∧ ∃ l : Nat, l ≤ 4 ∧ side ≤ 64 * 2 ^ l ∧ Bk w' w.heap.size 99 #[.int .i64 (side : Nat), .int .i64 (l : Nat), .int .i64 0, .slice none 0 0, .slice none 0 0] ∧ Far (fun _ => False) w w' := by
  go_enter Tryz.func76, Tryz.ntmps76
  go_wp2_with fail
  go_loopw [] (fun wr => ∃ l : Nat, l ≤ 4 ∧ Bk wr w.heap.size 99 #[.int .i64 (side : Nat), .int .i64 (l : Nat), .int .i64 0, .slice none 0 0, .slice none 0 0] ∧ Far (fun _ => False) w wr) (fun wr => match wr.cell? ⟨w.heap.size, 1, none⟩ with | some (.int .i64 l) => (4 - l).toNat | _ => 0)
  case atStart => exact ⟨0, by omega, Bk.new rfl, (Far.refl _ w).alloc _⟩
  case round =>
    obtain ⟨l, hl, hB, hF⟩ := hrel
    have p1 : wr.cell? ⟨w.heap.size, 1, none⟩ = some (.int .i64 (l : Nat)) := hB.cell 1
    have q1 : wr.frozen? ⟨w.heap.size, 1, none⟩ = false := hB.free 1
    have hB' := hB.set 1 (.int .i64 ((l : Int) + 1))
    have hF' := Lib.hid (hF.set ⟨w.heap.size, 1, none⟩ (.int .i64 ((l : Int) + 1)) (fun h => absurd h (Nat.lt_irrefl _)))
    have hB2 := Lib.hid hB'
    have hB3 := Lib.hid hB
    clear hB hB'
    by_cases hlt : 64 * 2 ^ l < side
    · rcases (show l = 0 ∨ l = 1 ∨ l = 2 ∨ l = 3 ∨ l = 4 by omega) with rfl | rfl | rfl | rfl | rfl
      all_goals simp only [Nat.reducePow, Nat.reduceMul] at hlt
      · have hd : decide ((64 : Int) < (side : Int)) = true := by rw [decide_eq_true_eq]; omega
        go_wp2_with fail
        go_roundw
        case rel => exact ⟨1, by omega, hB2.out, hF'.out⟩
        case measure =>
          have p2 : (wr.setCell ⟨w.heap.size, 1, none⟩ (.int .i64 1)).cell? ⟨w.heap.size, 1, none⟩ = some (.int .i64 1) := hB2.out.cell 1
          simp only [p1]
          rw [p2]
          decide
      · have hd : decide ((128 : Int) < (side : Int)) = true := by rw [decide_eq_true_eq]; omega
        go_wp2_with fail
        go_roundw
        case rel => exact ⟨2, by omega, hB2.out, hF'.out⟩
        case measure =>
          have p2 : (wr.setCell ⟨w.heap.size, 1, none⟩ (.int .i64 2)).cell? ⟨w.heap.size, 1, none⟩ = some (.int .i64 2) := hB2.out.cell 1
          simp only [p1]
          rw [p2]
          decide
      · have hd : decide ((256 : Int) < (side : Int)) = true := by rw [decide_eq_true_eq]; omega
        go_wp2_with fail
        go_roundw
        case rel => exact ⟨3, by omega, hB2.out, hF'.out⟩
        case measure =>
          have p2 : (wr.setCell ⟨w.heap.size, 1, none⟩ (.int .i64 3)).cell? ⟨w.heap.size, 1, none⟩ = some (.int .i64 3) := hB2.out.cell 1
          simp only [p1]
          rw [p2]
          decide
      · have hd : decide ((512 : Int) < (side : Int)) = true := by rw [decide_eq_true_eq]; omega
        go_wp2_with fail
        go_roundw
        case rel => exact ⟨4, by omega, hB2.out, hF'.out⟩
        case measure =>
          have p2 : (wr.setCell ⟨w.heap.size, 1, none⟩ (.int .i64 4)).cell? ⟨w.heap.size, 1, none⟩ = some (.int .i64 4) := hB2.out.cell 1
          simp only [p1]
          rw [p2]
          decide
      · omega
    · have hge : side ≤ 64 * 2 ^ l := by omega
      have E := Lib.hid (show ∃ l : Nat, l ≤ 4 ∧ side ≤ 64 * 2 ^ l ∧ Bk wr w.heap.size 99 #[.int .i64 (side : Nat), .int .i64 (l : Nat), .int .i64 0, .slice none 0 0, .slice none 0 0] ∧ Far (fun _ => False) w wr from ⟨l, hl, hge, hB3.out, hF⟩)
      rcases (show l = 0 ∨ l = 1 ∨ l = 2 ∨ l = 3 ∨ l = 4 by omega) with rfl | rfl | rfl | rfl | rfl
      all_goals simp only [Nat.reducePow, Nat.reduceMul] at hlt
      · have hd : decide ((64 : Int) < (side : Int)) = false := by rw [decide_eq_false_iff_not]; omega
        go_wp2_with fail
        go_ret
        exact ⟨rfl, E.out⟩
      · have hd : decide ((128 : Int) < (side : Int)) = false := by rw [decide_eq_false_iff_not]; omega
        go_wp2_with fail
        go_ret
        exact ⟨rfl, E.out⟩
      · have hd : decide ((256 : Int) < (side : Int)) = false := by rw [decide_eq_false_iff_not]; omega
        go_wp2_with fail
        go_ret
        exact ⟨rfl, E.out⟩
      · have hd : decide ((512 : Int) < (side : Int)) = false := by rw [decide_eq_false_iff_not]; omega
        go_wp2_with fail
        go_ret
        exact ⟨rfl, E.out⟩
      · have hd : decide ((1024 : Int) < (side : Int)) = false := by rw [decide_eq_false_iff_not]; omega
        go_wp2_with fail
        go_ret
        exact ⟨rfl, E.out⟩
/-- New. -/
theorem qnew_yes (side : Nat) (h1 : 1 ≤ side) (h2 : side ≤ 1024) (w : World) : Calls Tryz.prog 40 #[.int .i64 side] w fun e w' => e = .returned (.tuple #[.pointer (some ⟨w.heap.size, 0, none⟩), .int .i64 0]) ∧ ∃ l : Nat, l ≤ 4 ∧ side ≤ 64 * 2 ^ l ∧ Bk w' w.heap.size 99 #[.int .i64 (side : Nat), .int .i64 (l : Nat), .int .i64 0, .slice none 0 0, .slice none 0 0] ∧ Far (fun _ => False) w w' := by
  have d1 : decide ((side : Int) < 1) = false := by rw [decide_eq_false_iff_not]; omega
  have d2 : decide ((1024 : Int) < (side : Int)) = false := by rw [decide_eq_false_iff_not]; omega
  have d3 : ¬ ((side : Int) < 1) := by omega
  have d4 : ¬ ((1024 : Int) < (side : Int)) := by omega
  go_enter Tryz.func40, Tryz.ntmps40
  go_wp2_with fail
  refine (qempty_any side h1 h2 w).mono ?_
  rintro e w' ⟨rfl, h⟩
  go_wp2_with fail
  go_ret2
  exact ⟨rfl, h⟩
theorem qnew_no (side : Int) (h : side < 1 ∨ 1024 < side) (w : World) : Calls Tryz.prog 40 #[.int .i64 side] w fun e w' => e = .returned (.tuple #[.pointer none, .int .i64 2]) ∧ w = w' := by
  by_cases h0 : side < 1
  · have d1 : decide (side < 1) = true := by rw [decide_eq_true_eq]; omega
    go_enter Tryz.func40, Tryz.ntmps40
    go_wp2_with fail
    go_ret2
    exact ⟨rfl, rfl⟩
  · have d1 : decide (side < 1) = false := by rw [decide_eq_false_iff_not]; omega
    have d2 : decide ((1024 : Int) < side) = true := by rw [decide_eq_true_eq]; omega
    have d4 : (1024 : Int) < side := by omega
    go_enter Tryz.func40, Tryz.ntmps40
    go_wp2_with fail
    go_ret2
    exact ⟨rfl, rfl⟩
theorem Qd.new {w' : World} {k side l : Nat} (h1 : 1 ≤ side) (h2 : side ≤ 1024) (hl : l ≤ 4) (hw : side ≤ 64 * 2 ^ l) (h : Bk w' k 99 #[.int .i64 (side : Nat), .int .i64 (l : Nat), .int .i64 0, .slice none 0 0, .slice none 0 0]) : Qd w' k side l 0 (.slice none 0 0) (.slice none 0 0) [] (fun _ _ _ => 0) [] (fun _ _ => false) :=
  ⟨⟨h, World.ownsRow_nil _ _ _ _, World.ownsRow_nil _ _ _ _, Tree.empty l, h1, h2, hw, hl, fun _ _ h => (by cases h), fun _ _ _ _ _ _ _ => rfl, fun _ h => (by cases h), by simp⟩, by simp⟩
end
end Go.Proofs.YtjolkhiggcmoiaaGreatDoor
/-! ## QFresh: A part more in the arenas. -/
namespace Go.Proofs.YtjolkhiggcmoiaaGreatDoor
open Go.RowKit
set_option linter.unusedVariables false
set_option linter.unusedSimpArgs false
theorem set_grown_q (w : World) (p : Addr) (u : Value) : w.grownBy (w.setCell p u) (some p.block) := ⟨rfl, rfl, rfl, by simp [World.setCell], fun k _ hne => RowKit.Below.heap_setCell _ _ _ _ (fun e => hne (by rw [e]))⟩
theorem node_info : (Tryz.prog.info? 142).map (fun i => (i.zero, i.size, i.bytes)) = some (some (.agg #[.int .i64 0, .int .i64 0, .int .i64 0, .int .i64 0]), 4, 32) := by kernel_rfl
theorem leaf_info : (Tryz.prog.info? 108).map (fun i => (i.zero, i.size, i.bytes)) = some (some (.agg (Rw fun _ => 0)), 64, 512) := by kernel_rfl
/-- A list of one element, many cells wide. -/
theorem fill_row (cs base : Array Value) (n : Nat) (hn : 0 < n) (h1 : cs.size = n) (h2 : base.size = n) : Instr.fill (fun i => some (i * n, n)) base [(0, Value.agg cs)] = some cs := by
  have := Great.fill_whole (s := n) hn [Value.agg cs] base (by intro v hv; simp at hv; subst hv; exact h1) (by simp [h2])
  have e : (Value.agg cs).cells = cs := rfl
  simpa [e] using this
theorem wpList_mk1 {P : Program} {ops : Array Oper} {rest : List Oper} {o : Oper} {a : Act} {w : World} {Q : Exit → Act → World → Prop} (hg : o.guard = none) (t e : TypeId) (x : Operand) (ho : o.op = .buildSlice t 1 #[(0, x)])
    (cs : Array Value) (n : Nat) (hx : a.eval x = .agg cs) (hc : cs.size = n) (ie : TypeInfo) (z : Value) (hu : P.underlying t = some (.slice e)) (hie : P.info? e = some ie) (hz : ie.zero = some z) (hsz : ie.size = n) (h0 : 0 < n) (hs : n ≤ 2 ^ 24)
    (h : wpList P ops Q rest (a.put o.dst (.slice (some ⟨w.heap.size, 0, none⟩) 1 1)) (w.alloc (.cells cs e))) : wpList P ops Q (o :: rest) a w :=
  wpList_buildSlice hg t e 1 _ ho cs ie z hu hie hz (by rw [hsz]; omega) (by rw [hsz]; omega) (by
    rw [hsz]
    simp only [List.map_toArray, List.map_cons, List.map_nil, hx]
    exact fill_row cs _ n h0 hc (by simp)) h
section
set_option maxHeartbeats 1000000
set_option maxRecDepth 100000
theorem fresh_leaf (w : World) (B : Nat) (a b c : Value) (sl nv : Value) (n : Nat) (xs : List Value) (hB : Bk w B 99 #[a, b, c, nv, sl]) (hS : w.ownsRow 0 108 64 sl n xs) (hn : n < 100000) :
    Calls Tryz.prog 117 #[.pointer (some ⟨B, 0, none⟩), .int .i64 0] w fun e w' => e = .returned (.int .i64 ((n + 1 : Nat) : Int)) ∧
      ∃ sl', Bk w' B 99 #[a, b, c, nv, sl'] ∧ w'.ownsRow 0 108 64 sl' (n + 1) (xs ++ (Rw fun _ => 0).toList) ∧ (sl'.ownBlock = sl.ownBlock ∨ ∃ g, sl'.ownBlock = some g ∧ w.heap.size ≤ g) ∧ Far (fun k => k = B ∨ sl.ownBlock = some k) w w' := by
  have p4 : w.cell? ⟨B, 4, none⟩ = some sl := hB.cell 4
  have hlt := hB.lt
  go_enter Tryz.func117, Tryz.ntmps117
  obtain ⟨i, hi, hz0, hz1, hz2⟩ := info_parts leaf_info
  have hlen := q_form hS
  obtain ⟨ao, cap, rfl⟩ := hlen
  have A1 := Lib.hid (hS.alloc (.cells (Rw fun _ => 0) 108))
  have A2 := Lib.hid (World.news_of_block (w := w.alloc (.cells (Rw fun _ => 0) 108)) (cs := Rw fun _ => 0) (t := 108) (fr := (0, 0)) (heap_alloc_new w _))
  have A3 : ∀ u ∈ (Rw fun _ => 0).toList, u.oneCell' = true := fun u hu => (Array.all_eq_true_iff_forall_mem.1 (Rw_one fun _ => 0)) u (by simpa using hu)
  have A4 : n + 1 ≤ maxLen := by unfold maxLen; omega
  have A5 : (n + 1) * 512 ≤ 140737488355328 := by omega
  have hl64 : (Rw fun _ => 0).toList.length = 1 * 64 := by simp [Rw_size]
  have hsB : (Value.slice ao n cap).ownBlock ≠ some B := fun e => q_row_ne hB hS (by decide) e
  have hB' := Lib.hid hB
  have hS' := Lib.hid hS
  clear hB hS
  go_wp2_with (first | (apply wpList_bd rfl rfl) | (refine wpList_mk1 rfl _ 108 _ rfl (Rw fun _ => 0) 64 rfl (Rw_size _) i _ Tryz.underlying97 hi hz0 hz1 (by decide) (by decide) ?_) | (at_builtin; refine wpList_append_lies _ rfl _ _ 97 rfl 0 108 i _ 64 512 Tryz.underlying97 hi hz0 hz1 hz2 (Rw_size _) (by decide) (.slice ao n cap) n _ rfl A1.out ⟨w.heap.size, 0, none⟩ 1 1 (Rw fun _ => 0).toList rfl hl64 A2.out A3 (by decide) A4 A5 (Nat.zero_le _) _ rfl ?_; intro g cap' w4 ho4 hg4 hat4 hl4; have hB4 := Lib.hid (qb_grown (Bk.alloc hB'.out _) hg4 (fun e => hsB e.symm)); have u0 := hB4.out.cell 4; have u1 := hB4.out.free 4; have ho4' := Lib.hid ho4; have hg4' := Lib.hid hg4; have hat4' := Lib.hid hat4; clear ho4 hg4 hat4 p4; simp at u0))
  go_ret
  have hH : (w.alloc (.cells (Rw fun _ => 0) 108)).heap.size = w.heap.size + 1 := by simp
  have hgB : g ≠ B := by
    rcases hat4'.out with h | h
    · intro e; rw [e] at h; exact hsB h
    · omega
  have hF4 : Far (fun k => k = B ∨ (Value.slice ao n cap).ownBlock = some k) w w4 := (((Far.refl _ w).alloc _).grown hg4'.out fun k _ e => .inr e)
  refine ⟨rfl, .slice (some ⟨g, 0, none⟩) (n + 1) cap', hB4.out.set 4 _, ?_, ?_, hF4.set _ _ (fun _ => .inl rfl)⟩
  · exact ho4'.out.kept (set_grown_q _ _ _) (.inr (by simp [Value.ownBlock]; exact hgB))
  · rcases hat4'.out with h | h
    · exact .inl (by rw [h]; rfl)
    · exact .inr ⟨g, rfl, by omega⟩
theorem fresh_node (w : World) (B : Nat) (a b c : Value) (sl lvv : Value) (n l : Nat) (xs : List Value) (hB : Bk w B 99 #[a, b, c, sl, lvv]) (hS : w.ownsRow 0 142 4 sl n xs) (hn : n < 100000) :
    Calls Tryz.prog 117 #[.pointer (some ⟨B, 0, none⟩), .int .i64 ((l + 1 : Nat) : Int)] w fun e w' => e = .returned (.int .i64 ((n + 1 : Nat) : Int)) ∧
      ∃ sl', Bk w' B 99 #[a, b, c, sl', lvv] ∧ w'.ownsRow 0 142 4 sl' (n + 1) (xs ++ [Value.int .i64 0, .int .i64 0, .int .i64 0, .int .i64 0]) ∧ (sl'.ownBlock = sl.ownBlock ∨ ∃ g, sl'.ownBlock = some g ∧ w.heap.size ≤ g) ∧ Far (fun k => k = B ∨ sl.ownBlock = some k) w w' := by
  have p4 : w.cell? ⟨B, 3, none⟩ = some sl := hB.cell 3
  have hlt := hB.lt
  go_enter Tryz.func117, Tryz.ntmps117
  obtain ⟨i, hi, hz0, hz1, hz2⟩ := info_parts node_info
  have hlen := q_form hS
  obtain ⟨ao, cap, rfl⟩ := hlen
  have A1 := Lib.hid (hS.alloc (.cells #[.int .i64 0, .int .i64 0, .int .i64 0, .int .i64 0] 142))
  have A2 := Lib.hid (World.news_of_block (w := w.alloc (.cells #[.int .i64 0, .int .i64 0, .int .i64 0, .int .i64 0] 142)) (cs := #[Value.int .i64 0, .int .i64 0, .int .i64 0, .int .i64 0]) (t := 142) (fr := (0, 0)) (heap_alloc_new w _))
  have A3 : ∀ u ∈ [Value.int .i64 0, .int .i64 0, .int .i64 0, .int .i64 0], u.oneCell' = true := by simp [Value.oneCell']
  have A4 : n + 1 ≤ maxLen := by unfold maxLen; omega
  have A5 : (n + 1) * 32 ≤ 140737488355328 := by omega
  have hl64 : [Value.int .i64 0, .int .i64 0, .int .i64 0, .int .i64 0].length = 1 * 4 := rfl
  have hsB : (Value.slice ao n cap).ownBlock ≠ some B := fun e => q_row_ne hB hS (by decide) e
  have hB' := Lib.hid hB
  have hS' := Lib.hid hS
  clear hB hS
  go_wp2_with (at_builtin; refine wpList_append_lies _ rfl _ _ 96 rfl 0 142 i _ 4 32 Tryz.underlying96 hi hz0 hz1 hz2 rfl (by decide) (.slice ao n cap) n _ rfl A1.out ⟨w.heap.size, 0, none⟩ 1 1 [Value.int .i64 0, .int .i64 0, .int .i64 0, .int .i64 0] rfl hl64 A2.out A3 (by decide) A4 A5 (Nat.zero_le _) _ rfl ?_; intro g cap' w4 ho4 hg4 hat4 hl4; have hB4 := Lib.hid (qb_grown (Bk.alloc hB'.out _) hg4 (fun e => hsB e.symm)); have u0 := hB4.out.cell 3; have u1 := hB4.out.free 3; have ho4' := Lib.hid ho4; have hg4' := Lib.hid hg4; have hat4' := Lib.hid hat4; clear ho4 hg4 hat4 p4; simp at u0)
  go_ret
  have hH : (w.alloc (.cells #[.int .i64 0, .int .i64 0, .int .i64 0, .int .i64 0] 142)).heap.size = w.heap.size + 1 := by simp
  have hgB : g ≠ B := by
    rcases hat4'.out with h | h
    · intro e; rw [e] at h; exact hsB h
    · omega
  have hF4 : Far (fun k => k = B ∨ (Value.slice ao n cap).ownBlock = some k) w w4 := (((Far.refl _ w).alloc _).grown hg4'.out fun k _ e => .inr e)
  refine ⟨rfl, .slice (some ⟨g, 0, none⟩) (n + 1) cap', hB4.out.set 3 _, ?_, ?_, hF4.set _ _ (fun _ => .inl rfl)⟩
  · exact ho4'.out.kept (set_grown_q _ _ _) (.inr (by simp [Value.ownBlock]; exact hgB))
  · rcases hat4'.out with h | h
    · exact .inl (by rw [h]; rfl)
    · exact .inr ⟨g, rfl, by omega⟩
end
end Go.Proofs.YtjolkhiggcmoiaaGreatDoor
/-! ## QGrowM: What stands while a leaf's way is made. -/
namespace Go.Proofs.YtjolkhiggcmoiaaGreatDoor
open Go.RowKit
set_option linter.unusedVariables false
set_option linter.unusedSimpArgs false
structure Gw (w wr : World) (B side lv : Nat) (nv lvv : Value) (ns0 : List (Nat → Nat)) (A0 : Nat → Nat → Nat → Nat) (ps0 : List (Nat × Nat)) (M : Nat → Nat → Bool) (i j l root : Nat) (nv' lvv' : Value) (ns : List (Nat → Nat)) (A : Nat → Nat → Nat → Nat) (ps : List (Nat × Nat)) : Prop where
  core : Qc wr B side lv root nv' lvv' ns A ps M
  there : A l (i / 2 ^ l) (j / 2 ^ l) ≠ 0
  far : Far (Qf B nv lvv) w wr
  own1 : ∀ k, nv'.ownBlock = some k → nv.ownBlock = some k ∨ w.heap.size ≤ k
  own2 : ∀ k, lvv'.ownBlock = some k → lvv.ownBlock = some k ∨ w.heap.size ≤ k
  kind : (ns = ns0 ∧ ps = ps0 ∧ A 0 i j = A0 0 i j) ∨ (1 ≤ l ∧ ns.length ≤ ns0.length + (lv - l + 1) ∧ ps = ps0 ∧ A 0 i j = 0 ∧ A0 0 i j = 0) ∨ (l = 0 ∧ ns.length ≤ ns0.length + lv ∧ ps = ps0 ++ [(i, j)] ∧ A0 0 i j = 0)
section
variable {w wr w1 : World} {B side lv : Nat} {nv lvv : Value} {ns0 : List (Nat → Nat)} {A0 : Nat → Nat → Nat → Nat} {ps0 : List (Nat × Nat)} {M : Nat → Nat → Bool} {i j l root : Nat} {nv' lvv' : Value} {ns : List (Nat → Nat)} {A : Nat → Nat → Nat → Nat} {ps : List (Nat × Nat)}
theorem Gw.down (g : Gw w wr B side lv nv lvv ns0 A0 ps0 M i j (l + 1) root nv' lvv' ns A ps) (hl : l + 1 ≤ lv) (h : A l (i / 2 ^ l) (j / 2 ^ l) ≠ 0) : Gw w wr B side lv nv lvv ns0 A0 ps0 M i j l root nv' lvv' ns A ps := by
  refine ⟨g.core, h, g.far, g.own1, g.own2, ?_⟩
  rcases g.kind with k | ⟨_, k2, k3, k4, k5⟩ | ⟨k, _⟩
  · exact .inl k
  · cases l with
    | zero => simp at h; exact absurd k4 h
    | succ l => exact .inr (.inl ⟨by omega, by omega, k3, k4, k5⟩)
  · omega
theorem Gw.still (g : Gw w wr B side lv nv lvv ns0 A0 ps0 M i j l root nv' lvv' ns A ps) (hf : Far (fun _ => False) wr w1) : Gw w w1 B side lv nv lvv ns0 A0 ps0 M i j l root nv' lvv' ns A ps :=
  ⟨g.core.kept hf (fun _ _ h => h), g.there, g.far.trans hf (fun _ _ h => h.elim), g.own1, g.own2, g.kind⟩
/-- What fresh leaves of the rest: a nodes' row that has grown. -/
theorem grown_foot (g : Gw w wr B side lv nv lvv ns0 A0 ps0 M i j l root nv' lvv' ns A ps) {v1 v' : Value} (hv : v' = nv' ∨ v' = lvv') (hsl : v1.ownBlock = v'.ownBlock ∨ ∃ g, v1.ownBlock = some g ∧ wr.heap.size ≤ g) :
    (∀ k, (k = B ∨ v'.ownBlock = some k) → k < w.heap.size → Qf B nv lvv k) ∧ (∀ k, v1.ownBlock = some k → v'.ownBlock = some k ∨ w.heap.size ≤ k) := by
  refine ⟨fun k hk hlt => ?_, fun k hk => ?_⟩
  · rcases hk with rfl | hk
    · exact .inl rfl
    · rcases hv with rfl | rfl
      · rcases g.own1 k hk with h | h
        · exact .inr (.inl h)
        · omega
      · rcases g.own2 k hk with h | h
        · exact .inr (.inr h)
        · omega
  · rcases hsl with h | ⟨q, h, hq⟩
    · exact .inl (h ▸ hk)
    · rw [h] at hk; cases hk
      exact .inr (Nat.le_trans g.far.size hq)
theorem far_upto {F G : Nat → Prop} {a b c : World} (h : Far F a b) (k : Far G b c) (hs : ∀ i, G i → i < a.heap.size → F i) : Far F a c := h.trans k fun i hi hg => hs i hg hi
theorem tree_nodes {ns : List (Nat → Nat)} {A : Nat → Nat → Nat → Nat} {ps : List (Nat × Nat)} {lv root : Nat} (h : Tree lv root ns A ps) {l a b : Nat} {f : Nat → Nat} (hn : A (l + 1) a b ≠ 0) (hf : ns[A (l + 1) a b - 1]? = some f) : A (l + 1) a b - 1 < ns.length := (List.getElem?_eq_some_iff.1 hf).1
/-- A node more on the way. -/
theorem Gw.node_step (g : Gw w wr B side lv nv lvv ns0 A0 ps0 M i j (l + 2) root nv' lvv' ns A ps) (hl : l + 2 ≤ lv) (h0 : A (l + 1) (i / 2 ^ (l + 1)) (j / 2 ^ (l + 1)) = 0) {g1 cap1 x : Nat} (hx : A (l + 2) (i / 2 ^ (l + 2)) (j / 2 ^ (l + 2)) = x)
    (hsmall : ns0.length ≤ 1024)
    (hB1 : Bk w1 B 99 #[.int .i64 (side : Nat), .int .i64 (lv : Nat), .int .i64 (root : Nat), .slice (some ⟨g1, 0, none⟩) (ns.length + 1) cap1, lvv'])
    (ho1 : w1.ownsRow 0 142 4 (.slice (some ⟨g1, 0, none⟩) (ns.length + 1) cap1) (ns.length + 1) ((nrows ns).flatten ++ [.int .i64 0, .int .i64 0, .int .i64 0, .int .i64 0]))
    (hsl : (Value.slice (some ⟨g1, 0, none⟩) (ns.length + 1) cap1).ownBlock = nv'.ownBlock ∨ ∃ g, (Value.slice (some ⟨g1, 0, none⟩) (ns.length + 1) cap1).ownBlock = some g ∧ wr.heap.size ≤ g) (hf1 : Far (fun k => k = B ∨ nv'.ownBlock = some k) wr w1) :
    ∃ ns2 A2, Gw w (w1.setCell ⟨g1, (x - 1) * 4 + qd i j (l + 1), none⟩ (.int .i64 ((ns.length + 1 : Nat) : Int))) B side lv nv lvv ns0 A0 ps0 M i j (l + 1) root (.slice (some ⟨g1, 0, none⟩) (ns.length + 1) cap1) lvv' ns2 A2 ps ∧ A2 (l + 1) (i / 2 ^ (l + 1)) (j / 2 ^ (l + 1)) = ns.length + 1 := by
  have T := g.core.tree
  have hx0 : x ≠ 0 := hx ▸ g.there
  have hup : A (l + 2) (i / 2 ^ (l + 1) / 2) (j / 2 ^ (l + 1) / 2) = x := by rw [← half, ← half]; exact hx
  obtain ⟨f, hf, _⟩ := T.step (i := i) (j := j) (l := l + 1) (by rw [hx]; exact hx0)
  have hf' : ns[A (l + 2) (i / 2 ^ (l + 1) / 2) (j / 2 ^ (l + 1) / 2) - 1]? = some f := by rw [hup, ← hx]; exact hf
  have T2 := T.more_node (a := i / 2 ^ (l + 1)) (b := j / 2 ^ (l + 1)) (f := f) (by omega) (by rw [hup]; exact hx0) h0 hf'
  rw [hup] at T2 hf'
  have hxl := (List.getElem?_eq_some_iff.1 hf').1
  have hq := qd_lt i j (l + 1)
  have eq : 2 * (i / 2 ^ (l + 1) % 2) + j / 2 ^ (l + 1) % 2 = qd i j (l + 1) := rfl
  rw [eq] at T2
  obtain ⟨ft1, ft2⟩ := grown_foot g (.inl rfl) hsl
  have hfw := far_upto g.far hf1 (fun k hk hlt => ft1 k hk hlt)
  have hgB : g1 ≠ B := fun e => q_row_ne hB1 ho1 (by decide) (by rw [e]; rfl)
  have hL1 : w1.ownsRow 0 108 64 lvv' ps.length (lrows M ps).flatten := row_same g.core.leaves fun k hk hlt => hf1.block k hlt (by
    rintro (e | e)
    · subst e; exact q_row_ne g.core.box g.core.leaves (by decide) hk
    · exact q_rows_ne g.core.leaves g.core.nodes (by decide) hk e)
  have hgL : lvv'.ownBlock ≠ some g1 := fun e => q_rows_ne hL1 ho1 (by decide) e rfl
  have ho2 := (ho1.stored ((x - 1) * 4 + qd i j (l + 1)) (.int .i64 ((ns.length + 1 : Nat) : Int))).1
  rw [← nrows_app, nrows_set (f := f) (by rw [List.getElem?_append_left hxl]; exact hf') hq] at ho2
  have hlen : ((ns ++ [fun _ => 0]).set (x - 1) (upd f (qd i j (l + 1)) (ns.length + 1))).length = ns.length + 1 := by simp
  refine ⟨_, _, ⟨⟨hB1.far (fun e => hgB e.symm) _, by rw [hlen]; exact ho2, hL1.kept (set_grown_q _ _ _) (.inr hgL), T2, g.core.side1, g.core.side2, g.core.wide, g.core.lv4, g.core.within, fun c d hne => g.core.bare c d (by rwa [put3_ne (by omega)] at hne), g.core.small, ?_⟩, ?_, ?_, ?_, g.own2, ?_⟩, put3_at ..⟩
  · rw [hlen]
    rcases g.kind with ⟨k, _⟩ | ⟨_, k, _⟩ | ⟨k, _⟩
    · subst k; omega
    · have := g.core.lv4; omega
    · omega
  · rw [put3_at]; omega
  · exact far_upto hfw ((Far.refl _ w1).set (F := fun k => k = g1) ⟨g1, _, none⟩ _ (fun _ => rfl)) (fun k hk hlt => by
      subst hk
      rcases ft2 k rfl with h | h
      · exact ft1 k (.inr h) hlt
      · omega)
  · intro k hk
    rcases ft2 k hk with h | h
    · exact g.own1 k h
    · exact .inr h
  · right; left
    have hz : put3 A (l + 1) (i / 2 ^ (l + 1)) (j / 2 ^ (l + 1)) (ns.length + 1) 0 i j = 0 := by
      rw [put3_ne (by omega)]
      exact T.none (by omega) h0
    rw [hlen, hz]
    rcases g.kind with ⟨k, k2, k3⟩ | ⟨_, k, k2, k3, k4⟩ | ⟨k, _⟩
    · refine ⟨by omega, by rw [k]; omega, k2, rfl, ?_⟩
      rw [← k3]; exact T.none (by omega) h0
    · exact ⟨by omega, by omega, k2, rfl, k4⟩
    · omega
theorem lrow_bare {M : Nat → Nat → Bool} {i j : Nat} (h : ∀ r c, r < 64 → c < 64 → M (64 * i + r) (64 * j + c) = false) : lrow M (i, j) = (Rw fun _ => 0).toList := by
  unfold lrow
  congr 1
  exact (Rw_blk Wf.zero fun r c hr hc => by simp [sub, h r c hr hc]).symm
/-- The leaf, at the way's end. -/
theorem Gw.leaf_step (g : Gw w wr B side lv nv lvv ns0 A0 ps0 M i j 1 root nv' lvv' ns A ps) (hl : 1 ≤ lv) (hij : i < 16 ∧ j < 16) (h0 : A 0 i j = 0) {gn capn x : Nat} (hnv : nv' = .slice (some ⟨gn, 0, none⟩) ns.length capn) (hx : A 1 (i / 2) (j / 2) = x) {lv1 : Value}
    (hsmall : ns0.length ≤ 1024)
    (hB1 : Bk w1 B 99 #[.int .i64 (side : Nat), .int .i64 (lv : Nat), .int .i64 (root : Nat), nv', lv1])
    (ho1 : w1.ownsRow 0 108 64 lv1 (ps.length + 1) ((lrows M ps).flatten ++ (Rw fun _ => 0).toList))
    (hsl : lv1.ownBlock = lvv'.ownBlock ∨ ∃ g, lv1.ownBlock = some g ∧ wr.heap.size ≤ g) (hf1 : Far (fun k => k = B ∨ lvv'.ownBlock = some k) wr w1) :
    ∃ ns2 A2, Gw w (w1.setCell ⟨gn, (x - 1) * 4 + qd i j 0, none⟩ (.int .i64 ((ps.length + 1 : Nat) : Int))) B side lv nv lvv ns0 A0 ps0 M i j 0 root nv' lv1 ns2 A2 (ps ++ [(i, j)]) ∧ A2 0 i j = ps.length + 1 := by
  have T := g.core.tree
  have hx0 : x ≠ 0 := by have := g.there; simp at this; rw [← hx]; exact this
  obtain ⟨f, hf, _⟩ := T.node 0 (i / 2) (j / 2) (by rw [hx]; exact hx0)
  have T2 := T.more_leaf (f := f) (by omega) (by rw [hx]; exact hx0) h0 hf
  rw [hx] at T2 hf
  have hxl := (List.getElem?_eq_some_iff.1 hf).1
  have hq := qd_lt i j 0
  have eq : 2 * (i % 2) + j % 2 = qd i j 0 := by simp [qd]
  rw [eq] at T2
  obtain ⟨ft1, ft2⟩ := grown_foot g (.inr rfl) hsl
  have hfw := far_upto g.far hf1 (fun k hk hlt => ft1 k hk hlt)
  have hN1 : w1.ownsRow 0 142 4 nv' ns.length (nrows ns).flatten := row_same g.core.nodes fun k hk hlt => hf1.block k hlt (by
    rintro (e | e)
    · subst e; exact q_row_ne g.core.box g.core.nodes (by decide) hk
    · exact q_rows_ne g.core.nodes g.core.leaves (by decide) hk e)
  subst hnv
  have hgB : gn ≠ B := fun e => q_row_ne hB1 hN1 (by decide) (by rw [e]; rfl)
  have hgL : lv1.ownBlock ≠ some gn := fun e => q_rows_ne ho1 hN1 (by decide) e rfl
  have ho2 := (hN1.stored ((x - 1) * 4 + qd i j 0) (.int .i64 ((ps.length + 1 : Nat) : Int))).1
  rw [nrows_set hf hq] at ho2
  have hlen : (ns.set (x - 1) (upd f (qd i j 0) (ps.length + 1))).length = ns.length := by simp
  have hbare := g.core.bare i j h0
  refine ⟨_, _, ⟨⟨hB1.far (fun e => hgB e.symm) _, by rw [hlen]; exact ho2, ?_, T2, g.core.side1, g.core.side2, g.core.wide, g.core.lv4, g.core.within, ?_, ?_, by rw [hlen]; exact g.core.nfew⟩, by simp [put3_at], ?_, g.own1, ?_, ?_⟩, put3_at ..⟩
  · rw [List.length_append, lrows_app, lrow_bare hbare]
    exact ho1.kept (set_grown_q _ _ _) (.inr hgL)
  · intro c d hz
    by_cases e : c = i ∧ d = j
    · obtain ⟨rfl, rfl⟩ := e; rw [put3_at] at hz; omega
    · rw [put3_ne (by intro h; exact e h.2)] at hz
      exact g.core.bare c d hz
  · intro p hp
    rcases List.mem_append.1 hp with hp | hp
    · exact g.core.small p hp
    · simp at hp; subst hp; exact hij
  · exact far_upto hfw ((Far.refl _ w1).set (F := fun k => k = gn) ⟨gn, _, none⟩ _ (fun _ => rfl)) (fun k hk hlt => by
      subst hk
      rcases g.own1 k rfl with h | h
      · exact .inr (.inl h)
      · omega)
  · intro k hk
    rcases ft2 k hk with h | h
    · exact g.own2 k h
    · exact .inr h
  · right; right
    rw [hlen]
    rcases g.kind with ⟨k, k2, k3⟩ | ⟨_, k, k2, k3, k4⟩ | ⟨k, _⟩
    · exact ⟨rfl, by rw [k]; omega, by rw [k2], by rw [← k3]; exact h0⟩
    · exact ⟨rfl, by omega, by rw [k2], k4⟩
    · omega
theorem Gw.start {root0 : Nat} (h : Qd w B side lv root0 nv lvv ns0 A0 ps0 M) (hi : i < 2 ^ lv) (hj : j < 2 ^ lv) (hr : root0 ≠ 0) : Gw w w B side lv nv lvv ns0 A0 ps0 M i j lv root0 nv lvv ns0 A0 ps0 :=
  ⟨h.toQc, by rw [(Nat.div_eq_zero_iff_lt (Nat.two_pow_pos _)).2 hi, (Nat.div_eq_zero_iff_lt (Nat.two_pow_pos _)).2 hj, h.tree.root]; exact hr, Far.refl _ w, fun _ h => .inl h, fun _ h => .inl h, .inl ⟨rfl, rfl, rfl⟩⟩
theorem Gw.root_node {l0 : Nat} {nv1 : Value} (h : Qd w B side (l0 + 1) 0 nv lvv ns0 A0 ps0 M) (hi : i < 2 ^ (l0 + 1)) (hj : j < 2 ^ (l0 + 1))
    (hB1 : Bk w1 B 99 #[.int .i64 (side : Nat), .int .i64 ((l0 + 1 : Nat) : Int), .int .i64 0, nv1, lvv])
    (ho1 : w1.ownsRow 0 142 4 nv1 (ns0.length + 1) ((nrows ns0).flatten ++ [.int .i64 0, .int .i64 0, .int .i64 0, .int .i64 0]))
    (hsl : nv1.ownBlock = nv.ownBlock ∨ ∃ g, nv1.ownBlock = some g ∧ w.heap.size ≤ g) (hf1 : Far (fun k => k = B ∨ nv.ownBlock = some k) w w1) :
    ∃ ns2 A2, Gw w (w1.setCell ⟨B, 2, none⟩ (.int .i64 ((ns0.length + 1 : Nat) : Int))) B side (l0 + 1) nv lvv ns0 A0 ps0 M i j (l0 + 1) (ns0.length + 1) nv1 lvv ns2 A2 ps0 := by
  have T := h.tree
  have T2 := T.root_node
  have hL1 : w1.ownsRow 0 108 64 lvv ps0.length (lrows M ps0).flatten := row_same h.leaves fun k hk hlt => hf1.block k hlt (by
    rintro (e | e)
    · subst e; exact q_row_ne h.box h.leaves (by decide) hk
    · exact q_rows_ne h.leaves h.nodes (by decide) hk e)
  rw [← nrows_app] at ho1
  have hlen : (ns0 ++ [fun _ => 0]).length = ns0.length + 1 := by simp
  have h0 : A0 0 i j = 0 := T.none (Nat.le_refl _) (by rw [(Nat.div_eq_zero_iff_lt (Nat.two_pow_pos _)).2 hi, (Nat.div_eq_zero_iff_lt (Nat.two_pow_pos _)).2 hj, T.root])
  refine ⟨_, _, ⟨hB1.set 2 _, by rw [hlen]; exact ho1.kept (set_grown_q _ _ _) (.inr (fun e => q_row_ne hB1 ho1 (by decide) e)), hL1.kept (set_grown_q _ _ _) (.inr (fun e => q_row_ne hB1 hL1 (by decide) e)), T2, h.side1, h.side2, h.wide, h.lv4, h.within, fun c d hne => h.bare c d (by rwa [put3_ne (by omega)] at hne), h.small, by rw [hlen]; have := h.many; omega⟩, ?_, ?_, ?_, fun _ h => .inl h, ?_⟩
  · rw [(Nat.div_eq_zero_iff_lt (Nat.two_pow_pos _)).2 hi, (Nat.div_eq_zero_iff_lt (Nat.two_pow_pos _)).2 hj, put3_at]; omega
  · exact far_upto (hf1.mono (G := Qf B nv lvv) (fun k _ hk => hk.elim .inl fun e => .inr (.inl e))) ((Far.refl _ w1).set (F := fun k => k = B) ⟨B, 2, none⟩ _ (fun _ => rfl)) (fun k hk _ => .inl hk)
  · intro k hk
    rcases hsl with e | ⟨q, e, hq⟩
    · exact .inl (e ▸ hk)
    · rw [e] at hk; cases hk; exact .inr hq
  · right; left
    exact ⟨by omega, by rw [hlen]; omega, rfl, by rw [put3_ne (by omega)]; exact h0, h0⟩
theorem Gw.root_leaf {lv1 : Value} (h : Qd w B side 0 0 nv lvv ns0 A0 ps0 M) (hi : i < 2 ^ 0) (hj : j < 2 ^ 0)
    (hB1 : Bk w1 B 99 #[.int .i64 (side : Nat), .int .i64 0, .int .i64 0, nv, lv1])
    (ho1 : w1.ownsRow 0 108 64 lv1 (ps0.length + 1) ((lrows M ps0).flatten ++ (Rw fun _ => 0).toList))
    (hsl : lv1.ownBlock = lvv.ownBlock ∨ ∃ g, lv1.ownBlock = some g ∧ w.heap.size ≤ g) (hf1 : Far (fun k => k = B ∨ lvv.ownBlock = some k) w w1) :
    ∃ ns2 A2, Gw w (w1.setCell ⟨B, 2, none⟩ (.int .i64 ((ps0.length + 1 : Nat) : Int))) B side 0 nv lvv ns0 A0 ps0 M i j 0 (ps0.length + 1) nv lv1 ns2 A2 (ps0 ++ [(i, j)]) := by
  obtain rfl : i = 0 := by simpa using hi
  obtain rfl : j = 0 := by simpa using hj
  have T := h.tree
  have T2 := T.root_leaf
  have h0 : A0 0 0 0 = 0 := T.root
  have hN1 : w1.ownsRow 0 142 4 nv ns0.length (nrows ns0).flatten := row_same h.nodes fun k hk hlt => hf1.block k hlt (by
    rintro (e | e)
    · subst e; exact q_row_ne h.box h.nodes (by decide) hk
    · exact q_rows_ne h.nodes h.leaves (by decide) hk e)
  have hbare := h.bare 0 0 h0
  refine ⟨_, _, ⟨hB1.set 2 _, hN1.kept (set_grown_q _ _ _) (.inr (fun e => q_row_ne hB1 hN1 (by decide) e)), ?_, T2, h.side1, h.side2, h.wide, h.lv4, h.within, ?_, ?_, h.nfew⟩, by simp [put3_at], ?_, fun _ h => .inl h, ?_, ?_⟩
  · rw [List.length_append, lrows_app, lrow_bare hbare]
    exact ho1.kept (set_grown_q _ _ _) (.inr (fun e => q_row_ne hB1 ho1 (by decide) e))
  · intro c d hz
    by_cases e : c = 0 ∧ d = 0
    · obtain ⟨rfl, rfl⟩ := e; rw [put3_at] at hz; omega
    · rw [put3_ne (by intro h; exact e h.2)] at hz
      exact h.bare c d hz
  · intro p hp
    rcases List.mem_append.1 hp with hp | hp
    · exact h.small p hp
    · simp at hp; subst hp; exact ⟨by decide, by decide⟩
  · exact far_upto (hf1.mono (G := Qf B nv lvv) (fun k _ hk => hk.elim .inl fun e => .inr (.inr e))) ((Far.refl _ w1).set (F := fun k => k = B) ⟨B, 2, none⟩ _ (fun _ => rfl)) (fun k hk _ => .inl hk)
  · intro k hk
    rcases hsl with e | ⟨q, e, hq⟩
    · exact .inl (e ▸ hk)
    · rw [e] at hk; cases hk; exact .inr hq
  · right; right
    exact ⟨rfl, by omega, rfl, h0⟩
/-- At the way's end. -/
theorem Gw.done {root0 : Nat} (h : Qd w B side lv root0 nv lvv ns0 A0 ps0 M) (g : Gw w wr B side lv nv lvv ns0 A0 ps0 M i j 0 root nv' lvv' ns A ps) :
    A 0 i j ≠ 0 ∧ Qd wr B side lv root nv' lvv' ns A ps M ∧ (∀ k, Qf B nv' lvv' k → Qf B nv lvv k ∨ w.heap.size ≤ k) ∧ Far (Qf B nv lvv) w wr ∧ (ps = ps0 ∨ (ps = ps0 ++ [(i, j)] ∧ A0 0 i j = 0)) := by
  have ht : A 0 i j ≠ 0 := by simpa using g.there
  refine ⟨ht, ⟨g.core, ?_⟩, ?_, g.far, ?_⟩
  · have hf := h.few
    rcases g.kind with ⟨k, k2, _⟩ | ⟨k, _⟩ | ⟨_, k, k2, _⟩
    · rw [k, k2]; exact hf
    · omega
    · rw [k2, List.length_append, List.length_singleton, Nat.mul_succ]; omega
  · rintro k (e | e | e)
    · exact .inl (.inl e)
    · exact (g.own1 k e).imp (fun h => .inr (.inl h)) id
    · exact (g.own2 k e).imp (fun h => .inr (.inr h)) id
  · rcases g.kind with ⟨_, k2, _⟩ | ⟨k, _⟩ | ⟨_, _, k2, k3⟩
    · exact .inl k2
    · omega
    · exact .inr ⟨k2, k3⟩
end
end Go.Proofs.YtjolkhiggcmoiaaGreatDoor
/-! ## QGrow: grow: the number of the leaf at a place, which is made if there is none. -/
namespace Go.Proofs.YtjolkhiggcmoiaaGreatDoor
open Go.RowKit
set_option linter.unusedVariables false
set_option linter.unusedSimpArgs false
theorem node_there {w : World} {ns : List (Nat → Nat)} {g cap k q n : Nat} (h : w.ownsRow 0 142 4 (.slice (some ⟨g, 0, none⟩) n cap) ns.length (nrows ns).flatten) (hk : k < ns.length) (hq : q < 4) : ∃ v, w.cell? ⟨g, k * 4 + q, none⟩ = some v := by
  rcases h.2 with ⟨e, _⟩ | ⟨g', cap', cur, e, _⟩
  · cases e
  · cases e
    exact ⟨_, node_cell h (List.getElem?_eq_getElem hk) hq⟩
section
set_option maxHeartbeats 2000000
set_option maxRecDepth 100000
theorem grow_any {w : World} {B side lv root : Nat} {nv lvv : Value} {ns : List (Nat → Nat)} {A : Nat → Nat → Nat → Nat} {ps : List (Nat × Nat)} {M : Nat → Nat → Bool} (h : Qd w B side lv root nv lvv ns A ps M) (i j : Nat) (hi : i < 2 ^ lv) (hj : j < 2 ^ lv) :
    Calls Tryz.prog 86 #[.pointer (some ⟨B, 0, none⟩), .int .i64 i, .int .i64 j] w fun e w' => ∃ root' nv' lvv' ns' A' ps', e = .returned (.int .i64 (A' 0 i j : Nat)) ∧ A' 0 i j ≠ 0 ∧ Qd w' B side lv root' nv' lvv' ns' A' ps' M ∧ (∀ k, Qf B nv' lvv' k → Qf B nv lvv k ∨ w.heap.size ≤ k) ∧ Far (Qf B nv lvv) w w' ∧ (ps' = ps ∨ (ps' = ps ++ [(i, j)] ∧ A 0 i j = 0)) := by
  have h' := Lib.hid h
  have p1 : w.cell? ⟨B, 1, none⟩ = some (.int .i64 (lv : Nat)) := h.box.cell 1
  have p2 : w.cell? ⟨B, 2, none⟩ = some (.int .i64 (root : Nat)) := h.box.cell 2
  have hlv := h.lv4
  have hmany := h.many
  clear h
  go_enter Tryz.func86, Tryz.ntmps86
  go_upto_if 15 with fail
  go_cut [] (fun wc => ∃ root' nv' lvv' ns' A' ps', root' ≠ 0 ∧ Gw w wc B side lv nv lvv ns A ps M i j lv root' nv' lvv' ns' A' ps')
  case first =>
    by_cases hr : root = 0
    · subst hr
      cases lv with
      | zero =>
        have FL := fresh_leaf w B _ _ _ lvv nv ps.length _ h'.out.box h'.out.leaves (by omega)
        go_wp2_with fail
        refine FL.mono ?_
        rintro e w1 ⟨rfl, lv1, hB1, ho1, hsl, hf1⟩
        have q2 := hB1.free 2
        have q3 : w1.cell? ⟨B, 2, none⟩ = some (.int .i64 0) := hB1.cell 2
        have G := Lib.hid (Gw.root_leaf h'.out hi hj hB1 ho1 hsl hf1)
        clear hB1 ho1 hsl hf1 FL
        go_wp2_with fail
        go_meet
        obtain ⟨ns2, A2, g⟩ := G.out
        exact ⟨_, _, _, _, _, _, by omega, g⟩
      | succ l0 =>
        have FL := fresh_node w B _ _ _ nv lvv ns.length l0 _ h'.out.box h'.out.nodes (by omega)
        go_wp2_with fail
        refine FL.mono ?_
        rintro e w1 ⟨rfl, nv1, hB1, ho1, hsl, hf1⟩
        have q2 := hB1.free 2
        have q3 : w1.cell? ⟨B, 2, none⟩ = some (.int .i64 0) := hB1.cell 2
        have G := Lib.hid (Gw.root_node h'.out hi hj hB1 ho1 hsl hf1)
        clear hB1 ho1 hsl hf1 FL
        go_wp2_with fail
        go_meet
        obtain ⟨ns2, A2, g⟩ := G.out
        exact ⟨_, _, _, _, _, _, by omega, g⟩
    · have hr1 : ((root : Int) == 0) = false := by simp; omega
      have g := Lib.hid (Gw.start (w := w) (i := i) (j := j) h'.out hi hj hr)
      go_wp2_with fail
      go_meet
      exact ⟨_, _, _, _, _, _, hr, g.out⟩
  case rest =>
    obtain ⟨root', nv', lvv', ns', A', ps', hr, g⟩ := hcut
    clear p1 p2
    have p1 : wc.cell? ⟨B, 1, none⟩ = some (.int .i64 (lv : Nat)) := g.core.box.cell 1
    have p2 : wc.cell? ⟨B, 2, none⟩ = some (.int .i64 (root' : Nat)) := g.core.box.cell 2
    have hroot := g.core.tree.root
    have g' := Lib.hid g
    clear g
    go_wp2_with fail
    clear p1 p2
    obtain ⟨wo, hwo⟩ : ∃ wo, wo = wc := ⟨_, rfl⟩
    rw [← hwo] at g' ⊢
    clear hwo
    go_loopw [7, 8] (fun nn lvl wr => ∃ (l : Nat) (root' : Nat) (nv' lvv' : Value) (ns' : List (Nat → Nat)) (A' : Nat → Nat → Nat → Nat) (ps' : List (Nat × Nat)), l ≤ lv ∧ nn = .int .i64 (A' l (i / 2 ^ l) (j / 2 ^ l) : Nat) ∧ lvl = .int .i64 (l : Nat) ∧ Gw w wr B side lv nv lvv ns A ps M i j l root' nv' lvv' ns' A' ps') (fun _ lvl _ => (intOf lvl).toNat)
    case atStart => exact ⟨lv, _, _, _, _, _, _, Nat.le_refl _, by rw [(Nat.div_eq_zero_iff_lt (Nat.two_pow_pos _)).2 hi, (Nat.div_eq_zero_iff_lt (Nat.two_pow_pos _)).2 hj, hroot], rfl, g'.out⟩
    case round =>
      clear g' hroot hr
      obtain ⟨l, root', nv', lvv', ns', A', ps', hl, rfl, rfl, g⟩ := hrel
      cases l with
      | zero =>
        have R := Lib.hid (g.done h'.out)
        clear g
        go_wp2_with fail
        go_ret
        obtain ⟨r1, r2, r3, r4, r5⟩ := R.out
        exact ⟨_, _, _, _, _, _, by simp, r1, r2, r3, r4, r5⟩
      | succ l =>
        obtain ⟨x, hx⟩ : ∃ x, A' (l + 1) (i / 2 ^ (l + 1)) (j / 2 ^ (l + 1)) = x := ⟨_, rfl⟩
        have hx0 : x ≠ 0 := hx ▸ g.there
        obtain ⟨f, hf, hq⟩ := g.core.tree.step (i := i) (j := j) (l := l) (by rw [hx]; exact hx0)
        rw [hx] at hf
        rw [hx]
        have hnsl := (List.getElem?_eq_some_iff.1 hf).1
        obtain ⟨gn, cap, hnv, _⟩ := g.core.nodes.form (by omega)
        subst hnv
        have hcell : wr.cell? ⟨gn, (x - 1) * 4 + qd i j l, none⟩ = some (.int .i64 (A' l (i / 2 ^ l) (j / 2 ^ l) : Nat)) := by
          rw [← hq]
          exact node_cell g.core.nodes hf (qd_lt i j l)
        have p3 : wr.cell? ⟨B, 3, none⟩ = some (.slice (some ⟨gn, 0, none⟩) ns'.length cap) := g.core.box.cell 3
        have hqlt := qd_lt i j l
        have PT := fun w => part_any i j l (by omega) w
        have hx1 : IntKind.i64.wrap ((x : Int) - 1) = ((x - 1 : Nat) : Int) := by rw [IntKind.wrap_i64]; have := g.core.nfew; omega
        have hxl : x - 1 < ns'.length := hnsl
        rw [show ((l + 1 : Nat) : Int) = (l : Int) + 1 by omega] at PT ⊢
        have g' := Lib.hid g
        have hx' := Lib.hid hx
        clear hf hq g hx
        go_wp2_with fail
        refine (PT _).mono ?_
        rintro e w' ⟨rfl, n9, hW⟩
        have g2 := g'.out.still (w1 := w') (hW ▸ (Far.refl _ wr).drewN n9)
        have hcell' : w'.cell? ⟨gn, (x - 1) * 4 + qd i j l, none⟩ = some (.int .i64 (A' l (i / 2 ^ l) (j / 2 ^ l) : Nat)) := by rw [hW]; exact hcell
        have p3' : w'.cell? ⟨B, 3, none⟩ = some (.slice (some ⟨gn, 0, none⟩) ns'.length cap) := by rw [hW]; exact p3
        clear hcell p3 g' hW PT
        obtain ⟨y, hy⟩ : ∃ y, A' l (i / 2 ^ l) (j / 2 ^ l) = y := ⟨_, rfl⟩
        rw [hy] at hcell'
        have hl1 : ((l : Int) + 1 - 1) = (l : Int) := by omega
        by_cases hy0 : y = 0
        · subst hy0
          have hy' := Lib.hid hy
          have g3 := Lib.hid g2
          clear hy
          cases l with
          | zero =>
            have FL := fresh_leaf w' B _ _ _ lvv' _ ps'.length _ g2.core.box g2.core.leaves (by have := few_places g2.core.tree.nodup g2.core.small; omega)
            clear g2
            go_wp2_with fail
            refine FL.mono ?_
            rintro e w1 ⟨rfl, lv1, hB1, ho1, hsl, hf1⟩
            have q3 : w1.cell? ⟨B, 3, none⟩ = some (.slice (some ⟨gn, 0, none⟩) ns'.length cap) := hB1.cell 3
            have hgn : gn < w1.heap.size := by have := (g3.out.core.nodes.lt gn rfl).2; have := hf1.size; omega
            have hN1 : w1.ownsRow 0 142 4 (.slice (some ⟨gn, 0, none⟩) ns'.length cap) ns'.length (nrows ns').flatten := row_same g3.out.core.nodes fun k hk hlt => hf1.block k hlt (by
              rintro (e | e)
              · subst e; exact q_row_ne g3.out.core.box g3.out.core.nodes (by decide) hk
              · exact q_rows_ne g3.out.core.nodes g3.out.core.leaves (by decide) hk e)
            have hfz : w1.frozen? ⟨gn, (x - 1) * 4 + qd i j 0, none⟩ = false := hN1.frozenAt _
            obtain ⟨vc, hcc⟩ := node_there hN1 hxl hqlt
            have G := Lib.hid (g3.out.leaf_step (by omega) ⟨by have := Nat.lt_of_lt_of_le hi (Nat.pow_le_pow_right (show 0 < 2 by decide) hlv); simpa using this, by have := Nat.lt_of_lt_of_le hj (Nat.pow_le_pow_right (show 0 < 2 by decide) hlv); simpa using this⟩ (by simpa using hy'.out) rfl (by simpa using hx'.out) (by omega) hB1 ho1 hsl hf1)
            clear hB1 ho1 hsl hf1 FL hN1
            go_wp2_with fail
            go_roundw
            case rel =>
              obtain ⟨ns2, A2, g4, h4⟩ := G.out
              exact ⟨0, _, _, _, _, _, _, by omega, by simp [h4], rfl, g4⟩
            case measure => simp [intOf]
          | succ l =>
            have FL := fresh_node w' B _ _ _ _ lvv' ns'.length l _ g2.core.box g2.core.nodes (by have := g2.core.nfew; omega)
            clear g2
            rw [show ((l + 1 : Nat) : Int) = (l : Int) + 1 by omega] at FL
            go_wp2_with fail
            refine FL.mono ?_
            rintro e w1 ⟨rfl, nv1, hB1, ho1, hsl, hf1⟩
            obtain ⟨g1, cap1, rfl, _⟩ := ho1.form (by omega)
            have q3 : w1.cell? ⟨B, 3, none⟩ = some (.slice (some ⟨g1, 0, none⟩) (ns'.length + 1) cap1) := hB1.cell 3
            have hfz : w1.frozen? ⟨g1, (x - 1) * 4 + qd i j (l + 1), none⟩ = false := ho1.frozenAt _
            obtain ⟨vc, hcc⟩ := node_there (ns := ns' ++ [fun _ => 0]) (k := x - 1) (by rw [List.length_append, nrows_app]; exact ho1) (by simp; omega) hqlt
            have hxl1 : x - 1 < ns'.length + 1 := by omega
            have G := Lib.hid (g3.out.node_step (by omega) hy'.out hx'.out (by omega) hB1 ho1 hsl hf1)
            clear hB1 ho1 hsl hf1 FL
            go_wp2_with fail
            go_roundw
            case rel =>
              obtain ⟨ns2, A2, g4, h4⟩ := G.out
              exact ⟨l + 1, _, _, _, _, _, _, by omega, by simp [h4], by simp, g4⟩
            case measure => simp [intOf]; omega
        · have hd : ((y : Int) == 0) = false := by simp; omega
          have g3 := Lib.hid (g2.down (by omega) (by rw [hy]; exact hy0))
          have hy' := Lib.hid hy
          clear g2 hy
          go_wp2_with fail
          go_roundw
          case rel => exact ⟨l, _, _, _, _, _, _, by omega, by rw [hy'.out], rfl, g3.out⟩
          case measure => simp [intOf]
end
end Go.Proofs.YtjolkhiggcmoiaaGreatDoor
/-! ## QGet: Get: is a cell in a matrix? -/
namespace Go.Proofs.YtjolkhiggcmoiaaGreatDoor
open Go.RowKit
set_option linter.unusedVariables false
set_option linter.unusedSimpArgs false
section
variable {w : World} {B side lv root : Nat} {nv lvv : Value} {ns : List (Nat → Nat)} {A : Nat → Nat → Nat → Nat} {ps : List (Nat × Nat)} {M : Nat → Nat → Bool}
/-- Where a leaf lies. -/
theorem Qc.leafAt (h : Qc w B side lv root nv lvv ns A ps M) {i j : Nat} (hn : A 0 i j ≠ 0) : ∃ g cap, lvv = .slice (some ⟨g, 0, none⟩) ps.length cap ∧ A 0 i j - 1 < ps.length ∧ ps[A 0 i j - 1]? = some (i, j) ∧
    (∀ r, r < 64 → w.cell? ⟨g, (A 0 i j - 1) * 64 + r, none⟩ = some (.int .u64 (blk (sub M i j) r : Nat))) ∧ w.rangeAt g ((A 0 i j - 1) * 64) (lrow M (i, j)) ∧ w.there g ((A 0 i j - 1) * 64) 64 := by
  have hp := h.tree.leaf i j hn
  have hlt := (List.getElem?_eq_some_iff.1 hp).1
  obtain ⟨g, cap, rfl, _⟩ := h.leaves.form (by omega)
  have hr := own_range h.leaves (lrows_even M ps) (lrows_get (M := M) hp)
  refine ⟨g, cap, rfl, hlt, hp, fun r hr' => ?_, hr, own_there h.leaves (lrows_even M ps) (lrows_get (M := M) hp)⟩
  exact hr r _ (by
    unfold lrow
    have := Rw_get (blk (sub M i j)) r hr'
    simpa using this)
theorem and_one_u (x c : Nat) (hx : x < 18446744073709551616) : bits .and .u64 ((x : Int) / 2 ^ c) 1 = ((x / 2 ^ c % 2 : Nat) : Int) := by
  have e : ((x : Int) / 2 ^ c) = ((x / 2 ^ c : Nat) : Int) := by simp
  have h1 := bits_and64 (x / 2 ^ c) 1 (Nat.lt_of_le_of_lt (Nat.div_le_self _ _) hx) (by decide)
  rw [e, show ((1 : Int)) = ((1 : Nat) : Int) from rfl, h1, Nat.and_one_is_mod]
theorem wrap64_of {a : Int} (h : -9223372036854775808 ≤ a ∧ a ≤ 9223372036854775807) : wrap64 a = a := IntWalk.wrap64_in a h
theorem bit_is (S : Nat → Nat → Bool) (r c : Nat) (hc : c < 64) : (((blk S r : Nat) : Int) / 2 ^ c % 2 == 1) = S r c := by
  have := blk_bit S r c hc
  rw [Nat.testBit_eq_decide_div_mod_eq] at this
  have e : ((blk S r : Nat) : Int) / 2 ^ c % 2 = ((blk S r / 2 ^ c % 2 : Nat) : Int) := by simp
  rw [← this, e]
  have h2 : blk S r / 2 ^ c % 2 = 0 ∨ blk S r / 2 ^ c % 2 = 1 := by omega
  rcases h2 with h | h <;> rw [h] <;> rfl
section
set_option maxHeartbeats 2000000
set_option maxRecDepth 100000
theorem qget_yes (h : Qd w B side lv root nv lvv ns A ps M) (i j : Nat) (hi : i < side) (hj : j < side) :
    Calls Tryz.prog 65 #[.pointer (some ⟨B, 0, none⟩), .int .i64 i, .int .i64 j] w fun e w' => e = .returned (.tuple #[.bool (M i j), .int .i64 0]) ∧ Far (fun _ => False) w w' := by
  have N := qnone_no h
  have L1 := qline_yes h i hi
  have L2 := qline_yes h j hj
  have hw := h.wide
  have F := find_any h (i / 64) (j / 64) (by omega) (by omega)
  have hs2 := h.side2
  have wi : wrap64 ((i : Int) / 64) = ((i / 64 : Nat) : Int) := by rw [wrap64_of (by omega)]; omega
  have wj : wrap64 ((j : Int) / 64) = ((j / 64 : Nat) : Int) := by rw [wrap64_of (by omega)]; omega
  have h' := Lib.hid h
  have eM : M i j = sub M (i / 64) (j / 64) (i % 64) (j % 64) := by unfold sub; rw [Nat.div_add_mod, Nat.div_add_mod]
  clear h
  go_enter Tryz.func65, Tryz.ntmps65
  go_wp2_with fail
  refine N.mono ?_
  rintro e w' ⟨rfl, rfl⟩
  go_wp2_with fail
  refine L1.mono ?_
  rintro e w' ⟨rfl, rfl⟩
  go_wp2_with fail
  refine L2.mono ?_
  rintro e w' ⟨rfl, rfl⟩
  go_wp2_with fail
  refine F.mono ?_
  rintro e w' ⟨rfl, hf⟩
  have h2 := Lib.hid (h'.out.still hf)
  clear h' N L1 L2 F
  by_cases hn : A 0 (i / 64) (j / 64) = 0
  · have hz : M i j = false := by rw [eM]; exact h2.out.bare _ _ hn _ _ (Nat.mod_lt _ (by decide)) (Nat.mod_lt _ (by decide))
    rw [hn]
    go_wp2_with fail
    go_ret2
    exact ⟨by rw [hz]; rfl, hf⟩
  · obtain ⟨g, cap, rfl, hlt, _, hcell, _⟩ := h2.out.leafAt hn
    have p4 : w'.cell? ⟨B, 4, none⟩ = some (.slice (some ⟨g, 0, none⟩) ps.length cap) := h2.out.box.cell 4
    obtain ⟨n, hN⟩ : ∃ n, A 0 (i / 64) (j / 64) = n := ⟨_, rfl⟩
    rw [hN] at hlt hn hcell ⊢
    have hc := hcell (i % 64) (Nat.mod_lt _ (by decide))
    have hx1 : IntKind.i64.wrap ((n : Int) - 1) = ((n - 1 : Nat) : Int) := by rw [IntKind.wrap_i64]; have := h2.out.many; omega
    have hn0 : ((n : Int) == 0) = false := by simp; omega
    have hb1 := and_one_u (blk (sub M (i / 64) (j / 64)) (i % 64)) (j % 64) (blk_wf _ _ (Nat.mod_lt _ (by decide)))
    have hb2 := bit_is (sub M (i / 64) (j / 64)) (i % 64) (j % 64) (Nat.mod_lt _ (by decide))
    rw [← eM] at hb2
    clear hcell eM hN h2
    go_wp2_with fail
    go_ret2
    exact ⟨rfl, hf⟩
theorem qget_no (h : Qd w B side lv root nv lvv ns A ps M) (i j : Int) (hij : i < 0 ∨ (side : Int) ≤ i ∨ j < 0 ∨ (side : Int) ≤ j) :
    Calls Tryz.prog 65 #[.pointer (some ⟨B, 0, none⟩), .int .i64 i, .int .i64 j] w fun e w' => e = .returned (.tuple #[.bool false, .int .i64 2]) ∧ w' = w := by
  have N := qnone_no h
  by_cases hi : i < 0 ∨ (side : Int) ≤ i
  · have L1 := qline_no h i hi
    clear h
    go_enter Tryz.func65, Tryz.ntmps65
    go_wp2_with fail
    refine N.mono ?_
    rintro e w' ⟨rfl, rfl⟩
    go_wp2_with fail
    refine L1.mono ?_
    rintro e w' ⟨rfl, rfl⟩
    go_wp2_with fail
    go_ret2
    exact ⟨rfl, rfl⟩
  · obtain ⟨k, rfl⟩ : ∃ k : Nat, i = (k : Int) := ⟨i.toNat, by omega⟩
    have L1 := qline_yes h k (by omega)
    have L2 := qline_no h j (by omega)
    clear h
    go_enter Tryz.func65, Tryz.ntmps65
    go_wp2_with fail
    refine N.mono ?_
    rintro e w' ⟨rfl, rfl⟩
    go_wp2_with fail
    refine L1.mono ?_
    rintro e w' ⟨rfl, rfl⟩
    go_wp2_with fail
    refine L2.mono ?_
    rintro e w' ⟨rfl, rfl⟩
    go_wp2_with fail
    go_ret2
    exact ⟨rfl, rfl⟩
theorem qget_nil (w : World) (i j : Int) : Calls Tryz.prog 65 #[.pointer none, .int .i64 i, .int .i64 j] w fun e w' => e = .returned (.tuple #[.bool false, .int .i64 1]) ∧ w' = w := by
  go_enter Tryz.func65, Tryz.ntmps65
  go_wp2_with fail
  refine (qnone_nil w).mono ?_
  rintro e w' ⟨rfl, rfl⟩
  go_wp2_with fail
  go_ret2
  exact ⟨rfl, rfl⟩
end
end
end Go.Proofs.YtjolkhiggcmoiaaGreatDoor
/-! ## QAbs: A matrix as cells, with the blocks of memory that it takes up. -/
namespace Go.Proofs.YtjolkhiggcmoiaaGreatDoor
open Go.RowKit
set_option linter.unusedVariables false
set_option linter.unusedSimpArgs false
/-- Each leaf has a cell. -/
def Full (M : Nat → Nat → Bool) (ps : List (Nat × Nat)) : Prop := ∀ p ∈ ps, ∃ r c, r < 64 ∧ c < 64 ∧ sub M p.1 p.2 r c = true
/-- The matrix at B, on blocks F, of a side, has the cells M. -/
def Mx (w : World) (B : Nat) (F : Nat → Prop) (side : Nat) (M : Nat → Nat → Bool) : Prop :=
  ∃ lv root nv lvv ns A ps, Qd w B side lv root nv lvv ns A ps M ∧ Full M ps ∧ F = Qf B nv lvv
/-- Memory moved within blocks F, to blocks F' that are of F or new. -/
structure Mv (w w' : World) (F F' : Nat → Prop) : Prop where
  far : Far F w w'
  more : ∀ k, F' k → F k ∨ w.heap.size ≤ k
theorem Mv.still {w w' : World} {F : Nat → Prop} (h : Far (fun _ => False) w w') : Mv w w' F F := ⟨h.mono fun _ _ h => h.elim, fun _ h => .inl h⟩
theorem Mv.trans {a b c : World} {F G H : Nat → Prop} (h : Mv a b F G) (k : Mv b c G H) : Mv a c F H :=
  ⟨h.far.trans k.far fun i hi hg => (h.more i hg).resolve_right (by omega), fun i hi => by
    rcases k.more i hi with hg | hg
    · exact h.more i hg
    · exact .inr (Nat.le_trans h.far.size hg)⟩
section
variable {w w' : World} {B side : Nat} {F : Nat → Prop} {M : Nat → Nat → Bool}
theorem Mx.lt (h : Mx w B F side M) : ∀ k, F k → k < w.heap.size := by
  obtain ⟨lv, root, nv, lvv, ns, A, ps, hq, _, rfl⟩ := h
  exact hq.lt
theorem Mx.kept {G : Nat → Prop} (h : Mx w B F side M) (hf : Far G w w') (hG : ∀ k, F k → ¬ G k) : Mx w' B F side M := by
  obtain ⟨lv, root, nv, lvv, ns, A, ps, hq, hl, rfl⟩ := h
  exact ⟨lv, root, nv, lvv, ns, A, ps, hq.kept hf hG, hl, rfl⟩
theorem Mx.still (h : Mx w B F side M) (hf : Far (fun _ => False) w w') : Mx w' B F side M := h.kept hf fun _ _ h => h
theorem Mx.sides (h : Mx w B F side M) : 1 ≤ side ∧ side ≤ 1024 := by
  obtain ⟨lv, root, nv, lvv, ns, A, ps, hq, hl, rfl⟩ := h
  exact ⟨hq.side1, hq.side2⟩
theorem Mx.within (h : Mx w B F side M) : ∀ r c, M r c = true → r < side ∧ c < side := by
  obtain ⟨lv, root, nv, lvv, ns, A, ps, hq, hl, rfl⟩ := h
  exact hq.within
theorem Mx.congr {M' : Nat → Nat → Bool} (h : Mx w B F side M) (e : ∀ r c, M' r c = M r c) : Mx w B F side M' := by
  have : M' = M := funext fun r => funext fun c => e r c
  rw [this]; exact h
theorem Mx.block (h : Mx w B F side M) : F B := by
  obtain ⟨lv, root, nv, lvv, ns, A, ps, hq, hl, rfl⟩ := h
  exact .inl rfl
/-- A block of another kind is not of the matrix. -/
theorem Mx.notBk (h : Mx w B F side M) {k : Nat} {t : TypeId} {cs : Array Value} (hb : Bk w k t cs) (h1 : t ≠ 99) (h2 : t ≠ 142) (h3 : t ≠ 108) : ¬ F k := by
  obtain ⟨lv, root, nv, lvv, ns, A, ps, hq, hl, rfl⟩ := h
  rintro (rfl | e | e)
  · have := hq.box; unfold Bk at hb this; rw [hb] at this; cases this; exact h1 rfl
  · exact q_row_ne hb hq.nodes h2 e
  · exact q_row_ne hb hq.leaves h3 e
end
/-- A cell more. -/
def putM (M : Nat → Nat → Bool) (i j : Nat) : Nat → Nat → Bool := fun r c => M r c || (decide (r = i) && decide (c = j))
theorem putM_same {M : Nat → Nat → Bool} {i j : Nat} (h : M i j = true) : ∀ r c, putM M i j r c = M r c := fun r c => by
  unfold putM
  by_cases e : r = i ∧ c = j
  · obtain ⟨rfl, rfl⟩ := e; simp [h]
  · by_cases e1 : r = i
    · have : ¬ c = j := fun e2 => e ⟨e1, e2⟩
      simp [this]
    · simp [e1]
theorem lrow_congr {M M' : Nat → Nat → Bool} {p : Nat × Nat} (h : ∀ r c, r < 64 → c < 64 → sub M' p.1 p.2 r c = sub M p.1 p.2 r c) : lrow M' p = lrow M p := by
  unfold lrow
  congr 1
  exact blk_congr h
theorem lrows_upd {M M' : Nat → Nat → Bool} {ps : List (Nat × Nat)} {k : Nat} {p : Nat × Nat} (hn : ps.Nodup) (hk : ps[k]? = some p) (h : ∀ p' : Nat × Nat, p' ≠ p → ∀ r c, r < 64 → c < 64 → sub M' p'.1 p'.2 r c = sub M p'.1 p'.2 r c) :
    lrows M' ps = (lrows M ps).set k (lrow M' p) := by
  have hkl := (List.getElem?_eq_some_iff.1 hk).1
  apply List.ext_getElem?
  intro q
  by_cases e : q = k
  · subst e
    rw [List.getElem?_set_self (by simp [lrows]; exact hkl), lrows_get hk]
  · rw [List.getElem?_set_ne (fun e2 => e e2.symm)]
    rcases Nat.lt_or_ge q ps.length with hq | hq
    · have h1 := List.getElem?_eq_getElem hq
      rw [lrows_get h1, lrows_get h1]
      have hne : ps[q] ≠ p := fun e2 => by
        rw [e2] at h1
        have := (List.getElem?_inj hq hn).1 (h1.trans hk.symm)
        exact e this
      rw [lrow_congr (h _ hne)]
    · rw [List.getElem?_eq_none (by simp [lrows]; exact hq), List.getElem?_eq_none (by simp [lrows]; exact hq)]
theorem sub_put {M : Nat → Nat → Bool} {i j : Nat} (a b r c : Nat) (hr : r < 64) (hc : c < 64) : sub (putM M i j) a b r c = (sub M a b r c || (decide (a = i / 64) && decide (b = j / 64) && (decide (r = i % 64) && decide (c = j % 64)))) := by
  unfold sub putM
  congr 1
  have h1 : (64 * a + r = i) ↔ (a = i / 64 ∧ r = i % 64) := by omega
  have h2 : (64 * b + c = j) ↔ (b = j / 64 ∧ c = j % 64) := by omega
  rw [Bool.eq_iff_iff]
  simp only [Bool.and_eq_true, decide_eq_true_eq, h1, h2]
  constructor
  · rintro ⟨⟨a1, a2⟩, b1, b2⟩; exact ⟨⟨a1, b1⟩, a2, b2⟩
  · rintro ⟨⟨a1, b1⟩, a2, b2⟩; exact ⟨⟨a1, a2⟩, b1, b2⟩
theorem lrow_put {M : Nat → Nat → Bool} {i j : Nat} : lrow (putM M i j) (i / 64, j / 64) = (lrow M (i / 64, j / 64)).set (i % 64) (.int .u64 ((blk (sub M (i / 64) (j / 64)) (i % 64) ||| 2 ^ (j % 64) : Nat))) := by
  have hr : i % 64 < 64 := Nat.mod_lt _ (by decide)
  have hc : j % 64 < 64 := Nat.mod_lt _ (by decide)
  have e : Rw (putB (blk (sub M (i / 64) (j / 64))) (i % 64) (j % 64)) = Rw (blk (sub (putM M i j) (i / 64) (j / 64))) :=
    Rw_blk ((blk_wf _).putB hr hc) fun r c hr' hc' => by
      rw [putB_bit, blk_bit _ _ _ hc', sub_put _ _ _ _ hr' hc']; simp
  unfold lrow
  rw [← e, putB, ← Rw_set]
  simp
theorem lrows_put {M : Nat → Nat → Bool} {i j k : Nat} {ps : List (Nat × Nat)} (hn : ps.Nodup) (hk : ps[k]? = some (i / 64, j / 64)) :
    (lrows M ps).flatten.set (k * 64 + i % 64) (.int .u64 ((blk (sub M (i / 64) (j / 64)) (i % 64) ||| 2 ^ (j % 64) : Nat))) = (lrows (putM M i j) ps).flatten := by
  rw [flat_set (lrows_even M ps) (lrows_get hk) _ (Nat.mod_lt _ (by decide)), ← lrow_put, ← lrows_upd hn hk]
  rintro ⟨a, b⟩ hne r c hr hc
  rw [sub_put _ _ _ _ hr hc]
  have : (decide (a = i / 64) && decide (b = j / 64)) = false := by
    rw [Bool.and_eq_false_iff, decide_eq_false_iff_not, decide_eq_false_iff_not]
    by_cases h1 : a = i / 64
    · right; intro h2; exact hne (by rw [h1, h2])
    · exact .inl h1
  rw [this]; simp
end Go.Proofs.YtjolkhiggcmoiaaGreatDoor
/-! ## QSet: Set: a cell more. -/
namespace Go.Proofs.YtjolkhiggcmoiaaGreatDoor
open Go.RowKit
set_option linter.unusedVariables false
set_option linter.unusedSimpArgs false
section
variable {w w' : World} {B side lv root : Nat} {nv lvv : Value} {ns : List (Nat → Nat)} {A : Nat → Nat → Nat → Nat} {ps : List (Nat × Nat)} {F : Nat → Prop} {M : Nat → Nat → Bool}
/-- One cell of a leaf is written. -/
theorem Qd.setCell (h : Qd w B side lv root nv lvv ns A ps M) {i j : Nat} (hi : i < side) (hj : j < side) (hn : A 0 (i / 64) (j / 64) ≠ 0) {g cap : Nat} (hlv : lvv = .slice (some ⟨g, 0, none⟩) ps.length cap) :
    Qd (w.setCell ⟨g, (A 0 (i / 64) (j / 64) - 1) * 64 + i % 64, none⟩ (.int .u64 ((blk (sub M (i / 64) (j / 64)) (i % 64) ||| 2 ^ (j % 64) : Nat)))) B side lv root nv lvv ns A ps (putM M i j) := by
  have hp := h.tree.leaf _ _ hn
  subst hlv
  have hgB : g ≠ B := fun e => q_row_ne h.box h.leaves (by decide) (by rw [e]; rfl)
  have hgN : nv.ownBlock ≠ some g := fun e => q_rows_ne h.nodes h.leaves (by decide) e rfl
  have ho := (h.leaves.stored ((A 0 (i / 64) (j / 64) - 1) * 64 + i % 64) (.int .u64 ((blk (sub M (i / 64) (j / 64)) (i % 64) ||| 2 ^ (j % 64) : Nat)))).1
  rw [lrows_put h.tree.nodup hp] at ho
  refine ⟨⟨h.box.far (fun e => hgB e.symm) _, h.nodes.kept (set_grown_q _ _ _) (.inr hgN), ho, h.tree, h.side1, h.side2, h.wide, h.lv4, fun r c hrc => ?_, fun a b hz r c hr hc => ?_, h.small, h.nfew⟩, h.few⟩
  · unfold putM at hrc
    rw [Bool.or_eq_true] at hrc
    rcases hrc with hrc | hrc
    · exact h.within r c hrc
    · simp at hrc; omega
  · have := sub_put (M := M) (i := i) (j := j) a b r c hr hc
    unfold sub at this
    rw [this, h.bare a b hz r c hr hc]
    simp
    rintro rfl rfl
    exact absurd hz hn
theorem full_put {M : Nat → Nat → Bool} {ps ps' : List (Nat × Nat)} {i j : Nat} (h : Full M ps) (hp : ps' = ps ∨ ps' = ps ++ [(i / 64, j / 64)]) : Full (putM M i j) ps' := by
  have key : ∀ p ∈ ps, ∃ r c, r < 64 ∧ c < 64 ∧ sub (putM M i j) p.1 p.2 r c = true := fun p hp => by
    obtain ⟨r, c, hr, hc, e⟩ := h p hp
    exact ⟨r, c, hr, hc, by rw [sub_put _ _ _ _ hr hc, e]; rfl⟩
  rcases hp with rfl | rfl
  · exact key
  · intro p hp
    rcases List.mem_append.1 hp with hp | hp
    · exact key p hp
    · simp at hp
      subst hp
      exact ⟨i % 64, j % 64, Nat.mod_lt _ (by decide), Nat.mod_lt _ (by decide), by rw [sub_put _ _ _ _ (Nat.mod_lt _ (by decide)) (Nat.mod_lt _ (by decide))]; simp⟩
theorem or_pw (x c : Nat) (hx : x < 18446744073709551616) (hc : c < 64) : bits .or .u64 (x : Int) (IntKind.u64.wrap (2 ^ c)) = ((x ||| 2 ^ c : Nat) : Int) := by
  rw [wrap_pw hc, bits_or64 _ _ hx (pw_lt hc)]
  rfl
section
set_option maxHeartbeats 2000000
set_option maxRecDepth 100000
theorem qset_yes (h : Mx w B F side M) (i j : Nat) (hi : i < side) (hj : j < side) :
    Calls Tryz.prog 48 #[.pointer (some ⟨B, 0, none⟩), .int .i64 i, .int .i64 j] w fun e w' => e = .returned (.tuple #[.bool (!M i j), .int .i64 0]) ∧ ∃ F', Mx w' B F' side (putM M i j) ∧ Mv w w' F F' := by
  obtain ⟨lv, root, nv, lvv, ns, A, ps, hq, hfull, rfl⟩ := h
  have G := qget_yes hq i j hi hj
  have hs2 := hq.side2
  have hw := hq.wide
  have wi : wrap64 ((i : Int) / 64) = ((i / 64 : Nat) : Int) := by rw [wrap64_of (by omega)]; omega
  have wj : wrap64 ((j : Int) / 64) = ((j / 64 : Nat) : Int) := by rw [wrap64_of (by omega)]; omega
  have h' := Lib.hid hq
  have hfull' := Lib.hid hfull
  clear hq hfull
  by_cases hm : M i j = true
  · rw [hm] at G ⊢
    go_enter Tryz.func48, Tryz.ntmps48
    go_wp2_with fail
    refine G.mono ?_
    rintro e w' ⟨rfl, hf⟩
    go_wp2_with fail
    go_ret2
    exact ⟨rfl, Qf B nv lvv, Mx.congr ⟨lv, root, nv, lvv, ns, A, ps, h'.out.still hf, hfull'.out, rfl⟩ (putM_same hm), Mv.still hf⟩
  · have hm' : M i j = false := by simpa using hm
    rw [hm'] at G ⊢
    have GR : ∀ W, Far (fun _ => False) w W → _ := fun W hf => grow_any (h'.out.still hf) (i / 64) (j / 64) (by omega) (by omega)
    go_enter Tryz.func48, Tryz.ntmps48
    go_wp2_with fail
    refine G.mono ?_
    rintro e w1 ⟨rfl, hf⟩
    have GR1 := GR w1 hf
    clear GR G
    go_wp2_with fail
    refine GR1.mono ?_
    rintro e w2 ⟨root', nv', lvv', ns', A', ps', rfl, hn, hq2, hfo, hf2, hps⟩
    have hfu := Lib.hid (full_put (i := i) (j := j) hfull'.out (hps.imp id And.left))
    obtain ⟨g, cap, rfl, hlt, hpp, hcell, _⟩ := hq2.leafAt hn
    have hmv : Mv w w2 (Qf B nv lvv) (Qf B nv' (.slice (some ⟨g, 0, none⟩) ps'.length cap)) := ⟨far_upto (hf.mono fun _ _ h => h.elim) hf2 (fun k h _ => h), fun k hk => (hfo k hk).imp id fun h => Nat.le_trans hf.size h⟩
    have p4 : w2.cell? ⟨B, 4, none⟩ = some (.slice (some ⟨g, 0, none⟩) ps'.length cap) := hq2.box.cell 4
    have hset := Lib.hid (hq2.setCell hi hj hn rfl)
    have hfrz : w2.frozen? ⟨g, (A' 0 (i / 64) (j / 64) - 1) * 64 + i % 64, none⟩ = false := hq2.leaves.frozenAt _
    have hc := hcell (i % 64) (Nat.mod_lt _ (by decide))
    have hmany := hq2.many
    have hmv' := Lib.hid hmv
    obtain ⟨n, hN⟩ : ∃ n, A' 0 (i / 64) (j / 64) = n := ⟨_, rfl⟩
    rw [hN] at hlt hn hc hset hfrz ⊢
    obtain ⟨x, hX⟩ : ∃ x, blk (sub M (i / 64) (j / 64)) (i % 64) = x := ⟨_, rfl⟩
    have hxw : x < 18446744073709551616 := hX ▸ blk_wf _ _ (Nat.mod_lt _ (by decide))
    rw [hX] at hc hset
    have hx1 : IntKind.i64.wrap ((n : Int) - 1) = ((n - 1 : Nat) : Int) := by rw [IntKind.wrap_i64]; omega
    have hor := or_pw x (j % 64) hxw (Nat.mod_lt _ (by decide))
    clear hq2 hfo hf2 hps hcell hmv hX hN GR1 hpp
    go_wp2_with fail
    obtain ⟨r, hr⟩ : ∃ r, i % 64 = r := ⟨_, rfl⟩
    obtain ⟨c, hcc⟩ : ∃ c, j % 64 = c := ⟨_, rfl⟩
    have hr64 : r < 64 := by omega
    have hri : (r : Int) < 64 := by omega
    have hti : (i : Int).tmod 64 = (r : Int) := by rw [Int.tmod_eq_emod_of_nonneg (by omega)]; omega
    have htj : (j : Int).tmod 64 = (c : Int) := by rw [Int.tmod_eq_emod_of_nonneg (by omega)]; omega
    rw [hr] at hset hc hfrz
    rw [hcc] at hor hset
    have hc64 : c < 64 := by omega
    have hmin : min c 64 = c := Nat.min_eq_left (by omega)
    clear hr hcc
    go_still_tail 17, (by kernel_rfl)
    go_wp2_with fail
    go_ret2
    simp only [hmin, hor]
    refine ⟨rfl, _, Mx.still (w := w2.setCell ⟨g, (n - 1) * 64 + r, none⟩ (.int .u64 ((x ||| 2 ^ c : Nat)))) ⟨lv, root', nv', _, ns', A', ps', hset.out, hfu.out, rfl⟩ ((Far.refl _ _).drew), ?_⟩
    have hm := hmv'.out
    exact ⟨(hm.far.set _ _ (fun hl => (hm.more g (.inr (.inr rfl))).resolve_right (by simp at hl; omega))).drew, hm.more⟩
end
end
end Go.Proofs.YtjolkhiggcmoiaaGreatDoor
/-! ## QBlock: Blocks of a matrix: which there are, how wide they are, what stands in them. -/
namespace Go.Proofs.YtjolkhiggcmoiaaGreatDoor
open Go.RowKit
set_option linter.unusedVariables false
set_option linter.unusedSimpArgs false
section
variable {w w' : World} {B side lv root : Nat} {nv lvv : Value} {ns : List (Nat → Nat)} {A : Nat → Nat → Nat → Nat} {ps : List (Nat × Nat)} {F : Nat → Prop} {M : Nat → Nat → Bool}
theorem rw_range {w : World} {g o : Nat} {f : Nat → Nat} (h : w.rangeAt g o (Rw f).toList) : (loadVar 108 ⟨g, o, none⟩).run Tryz.prog w = .ok (.agg (Rw f)) w := by
  have := run_loadVar_mid (P := Tryz.prog) w g o 108 (Rw f).toList _ h blockType rfl (by rw [blockSize]; simp [Rw_size])
  simpa using this
theorem far_row {F : Nat → Prop} {a w : World} (h : Far F a w) {g : Nat} (hg : g < a.heap.size → F g) (Y : Array Value) : Far F a (w.setRow g Y) :=
  h.trans (G := fun k => k = g) ⟨rfl, rfl, rfl, by rw [size_setRow]; exact Nat.le_refl _, fun k _ hne => setRow_other w g k Y hne⟩ (fun k hk e => by subst e; exact hg hk)
/-- A whole leaf out of the arena. -/
theorem wpList_lf {ops : Array Oper} {rest : List Oper} {o : Oper} {a : Act} {w : World} {Q : Exit → Act → World → Prop} (hgd : Region.wanted o (yielded ops a.tmps) = true) (x : Operand) (ho : o.op = .load 108 x)
    (g k : Nat) (hx : a.eval x = .pointer (some ⟨g, k, none⟩)) {f : Nat → Nat} (hg : w.rangeAt g k (Rw f).toList)
    (h : wpList Tryz.prog ops Q rest (a.put o.dst (.agg (Rw f))) w) : wpList Tryz.prog ops Q (o :: rest) a w :=
  wpList_want hgd fun _ hK => by
    unfold Oper.wp execOp
    simp only [ho, hx, Instr.loadAt, Instr.sureAddr, Sem.run_bind, Sem.run_pure, Result.andThen_ok, rw_range hg]
    rw [Oper.upon_value]
    exact hK _ _ h
section
set_option maxHeartbeats 2000000
set_option maxRecDepth 100000
theorem qhas_yes (h : Qd w B side lv root nv lvv ns A ps M) (i j : Nat) (hi : i < lns side) (hj : j < lns side) :
    Calls Tryz.prog 142 #[.pointer (some ⟨B, 0, none⟩), .int .i64 i, .int .i64 j] w fun e w' => e = .returned (.bool true) ∧ w = w' := by
  have L := qlines_any h
  have d1 : decide ((i : Int) < ((lns side : Nat) : Int)) = true := by rw [decide_eq_true_eq]; omega
  have d2 : decide ((j : Int) < ((lns side : Nat) : Int)) = true := by rw [decide_eq_true_eq]; omega
  have d3 : (i : Int) < ((lns side : Nat) : Int) := by omega
  have d4 : (j : Int) < ((lns side : Nat) : Int) := by omega
  clear h
  go_enter Tryz.func142, Tryz.ntmps142
  go_wp2_with (go_at_call 58; refine L.mono ?_; rintro e w' ⟨rfl, rfl⟩)
  go_ret
  exact ⟨rfl, rfl⟩
theorem qhas_no (h : Qd w B side lv root nv lvv ns A ps M) (i j : Int) (hij : i < 0 ∨ ((lns side : Nat) : Int) ≤ i ∨ j < 0 ∨ ((lns side : Nat) : Int) ≤ j) :
    Calls Tryz.prog 142 #[.pointer (some ⟨B, 0, none⟩), .int .i64 i, .int .i64 j] w fun e w' => e = .returned (.bool false) ∧ w = w' := by
  have L := qlines_any h
  clear h
  by_cases h1 : i < 0
  · have d1 : decide (0 ≤ i) = false := by rw [decide_eq_false_iff_not]; omega
    have d2 : ¬ (0 ≤ i) := by omega
    go_enter Tryz.func142, Tryz.ntmps142
    go_wp2_with (go_at_call 58; refine L.mono ?_; rintro e w' ⟨rfl, rfl⟩)
    go_ret
    exact ⟨rfl, rfl⟩
  · obtain ⟨i, rfl⟩ : ∃ k : Nat, i = (k : Int) := ⟨i.toNat, by omega⟩
    by_cases h2 : ((lns side : Nat) : Int) ≤ (i : Int)
    · have d1 : decide ((i : Int) < ((lns side : Nat) : Int)) = false := by rw [decide_eq_false_iff_not]; omega
      have d2 : ¬ ((i : Int) < ((lns side : Nat) : Int)) := by omega
      go_enter Tryz.func142, Tryz.ntmps142
      go_wp2_with (go_at_call 58; refine L.mono ?_; rintro e w' ⟨rfl, rfl⟩)
      go_ret
      exact ⟨rfl, rfl⟩
    · have d1 : decide ((i : Int) < ((lns side : Nat) : Int)) = true := by rw [decide_eq_true_eq]; omega
      have d2 : (i : Int) < ((lns side : Nat) : Int) := by omega
      by_cases h3 : j < 0
      · have d3 : decide (0 ≤ j) = false := by rw [decide_eq_false_iff_not]; omega
        have d4 : ¬ (0 ≤ j) := by omega
        go_enter Tryz.func142, Tryz.ntmps142
        go_wp2_with (go_at_call 58; refine L.mono ?_; rintro e w' ⟨rfl, rfl⟩)
        go_ret
        exact ⟨rfl, rfl⟩
      · obtain ⟨j, rfl⟩ : ∃ k : Nat, j = (k : Int) := ⟨j.toNat, by omega⟩
        have d3 : decide ((j : Int) < ((lns side : Nat) : Int)) = false := by rw [decide_eq_false_iff_not]; omega
        have d4 : ¬ ((j : Int) < ((lns side : Nat) : Int)) := by omega
        have d5 : ¬ (j < lns side) := by omega
        go_enter Tryz.func142, Tryz.ntmps142
        go_wp2_with (go_at_call 58; refine L.mono ?_; rintro e w' ⟨rfl, rfl⟩)
        go_ret
        exact ⟨rfl, rfl⟩
/-- How many rows a block has within the side. -/
def wid (side i : Nat) : Nat := min 64 (side - 64 * i)
theorem qwidth_any (h : Qd w B side lv root nv lvv ns A ps M) (i : Nat) (hi : i < lns side) :
    Calls Tryz.prog 144 #[.pointer (some ⟨B, 0, none⟩), .int .i64 i] w fun e w' => e = .returned (.int .i64 (wid side i : Nat)) ∧ w = w' := by
  have p0 : w.cell? ⟨B, 0, none⟩ = some (.int .i64 (side : Nat)) := h.box.cell 0
  have hs := h.side2
  unfold lns at hi
  have e1 : IntKind.i64.wrap (64 * (i : Int)) = ((64 * i : Nat) : Int) := by rw [IntKind.wrap_i64]; omega
  have e2 : IntKind.i64.wrap ((side : Int) - ((64 * i : Nat) : Int)) = ((side - 64 * i : Nat) : Int) := by rw [IntKind.wrap_i64]; omega
  have e3 : min 64 ((side - 64 * i : Nat) : Int) = ((wid side i : Nat) : Int) := by unfold wid; omega
  clear h
  go_enter Tryz.func144, Tryz.ntmps144
  go_wp2_with fail
  all_goals go_ret
  all_goals exact ⟨congrArg (fun x => Ending.returned (.int .i64 x)) (by unfold wid; omega), rfl⟩
/-- The block at a place. -/
theorem qblock_any (h : Qd w B side lv root nv lvv ns A ps M) (i j : Nat) (hi : i < 2 ^ lv) (hj : j < 2 ^ lv) :
    Calls Tryz.prog 115 #[.pointer (some ⟨B, 0, none⟩), .int .i64 i, .int .i64 j] w fun e w' => e = .returned (.agg (Rw (blk (sub M i j)))) ∧ Far (fun _ => False) w w' := by
  have hz : ∀ w, (zeroValue 108).run Tryz.prog w = .ok (.agg (Rw fun _ => 0)) w := (zero_of_info blockZero).1
  have FI := fun W (hf : Far (fun _ => False) w W) => find_any (h.still hf) i j hi hj
  have h' := Lib.hid h
  clear h
  go_enter Tryz.func115, Tryz.ntmps115
  go_wp2_with fail
  refine (FI _ ((Far.refl _ w).alloc _)).mono ?_
  rintro e w1 ⟨rfl, hf⟩
  have hf1 : Far (fun _ => False) w w1 := ((Far.refl _ w).alloc _).then hf
  have d0 : Hold w1 w.heap.size (Rw fun _ => 0) := (hf.block _ (by simp) id).trans (Hold.new rfl)
  have h2 := Lib.hid (h'.out.still hf1)
  clear h' FI hf
  by_cases hn : A 0 i j = 0
  · rw [hn]
    have e0 : Rw (fun _ => 0) = Rw (blk (sub M i j)) := Rw_blk Wf.zero fun r c hr hc => by
      rw [show sub M i j r c = false from h2.out.bare i j hn r c hr hc]; simp
    go_wp2_with (first | (apply wpList_bd rfl rfl) | (apply wpList_st rfl _ _ rfl _ rfl _ rfl; focus (assumption)))
    exact ret_blk rfl w.heap.size rfl (Hold.row d0 _) rfl ⟨by rw [e0], far_row hf1 (fun h => absurd h (Nat.lt_irrefl _)) _⟩
  · obtain ⟨g, cap, rfl, hlt, _, _, hr, _⟩ := h2.out.leafAt hn
    have p4 : w1.cell? ⟨B, 4, none⟩ = some (.slice (some ⟨g, 0, none⟩) ps.length cap) := h2.out.box.cell 4
    obtain ⟨n, hN⟩ : ∃ n, A 0 i j = n := ⟨_, rfl⟩
    rw [hN] at hlt hn hr ⊢
    have hr' : w1.rangeAt g ((n - 1) * 64) (Rw (blk (sub M i j))).toList := hr
    have hx1 : IntKind.i64.wrap ((n : Int) - 1) = ((n - 1 : Nat) : Int) := by rw [IntKind.wrap_i64]; have := h2.out.many; omega
    have hn0 : ((n : Int) != 0) = true := by simp; omega
    clear h2 hN hr
    go_wp2_with (first | (refine wpList_lf rfl _ rfl _ _ rfl hr' ?_) | (apply wpList_st rfl _ _ rfl _ rfl _ rfl; focus (assumption)))
    exact ret_blk rfl w.heap.size rfl (Hold.row d0 _) rfl ⟨rfl, far_row hf1 (fun h => absurd h (Nat.lt_irrefl _)) _⟩
end
end
end Go.Proofs.YtjolkhiggcmoiaaGreatDoor
