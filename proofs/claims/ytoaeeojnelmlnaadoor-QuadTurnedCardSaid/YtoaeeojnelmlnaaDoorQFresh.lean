/-
  A part more in the arenas.
-/
import Derived.Test.YtoaeeojnelmlnaaDoorQSmalls
import Derived.Great.BuildSlice
namespace Go.Proofs.YtoaeeojnelmlnaaDoor
open Go.RowKit
set_option linter.unusedVariables false
set_option linter.unusedSimpArgs false
theorem set_grown_q (w : World) (p : Addr) (u : Value) : w.grownBy (w.setCell p u) (some p.block) := ⟨rfl, rfl, rfl, by simp [World.setCell], fun k _ hne => RowKit.Below.heap_setCell _ _ _ _ (fun e => hne (by rw [e]))⟩
theorem node_info : (Tryd.prog.info? 162).map (fun i => (i.zero, i.size, i.bytes)) = some (some (.agg #[.int .i64 0, .int .i64 0, .int .i64 0, .int .i64 0]), 4, 32) := by kernel_rfl
theorem leaf_info : (Tryd.prog.info? 97).map (fun i => (i.zero, i.size, i.bytes)) = some (some (.agg (Rw fun _ => 0)), 64, 512) := by kernel_rfl
/-- A list of one element, many cells wide. -/
theorem fill_row (cs base : Array Value) (n : Nat) (hn : 0 < n) (h1 : cs.size = n) (h2 : base.size = n) : Instr.fill (fun i => some (i * n, n)) base [(0, Value.agg cs)] = some cs := by
  have := Great.fill_whole (s := n) hn [Value.agg cs] base (by intro v hv; simp at hv; subst hv; exact h1) (by simp [h2])
  have e : (Value.agg cs).cells = cs := rfl
  simpa [e] using this
theorem wpList_mk1 {P : Program} {ops : Array Oper} {rest : List Oper} {o : Oper} {a : Act} {w : World} {Q : Exit → Act → World → Prop} (hg : o.guard = none) (t e : TypeId) (x : Operand) (ho : o.op = .buildSlice t 1 #[(0, x)])
    (cs : Array Value) (n : Nat) (hx : a.eval x = .agg cs) (hc : cs.size = n) (ie : TypeInfo) (z : Value) (hu : P.underlying t = some (.slice e)) (hie : P.info? e = some ie) (hz : ie.zero = some z) (hsz : ie.size = n) (h0 : 0 < n) (hs : n ≤ 2 ^ 24)
    (h : wpList P ops Q rest (a.put o.dst (.slice (some ⟨w.heap.size, 0, none⟩) 1 1)) (w.alloc (.cells cs e))) : wpList P ops Q (o :: rest) a w :=
  wpList_buildSlice hg t e 1 _ ho cs ie z hu hie hz (by rw [hsz]; omega) (by rw [hsz]; omega) (by
    rw [hsz]
    simp only [List.map_toArray, List.map_cons, List.map_nil, hx]
    exact fill_row cs _ n h0 hc (by simp)) h
section
set_option maxHeartbeats 1000000
set_option maxRecDepth 100000
theorem fresh_leaf (w : World) (B : Nat) (a b c : Value) (sl nv : Value) (n : Nat) (xs : List Value) (hB : Bk w B 111 #[a, b, c, nv, sl]) (hS : w.ownsRow 0 97 64 sl n xs) (hn : n < 100000) :
    Calls Tryd.prog 117 #[.pointer (some ⟨B, 0, none⟩), .int .i64 0] w fun e w' => e = .returned (.int .i64 ((n + 1 : Nat) : Int)) ∧
      ∃ sl', Bk w' B 111 #[a, b, c, nv, sl'] ∧ w'.ownsRow 0 97 64 sl' (n + 1) (xs ++ (Rw fun _ => 0).toList) ∧ (sl'.ownBlock = sl.ownBlock ∨ ∃ g, sl'.ownBlock = some g ∧ w.heap.size ≤ g) ∧ Far (fun k => k = B ∨ sl.ownBlock = some k) w w' := by
  have p4 : w.cell? ⟨B, 4, none⟩ = some sl := hB.cell 4
  have hlt := hB.lt
  go_enter Tryd.func117, Tryd.ntmps117
  obtain ⟨i, hi, hz0, hz1, hz2⟩ := info_parts leaf_info
  have hlen := q_form hS
  obtain ⟨ao, cap, rfl⟩ := hlen
  have A1 := Lib.hid (hS.alloc (.cells (Rw fun _ => 0) 97))
  have A2 := Lib.hid (World.news_of_block (w := w.alloc (.cells (Rw fun _ => 0) 97)) (cs := Rw fun _ => 0) (t := 97) (fr := (0, 0)) (heap_alloc_new w _))
  have A3 : ∀ u ∈ (Rw fun _ => 0).toList, u.oneCell' = true := fun u hu => (Array.all_eq_true_iff_forall_mem.1 (Rw_one fun _ => 0)) u (by simpa using hu)
  have A4 : n + 1 ≤ maxLen := by unfold maxLen; omega
  have A5 : (n + 1) * 512 ≤ 140737488355328 := by omega
  have hl64 : (Rw fun _ => 0).toList.length = 1 * 64 := by simp [Rw_size]
  have hsB : (Value.slice ao n cap).ownBlock ≠ some B := fun e => q_row_ne hB hS (by decide) e
  have hB' := Lib.hid hB
  have hS' := Lib.hid hS
  clear hB hS
  go_wp2_with (first | (apply wpList_bd rfl rfl) | (refine wpList_mk1 rfl _ 97 _ rfl (Rw fun _ => 0) 64 rfl (Rw_size _) i _ Tryd.underlying109 hi hz0 hz1 (by decide) (by decide) ?_) | (at_builtin; refine wpList_append_lies _ rfl _ _ 109 rfl 0 97 i _ 64 512 Tryd.underlying109 hi hz0 hz1 hz2 (Rw_size _) (by decide) (.slice ao n cap) n _ rfl A1.out ⟨w.heap.size, 0, none⟩ 1 1 (Rw fun _ => 0).toList rfl hl64 A2.out A3 (by decide) A4 A5 (Nat.zero_le _) _ rfl ?_; intro g cap' w4 ho4 hg4 hat4 hl4; have hB4 := Lib.hid (qb_grown (Bk.alloc hB'.out _) hg4 (fun e => hsB e.symm)); have u0 := hB4.out.cell 4; have u1 := hB4.out.free 4; have ho4' := Lib.hid ho4; have hg4' := Lib.hid hg4; have hat4' := Lib.hid hat4; clear ho4 hg4 hat4 p4; simp at u0))
  go_ret
  have hH : (w.alloc (.cells (Rw fun _ => 0) 97)).heap.size = w.heap.size + 1 := by simp
  have hgB : g ≠ B := by
    rcases hat4'.out with h | h
    · intro e; rw [e] at h; exact hsB h
    · omega
  have hF4 : Far (fun k => k = B ∨ (Value.slice ao n cap).ownBlock = some k) w w4 := (((Far.refl _ w).alloc _).grown hg4'.out fun k _ e => .inr e)
  refine ⟨rfl, .slice (some ⟨g, 0, none⟩) (n + 1) cap', hB4.out.set 4 _, ?_, ?_, hF4.set _ _ (fun _ => .inl rfl)⟩
  · exact ho4'.out.kept (set_grown_q _ _ _) (.inr (by simp [Value.ownBlock]; exact hgB))
  · rcases hat4'.out with h | h
    · exact .inl (by rw [h]; rfl)
    · exact .inr ⟨g, rfl, by omega⟩
theorem fresh_node (w : World) (B : Nat) (a b c : Value) (sl lvv : Value) (n l : Nat) (xs : List Value) (hB : Bk w B 111 #[a, b, c, sl, lvv]) (hS : w.ownsRow 0 162 4 sl n xs) (hn : n < 100000) :
    Calls Tryd.prog 117 #[.pointer (some ⟨B, 0, none⟩), .int .i64 ((l + 1 : Nat) : Int)] w fun e w' => e = .returned (.int .i64 ((n + 1 : Nat) : Int)) ∧
      ∃ sl', Bk w' B 111 #[a, b, c, sl', lvv] ∧ w'.ownsRow 0 162 4 sl' (n + 1) (xs ++ [Value.int .i64 0, .int .i64 0, .int .i64 0, .int .i64 0]) ∧ (sl'.ownBlock = sl.ownBlock ∨ ∃ g, sl'.ownBlock = some g ∧ w.heap.size ≤ g) ∧ Far (fun k => k = B ∨ sl.ownBlock = some k) w w' := by
  have p4 : w.cell? ⟨B, 3, none⟩ = some sl := hB.cell 3
  have hlt := hB.lt
  go_enter Tryd.func117, Tryd.ntmps117
  obtain ⟨i, hi, hz0, hz1, hz2⟩ := info_parts node_info
  have hlen := q_form hS
  obtain ⟨ao, cap, rfl⟩ := hlen
  have A1 := Lib.hid (hS.alloc (.cells #[.int .i64 0, .int .i64 0, .int .i64 0, .int .i64 0] 162))
  have A2 := Lib.hid (World.news_of_block (w := w.alloc (.cells #[.int .i64 0, .int .i64 0, .int .i64 0, .int .i64 0] 162)) (cs := #[Value.int .i64 0, .int .i64 0, .int .i64 0, .int .i64 0]) (t := 162) (fr := (0, 0)) (heap_alloc_new w _))
  have A3 : ∀ u ∈ [Value.int .i64 0, .int .i64 0, .int .i64 0, .int .i64 0], u.oneCell' = true := by simp [Value.oneCell']
  have A4 : n + 1 ≤ maxLen := by unfold maxLen; omega
  have A5 : (n + 1) * 32 ≤ 140737488355328 := by omega
  have hl64 : [Value.int .i64 0, .int .i64 0, .int .i64 0, .int .i64 0].length = 1 * 4 := rfl
  have hsB : (Value.slice ao n cap).ownBlock ≠ some B := fun e => q_row_ne hB hS (by decide) e
  have hB' := Lib.hid hB
  have hS' := Lib.hid hS
  clear hB hS
  go_wp2_with (at_builtin; refine wpList_append_lies _ rfl _ _ 108 rfl 0 162 i _ 4 32 Tryd.underlying108 hi hz0 hz1 hz2 rfl (by decide) (.slice ao n cap) n _ rfl A1.out ⟨w.heap.size, 0, none⟩ 1 1 [Value.int .i64 0, .int .i64 0, .int .i64 0, .int .i64 0] rfl hl64 A2.out A3 (by decide) A4 A5 (Nat.zero_le _) _ rfl ?_; intro g cap' w4 ho4 hg4 hat4 hl4; have hB4 := Lib.hid (qb_grown (Bk.alloc hB'.out _) hg4 (fun e => hsB e.symm)); have u0 := hB4.out.cell 3; have u1 := hB4.out.free 3; have ho4' := Lib.hid ho4; have hg4' := Lib.hid hg4; have hat4' := Lib.hid hat4; clear ho4 hg4 hat4 p4; simp at u0)
  go_ret
  have hH : (w.alloc (.cells #[.int .i64 0, .int .i64 0, .int .i64 0, .int .i64 0] 162)).heap.size = w.heap.size + 1 := by simp
  have hgB : g ≠ B := by
    rcases hat4'.out with h | h
    · intro e; rw [e] at h; exact hsB h
    · omega
  have hF4 : Far (fun k => k = B ∨ (Value.slice ao n cap).ownBlock = some k) w w4 := (((Far.refl _ w).alloc _).grown hg4'.out fun k _ e => .inr e)
  refine ⟨rfl, .slice (some ⟨g, 0, none⟩) (n + 1) cap', hB4.out.set 3 _, ?_, ?_, hF4.set _ _ (fun _ => .inl rfl)⟩
  · exact ho4'.out.kept (set_grown_q _ _ _) (.inr (by simp [Value.ownBlock]; exact hgB))
  · rcases hat4'.out with h | h
    · exact .inl (by rw [h]; rfl)
    · exact .inr ⟨g, rfl, by omega⟩
end
end Go.Proofs.YtoaeeojnelmlnaaDoor
