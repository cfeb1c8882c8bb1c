/-
  Copy, Turn, Less.
-/
import Derived.Test.YtjolkhiggcmoiaaGreatDoorQLeaf
import Derived.Test.YtjolkhiggcmoiaaGreatDoorQTm
namespace Go.Proofs.YtjolkhiggcmoiaaGreatDoor
open Go.RowKit
set_option linter.unusedVariables false
set_option linter.unusedSimpArgs false
/-- A leaf with its place is handed back out of its variable. -/
theorem ret_sp {fn : Func} {p : Tmp} {R : Ending → World → Prop} {a : Act} {w : World} {i j : Nat} {f : Nat → Nat} (h : fn.results = #[.cell p 131]) (g : Nat) (hp : a.tmps.getD p undef = .pointer (some ⟨g, 0, none⟩))
    (hg : SpB w g (spt i j f)) (hd : a.defers = []) (hR : R (.returned (.agg (spt i j f))) w) : bodyPost Tryz.prog fn R .ret a w := by
  exact bodyPost_ret (results_cell_row h a.tmps w g 131 (spt i j f) (0, 0) _ hp hg Tryz.underlying131 rfl (by rw [spotSize, spt_size])) hd hR
/-- The build of a leaf with its place, whichever comes next. -/
theorem ybuild {ops : Array Oper} {S : World → Prop} {o : Oper} {a : Act} (hw : Region.wanted o (yielded ops a.tmps) = true) (x y : Operand) (ho : o.op = .build 131 #[(0, x), (1, y)]) (i j : Nat) (f : Nat → Nat)
    (hx : a.eval x = .agg #[.int .i64 (i : Nat), .int .i64 (j : Nat)]) (hy : a.eval y = .agg (Rw f)) : YieldsIf Tryz.prog ops S o (.agg (spt i j f)) a :=
  .inl ⟨hw, fun w hS => by
    have hr := run_build (P := Tryz.prog) w 131 #[(0, .agg #[.int .i64 (i : Nat), .int .i64 (j : Nat)]), (1, .agg (Rw f))] (spt i j f) (spot_built i j f)
    unfold execOp
    simp only [ho, List.map_toArray, List.map_cons, List.map_nil, hx, hy, Sem.run_bind, hr, Result.andThen_ok]
    rfl⟩
/-- Into a leaf's variable, whichever comes next. -/
theorem hw_spst {ops : Array Oper} {o : Oper} {a : Act} {w : World} {K : Act → World → Prop} {Q : Exit → Act → World → Prop} (hw : Region.wanted o (yielded ops a.tmps) = true) (x y : Operand) (ho : o.op = .store 131 x y)
    (g : Nat) (hx : a.eval x = .pointer (some ⟨g, 0, none⟩)) {X : Array Value} {i j : Nat} {f : Nat → Nat} (hy : a.eval y = .agg (spt i j f)) (hg : SpB w g X) (hX : X.size = 66) (hk : K (a.put o.dst undef) (w.setRow g (spt i j f))) :
    if Region.wanted o (yielded ops a.tmps) = true then Oper.wp Tryz.prog o a w K Q else K (a.put o.dst undef) w := by
  rw [if_pos hw]
  exact wp_store_row 131 x y ho g (spt i j f) hx hy 131 X hg (by rw [spotSize, spt_size]) (by rw [hX, spt_size]) (spt_one i j f) hk
section
variable {w w' : World} {B side : Nat} {F : Nat → Prop} {M : Nat → Nat → Bool}
section
set_option maxHeartbeats 4000000
set_option maxRecDepth 100000
theorem copy1_any (i j : Nat) (f : Nat → Nat) (w : World) : Calls Tryz.prog 78 #[.agg (spt i j f)] w fun e w' => e = .returned (.agg (spt i j f)) ∧ Far (fun _ => False) w w' := by
  have hzs : ∀ w, (zeroValue 131).run Tryz.prog w = .ok (.agg (spt 0 0 fun _ => 0)) w := (zero_of_info spotZero).1
  have hb0 : SpB ((w.alloc (.cells (spt i j f) 131)).alloc (.cells (spt 0 0 fun _ => 0) 131)) w.heap.size (spt i j f) := (Bk.new rfl).alloc _
  have hb1 : SpB ((w.alloc (.cells (spt i j f) 131)).alloc (.cells (spt 0 0 fun _ => 0) 131)) (w.heap.size + 1) (spt 0 0 fun _ => 0) := Bk.new (by simp)
  have hf : Far (fun _ => False) w ((w.alloc (.cells (spt i j f) 131)).alloc (.cells (spt 0 0 fun _ => 0) 131)) := ((Far.refl _ w).alloc _).alloc _
  go_enter Tryz.func78, Tryz.ntmps78
  go_wp2_with (first | (refine wpList_sp rfl _ rfl _ _ rfl (SpB.range hb0) ?_) | (refine wpList_spst rfl _ _ rfl _ rfl rfl hb1 (spt_size _ _ _) ?_))
  exact ret_sp rfl (w.heap.size + 1) rfl (SpB.row hb1 _) rfl ⟨rfl, far_row hf (fun h => absurd h (by omega)) _⟩
theorem turn1_any (i j : Nat) (f : Nat → Nat) (hf : Wf f) (w : World) : Calls Tryz.prog 79 #[.agg (spt i j f)] w fun e w' => e = .returned (.agg (spt j i (blk fun r c => bt f c r))) ∧ Far (fun _ => False) w w' := by
  have hzs : ∀ w, (zeroValue 131).run Tryz.prog w = .ok (.agg (spt 0 0 fun _ => 0)) w := (zero_of_info spotZero).1
  have hb0 : SpB ((w.alloc (.cells (spt i j f) 131)).alloc (.cells (spt 0 0 fun _ => 0) 131)) w.heap.size (spt i j f) := (Bk.new rfl).alloc _
  have hb1 : SpB ((w.alloc (.cells (spt i j f) 131)).alloc (.cells (spt 0 0 fun _ => 0) 131)) (w.heap.size + 1) (spt 0 0 fun _ => 0) := Bk.new (by simp)
  have hfw : Far (fun _ => False) w ((w.alloc (.cells (spt i j f) 131)).alloc (.cells (spt 0 0 fun _ => 0) 131)) := ((Far.refl _ w).alloc _).alloc _
  go_enter Tryz.func79, Tryz.ntmps79
  go_upto_region 1 with fail
  obtain ⟨wa, hwa⟩ : ∃ wa, wa = (w.alloc (.cells (spt i j f) 131)).alloc (.cells (spt 0 0 fun _ => 0) 131) := ⟨_, rfl⟩
  obtain ⟨k0, hk0⟩ : ∃ k0, k0 = w.heap.size := ⟨_, rfl⟩
  rw [← hwa] at hb0 hb1 hfw ⊢
  rw [← hk0] at hb0 hb1 ⊢
  have hwa' := Lib.hid hwa
  have hk0' := Lib.hid hk0
  have TB := fun W => turn_blk f W hf
  clear hwa hk0
  refine wp_region_held_drew (S := fun w' => w'.cell? ⟨k0, 0, none⟩ = some (.int .i64 (i : Nat)) ∧ w'.cell? ⟨k0, 1, none⟩ = some (.int .i64 (j : Nat)) ∧ w'.rangeAt k0 2 (Rw f).toList ∧ (∃ X, SpB w' (k0 + 1) X ∧ X.size = 66) ∧ Far (fun _ => False) w w') (by kernel_rfl) ⟨(SpB.at hb0).1, (SpB.at hb0).2, SpB.leaf hb0, ⟨_, hb1, spt_size _ _ _⟩, hfw.drew⟩ fun hS => ?_
  generalize wa.drew = wd at *
  refine wpAnyH_take (i := 0) (v := ?v0t1) rfl (by kernel_rfl) (by kernel_rfl) (by kernel_rfl) (fun _ _ _ h => h) (Or.inl ⟨by rfl, ?y0t1⟩) (by assumption) ?r0t1
  case y0t1 => (intro w hSw; (try dsimp only at hSw); go_simp; (try with_reducible rfl))
  simp only [Act.put, List.setIfInBounds_toArray, List.set_cons_zero, List.set_cons_succ]
  refine wpAnyH_take (i := 1) (v := ?v1t2) rfl (by kernel_rfl) (by kernel_rfl) (by kernel_rfl) (fun _ _ _ h => h) (Or.inl ⟨by rfl, ?y1t2⟩) (by assumption) ?r1t2
  case y1t2 => (intro w hSw; (try dsimp only at hSw); go_simp; (try with_reducible rfl))
  simp only [Act.put, List.setIfInBounds_toArray, List.set_cons_zero, List.set_cons_succ]
  refine wpAnyH_take (i := 2) (v := ?v2t3) rfl (by kernel_rfl) (by kernel_rfl) (by kernel_rfl) (fun _ _ _ h => h) (Or.inl ⟨by rfl, ?y2t3⟩) (by assumption) ?r2t3
  case y2t3 => (intro w hSw; (try dsimp only at hSw); go_simp; (try with_reducible rfl))
  simp only [Act.put, List.setIfInBounds_toArray, List.set_cons_zero, List.set_cons_succ]
  refine wpAnyH_take (i := 3) (v := ?v3t4) rfl (by kernel_rfl) (by kernel_rfl) (by kernel_rfl) (fun _ _ _ h => h) (Or.inl ⟨by rfl, ?y3t4⟩) (by assumption) ?r3t4
  case y3t4 => (intro w hSw; (try dsimp only at hSw); go_simp; (try with_reducible rfl))
  simp only [Act.put, List.setIfInBounds_toArray, List.set_cons_zero, List.set_cons_succ]
  refine wpAnyH_take (i := 4) (v := ?v4t5) rfl (by kernel_rfl) (by kernel_rfl) (by kernel_rfl) (fun _ _ _ h => h) (Or.inl ⟨by rfl, ?y4t5⟩) (by assumption) ?r4t5
  case y4t5 => (intro w hSw; (try dsimp only at hSw); go_simp; (try with_reducible rfl))
  simp only [Act.put, List.setIfInBounds_toArray, List.set_cons_zero, List.set_cons_succ]
  refine wpAnyH_take (i := 5) (v := ?v5t6) rfl (by kernel_rfl) (by kernel_rfl) (by kernel_rfl) (fun _ _ _ h => h) (Or.inl ⟨by rfl, ?y5t6⟩) (by assumption) ?r5t6
  case y5t6 => (intro w hSw; (try dsimp only at hSw); go_simp; (try with_reducible rfl))
  simp only [Act.put, List.setIfInBounds_toArray, List.set_cons_zero, List.set_cons_succ]
  refine wpAnyH_take (i := 6) (v := ?v6t7) rfl (by kernel_rfl) (by kernel_rfl) (by kernel_rfl) (fun _ _ _ h => h) (Or.inl ⟨by rfl, ?y6t7⟩) (by assumption) ?r6t7
  case y6t7 => (intro w hSw; (try dsimp only at hSw); go_simp; (try with_reducible rfl))
  simp only [Act.put, List.setIfInBounds_toArray, List.set_cons_zero, List.set_cons_succ]
  refine wpAnyH_take (i := 7) (v := ?v7t8) rfl (by kernel_rfl) (by kernel_rfl) (by kernel_rfl) (fun _ _ _ h => h) (Or.inl ⟨by rfl, ?y7t8⟩) (by assumption) ?r7t8
  case y7t8 => (intro w hSw; (try dsimp only at hSw); go_simp; (try with_reducible rfl))
  simp only [Act.put, List.setIfInBounds_toArray, List.set_cons_zero, List.set_cons_succ]
  refine wpAnyH_take (i := 8) rfl (by kernel_rfl) (by kernel_rfl) (by kernel_rfl) (fun _ _ _ h => h) (ylf rfl _ rfl _ _ rfl fun w h => h.2.2.1) (by assumption) ?_
  simp only [Act.put, List.setIfInBounds_toArray, List.set_cons_zero, List.set_cons_succ]
  refine wpAnyH_ready (rs := [9]) (by kernel_rfl) (by decide) (AllReadyH.cons rfl (fun K' hK => ?_) AllReadyH.nil)
  refine hw_call _ _ _ _ rfl (by go_simp) (TB wd) fun w1 hb => ?_
  have hb' := below_far hb
  refine hK.out _ _ ⟨(hb'.cell (block_lt_of_cell hS.1)).trans hS.1, (hb'.cell (block_lt_of_cell hS.2.1)).trans hS.2.1, range_far hS.2.2.1 hb', ⟨_, hS.2.2.2.1.choose_spec.1.far' hb' id, hS.2.2.2.1.choose_spec.2⟩, hS.2.2.2.2.then hb'⟩ fun hS1 => ?_
  go_simp
  clear hK
  refine wpAnyH_take (i := 10) rfl (by kernel_rfl) (by kernel_rfl) (by kernel_rfl) (fun _ _ _ h => h) (ybuild rfl _ _ rfl j i _ rfl rfl) hS1 ?_
  simp only [Act.put, List.setIfInBounds_toArray, List.set_cons_zero, List.set_cons_succ]
  refine wpAnyH_ready (rs := [11]) (by kernel_rfl) (by decide) (AllReadyH.cons rfl (fun K' hK => ?_) AllReadyH.nil)
  obtain ⟨X, hX, hXs⟩ := hS1.2.2.2.1
  refine hw_spst rfl _ _ rfl _ rfl rfl hX hXs ?_
  have hr := row_far w1 (k0 + 1) (spt j i (blk fun r c => bt f c r))
  have hq := SpB.row hX (spt j i (blk fun r c => bt f c r))
  have hlow := hk0'.out
  have hl1 := block_lt_of_cell hS1.1
  refine hK.out _ _ ⟨(cell_eq (hr.block k0 hl1 (by omega))).trans hS1.1, (cell_eq (hr.block k0 hl1 (by omega))).trans hS1.2.1, range_far hS1.2.2.1 hr (by omega), ⟨_, hq, spt_size _ _ _⟩, hS1.2.2.2.2.trans hr (fun k hk (e : k = _) => by omega)⟩ fun hS2 => ?_
  refine wpAnyH_done (by kernel_rfl) ?_ _
  clear hlow
  go_simp
  go_wp2_with fail
  exact ret_sp rfl (k0 + 1) rfl hq rfl ⟨rfl, hS2.2.2.2.2⟩
theorem less1_any {Bo side : Nat} {Fo : Nat → Prop} {O : Nat → Nat → Bool} (i j : Nat) (f : Nat → Nat) (hf : Wf f) (w : World) (ho : Mx w Bo Fo side O) (hi : i < lns side) (hj : j < lns side) (kb : Nat) (hkb : Bk w kb 26 #[.pointer (some ⟨Bo, 0, none⟩)]) :
    Calls Tryz.prog 113 #[.agg (spt i j f), .pointer (some ⟨kb, 0, none⟩)] w fun e w' => e = .returned (.agg (spt i j fun k => less (f k) (blk (sub O i j) k))) ∧ Far (fun _ => False) w w' := by
  have hzs : ∀ w, (zeroValue 131).run Tryz.prog w = .ok (.agg (spt 0 0 fun _ => 0)) w := (zero_of_info spotZero).1
  have hb0 : SpB ((w.alloc (.cells (spt i j f) 131)).alloc (.cells (spt 0 0 fun _ => 0) 131)) w.heap.size (spt i j f) := (Bk.new rfl).alloc _
  have hb1 : SpB ((w.alloc (.cells (spt i j f) 131)).alloc (.cells (spt 0 0 fun _ => 0) 131)) (w.heap.size + 1) (spt 0 0 fun _ => 0) := Bk.new (by simp)
  have hfw : Far (fun _ => False) w ((w.alloc (.cells (spt i j f) 131)).alloc (.cells (spt 0 0 fun _ => 0) 131)) := ((Far.refl _ w).alloc _).alloc _
  have hkp : ((w.alloc (.cells (spt i j f) 131)).alloc (.cells (spt 0 0 fun _ => 0) 131)).cell? ⟨kb, 0, none⟩ = some (.pointer (some ⟨Bo, 0, none⟩)) := ((hkb.alloc _).alloc _).cell 0
  have hkl := hkb.lt
  go_enter Tryz.func113, Tryz.ntmps113
  go_upto_region 1 with fail
  obtain ⟨wa, hwa⟩ : ∃ wa, wa = (w.alloc (.cells (spt i j f) 131)).alloc (.cells (spt 0 0 fun _ => 0) 131) := ⟨_, rfl⟩
  obtain ⟨k0, hk0⟩ : ∃ k0, k0 = w.heap.size := ⟨_, rfl⟩
  rw [← hwa] at hb0 hb1 hfw hkp ⊢
  rw [← hk0] at hb0 hb1 hkl ⊢
  have hwa' := Lib.hid hwa
  have hk0' := Lib.hid hk0
  have BL : ∀ W, Far (fun _ => False) w W → Calls Tryz.prog 115 #[.pointer (some ⟨Bo, 0, none⟩), .int .i64 i, .int .i64 j] W fun e w' => e = .returned (.agg (Rw (blk (sub O i j)))) ∧ Far (fun _ => False) W w' := fun W h9 => by
    obtain ⟨lv, root, nv, lvv, ns, A, ps, hq, _, rfl⟩ := ho.still h9
    exact qblock_any hq i j (lns_lt hq.wide hi) (lns_lt hq.wide hj)
  have LB := fun W => less_any f (blk (sub O i j)) W hf (blk_wf _)
  clear hwa hk0
  refine wp_region_held_drew (S := fun w' => w'.cell? ⟨k0, 0, none⟩ = some (.int .i64 (i : Nat)) ∧ w'.cell? ⟨k0, 1, none⟩ = some (.int .i64 (j : Nat)) ∧ w'.rangeAt k0 2 (Rw f).toList ∧ (∃ X, SpB w' (k0 + 1) X ∧ X.size = 66) ∧ w'.cell? ⟨kb, 0, none⟩ = some (.pointer (some ⟨Bo, 0, none⟩)) ∧ Far (fun _ => False) w w') (by kernel_rfl) ⟨(SpB.at hb0).1, (SpB.at hb0).2, SpB.leaf hb0, ⟨_, hb1, spt_size _ _ _⟩, hkp, hfw.drew⟩ fun hS => ?_
  generalize wa.drew = wd at *
  refine wpAnyH_take (i := 0) (v := ?v0v1) rfl (by kernel_rfl) (by kernel_rfl) (by kernel_rfl) (fun _ _ _ h => h) (Or.inl ⟨by rfl, ?y0v1⟩) (by assumption) ?r0v1
  case y0v1 => (intro w hSw; (try dsimp only at hSw); go_simp; (try with_reducible rfl))
  simp only [Act.put, List.setIfInBounds_toArray, List.set_cons_zero, List.set_cons_succ]
  refine wpAnyH_take (i := 1) (v := ?v1v2) rfl (by kernel_rfl) (by kernel_rfl) (by kernel_rfl) (fun _ _ _ h => h) (Or.inl ⟨by rfl, ?y1v2⟩) (by assumption) ?r1v2
  case y1v2 => (intro w hSw; (try dsimp only at hSw); go_simp; (try with_reducible rfl))
  simp only [Act.put, List.setIfInBounds_toArray, List.set_cons_zero, List.set_cons_succ]
  refine wpAnyH_take (i := 2) (v := ?v2v3) rfl (by kernel_rfl) (by kernel_rfl) (by kernel_rfl) (fun _ _ _ h => h) (Or.inl ⟨by rfl, ?y2v3⟩) (by assumption) ?r2v3
  case y2v3 => (intro w hSw; (try dsimp only at hSw); go_simp; (try with_reducible rfl))
  simp only [Act.put, List.setIfInBounds_toArray, List.set_cons_zero, List.set_cons_succ]
  refine wpAnyH_take (i := 3) rfl (by kernel_rfl) (by kernel_rfl) (by kernel_rfl) (fun _ _ _ h => h) (ylf rfl _ rfl _ _ rfl fun w h => h.2.2.1) (by assumption) ?_
  simp only [Act.put, List.setIfInBounds_toArray, List.set_cons_zero, List.set_cons_succ]
  refine wpAnyH_take (i := 4) (v := ?v4v5) rfl (by kernel_rfl) (by kernel_rfl) (by kernel_rfl) (fun _ _ _ h => h) (Or.inl ⟨by rfl, ?y4v5⟩) (by assumption) ?r4v5
  case y4v5 => (intro w hSw; (try dsimp only at hSw); go_simp; (try with_reducible rfl))
  simp only [Act.put, List.setIfInBounds_toArray, List.set_cons_zero, List.set_cons_succ]
  refine wpAnyH_take (i := 5) (v := ?v5v6) rfl (by kernel_rfl) (by kernel_rfl) (by kernel_rfl) (fun _ _ _ h => h) (Or.inl ⟨by rfl, ?y5v6⟩) (by assumption) ?r5v6
  case y5v6 => (intro w hSw; (try dsimp only at hSw); go_simp; (try with_reducible rfl))
  simp only [Act.put, List.setIfInBounds_toArray, List.set_cons_zero, List.set_cons_succ]
  refine wpAnyH_take (i := 6) (v := ?v6v7) rfl (by kernel_rfl) (by kernel_rfl) (by kernel_rfl) (fun _ _ _ h => h) (Or.inl ⟨by rfl, ?y6v7⟩) (by assumption) ?r6v7
  case y6v7 => (intro w hSw; (try dsimp only at hSw); go_simp; (try with_reducible rfl))
  simp only [Act.put, List.setIfInBounds_toArray, List.set_cons_zero, List.set_cons_succ]
  refine wpAnyH_take (i := 7) (v := ?v7v8) rfl (by kernel_rfl) (by kernel_rfl) (by kernel_rfl) (fun _ _ _ h => h) (Or.inl ⟨by rfl, ?y7v8⟩) (by assumption) ?r7v8
  case y7v8 => (intro w hSw; (try dsimp only at hSw); go_simp; (try with_reducible rfl))
  simp only [Act.put, List.setIfInBounds_toArray, List.set_cons_zero, List.set_cons_succ]
  refine wpAnyH_take (i := 8) (v := ?v8v9) rfl (by kernel_rfl) (by kernel_rfl) (by kernel_rfl) (fun _ _ _ h => h) (Or.inl ⟨by rfl, ?y8v9⟩) (by assumption) ?r8v9
  case y8v9 => (intro w hSw; (try dsimp only at hSw); go_simp; (try with_reducible rfl))
  simp only [Act.put, List.setIfInBounds_toArray, List.set_cons_zero, List.set_cons_succ]
  refine wpAnyH_take (i := 9) (v := ?v9v10) rfl (by kernel_rfl) (by kernel_rfl) (by kernel_rfl) (fun _ _ _ h => h) (Or.inl ⟨by rfl, ?y9v10⟩) (by assumption) ?r9v10
  case y9v10 => (intro w hSw; (try dsimp only at hSw); go_simp; (try with_reducible rfl))
  simp only [Act.put, List.setIfInBounds_toArray, List.set_cons_zero, List.set_cons_succ]
  refine wpAnyH_take (i := 10) (v := ?v10v11) rfl (by kernel_rfl) (by kernel_rfl) (by kernel_rfl) (fun _ _ _ h => h) (Or.inl ⟨by rfl, ?y10v11⟩) (by assumption) ?r10v11
  case y10v11 => (intro w hSw; (try dsimp only at hSw); go_simp; (try with_reducible rfl))
  simp only [Act.put, List.setIfInBounds_toArray, List.set_cons_zero, List.set_cons_succ]
  refine wpAnyH_ready (rs := [11]) (by kernel_rfl) (by decide) (AllReadyH.cons rfl (fun K' hK => ?_) AllReadyH.nil)
  refine hw_call _ _ _ _ rfl (by go_simp) (BL wd hS.2.2.2.2.2) fun w1 hb' => ?_
  refine hK.out _ _ ⟨(hb'.cell (block_lt_of_cell hS.1)).trans hS.1, (hb'.cell (block_lt_of_cell hS.2.1)).trans hS.2.1, range_far hS.2.2.1 hb', ⟨_, hS.2.2.2.1.choose_spec.1.far' hb' id, hS.2.2.2.1.choose_spec.2⟩, (hb'.cell (block_lt_of_cell hS.2.2.2.2.1)).trans hS.2.2.2.2.1, hS.2.2.2.2.2.then hb'⟩ fun hS1 => ?_
  go_simp
  clear hK
  refine wpAnyH_ready (rs := [12]) (by kernel_rfl) (by decide) (AllReadyH.cons rfl (fun K' hK => ?_) AllReadyH.nil)
  refine hw_call _ _ _ _ rfl (by go_simp) (LB w1) fun w2 hb2 => ?_
  have hb3 := below_far hb2
  refine hK.out _ _ ⟨(hb3.cell (block_lt_of_cell hS1.1)).trans hS1.1, (hb3.cell (block_lt_of_cell hS1.2.1)).trans hS1.2.1, range_far hS1.2.2.1 hb3, ⟨_, hS1.2.2.2.1.choose_spec.1.far' hb3 id, hS1.2.2.2.1.choose_spec.2⟩, (hb3.cell (block_lt_of_cell hS1.2.2.2.2.1)).trans hS1.2.2.2.2.1, hS1.2.2.2.2.2.then hb3⟩ fun hS2 => ?_
  go_simp
  clear hK
  refine wpAnyH_take (i := 13) rfl (by kernel_rfl) (by kernel_rfl) (by kernel_rfl) (fun _ _ _ h => h) (ybuild rfl _ _ rfl i j _ rfl rfl) hS2 ?_
  simp only [Act.put, List.setIfInBounds_toArray, List.set_cons_zero, List.set_cons_succ]
  refine wpAnyH_ready (rs := [14]) (by kernel_rfl) (by decide) (AllReadyH.cons rfl (fun K' hK => ?_) AllReadyH.nil)
  obtain ⟨X, hX, hXs⟩ := hS2.2.2.2.1
  refine hw_spst rfl _ _ rfl _ rfl rfl hX hXs ?_
  have hr := row_far w2 (k0 + 1) (spt i j fun k => less (f k) (blk (sub O i j) k))
  have hq := SpB.row hX (spt i j fun k => less (f k) (blk (sub O i j) k))
  have hlow := hk0'.out
  have hl1 := block_lt_of_cell hS2.1
  have hl2 := block_lt_of_cell hS2.2.2.2.2.1
  refine hK.out _ _ ⟨(cell_eq (hr.block k0 hl1 (by omega))).trans hS2.1, (cell_eq (hr.block k0 hl1 (by omega))).trans hS2.2.1, range_far hS2.2.2.1 hr (by omega), ⟨_, hq, spt_size _ _ _⟩, (cell_eq (hr.block kb hl2 (by omega))).trans hS2.2.2.2.2.1, hS2.2.2.2.2.2.trans hr (fun k hk (e : k = _) => by omega)⟩ fun hS3 => ?_
  refine wpAnyH_done (by kernel_rfl) ?_ _
  clear hlow
  go_simp
  go_wp2_with fail
  exact ret_sp rfl (k0 + 1) rfl hq rfl ⟨rfl, hS3.2.2.2.2.2⟩

end
end
end Go.Proofs.YtjolkhiggcmoiaaGreatDoor
