/-
  put: a block's cells more.
-/
import Derived.Test.YtjolkhiggcmoiaaGreatDoorQGrows
import Derived.Test.YtjolkhiggcmoiaaGreatDoorQBase
namespace Go.Proofs.YtjolkhiggcmoiaaGreatDoor
open Go.RowKit
set_option linter.unusedVariables false
set_option linter.unusedSimpArgs false
/-- With a block's cells. -/
def orM (M : Nat → Nat → Bool) (i j : Nat) (f : Nat → Nat) : Nat → Nat → Bool := fun r c => M r c || (decide (r / 64 = i) && decide (c / 64 = j) && bt f (r % 64) (c % 64))
/-- Has the block a cell that the matrix has not? -/
def newB (M : Nat → Nat → Bool) (i j : Nat) (f : Nat → Nat) : Bool := (List.range 64).any fun r => (List.range 64).any fun c => bt f r c && !sub M i j r c
theorem newB_iff {M : Nat → Nat → Bool} {i j : Nat} {f : Nat → Nat} : newB M i j f = true ↔ ∃ r c, r < 64 ∧ c < 64 ∧ bt f r c = true ∧ sub M i j r c = false := by
  unfold newB
  simp only [List.any_eq_true, List.mem_range, Bool.and_eq_true, Bool.not_eq_true']
  constructor
  · rintro ⟨r, hr, c, hc, h⟩; exact ⟨r, c, hr, hc, h⟩
  · rintro ⟨r, c, hr, hc, h⟩; exact ⟨r, hr, c, hc, h⟩
theorem sub_or {M : Nat → Nat → Bool} {i j : Nat} {f : Nat → Nat} (a b r c : Nat) (hr : r < 64) (hc : c < 64) : sub (orM M i j f) a b r c = (sub M a b r c || (decide (a = i) && decide (b = j) && bt f r c)) := by
  unfold sub orM
  have h1 : (64 * a + r) / 64 = a := by omega
  have h2 : (64 * b + c) / 64 = b := by omega
  have h3 : (64 * a + r) % 64 = r := by omega
  have h4 : (64 * b + c) % 64 = c := by omega
  rw [h1, h2, h3, h4]
theorem orM_same {M : Nat → Nat → Bool} {i j : Nat} {f : Nat → Nat} (h : newB M i j f = false) : ∀ r c, orM M i j f r c = M r c := fun r c => by
  have h1 := sub_or (M := M) (i := i) (j := j) (f := f) (r / 64) (c / 64) (r % 64) (c % 64) (Nat.mod_lt _ (by decide)) (Nat.mod_lt _ (by decide))
  have e1 : 64 * (r / 64) + r % 64 = r := Nat.div_add_mod r 64
  have e2 : 64 * (c / 64) + c % 64 = c := Nat.div_add_mod c 64
  unfold sub at h1
  rw [e1, e2] at h1
  rw [h1]
  by_cases e : r / 64 = i ∧ c / 64 = j
  · obtain ⟨rfl, rfl⟩ := e
    cases hb : bt f (r % 64) (c % 64)
    · simp
    · cases hm : M r c
      · have : newB M (r / 64) (c / 64) f = true := newB_iff.2 ⟨r % 64, c % 64, Nat.mod_lt _ (by decide), Nat.mod_lt _ (by decide), hb, by unfold sub; rw [e1, e2]; exact hm⟩
        rw [this] at h; cases h
      · simp
  · have : (decide (r / 64 = i) && decide (c / 64 = j)) = false := by
      rw [Bool.and_eq_false_iff, decide_eq_false_iff_not, decide_eq_false_iff_not]
      by_cases h1 : r / 64 = i
      · right; intro h2; exact e ⟨h1, h2⟩
      · exact .inl h1
    rw [this]; simp
theorem lrow_or {M : Nat → Nat → Bool} {i j : Nat} {f : Nat → Nat} (hf : Wf f) : lrow (orM M i j f) (i, j) = (Rw fun k => blk (sub M i j) k ||| f k).toList := by
  unfold lrow
  congr 1
  exact (Rw_blk (fun k hk => Nat.or_lt_two_pow (n := 64) (blk_wf _ k hk) (hf k hk)) fun r c hr hc => by
    rw [Nat.testBit_or, blk_bit _ _ _ hc, sub_or _ _ _ _ hr hc]; simp [bt]).symm
theorem newB_false {M : Nat → Nat → Bool} {i j : Nat} {f : Nat → Nat} (hf : Wf f) (h : sameB (fun k => blk (sub M i j) k ||| f k) (blk (sub M i j)) = true) : newB M i j f = false := by
  cases hb : newB M i j f
  · rfl
  · obtain ⟨r, c, hr, hc, h1, h2⟩ := newB_iff.1 hb
    have := same_true h r hr
    have h3 : ((blk (sub M i j) r ||| f r)).testBit c = sub M i j r c := by rw [this, blk_bit _ _ _ hc]
    rw [Nat.testBit_or, blk_bit _ _ _ hc, h2] at h3
    unfold bt at h1
    rw [h1] at h3
    cases h3
theorem newB_true {M : Nat → Nat → Bool} {i j : Nat} {f : Nat → Nat} (hf : Wf f) (h : sameB (fun k => blk (sub M i j) k ||| f k) (blk (sub M i j)) = false) : newB M i j f = true := by
  obtain ⟨r, hr, hne⟩ := same_false h
  obtain ⟨c, hc, h1, h2⟩ := new_bit (blk_wf (sub M i j) r hr) (hf r hr) hne
  refine newB_iff.2 ⟨r, c, hr, hc, ?_, by rw [← blk_bit (sub M i j) r c hc]; exact h2⟩
  rw [Nat.testBit_or, h2] at h1
  simpa [bt] using h1
section
variable {w w' : World} {B side lv root : Nat} {nv lvv : Value} {ns : List (Nat → Nat)} {A : Nat → Nat → Nat → Nat} {ps : List (Nat × Nat)} {F : Nat → Prop} {M : Nat → Nat → Bool}
/-- A leaf is written whole. -/
theorem Qd.setLeaf (h : Qd w B side lv root nv lvv ns A ps M) {i j : Nat} {f : Nat → Nat} (hf : Wf f) (hin : ∀ r c, r < 64 → c < 64 → bt f r c = true → 64 * i + r < side ∧ 64 * j + c < side) (hn : A 0 i j ≠ 0) {g cap : Nat} (hlv : lvv = .slice (some ⟨g, 0, none⟩) ps.length cap) :
    Qd (w.setCells g ((A 0 i j - 1) * 64) (Rw fun k => blk (sub M i j) k ||| f k).toList) B side lv root nv lvv ns A ps (orM M i j f) := by
  have hp := h.tree.leaf _ _ hn
  subst hlv
  have hgB : g ≠ B := fun e => q_row_ne h.box h.leaves (by decide) (by rw [e]; rfl)
  have hgN : nv.ownBlock ≠ some g := fun e => q_rows_ne h.nodes h.leaves (by decide) e rfl
  rw [← lrow_or hf]
  have ho := own_setCells (lrow (orM M i j f) (i, j)) ((A 0 i j - 1) * 64) h.leaves
  have hfar := far_setCells g (lrow (orM M i j f) (i, j)) w ((A 0 i j - 1) * 64)
  rw [flat_setAll (lrows_even M ps) (lrows_get (M := M) hp) (lrow_len _ _), ← lrows_upd h.tree.nodup hp] at ho
  · refine ⟨⟨h.box.far' hfar (fun (e : B = g) => hgB e.symm), row_same h.nodes fun k hk hlt => hfar.block k hlt (fun (e : k = g) => hgN (by rw [← e]; exact hk)), ho, h.tree, h.side1, h.side2, h.wide, h.lv4, fun r c hrc => ?_, fun a b hz r c hr hc => ?_, h.small, h.nfew⟩, h.few⟩
    · unfold orM at hrc
      rw [Bool.or_eq_true] at hrc
      rcases hrc with hrc | hrc
      · exact h.within r c hrc
      · simp at hrc
        obtain ⟨⟨e1, e2⟩, e3⟩ := hrc
        have := hin _ _ (Nat.mod_lt _ (by decide)) (Nat.mod_lt _ (by decide)) e3
        omega
    · have := sub_or (M := M) (i := i) (j := j) (f := f) a b r c hr hc
      unfold sub at this
      rw [this, h.bare a b hz r c hr hc]
      simp
      rintro rfl rfl
      exact absurd hz hn
  · rintro ⟨a, b⟩ hne r c hr hc
    rw [sub_or _ _ _ _ hr hc]
    have : (decide (a = i) && decide (b = j)) = false := by
      rw [Bool.and_eq_false_iff, decide_eq_false_iff_not, decide_eq_false_iff_not]
      by_cases h1 : a = i
      · right; intro h2; exact hne (by rw [h1, h2])
      · exact .inl h1
    rw [this]; simp
theorem full_or {M : Nat → Nat → Bool} {ps ps' : List (Nat × Nat)} {i j : Nat} {f : Nat → Nat} {P : Prop} (h : Full M ps) (hp : ps' = ps ∨ (ps' = ps ++ [(i, j)] ∧ P)) (hn : newB M i j f = true) : Full (orM M i j f) ps' := by
  have key : ∀ p ∈ ps, ∃ r c, r < 64 ∧ c < 64 ∧ sub (orM M i j f) p.1 p.2 r c = true := fun p hp => by
    obtain ⟨r, c, hr, hc, e⟩ := h p hp
    exact ⟨r, c, hr, hc, by rw [sub_or _ _ _ _ hr hc, e]; rfl⟩
  rcases hp with rfl | ⟨rfl, _⟩
  · exact key
  · intro p hp
    rcases List.mem_append.1 hp with hp | hp
    · exact key p hp
    · simp at hp
      subst hp
      obtain ⟨r, c, hr, hc, h1, _⟩ := newB_iff.1 hn
      exact ⟨r, c, hr, hc, by rw [sub_or _ _ _ _ hr hc]; simp [h1]⟩
theorem nz_bit {x : Nat} (hx : x < 18446744073709551616) (h : x ≠ 0) : ∃ c, c < 64 ∧ x.testBit c = true := by
  refine Classical.byContradiction fun hno => h (word_eq hx (by decide) fun c hc => ?_)
  cases hb : x.testBit c
  · simp
  · exact absurd ⟨c, hc, hb⟩ hno
theorem full_same {M : Nat → Nat → Bool} {ps ps' : List (Nat × Nat)} {i j : Nat} {f : Nat → Nat} {P : Prop} (h : Full M ps) (hp : ps' = ps ∨ (ps' = ps ++ [(i, j)] ∧ P)) (hf : Wf f) (hs : sameB f (fun _ => 0) = false) (hn : newB M i j f = false) : Full M ps' := by
  rcases hp with rfl | ⟨rfl, _⟩
  · exact h
  · intro p hp
    rcases List.mem_append.1 hp with hp | hp
    · exact h p hp
    · simp at hp
      subst hp
      obtain ⟨r, hr, hne⟩ := same_false hs
      obtain ⟨c, hc, hb⟩ := nz_bit (hf r hr) hne
      refine ⟨r, c, hr, hc, ?_⟩
      cases hm : sub M i j r c
      · rw [newB_iff.2 ⟨r, c, hr, hc, hb, hm⟩] at hn; cases hn
      · rfl
/-- A leaf out of the arena, in every world of a class. -/
theorem ylf {ops : Array Oper} {S : World → Prop} {o : Oper} {a : Act} (hw : Region.wanted o (yielded ops a.tmps) = true) (x : Operand) (ho : o.op = .load 108 x)
    (g k : Nat) (hx : a.eval x = .pointer (some ⟨g, k, none⟩)) {f : Nat → Nat} (hg : ∀ w, S w → w.rangeAt g k (Rw f).toList) : YieldsIf Tryz.prog ops S o (.agg (Rw f)) a :=
  .inl ⟨hw, fun w hS => by
    unfold execOp
    simp only [ho, hx, Instr.loadAt, Instr.sureAddr, Sem.run_bind, Sem.run_pure, Result.andThen_ok, rw_range (hg w hS)]⟩
theorem wpStill_lf {ops : Array Oper} {rest : List Oper} {o : Oper} {a : Act} {w : World} {Q : Act → Prop} (hgd : Region.wanted o (yielded ops a.tmps) = true) (x : Operand) (ho : o.op = .load 108 x)
    (g k : Nat) (hx : a.eval x = .pointer (some ⟨g, k, none⟩)) {f : Nat → Nat} (hg : w.rangeAt g k (Rw f).toList)
    (h : wpStill Tryz.prog ops w Q rest (a.put o.dst (.agg (Rw f)))) : wpStill Tryz.prog ops w Q (o :: rest) a := by
  unfold wpStill
  rw [if_pos hgd]
  unfold Oper.still execOp
  simp only [ho, hx, Instr.loadAt, Instr.sureAddr, Sem.run_bind, Sem.run_pure, Result.andThen_ok, rw_range hg]
  rw [Oper.stillUpon_value]
  exact h
theorem below_far {w w' : World} (h : Below w.heap.size w w') : Far (fun _ => False) w w' := ⟨h.os, h.tape, h.output, h.size, fun k hk _ => h.block k hk⟩
theorem hold_far {w w' : World} {F : Nat → Prop} {g : Nat} {X : Array Value} (h : Hold w g X) (hf : Far F w w') (hg : ¬ F g) : Hold w' g X := (hf.block g h.lt hg).trans h
theorem row_far (w : World) (p : Nat) (Y : Array Value) : Far (fun k => k = p) w (w.setRow p Y) := far_row (F := fun k => k = p) (Far.refl _ w) (fun _ => rfl) _
theorem range_lt {w : World} {g o : Nat} {f : Nat → Nat} (h : w.rangeAt g o (Rw f).toList) : g < w.heap.size := by
  have := h 0 (.int .u64 (f 0)) (by have := Rw_get f 0 (by decide); simpa using this)
  exact block_lt_of_cell this
theorem range_far {w w' : World} {F : Nat → Prop} {g o : Nat} {cs : List Value} (h : w.rangeAt g o cs) (hf : Far F w w') (hg : ¬ F g := by exact id) : w'.rangeAt g o cs := fun j v hv => by
  have := h j v hv
  rw [cell_eq (hf.block _ (block_lt_of_cell this) hg)]
  exact this
section
set_option maxHeartbeats 4000000
set_option maxRecDepth 100000
theorem qput_any (h : Mx w B F side M) (i j : Nat) (hi : i < lns side) (hj : j < lns side) {f : Nat → Nat} (hf : Wf f) (hin : ∀ r c, r < 64 → c < 64 → bt f r c = true → 64 * i + r < side ∧ 64 * j + c < side) :
    Calls Tryz.prog 111 #[.pointer (some ⟨B, 0, none⟩), .int .i64 i, .int .i64 j, .agg (Rw f)] w fun e w' => e = .returned (.bool (newB M i j f)) ∧ ∃ F', Mx w' B F' side (orM M i j f) ∧ Mv w w' F F' := by
  have hz : ∀ w, (zeroValue 108).run Tryz.prog w = .ok (.agg (Rw fun _ => 0)) w := (zero_of_info blockZero).1
  have E0 := fun w' => eq_run f (fun _ => 0) w'
  have hS := Lib.hid h
  clear h
  cases hs : sameB f (fun _ => 0)
  · rw [hs] at E0
    obtain ⟨lv, root, nv, lvv, ns, A, ps, hq, hfull, rfl⟩ := hS.out
    have hw := hq.wide
    have GR := fun W (h9 : Far (fun _ => False) w W) => grow_any (hq.still h9) i j (lns_lt hw hi) (lns_lt hw hj)
    have hq' := Lib.hid hq
    clear hq
    go_enter Tryz.func111, Tryz.ntmps111
    have H0 : Hold (w.alloc (.cells (Rw f) 108)) w.heap.size (Rw f) := Hold.new rfl
    go_wp2_with (first | (apply wpList_ld rfl _ rfl _ rfl; focus (assumption)) | (apply wpList_bd rfl rfl))
    refine (GR _ ((Far.refl _ w).alloc _)).mono ?_
    rintro e w2 ⟨root', nv', lvv', ns', A', ps', rfl, hn, hq2, hfo, hf2, hps⟩
    obtain ⟨g, cap, rfl, hlt, hpp, _, hrange, hthere⟩ := hq2.leafAt hn
    have hmv : Mv w w2 (Qf B nv lvv) (Qf B nv' (.slice (some ⟨g, 0, none⟩) ps'.length cap)) := ⟨far_upto (((Far.refl (fun _ => False) w).alloc _).mono fun _ _ h => h.elim) hf2 (fun k h _ => h), fun k hk => (hfo k hk).imp id fun h => by simp at h; omega⟩
    have hd2 : Hold w2 w.heap.size (Rw f) := (hf2.block _ (by simp) (fun e => by have := hq'.out.lt _ e; omega)).trans H0
    clear GR hq' hfo hf2 H0
    have hmany := hq2.many
    have p4 : w2.cell? ⟨B, 4, none⟩ = some (.slice (some ⟨g, 0, none⟩) ps'.length cap) := hq2.box.cell 4
    have hq2' := Lib.hid hq2
    have hmv' := Lib.hid hmv
    have hps' := Lib.hid hps
    obtain ⟨n, hN⟩ : ∃ n, A' 0 i j = n := ⟨_, rfl⟩
    rw [hN] at hn hlt hrange hthere ⊢
    have hN' := Lib.hid hN
    have hrange' : w2.rangeAt g ((n - 1) * 64) (Rw (blk (sub M i j))).toList := hrange
    obtain ⟨X, hX⟩ : ∃ X, blk (sub M i j) = X := ⟨_, rfl⟩
    have hXw : Wf X := hX ▸ blk_wf _
    rw [hX] at hrange'
    have hX' := Lib.hid hX
    have hx1 : IntKind.i64.wrap ((n : Int) - 1) = ((n - 1 : Nat) : Int) := by rw [IntKind.wrap_i64]; omega
    have OR := fun w' => or_any X f w' hXw hf
    have HS := Lib.hid (show w2.cell? ⟨B, 4, none⟩ = some (.slice (some ⟨g, 0, none⟩) ps'.length cap) ∧ w2.rangeAt g ((n - 1) * 64) (Rw X).toList ∧ Hold w2 w.heap.size (Rw f) ∧ Far (fun _ => False) w2 w2 from ⟨p4, hrange', hd2, Far.refl _ _⟩)
    clear hq2 hmv hps hN hrange hthere hrange' hX p4 hd2 hpp
    go_upto_region 4 with fail
    go_cut [10] (fun pv wc => ∃ p, pv = .pointer (some ⟨p, 0, none⟩) ∧ w2.heap.size ≤ p ∧ Hold wc p (Rw fun k => X k ||| f k) ∧ Far (fun _ => False) w2 wc)
    case first =>
      rename_i hJ hM
      refine wp_region_held_drew (S := fun w' => w'.cell? ⟨B, 4, none⟩ = some (.slice (some ⟨g, 0, none⟩) ps'.length cap) ∧ w'.rangeAt g ((n - 1) * 64) (Rw X).toList ∧ Hold w' w.heap.size (Rw f) ∧ Far (fun _ => False) w2 w') (by kernel_rfl) ⟨HS.out.1, HS.out.2.1, HS.out.2.2.1, (Far.refl _ w2).drew⟩ fun hS => ?_
      generalize w2.drew = wd at *
      refine wpAnyH_take (i := 0) (v := ?v0q1) rfl (by kernel_rfl) (by kernel_rfl) (by kernel_rfl) (fun _ _ _ h => h) (Or.inl ⟨by rfl, ?y0q1⟩) (by assumption) ?r0q1
      case y0q1 => (intro w hSw; (try dsimp only at hSw); go_simp; (try with_reducible rfl))
      simp only [Act.put, List.setIfInBounds_toArray, List.set_cons_zero, List.set_cons_succ]
      refine wpAnyH_take (i := 1) (v := ?v1q2) rfl (by kernel_rfl) (by kernel_rfl) (by kernel_rfl) (fun _ _ _ h => h) (Or.inl ⟨by rfl, ?y1q2⟩) (by assumption) ?r1q2
      case y1q2 => (intro w hSw; (try dsimp only at hSw); go_simp; (try with_reducible rfl))
      simp only [Act.put, List.setIfInBounds_toArray, List.set_cons_zero, List.set_cons_succ]
      refine wpAnyH_take (i := 2) (v := ?v2q3) rfl (by kernel_rfl) (by kernel_rfl) (by kernel_rfl) (fun _ _ _ h => h) (Or.inl ⟨by rfl, ?y2q3⟩) (by assumption) ?r2q3
      case y2q3 => (intro w hSw; (try dsimp only at hSw); go_simp; (try with_reducible rfl))
      simp only [Act.put, List.setIfInBounds_toArray, List.set_cons_zero, List.set_cons_succ]
      refine wpAnyH_take (i := 3) (v := ?v3q4) rfl (by kernel_rfl) (by kernel_rfl) (by kernel_rfl) (fun _ _ _ h => h) (Or.inl ⟨by rfl, ?y3q4⟩) (by assumption) ?r3q4
      case y3q4 => (intro w hSw; (try dsimp only at hSw); go_simp; (try with_reducible rfl))
      simp only [Act.put, List.setIfInBounds_toArray, List.set_cons_zero, List.set_cons_succ]
      refine wpAnyH_take (i := 4) (v := ?v4q5) rfl (by kernel_rfl) (by kernel_rfl) (by kernel_rfl) (fun _ _ _ h => h) (Or.inl ⟨by rfl, ?y4q5⟩) (by assumption) ?r4q5
      case y4q5 => (intro w hSw; (try dsimp only at hSw); go_simp; (try with_reducible rfl))
      simp only [Act.put, List.setIfInBounds_toArray, List.set_cons_zero, List.set_cons_succ]
      refine wpAnyH_take (i := 5) (v := ?v5q6) rfl (by kernel_rfl) (by kernel_rfl) (by kernel_rfl) (fun _ _ _ h => h) (Or.inl ⟨by rfl, ?y5q6⟩) (by assumption) ?r5q6
      case y5q6 => (intro w hSw; (try dsimp only at hSw); go_simp; (try with_reducible rfl))
      simp only [Act.put, List.setIfInBounds_toArray, List.set_cons_zero, List.set_cons_succ]
      refine wpAnyH_take (i := 6) (v := ?v6q7) rfl (by kernel_rfl) (by kernel_rfl) (by kernel_rfl) (fun _ _ _ h => h) (Or.inl ⟨by rfl, ?y6q7⟩) (by assumption) ?r6q7
      case y6q7 => (intro w hSw; (try dsimp only at hSw); go_simp; (try with_reducible rfl))
      simp only [Act.put, List.setIfInBounds_toArray, List.set_cons_zero, List.set_cons_succ]
      refine wpAnyH_take (i := 7) rfl (by kernel_rfl) (by kernel_rfl) (by kernel_rfl) (fun _ _ _ h => h) (ylf rfl _ rfl _ _ rfl fun w h => h.2.1) (by assumption) ?_
      simp only [Act.put, List.setIfInBounds_toArray, List.set_cons_zero, List.set_cons_succ]
      refine wpAnyH_take (i := 8) rfl (by kernel_rfl) (by kernel_rfl) (by kernel_rfl) (fun _ _ _ h => h) (yl rfl _ rfl _ rfl fun w h => h.2.2.1) (by assumption) ?_
      simp only [Act.put, List.setIfInBounds_toArray, List.set_cons_zero, List.set_cons_succ]
      refine wpAnyH_ready (rs := [9, 10]) (by kernel_rfl) (by decide) (AllReadyH.cons rfl (fun K' hK => ?_) (AllReadyH.cons rfl (fun K' hK => ?_) AllReadyH.nil))
      · refine hw_call _ _ _ _ rfl (by go_simp) (OR wd) fun w1 hb => ?_
        have hb' := below_far hb
        refine hK.out _ _ ⟨(hb'.cell (block_lt_of_cell hS.1)).trans hS.1, range_far hS.2.1 hb', hold_far hS.2.2.1 hb' id, hS.2.2.2.then hb'⟩ fun hS1 => ?_
        go_simp
        clear hK
        refine wpAnyH_ready (rs := [10]) (by kernel_rfl) (by decide) (AllReadyH.cons rfl (fun K' hK => ?_) AllReadyH.nil)
        refine hw_run _ _ rfl (run_mk w1 rfl) ?_
        have ha : Far (fun _ => False) w1 (w1.alloc (.cells (Rw fun _ => 0) 108)) := (Far.refl _ w1).alloc _
        refine hK.out _ _ ⟨(ha.cell (block_lt_of_cell hS1.1)).trans hS1.1, range_far hS1.2.1 ha, hold_far hS1.2.2.1 ha id, hS1.2.2.2.then ha⟩ fun hS2 => ?_
        go_simp
        have hp : Hold (w1.alloc (.cells (Rw fun _ => 0) 108)) w1.heap.size (Rw fun _ => 0) := Hold.new rfl
        have hle := hS1.2.2.2.size
        clear hK
        refine wpAnyH_ready (rs := [11]) (by kernel_rfl) (by decide) (AllReadyH.cons rfl (fun K' hK => ?_) AllReadyH.nil)
        refine hw_st rfl _ _ rfl _ rfl _ rfl hp ?_
        have hr := row_far (w1.alloc (.cells (Rw fun _ => 0) 108)) w1.heap.size (Rw fun k => X k ||| f k)
        have l1 := block_lt_of_cell HS.out.1
        have l2 := range_lt HS.out.2.1
        have l3 := HS.out.2.2.1.lt
        dsimp only at l1
        refine hK.out _ _ ⟨(cell_eq (hr.block B (by simp; omega) (by omega))).trans hS2.1, range_far hS2.2.1 hr (by omega), hold_far hS2.2.2.1 hr (by omega), hS2.2.2.2.trans (hr.mono fun k _ e => e) (fun k hk e => by omega)⟩ fun hE => ?_
        refine wpAnyH_done (by kernel_rfl) ?_ _
        go_simp
        refine hM _ _ (Met.intro (hJ _ _ ?_))
        repeat apply Exists.intro
        refine ⟨?rel, rfl⟩
        exact ⟨_, rfl, hle, hp.row _, hE.2.2.2⟩
      · refine hw_run _ _ rfl (run_mk wd rfl) ?_
        have ha : Far (fun _ => False) wd (wd.alloc (.cells (Rw fun _ => 0) 108)) := (Far.refl _ wd).alloc _
        refine hK.out _ _ ⟨(ha.cell (block_lt_of_cell hS.1)).trans hS.1, range_far hS.2.1 ha, hold_far hS.2.2.1 ha id, hS.2.2.2.then ha⟩ fun hS1 => ?_
        go_simp
        have hp0 : Hold (wd.alloc (.cells (Rw fun _ => 0) 108)) wd.heap.size (Rw fun _ => 0) := Hold.new rfl
        have hle := hS.2.2.2.size
        clear hK
        refine wpAnyH_ready (rs := [9]) (by kernel_rfl) (by decide) (AllReadyH.cons rfl (fun K' hK => ?_) AllReadyH.nil)
        refine hw_call _ _ _ _ rfl (by go_simp) (OR _) fun w1 hb => ?_
        have hb' := below_far hb
        have hp := hold_far hp0 hb' id
        refine hK.out _ _ ⟨(hb'.cell (block_lt_of_cell hS1.1)).trans hS1.1, range_far hS1.2.1 hb', hold_far hS1.2.2.1 hb' id, hS1.2.2.2.then hb'⟩ fun hS2 => ?_
        go_simp
        clear hK
        refine wpAnyH_ready (rs := [11]) (by kernel_rfl) (by decide) (AllReadyH.cons rfl (fun K' hK => ?_) AllReadyH.nil)
        refine hw_st rfl _ _ rfl _ rfl _ rfl hp ?_
        have hr := row_far w1 wd.heap.size (Rw fun k => X k ||| f k)
        have l1 := block_lt_of_cell HS.out.1
        have l2 := range_lt HS.out.2.1
        have l3 := HS.out.2.2.1.lt
        have l4 := hS2.2.2.2.size
        dsimp only at l1
        refine hK.out _ _ ⟨(cell_eq (hr.block B (by omega) (by omega))).trans hS2.1, range_far hS2.2.1 hr (by omega), hold_far hS2.2.2.1 hr (by omega), hS2.2.2.2.trans (hr.mono fun k _ e => e) (fun k hk e => by omega)⟩ fun hE => ?_
        refine wpAnyH_done (by kernel_rfl) ?_ _
        go_simp
        refine hM _ _ (Met.intro (hJ _ _ ?_))
        repeat apply Exists.intro
        refine ⟨?rel2, rfl⟩
        exact ⟨_, rfl, hle, hp.row _, hE.2.2.2⟩
    case rest =>
      obtain ⟨p, rfl, hp, hH, hF⟩ := hcut
      obtain ⟨s1, s2, s3, _⟩ := HS.out
      have p4 : wc.cell? ⟨B, 4, none⟩ = some (.slice (some ⟨g, 0, none⟩) ps'.length cap) := (hF.cell (block_lt_of_cell s1)).trans s1
      have hR : wc.rangeAt g ((n - 1) * 64) (Rw X).toList := range_far s2 hF
      have E1 := fun w' => eq_run (fun k => X k ||| f k) X w'
      have h2 := Lib.hid (hq2'.out.still hF)
      have hmv2 := Lib.hid (hmv'.out.trans (Mv.still hF))
      clear s1 s2 s3 HS hq2' hmv' OR hF
      cases hs2 : sameB (fun k => X k ||| f k) X
      · rw [hs2] at E1
        have hnew := newB_true hf (by rw [← hX'.out] at hs2; exact hs2)
        go_upto_region 5 with fail
        refine still_all (by kernel_rfl) (by kernel_rfl) fun wd hwd => ?_
        have dH : Hold wd p (Rw fun k => X k ||| f k) := hwd ▸ hH
        have dR : wd.rangeAt g ((n - 1) * 64) (Rw X).toList := hwd ▸ hR
        have d4 : wd.cell? ⟨B, 4, none⟩ = some (.slice (some ⟨g, 0, none⟩) ps'.length cap) := hwd ▸ p4
        have h3 := Lib.hid (h2.out.still (show Far (fun _ => False) wc wd from hwd ▸ (Far.refl _ wc).drew))
        have hmv3 := Lib.hid (hmv2.out.trans (Mv.still (show Far (fun _ => False) wc wd from hwd ▸ (Far.refl _ wc).drew)))
        clear hH hR p4 h2 hmv2 hwd
        refine wpStill_ld rfl _ rfl _ rfl dH ?_
        repeat still_step
        refine wpStill_lf rfl _ rfl _ _ rfl dR ?_
        repeat still_step
        refine wpStill_nil ?_
        go_wp2_with fail
        refine still_tail 8 (by kernel_rfl) (by kernel_rfl) fun we hwe => ?_
        have eH : Hold we p (Rw fun k => X k ||| f k) := hwe ▸ dH
        have e4 : we.cell? ⟨B, 4, none⟩ = some (.slice (some ⟨g, 0, none⟩) ps'.length cap) := hwe ▸ d4
        have hfe : Far (fun _ => False) wd we := hwe ▸ (Far.refl _ wd).drew
        have h4 := h3.out.still hfe
        have hth : we.there g ((n - 1) * 64) (Rw fun k => X k ||| f k).size := by
          obtain ⟨_, _, e, _, _, _, _, ht⟩ := h4.leafAt (by rw [hN'.out]; exact hn)
          cases e
          rw [Rw_size]
          rw [hN'.out] at ht
          exact ht
        have hset := h4.setLeaf hf hin (by rw [hN'.out]; exact hn) rfl
        rw [hN'.out, hX'.out] at hset
        have hset' := Lib.hid hset
        have hmv4 := Lib.hid (hmv3.out.trans (Mv.still hfe))
        clear hset h4 h3 hmv3 dH d4 hwe dR
        simp only [List.take_succ_cons, List.take_zero, List.drop_succ_cons, List.drop_zero]
        repeat still_step
        refine wpStill_ld rfl _ rfl _ rfl eH ?_
        repeat still_step
        refine wpStill_nil ?_
        show wpList _ _ _ _ _ _
        refine wpList_store_mid rfl 108 _ _ rfl g ((n - 1) * 64) (Rw fun k => X k ||| f k) rfl rfl hth (by rw [blockSize, Rw_size]) (Rw_one _) ?_
        go_wp2_with fail
        go_ret
        have hsc := far_setCells g (Rw fun k => X k ||| f k).toList we ((n - 1) * 64)
        refine ⟨by rw [hnew]; rfl, _, ⟨lv, root', nv', _, ns', A', ps', hset'.out, full_or hfull hps'.out hnew, rfl⟩, ?_⟩
        exact hmv4.out.trans ⟨hsc.mono fun k _ e => .inr (.inr (by rw [e]; rfl)), fun k hk => .inl hk⟩
      · rw [hs2] at E1
        have hnew := newB_false hf (by rw [← hX'.out] at hs2; exact hs2)
        go_upto_region 5 with fail
        refine still_all (by kernel_rfl) (by kernel_rfl) fun wd hwd => ?_
        have dH : Hold wd p (Rw fun k => X k ||| f k) := hwd ▸ hH
        have dR : wd.rangeAt g ((n - 1) * 64) (Rw X).toList := hwd ▸ hR
        have d4 : wd.cell? ⟨B, 4, none⟩ = some (.slice (some ⟨g, 0, none⟩) ps'.length cap) := hwd ▸ p4
        have h3 := Lib.hid (h2.out.still (show Far (fun _ => False) wc wd from hwd ▸ (Far.refl _ wc).drew))
        have hmv3 := Lib.hid (hmv2.out.trans (Mv.still (show Far (fun _ => False) wc wd from hwd ▸ (Far.refl _ wc).drew)))
        clear hH hR p4 h2 hmv2 hwd
        refine wpStill_ld rfl _ rfl _ rfl dH ?_
        repeat still_step
        refine wpStill_lf rfl _ rfl _ _ rfl dR ?_
        repeat still_step
        refine wpStill_nil ?_
        go_wp2_with fail
        go_ret
        exact ⟨by rw [hnew]; rfl, _, Mx.congr ⟨lv, root', nv', _, ns', A', ps', h3.out, full_same hfull hps'.out hf hs hnew, rfl⟩ (orM_same hnew), hmv3.out⟩
  · rw [hs] at E0
    have hz0 : ∀ r c, r < 64 → c < 64 → bt f r c = false := fun r c hr hc => by
      unfold bt; rw [same_true hs r hr]; simp
    have hnew : newB M i j f = false := by
      cases hb : newB M i j f
      · rfl
      · obtain ⟨r, c, hr, hc, h1, _⟩ := newB_iff.1 hb
        rw [hz0 r c hr hc] at h1; cases h1
    go_enter Tryz.func111, Tryz.ntmps111
    have H0 : Hold (w.alloc (.cells (Rw f) 108)) w.heap.size (Rw f) := Hold.new rfl
    go_wp2_with (first | (apply wpList_ld rfl _ rfl _ rfl; focus (assumption)) | (apply wpList_bd rfl rfl))
    go_ret
    have hf1 : Far (fun _ => False) w (w.alloc (.cells (Rw f) 108)) := (Far.refl _ w).alloc _
    exact ⟨by rw [hnew]; rfl, F, (hS.out.still hf1).congr (orM_same hnew), Mv.still hf1⟩
end
end
end Go.Proofs.YtjolkhiggcmoiaaGreatDoor
