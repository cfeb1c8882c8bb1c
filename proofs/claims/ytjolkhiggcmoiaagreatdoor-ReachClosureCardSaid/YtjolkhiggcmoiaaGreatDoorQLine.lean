/-
  Row: the columns of a row's cells.
-/
import Derived.Test.YtjolkhiggcmoiaaGreatDoorQCanon
import Derived.Maps.OwnIn
namespace Go.Proofs.YtjolkhiggcmoiaaGreatDoor
open Go.RowKit Go.Shelf
set_option linter.unusedVariables false
set_option linter.unusedSimpArgs false
/-- Numbers as cells. -/
def ncells (l : List Nat) : List Value := l.map fun (x : Nat) => .int .i64 (x : Int)
theorem ncells_len (l : List Nat) : (ncells l).length = l.length := by simp [ncells]
theorem ncells_at {l : List Nat} {k x : Nat} (h : l[k]? = some x) : (ncells l)[k]? = some (.int .i64 (x : Int)) := by simp [ncells, h]
theorem int_info : (Tryz.prog.info? 3).map (fun i => (i.zero, i.size, i.bytes)) = some (some (.int .i64 0), 1, 8) := by kernel_rfl
theorem own_type {A : World} {base e s n : Nat} {v : Value} {xs : List Value} {k : Nat} (h : A.ownsRow base e s v n xs) (hk : v.ownBlock = some k) : base ≤ k ∧ k < A.heap.size ∧ ∃ cs, Bk A k e cs := by
  rcases h.2 with ⟨rfl, _⟩ | ⟨g', cap, cur, rfl, hb, hg, _⟩
  · cases hk
  · have : g' = k := Option.some.inj hk
    subst this
    exact ⟨hb, (Array.getElem?_eq_some_iff.1 hg).1, _, hg⟩
theorem own_base {A : World} {base b e s n : Nat} {v : Value} {xs : List Value} (hb : b ≤ base) (h : A.ownsRow base e s v n xs) : A.ownsRow b e s v n xs := by
  refine ⟨h.1, ?_⟩
  rcases h.2 with h' | ⟨g, cap, cur, h', hbg, r⟩
  · exact .inl h'
  · exact .inr ⟨g, cap, cur, h', Nat.le_trans hb hbg, r⟩
theorem up_nat : ∀ {l m : List Nat}, l.Pairwise (· < ·) → m.Pairwise (· < ·) → (∀ x, x ∈ l ↔ x ∈ m) → l = m
  | [], [], _, _, _ => rfl
  | [], y :: m, _, _, h => absurd ((h y).2 (List.mem_cons_self ..)) (by simp)
  | x :: l, [], _, _, h => absurd ((h x).1 (List.mem_cons_self ..)) (by simp)
  | x :: l, y :: m, hl, hm, h => by
    rw [List.pairwise_cons] at hl hm
    have hxy : x = y := by
      rcases List.mem_cons.1 ((h x).1 (List.mem_cons_self ..)) with e | e
      · exact e
      · rcases List.mem_cons.1 ((h y).2 (List.mem_cons_self ..)) with e2 | e2
        · exact e2.symm
        · have := hl.1 y e2
          have := hm.1 x e
          omega
    subst hxy
    rw [up_nat hl.2 hm.2 fun z => ?_]
    constructor
    · intro hz
      rcases List.mem_cons.1 ((h z).1 (List.mem_cons_of_mem _ hz)) with e | e
      · subst e; exact absurd (hl.1 _ hz) (Nat.lt_irrefl _)
      · exact e
    · intro hz
      rcases List.mem_cons.1 ((h z).2 (List.mem_cons_of_mem _ hz)) with e | e
      · subst e; exact absurd (hm.1 _ hz) (Nat.lt_irrefl _)
      · exact e
/-! ### The words of a row, one below the other -/
def wordsS (M : Nat → Nat → Bool) (i : Nat) : Nat → Nat → Bool := fun j c => M i (64 * j + c)
theorem words_at (M : Nat → Nat → Bool) (i j : Nat) : blk (sub M (i / 64) j) (i % 64) = blk (wordsS M i) j := by
  unfold blk
  congr 1
  funext c
  unfold sub wordsS
  rw [Nat.div_add_mod]
theorem words_end {M : Nat → Nat → Bool} {side i : Nat} (hs : side ≤ 1024) (hw : ∀ r c, M r c = true → r < side ∧ c < side) : Rw (rowsTo (blk (wordsS M i)) (fun _ => 0) (lns side)) = Rw (blk (wordsS M i)) := by
  refine Rw_congr fun j hj => ?_
  unfold rowsTo
  split
  · rfl
  · rename_i h
    have hz : ∀ c, c < 64 → wordsS M i j c = false := fun c hc => by
      cases e : wordsS M i j c
      · rfl
      · have := (hw _ _ e).2
        unfold lns at h
        omega
    refine Nat.eq_of_testBit_eq fun c => ?_
    rw [Nat.zero_testBit]
    by_cases hc : c < 64
    · rw [blk_bit _ _ _ hc, hz c hc]
    · exact (Nat.testBit_lt_two_pow (Nat.lt_of_lt_of_le (blk_wf (wordsS M i) j hj) (by rw [show (18446744073709551616 : Nat) = 2 ^ 64 from rfl]; exact Nat.pow_le_pow_right (by decide) (by omega)))).symm
def flatN (l : List (Nat × Nat)) : List Nat := l.map fun x => 64 * x.1 + x.2
theorem cellsUp_rise (f : Nat → Nat) : ∀ k, (flatN (cellsUp f k)).Pairwise (· < ·)
  | 0 => by unfold cellsUp; exact List.Pairwise.nil
  | k + 1 => by
    unfold cellsUp flatN
    rw [List.map_append, List.pairwise_append]
    refine ⟨cellsUp_rise f k, ?_, ?_⟩
    · rw [List.map_map, List.pairwise_map]
      refine (rowW_rise _).imp fun h => ?_
      exact Nat.add_lt_add_left h _
    · intro a ha b hb
      rw [List.mem_map] at ha hb
      obtain ⟨x, hx, rfl⟩ := ha
      obtain ⟨y, hy, rfl⟩ := hb
      rw [List.mem_map] at hy
      obtain ⟨c, hc, rfl⟩ := hy
      obtain ⟨h1, h2, _⟩ := mem_cellsUp.1 (show (x.1, x.2) ∈ cellsUp f k from hx)
      show 64 * x.1 + x.2 < 64 * k + c
      omega
theorem row_cols {M : Nat → Nat → Bool} {side i : Nat} (hs : side ≤ 1024) (hw : ∀ r c, M r c = true → r < side ∧ c < side) : flatN (cellsUp (blk (wordsS M i)) 64) = colsM M side i := by
  refine up_nat (cellsUp_rise _ 64) (colsM_rise M side i) fun c => ?_
  rw [mem_colsM]
  unfold flatN
  rw [List.mem_map]
  constructor
  · rintro ⟨x, hx, rfl⟩
    obtain ⟨h1, h2, h3⟩ := mem_cellsUp.1 (show (x.1, x.2) ∈ cellsUp (blk (wordsS M i)) 64 from hx)
    rw [bt_blk _ _ _ h2] at h3
    exact ⟨(hw _ _ h3).2, h3⟩
  · rintro ⟨h1, h2⟩
    refine ⟨(c / 64, c % 64), mem_cellsUp.2 ⟨by omega, Nat.mod_lt _ (by decide), ?_⟩, by show 64 * (c / 64) + c % 64 = c; omega⟩
    rw [bt_blk _ _ _ (Nat.mod_lt _ (by decide))]
    unfold wordsS
    rw [Nat.div_add_mod]
    exact h2
attribute [local go_sem] Oper.semAt_some
section
variable {w w' : World} {B side : Nat} {F : Nat → Prop} {M : Nat → Nat → Bool}
set_option maxHeartbeats 8000000
set_option maxRecDepth 100000
theorem qrow_any (h : Mx w B F side M) (hT : Tab w) (i : Nat) (hi : i < side) : Calls Tryz.prog 23 #[.pointer (some ⟨B, 0, none⟩), .int .i64 i] w fun e w' => ∃ v, e = .returned (.tuple #[v, .int .i64 0]) ∧ w'.ownsRow w.heap.size 3 1 v (colsM M side i).length (ncells (colsM M side i)) ∧ Far (fun _ => False) w w' := by
  have hwin := h.within
  obtain ⟨lv, root, nv, lvv, ns, A, ps, hq, hfull, rfl⟩ := h
  have hs2 := hq.side2
  have hwd := hq.wide
  have hcols := row_cols (i := i) hs2 hwin
  have hwe := words_end (i := i) hs2 hwin
  have hln := lns_le hs2
  have N := qnone_no hq
  have LI := qline_yes hq i hi
  have hz : ∀ w, (zeroValue 108).run Tryz.prog w = .ok (.agg (Rw fun _ => 0)) w := (zero_of_info blockZero).1
  obtain ⟨bW, hbW⟩ : ∃ b, b = w.heap.size := ⟨_, rfl⟩
  obtain ⟨W1, hW1⟩ : ∃ V, V = w.alloc (.cells (Rw fun _ => 0) 108) := ⟨_, rfl⟩
  have hf1 : Far (fun _ => False) w W1 := hW1 ▸ (Far.refl _ w).alloc _
  have hH1 : Hold W1 bW (Rw fun _ => 0) := hW1 ▸ Hold.new hbW
  have LN := qlines_any (hq.still hf1)
  have wi : wrap64 ((i : Int) / 64) = ((i / 64 : Nat) : Int) := by rw [wrap64_of (by omega)]; omega
  have hbW' := Lib.hid hbW
  have hW1' := Lib.hid hW1
  have hf1' := Lib.hid hf1
  have hH1' := Lib.hid hH1
  have hq' := Lib.hid hq
  have hwin' := Lib.hid hwin
  have hcols' := Lib.hid hcols
  have hwe' := Lib.hid hwe
  clear hbW hW1 hf1 hH1 hq hwin hcols hfull hwe
  refine (callsIn_wide (n := 10)).1 (callsIn_of_wp_marks Tryz.func23 rfl trivial (wpIn_wide.2 ?_) rfl)
  simp only [Tryz.ntmps23, List.size_toArray, List.length_cons, List.length_nil, Nat.reduceAdd, Nat.reduceSub, Array.replicate_succ, Array.replicate_zero, List.push_toArray, List.append_toArray, List.nil_append, List.cons_append]
  go_wp2_with fail
  refine N.mono ?_
  rintro e w' ⟨rfl, rfl⟩
  go_wp2_with fail
  refine LI.mono ?_
  rintro e w' ⟨rfl, rfl⟩
  clear N LI
  go_upto_region 6 with fail
  rw [← hbW'.out, ← hW1'.out]
  go_wp2_with fail
  refine LN.mono ?_
  rintro e w' ⟨rfl, rfl⟩
  clear LN
  go_wp2_with fail
  go_loopw [7, 8, 19] (fun _ _ iv wr => ∃ k : Nat, k ≤ lns side ∧ iv = .int .i64 (k : Nat) ∧ Hold wr bW (Rw (rowsTo (blk (wordsS M i)) (fun _ => 0) k)) ∧ Far (fun _ => False) w wr) (fun _ _ iv _ => lns side - (intOf iv).toNat)
  case atStart => exact ⟨0, Nat.zero_le _, rfl, by rw [rowsTo_zero]; exact hH1'.out, hf1'.out⟩
  case round =>
    obtain ⟨k, hk, rfl, hH, hf⟩ := hrel
    have hH' := Lib.hid hH
    have hf' := Lib.hid hf
    by_cases hlt : k < lns side
    · have hki : (k : Int) < ((lns side : Nat) : Int) := by omega
      have FI := find_any (hq'.out.still hf) (i / 64) k (lns_lt hwd (show i / 64 < lns side by unfold lns; omega)) (lns_lt hwd hlt)
      clear hH hf hH1' hf1'
      go_wp2_with fail
      refine FI.mono ?_
      rintro e w3 ⟨rfl, hf3⟩
      have hH3 := Lib.hid (show Hold w3 bW (Rw (rowsTo (blk (wordsS M i)) (fun _ => 0) k)) from Bk.far' (t := 108) hH'.out hf3 id)
      have hf03 := Lib.hid (hf'.out.then hf3)
      have h3 := Lib.hid (hq'.out.still hf03.out)
      have hk64 : k < 64 := by omega
      clear FI hf3 hH' hf'
      by_cases hn : A 0 (i / 64) k = 0
      · have hw0 : blk (wordsS M i) k = 0 := by
          rw [← words_at]
          refine Nat.eq_of_testBit_eq fun c => ?_
          rw [Nat.zero_testBit]
          by_cases hc : c < 64
          · rw [blk_bit _ _ _ hc]; exact h3.out.bare _ _ hn _ _ (Nat.mod_lt _ (by decide)) hc
          · exact Nat.testBit_lt_two_pow (Nat.lt_of_lt_of_le (blk_wf (sub M (i / 64) k) (i % 64) (Nat.mod_lt _ (by decide))) (by rw [show (18446744073709551616 : Nat) = 2 ^ 64 from rfl]; exact Nat.pow_le_pow_right (by decide) (by omega)))
        have hstep : Rw (rowsTo (blk (wordsS M i)) (fun _ => 0) k) = Rw (rowsTo (blk (wordsS M i)) (fun _ => 0) (k + 1)) := Rw_congr fun j hj => by
          unfold rowsTo
          by_cases e : j = k
          · subst e; simp [hw0]
          · by_cases e2 : j < k
            · simp [e2, show j < k + 1 by omega]
            · simp [e2, show ¬ j < k + 1 by omega]
        have hH4 := Lib.hid (show Hold w3 bW (Rw (rowsTo (blk (wordsS M i)) (fun _ => 0) (k + 1))) by rw [← hstep]; exact hH3.out)
        rw [hn]
        clear hstep
        go_wp2_with fail
        go_roundw
        case rel => exact ⟨k + 1, by omega, by go_num, hH4.out, hf03.out⟩
        case measure => simp [intOf]; omega
      · obtain ⟨g, cap, rfl, hltn, _, hcell, _⟩ := h3.out.leafAt hn
        have p4 : w3.cell? ⟨B, 4, none⟩ = some (.slice (some ⟨g, 0, none⟩) ps.length cap) := h3.out.box.cell 4
        obtain ⟨n, hN⟩ : ∃ n, A 0 (i / 64) k = n := ⟨_, rfl⟩
        rw [hN] at hltn hn hcell ⊢
        have hc := hcell (i % 64) (Nat.mod_lt _ (by decide))
        rw [words_at] at hc
        have hx1 : IntKind.i64.wrap ((n : Int) - 1) = ((n - 1 : Nat) : Int) := by rw [IntKind.wrap_i64]; have := h3.out.many; omega
        have hn0 : ((n : Int) != 0) = true := by simp; omega
        have q1 : w3.cell? ⟨bW, k, none⟩ = some (.int .u64 ((rowsTo (blk (wordsS M i)) (fun _ => 0) k k : Nat))) := hH3.out.cell (Rw_get _ k hk64)
        have q2 : w3.frozen? ⟨bW, k, none⟩ = false := hH3.out.free
        have hH4 := Lib.hid (show Hold (w3.setCell ⟨bW, k, none⟩ (.int .u64 ((blk (wordsS M i) k : Nat)))) bW (Rw (rowsTo (blk (wordsS M i)) (fun _ => 0) (k + 1))) by
          have := hH3.out.put (i := k) (.int .u64 ((blk (wordsS M i) k : Nat))); rw [Rw_set, rowsTo_step] at this; exact this)
        have hf4 := Lib.hid (hf03.out.set ⟨bW, k, none⟩ (.int .u64 ((blk (wordsS M i) k : Nat))) (fun hl => absurd hl (by have := hbW'.out; show ¬ bW < _; omega)))
        have hki64 : (k : Int) < 64 := by omega
        clear hcell hN h3 hH3 hf03
        go_wp2_with fail
        go_roundw
        case rel => exact ⟨k + 1, by omega, by go_num, hH4.out, hf4.out⟩
        case measure => simp [intOf]; omega
    · have hke : k = lns side := by omega
      subst hke
      rw [hwe'.out] at hH
      have hH2 := Lib.hid hH
      obtain ⟨f, hfe⟩ : ∃ f, blk (wordsS M i) = f := ⟨_, rfl⟩
      have hwf : Wf f := hfe ▸ blk_wf _
      rw [hfe] at hH2 hcols'
      have x3 := hH2.out.range
      clear hH hf hH1' hf1' hH'
      go_upto_region 14 with fail
      obtain ⟨kS, hkS⟩ : ∃ b, b = wr.heap.size := ⟨_, rfl⟩
      obtain ⟨W2, hW2⟩ : ∃ V, V = wr.alloc (.cells #[.slice none 0 0] 30) := ⟨_, rfl⟩
      rw [← hkS, ← hW2]
      have hfa : Far (fun _ => False) wr W2 := hW2 ▸ (Far.refl _ wr).alloc _
      have hBS : Bk W2 kS 30 #[.slice none 0 0] := hW2 ▸ Bk.new hkS
      have hH3 : Hold W2 bW (Rw f) := Bk.far' (t := 108) hH2.out hfa id
      have x3 := hH3.range
      obtain ⟨bx, hbx⟩ : ∃ b, b = W2.heap.size := ⟨_, rfl⟩
      have hBS' := Lib.hid hBS
      have hbx' := Lib.hid hbx
      have hf2 := Lib.hid (hf'.out.then hfa)
      have hkw := Lib.hid (show w.heap.size ≤ kS by have := hf'.out.size; omega)
      clear hW2 hfa hBS hbx hkS hf' hH2 hH3
      go_wp2_with (first | (refine wpList_lf rfl _ rfl _ _ rfl x3 ?_) | (refine (bcells_any _ _).mono ?_; rintro e W3 ⟨rfl, hW3⟩; rw [← hbx'.out]; have hW3' := Lib.hid hW3; clear hW3 x3))
      have hf3 : Far (fun _ => False) W2 W3 := hW3'.out ▸ (Far.refl _ W2).alloc _
      have hbx3 : Hold W3 bx (Rw f) := hW3'.out ▸ Hold.new hbx'.out
      have hfw3 := Lib.hid (hf2.out.then hf3)
      have hT3 : Tab W3 := hT.still hfw3.out
      have hBS3 := Lib.hid (hBS'.out.far' hf3 id)
      clear hf3 hBS' hf2
      refine range_bc (q := 10) f hwf bx hbx3 hT3 rfl
        (fun pre X => ∃ oo oc, Bk X kS 30 #[.slice oo pre.length oc] ∧ X.ownsRow W3.heap.size 3 1 (.slice oo pre.length oc) pre.length (ncells (flatN pre)) ∧ Far (fun k => k = kS) W3 X)
        ?own ⟨none, 0, hBS3.out, World.ownsRow_nil _ _ _ _, Far.refl _ _⟩ ?sz
        (fun q x pre X => ∃ oo oc, Bk X kS 30 #[.slice oo pre.length oc] ∧ X.ownsRow W3.heap.size 3 1 (.slice oo pre.length oc) pre.length (ncells (flatN pre)) ∧ Far (fun k => k = kS) W3 X ∧ Bk X q 71 #[.int .i64 (x.1 : Nat), .int .i64 (x.2 : Nat)] ∧ W3.heap.size ≤ q) ?ownq ?mk ?assign ?body ?done
      case own =>
        rintro pre A C row ⟨oo, oc, h1, h2, h3⟩ hg hr
        exact ⟨oo, oc, bk_other h1 (grown_F hg) (fun k e => (hr k e).2), row_other h2 (grown_F hg) (fun k e => (hr k e).2), far_own h3 hg hr⟩
      case sz =>
        rintro pre X ⟨oo, oc, h1, h2, h3⟩
        exact h3.size
      case ownq =>
        rintro q x pre A C row ⟨oo, oc, h1, h2, h3, h4, h5⟩ hg hr
        exact ⟨oo, oc, bk_other h1 (grown_F hg) (fun k e => (hr k e).2), row_other h2 (grown_F hg) (fun k e => (hr k e).2), far_own h3 hg hr, bk_other h4 (grown_F hg) (fun k e => (hr k e).2), h5⟩
      case mk =>
        rintro x pre X hpre ⟨oo, oc, h1, h2, h3⟩
        have hfX : Far (fun _ => False) X (X.alloc (.cells #[.int .i64 (x.1 : Nat), .int .i64 (x.2 : Nat)] 71)) := (Far.refl _ X).alloc _
        exact ⟨oo, oc, h1.far' hfX id, h2.alloc _, h3.trans hfX fun _ _ h => h.elim, Bk.new rfl, h3.size⟩
      case assign =>
        intro L x X KK hKK
        simp only [List.setIfInBounds_toArray, List.set_cons_zero, List.set_cons_succ] at hKK ⊢
        gi_wp2
        exact hKK
      case body =>
        rintro Lq pre x q V hLq hpre ⟨oo, oc, h1, h2, h3, h4, h5⟩
        simp only [List.setIfInBounds_toArray, List.set_cons_zero, List.set_cons_succ]
        have hxm : x ∈ cellsUp f 64 := hpre.subset (by simp)
        obtain ⟨hx1, hx2, _⟩ := mem_cellsUp.1 (show (x.1, x.2) ∈ cellsUp f 64 from hxm)
        have hxi1 : (x.1 : Int) < 64 := by omega
        have hxi2 : (x.2 : Int) < 64 := by omega
        have hplen := hpre.length_le
        have hcle := cellsUp_le f 64
        rw [List.length_append, List.length_singleton] at hplen
        obtain ⟨pi, pi1, pz, pi4, pi5⟩ := info_parts int_info
        have e0 : V.cell? ⟨kS, 0, none⟩ = some (.slice oo pre.length oc) := h1.cell 0
        have d0 : V.cell? ⟨q, 0, none⟩ = some (.int .i64 (x.1 : Nat)) := h4.cell 0
        have d1 : V.cell? ⟨q, 1, none⟩ = some (.int .i64 (x.2 : Nat)) := h4.cell 1
        have A7 : 0 < 1 := by decide
        have C1 := Lib.hid (World.ownsRow.alloc h2 (.cells #[.int .i64 (64 * (x.1 : Int) + (x.2 : Int))] 3))
        have C7 := Lib.hid (World.news_of_block (w := V.alloc (.cells #[.int .i64 (64 * (x.1 : Int) + (x.2 : Int))] 3)) (cs := #[.int .i64 (64 * (x.1 : Int) + (x.2 : Int))]) (t := 3) (fr := (0, 0)) (heap_alloc_new V _))
        have C3 := Lib.hid (show ∀ u ∈ [(.int .i64 (64 * (x.1 : Int) + (x.2 : Int)) : Value)], u.oneCell' = true by simp [Value.oneCell'])
        have C4 : pre.length + 1 ≤ maxLen := by unfold maxLen; omega
        have C5 : (pre.length + 1) * 8 ≤ 140737488355328 := by omega
        have hsz3 := hfw3.out.size
        have hszV := h3.size
        have C6 : W3.heap.size ≤ (V.alloc (.cells #[.int .i64 (64 * (x.1 : Int) + (x.2 : Int))] 3)).heap.size := by simp; omega
        have H1 := Lib.hid h1
        have H2 := Lib.hid h2
        have H3 := Lib.hid h3
        clear h1 h2 h3 h4 hxm
        gi_wp2_with (gi_at_builtin; go_loud (refine wpListIn_append_own_at _ rfl _ _ 30 rfl W3.heap.size 3 pi (.int .i64 0) 1 8 Tryz.underlying30 pi1 pz pi4 pi5 rfl A7 (.slice oo pre.length oc) pre.length _ rfl C1.out ⟨V.heap.size, 0, none⟩ 1 1 [.int .i64 (64 * (x.1 : Int) + (x.2 : Int))] rfl rfl C7.out C3.out C4 C5 C6 ?_); intro v2 w5 ho5 hg5 _ hat; obtain ⟨bo2, bc2, rfl⟩ := Src.form (Src.own ho5); have ho5' := Lib.hid ho5; have hat' := Lib.hid hat; have hg5' := Lib.hid hg5; have hM5 := Lib.hid (Bk.grownR (w := V.alloc (.cells #[.int .i64 (64 * (x.1 : Int) + (x.2 : Int))] 3)) (Bk.alloc H1.out _) hg5 (fun e => q_row_ne H1.out H2.out (by decide) e.symm)); have g1 : w5.cell? ⟨kS, 0, none⟩ = some (.slice oo pre.length oc) := hM5.out.cell 0; have g2 : w5.frozen? ⟨kS, 0, none⟩ = false := hM5.out.free 0; clear ho5 hg5 hat d0 d1)
        obtain ⟨V2, hV2⟩ : ∃ V2, V2 = w5.setCell ⟨kS, 0, none⟩ (.slice bo2 (pre.length + 1) bc2) := ⟨_, rfl⟩
        rw [← hV2]
        have hown := fun q (e : (Value.slice oo pre.length oc).ownBlock = some q) => own_type H2.out e
        have fa : Far (fun k => k = kS ∨ (Value.slice oo pre.length oc).ownBlock = some k) V V2 := hV2 ▸ (((((Far.refl (fun _ => False) V).alloc _).mono (G := fun k => k = kS ∨ (Value.slice oo pre.length oc).ownBlock = some k) fun _ _ q => q.elim).trans ((grown_F hg5'.out).mono (G := fun k => k = kS ∨ (Value.slice oo pre.length oc).ownBlock = some k) fun _ _ q => .inr q) fun _ _ q => q).set ⟨kS, 0, none⟩ (.slice bo2 (pre.length + 1) bc2) fun _ => .inl rfl)
        have hc : ∀ k, (k = kS ∨ (Value.slice oo pre.length oc).ownBlock = some k) → w.heap.size ≤ k ∧ ∃ t cs, Bk V k t cs := fun k hk => by
          rcases hk with rfl | e
          · exact ⟨hkw.out, _, _, H1.out⟩
          · obtain ⟨hb1, _, cs, hb⟩ := hown k e
            exact ⟨by omega, _, _, hb⟩
        have hS9 : Far (fun k => k = kS) w5 V2 := hV2 ▸ (Far.refl (fun k => k = kS) w5).set ⟨kS, 0, none⟩ _ fun _ => rfl
        have hn9 : pre.length + 1 = (pre ++ [x]).length := by rw [List.length_append]; rfl
        have hc9 : ncells (flatN pre) ++ [Value.int .i64 (64 * (x.1 : Int) + (x.2 : Int))] = ncells (flatN (pre ++ [x])) := by simp [ncells, flatN]
        have hM6 : Bk V2 kS 30 #[.slice bo2 (pre.length + 1) bc2] := hV2 ▸ hM5.out.set 0 _
        have hO6 : V2.ownsRow W3.heap.size 3 1 (.slice bo2 (pre.length + 1) bc2) (pre.length + 1) (ncells (flatN pre) ++ [Value.int .i64 (64 * (x.1 : Int) + (x.2 : Int))]) := row_same ho5'.out fun k hk hl => hS9.block k hl fun e => q_row_ne hM5.out ho5'.out (by decide) (e ▸ hk)
        rw [hc9] at hO6
        rw [hn9] at hM6 hO6
        have hTl := hT.lt
        refine ⟨keeps_far fa fun k hk => ?_, ⟨fun k hk => ?_, fa.size⟩, bo2, bc2, hM6, hO6, H3.out.trans fa fun k hk e => ?_⟩
        · obtain ⟨_, t, cs, hb⟩ := hc k hk
          exact ⟨cs, t, hb⟩
        · rw [show k = _ from hk]
          refine fa.block _ (by omega) fun e => ?_
          have := (hc _ e).1
          omega
        · rcases e with e | e
          · exact e
          · have := (hown _ e).1
            omega
      case done =>
        rintro Dd V hDd ⟨oo, oc, h1, h2, h3⟩ hKD
        have hsz3 := hfw3.out.size
        have hmk := Lib.hid (Marks.cons (Marks.nil w w.heap.size) (Marks.nil V w.heap.size) (Nat.le_trans hsz3 hDd) (Nat.le_trans hsz3 hDd) hKD)
        have e0 : V.cell? ⟨kS, 0, none⟩ = some (.slice oo (cellsUp f 64).length oc) := h1.cell 0
        have H2 := Lib.hid h2
        have H3 := Lib.hid h3
        clear h1 h2 h3
        go_wp2_with fail
        refine leave_marks hmk.out fun W' hfW => ?_
        have hn : (cellsUp f 64).length = (colsM M side i).length := by rw [← hcols'.out]; unfold flatN; rw [List.length_map]
        refine ⟨.tuple #[.slice oo (cellsUp f 64).length oc, .int .i64 0], by simp [results, Tryz.f23, go_sem], _, rfl, ?_, ?_⟩
        · rw [← hn, ← hcols'.out]
          refine own_base hsz3 (row_same H2.out fun k hk hl => hfW.block k hl fun e => ?_)
          obtain ⟨_, _, cs, hb⟩ := own_type H2.out hk
          have := e.2
          rw [show V.heap[k]? = _ from hb] at this
          cases this
        · exact ((hfw3.out.trans (G := fun k => w.heap.size ≤ k) (H3.out.mono fun k _ e => by have := hkw.out; omega) fun k hk e => by omega).trans (hfW.mono (G := fun k => w.heap.size ≤ k) fun k _ e => e.1) fun k hk e => by omega)
end
end Go.Proofs.YtjolkhiggcmoiaaGreatDoor
