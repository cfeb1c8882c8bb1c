/-
  cells: those of a strip of leaves, row by row.
-/
import Derived.Test.YtoaeeojnelmlnaaDoorQRangeC
import Derived.Test.YtoaeeojnelmlnaaDoorQSrc
import Derived.StillTailTactics
namespace Go.Proofs.YtoaeeojnelmlnaaDoor
open Go.RowKit Go.Shelf
set_option linter.unusedVariables false
set_option linter.unusedSimpArgs false
attribute [local go_sem] Oper.semAt_some
theorem cellInfo : (Tryd.prog.info? 58).map (fun i => (i.zero, i.size, i.bytes)) = some (some (.agg #[.int .i64 0, .int .i64 0]), 2, 16) := by kernel_rfl
section
set_option maxHeartbeats 8000000
set_option maxRecDepth 100000
theorem qcells_any (M : Nat → Nat → Bool) (g o cap : Nat) (S : List (Nat × Nat)) (hS : S.length ≤ 256) (w : World) (hrow : ∀ k p, S[k]? = some p → w.rangeAt g (o + k * 66) (srow M p)) (hg : g < w.heap.size) (hp : ∀ p ∈ S, p.1 < 16 ∧ p.2 < 16) (hT : Tab w) :
    Calls Tryd.prog 92 #[.slice (some ⟨g, o, none⟩) S.length cap] w fun e w' => ∃ v, e = .returned v ∧ w'.ownsRow w.heap.size 58 2 v (cellsS M S).length (ccells (cellsS M S)) ∧ Far (fun _ => False) w w' ∧ (cellsS M S).length ≤ 67108864 := by
  have hzr : ∀ w, (zeroValue 165).run Tryd.prog w = .ok (.agg (Vw fun _ => .slice none 0 0)) w := (zero_of_info rowsZero).1
  have hzs : ∀ w, (zeroValue 99).run Tryd.prog w = .ok (.agg (spt 0 0 fun _ => 0)) w := (zero_of_info spotZero).1
  obtain ⟨bR, hbR⟩ : ∃ h, h = w.heap.size := ⟨_, rfl⟩
  obtain ⟨bN, hbN⟩ : ∃ h, h = bR + 1 := ⟨_, rfl⟩
  obtain ⟨W0, hW0⟩ : ∃ V, V = (w.alloc (.cells (Vw fun _ => .slice none 0 0) 165)).alloc (.cells #[.int .i64 0] 3) := ⟨_, rfl⟩
  have hf0 : Far (fun _ => False) w W0 := hW0 ▸ ((Far.refl _ w).alloc _).alloc _
  have hz0 : W0.heap.size = bN + 1 := by rw [hW0]; simp [hbN, hbR]
  have hR0 : RowsP w.heap.size bR bN (fun _ => .slice none 0 0) (stripL M (S.take 0)) 0 W0 := by
    refine ⟨hW0 ▸ (Bk.new hbR).alloc _, hW0 ▸ Bk.new (by simp [hbN, hbR]), fun a ha => ?_, (fun a a' _ _ _ k hk => by cases hk), (fun a => ?_), fun _ _ => rfl⟩
    · have e : stripL M (S.take 0) a = [] := by rw [List.take_zero]; exact stripL_nil M a
      rw [e]
      exact ⟨rfl, .inl ⟨rfl, rfl⟩⟩
    · have e : stripL M (S.take 0) a = [] := by rw [List.take_zero]; exact stripL_nil M a
      rw [e]; exact Nat.le_refl _
  have hbR' := Lib.hid hbR
  have hbN' := Lib.hid hbN
  have hW0' := Lib.hid hW0
  have hf0' := Lib.hid hf0
  have hz0' := Lib.hid hz0
  have hR0' := Lib.hid hR0
  clear hbR hbN hW0 hf0 hz0 hR0
  refine (callsIn_wide (n := 10)).1 (callsIn_of_wp_marks Tryd.func92 rfl trivial (wpIn_wide.2 ?_) rfl)
  simp only [Tryd.ntmps92, List.size_toArray, List.length_cons, List.length_nil, Nat.reduceAdd, Nat.reduceSub, Array.replicate_succ, Array.replicate_zero, List.push_toArray, List.append_toArray, List.nil_append, List.cons_append]
  go_upto_region 3 with fail
  rw [← hbR'.out, ← hbN'.out, ← hW0'.out]
  go_wp2_with fail
  refine wp_loop_d [6, 14, 15, 16, 17, 18, 19, 20, 49] (fun u ds W => ∃ (k : Nat) (V : Nat → Value) (N : Nat), u 14 = .int .i64 (k : Nat) ∧ k ≤ S.length ∧ RowsP w.heap.size bR bN V (stripL M (S.take k)) N W ∧ N ≤ 4096 * k ∧ Far (fun _ => False) w W ∧ Marks W w.heap.size ds) (fun u _ => S.length - (intOf (u 14)).toNat) (by kernel_rfl) ?start ?round
  case start => exact ⟨0, _, 0, rfl, Nat.zero_le _, hR0'.out, Nat.zero_le _, hf0'.out, Marks.nil _ _⟩
  case round =>
    clear hR0' hf0' hz0' hW0'
    rintro u ds wr ⟨k, V, N, hu, hk, hR, hN, hf, hds⟩
    simp only [putS, List.foldl_cons, List.foldl_nil, List.setIfInBounds_toArray, List.set_cons_zero, List.set_cons_succ, hu]
    have hR' := Lib.hid hR
    have hf' := Lib.hid hf
    have hds' := Lib.hid hds
    by_cases hkt : k < S.length
    · have e3 : decide ((k : Int) < (S.length : Int)) = true := by rw [decide_eq_true_eq]; omega
      have hkk : (k : Int) < (S.length : Int) := by omega
      obtain ⟨p, hpe⟩ : ∃ p, S[k]? = some p := ⟨S[k], List.getElem?_eq_getElem hkt⟩
      have hpm := hp p (List.mem_of_getElem? hpe)
      have hr : wr.rangeAt g (o + k * 66) (spt p.1 p.2 (blk (sub M p.1 p.2))).toList := range_far (hrow k p hpe) hf
      have hpe' := Lib.hid hpe
      clear hR hf hds hpe
      go_upto_region 6 with (first | (refine wpList_sp rfl _ rfl _ _ rfl hr ?_) | (refine wpList_spst rfl _ _ rfl _ rfl rfl (Bk.new rfl) (spt_size _ _ _) ?_))
      rw [World.setRow_alloc_new]
      obtain ⟨b6, hb6⟩ : ∃ b, b = wr.heap.size := ⟨_, rfl⟩
      obtain ⟨W1, hW1⟩ : ∃ V, V = wr.alloc (.cells (spt p.1 p.2 (blk (sub M p.1 p.2))) 99) := ⟨_, rfl⟩
      rw [← hb6, ← hW1]
      have hfa : Far (fun _ => False) wr W1 := hW1 ▸ (Far.refl _ wr).alloc _
      have hb : SpB W1 b6 (spt p.1 p.2 (blk (sub M p.1 p.2))) := hW1 ▸ Bk.new hb6
      have x2 := SpB.leaf hb
      obtain ⟨bx, hbx⟩ : ∃ b, b = W1.heap.size := ⟨_, rfl⟩
      have hb' := Lib.hid hb
      have hfa' := Lib.hid hfa
      have hbx' := Lib.hid hbx
      have hb6' := Lib.hid hb6
      clear hb6 hW1 hfa hb hbx hr
      go_wp2_with (first | (refine wpList_lf rfl _ rfl _ _ rfl x2 ?_) | (refine (bcells_any _ _).mono ?_; rintro e W2 ⟨rfl, hW2⟩; rw [← hbx'.out]; have hW2' := Lib.hid hW2; clear hW2 x2))
      have hf2 : Far (fun _ => False) W1 W2 := hW2'.out ▸ (Far.refl _ W1).alloc _
      have hbx2 : Hold W2 bx (Rw (blk (sub M p.1 p.2))) := hW2'.out ▸ Hold.new hbx'.out
      have hf12 : Far (fun _ => False) wr W2 := hfa'.out.then hf2
      have hT2 : Tab W2 := (hT.still hf'.out).still hf12
      have hsz2 : w.heap.size ≤ W2.heap.size := Nat.le_trans hf'.out.size hf12.size
      have hb2 := Lib.hid (hb'.out.far' hf2 id)
      have hR2 := Lib.hid (hR'.out.still hf12)
      have hds2 := Lib.hid (hds'.out.far hf12 fun _ _ _ q => q)
      have hfw2 := Lib.hid (hf'.out.then hf12)
      have hBN := Lib.hid (show bR = w.heap.size ∧ bN = w.heap.size + 1 by have := hbR'.out; have := hbN'.out; omega)
      refine range_bc (q := 7) (blk (sub M p.1 p.2)) (blk_wf _) bx hbx2 hT2 rfl
        (fun pre X => ∃ V N, RowsP w.heap.size bR bN V (pre.foldl (addC p) (stripL M (S.take k))) N X ∧ N ≤ 4096 * k + pre.length ∧ Far (fun _ => False) w X ∧ SpB X b6 (spt p.1 p.2 (blk (sub M p.1 p.2))) ∧ DefK W2 X) ?own ⟨V, N, hR2.out, by simpa using hN, hfw2.out, hb2.out, DefK.refl _⟩ ?sz
        (fun q x pre X => ∃ V N, RowsP w.heap.size bR bN V (pre.foldl (addC p) (stripL M (S.take k))) N X ∧ N ≤ 4096 * k + pre.length ∧ Far (fun _ => False) w X ∧ SpB X b6 (spt p.1 p.2 (blk (sub M p.1 p.2))) ∧ DefK W2 X ∧ Bk X q 58 #[.int .i64 (x.1 : Nat), .int .i64 (x.2 : Nat)] ∧ W2.heap.size ≤ q ∧ ∀ a, a < 64 → (V a).ownBlock ≠ some q) ?ownq ?mk ?assign ?body ?done
      case own =>
        rintro pre A C row ⟨V, N, h1, h2, h3, h4, h5⟩ hg hr
        exact ⟨V, N, h1.grown hg fun r e => (hr r e).2, h2, h3.grown hg fun q hq e => absurd (hr q e).1 (by omega), bk_other h4 (grown_F hg) (fun q e => (hr q e).2), h5.far (grown_F hg) fun q e => .inl (hr q e).1⟩
      case sz =>
        rintro pre X ⟨V, N, h1, h2, h3, h4, h5⟩
        exact h5.1
      case ownq =>
        rintro q x pre A C row ⟨V, N, h1, h2, h3, h4, h5, h6, h7, h8⟩ hg hr
        exact ⟨V, N, h1.grown hg fun r e => (hr r e).2, h2, h3.grown hg fun q hq e => absurd (hr q e).1 (by omega), bk_other h4 (grown_F hg) (fun q e => (hr q e).2), h5.far (grown_F hg) (fun q e => .inl (hr q e).1), bk_other h6 (grown_F hg) (fun q e => (hr q e).2), h7, h8⟩
      case mk =>
        rintro x pre X hpre ⟨V, N, h1, h2, h3, h4, h5⟩
        have hfX : Far (fun _ => False) X (X.alloc (.cells #[.int .i64 (x.1 : Nat), .int .i64 (x.2 : Nat)] 58)) := (Far.refl _ X).alloc _
        exact ⟨V, N, h1.still hfX, h2, h3.then hfX, h4.far' hfX id, h5.far hfX (fun _ q => q.elim), Bk.new rfl, h5.1, fun a ha e => by have := ((h1.row a ha).lt _ e).2; omega⟩
      case assign =>
        intro L x X KK hKK
        simp only [List.setIfInBounds_toArray, List.set_cons_zero, List.set_cons_succ] at hKK ⊢
        gi_wp2
        exact hKK
      case body =>
        rintro L pre x q X hLq hpre ⟨V, N, h1, h2, h3, h4, h5, h6, h7, h8⟩
        simp only [List.setIfInBounds_toArray, List.set_cons_zero, List.set_cons_succ]
        have hxm : x ∈ cellsUp (blk (sub M p.1 p.2)) 64 := hpre.subset (by simp)
        obtain ⟨hx1, hx2, _⟩ := mem_cellsUp.1 (show (x.1, x.2) ∈ cellsUp (blk (sub M p.1 p.2)) 64 from hxm)
        have hxi1 : (x.1 : Int) < 64 := by omega
        have hxi2 : (x.2 : Int) < 64 := by omega
        have hpi1 : (p.1 : Int) < 16 := by omega
        have hpi2 : (p.2 : Int) < 16 := by omega
        have hplen := hpre.length_le
        have hcle := cellsUp_le (blk (sub M p.1 p.2)) 64
        rw [List.length_append, List.length_singleton] at hplen
        obtain ⟨ao, cap0, hvx⟩ := q_form (h1.row x.1 hx1)
        obtain ⟨n0, hn0⟩ : ∃ n, n = (pre.foldl (addC p) (stripL M (S.take k)) x.1).length := ⟨_, rfl⟩
        have hn0N := h1.len x.1
        rw [← hn0] at hvx hn0N
        obtain ⟨d0, d1⟩ := SpB.at h4
        have e0 : X.cell? ⟨q, 0, none⟩ = some (.int .i64 (x.1 : Nat)) := h6.cell 0
        have e1 : X.cell? ⟨q, 1, none⟩ = some (.int .i64 (x.2 : Nat)) := h6.cell 1
        have H1 := Lib.hid h1
        have H3 := Lib.hid h3
        have H4 := Lib.hid h4
        have H5 := Lib.hid h5
        have H6 := Lib.hid h6
        have H8 := Lib.hid h8
        have hvx := Lib.hid hvx
        have hn0' := Lib.hid hn0
        clear h1 h3 h4 h5 h6 h8 hn0 hxm
        gi_wp2
        obtain ⟨k8, hk8⟩ : ∃ b, b = X.heap.size := ⟨_, rfl⟩
        obtain ⟨X8, hX8⟩ : ∃ Y, Y = X.alloc (.cells #[.int .i64 (64 * (p.1 : Int) + (x.1 : Int)), .int .i64 (64 * (p.2 : Int) + (x.2 : Int))] 58) := ⟨_, rfl⟩
        rw [← hk8, ← hX8]
        have hf8 : Far (fun _ => False) X X8 := hX8 ▸ (Far.refl _ X).alloc _
        have hB8 : Bk X8 k8 58 #[.int .i64 (64 * (p.1 : Int) + (x.1 : Int)), .int .i64 (64 * (p.2 : Int) + (x.2 : Int))] := hX8 ▸ Bk.new hk8
        have hd8 : Far (fun _ => False) X X8.drew := hf8.drew
        have hsz8 : X8.heap.size = k8 + 1 := by rw [hX8]; simp [hk8]
        obtain ⟨kE, hkE0⟩ : ∃ b, b = X8.heap.size := ⟨_, rfl⟩
        obtain ⟨XE, hXE⟩ : ∃ Y, Y = (X8.alloc (.cells #[.int .i64 (64 * (p.1 : Int) + (x.1 : Int)), .int .i64 (64 * (p.2 : Int) + (x.2 : Int))] 58)).drew := ⟨_, rfl⟩
        have hfE : Far (fun _ => False) X XE := hXE ▸ (hf8.alloc _).drew
        have hdE : Far (fun _ => False) X8 XE := hXE ▸ ((Far.refl _ X8).alloc _).drew
        have hRE := H1.out.still hfE
        obtain ⟨ci, hci, hz0, hz1, hz2⟩ := info_parts cellInfo
        have hrow : XE.ownsRow w.heap.size 58 2 (.slice ao n0 cap0) n0 (ccells (pre.foldl (addC p) (stripL M (S.take k)) x.1)) := by
          have := hRE.row x.1 hx1
          rw [hvx.out, ← hn0'.out] at this
          exact this
        have A1 := Lib.hid hrow
        have A2 := Lib.hid (show ∀ j u, [Value.int .i64 (64 * (p.1 : Int) + (x.1 : Int)), Value.int .i64 (64 * (p.2 : Int) + (x.2 : Int))][j]? = some u → XE.cell? ((⟨kE, 0, none⟩ : Addr).add j) = some u from World.news_of_block (cs := #[.int .i64 (64 * (p.1 : Int) + (x.1 : Int)), .int .i64 (64 * (p.2 : Int) + (x.2 : Int))]) (t := 58) (fr := (0, 0)) (by rw [hXE, hkE0]; exact heap_alloc_new X8 _))
        have A3 := Lib.hid (show ∀ u ∈ [Value.int .i64 (64 * (p.1 : Int) + (x.1 : Int)), Value.int .i64 (64 * (p.2 : Int) + (x.2 : Int))], u.oneCell' = true by simp [Value.oneCell'])
        have A4 : n0 + 1 ≤ maxLen := by unfold maxLen; omega
        have A5 : (n0 + 1) * 16 ≤ 140737488355328 := by omega
        have A6 : w.heap.size ≤ XE.heap.size := Nat.le_trans H3.out.size hfE.size
        have hown0 : (V x.1).ownBlock = (Value.slice ao n0 cap0).ownBlock := by rw [hvx.out]
        have nR : some bR ≠ (Value.slice ao n0 cap0).ownBlock := fun e => q_row_ne hRE.box hrow (by decide) e.symm
        have nN : some bN ≠ (Value.slice ao n0 cap0).ownBlock := fun e => q_row_ne hRE.num hrow (by decide) e.symm
        have nq : some q ≠ (Value.slice ao n0 cap0).ownBlock := fun e => H8.out x.1 hx1 (by rw [hown0]; exact e.symm)
        have n8 : some k8 ≠ (Value.slice ao n0 cap0).ownBlock := fun e => by
          have := ((H1.out.row x.1 hx1).lt k8 (by rw [hown0]; exact e.symm)).2
          omega
        have B1 := Lib.hid (show ∀ W5, XE.grownBy W5 (Value.slice ao n0 cap0).ownBlock → Bk W5 q 58 #[.int .i64 (x.1 : Nat), .int .i64 (x.2 : Nat)] from fun W5 hg => qb_grown (H6.out.far' hfE id) hg nq)
        have B2 := Lib.hid (show ∀ W5, XE.grownBy W5 (Value.slice ao n0 cap0).ownBlock → Bk W5 k8 58 #[.int .i64 (64 * (p.1 : Int) + (x.1 : Int)), .int .i64 (64 * (p.2 : Int) + (x.2 : Int))] from fun W5 hg => qb_grown (hB8.far' hdE id) hg n8)
        have B3 := Lib.hid (show q ≠ bR from fun e => absurd (bk_type H6.out (e ▸ H1.out.box)) (by decide))
        have B4 := Lib.hid (show k8 ≠ bR from fun e => by have := H1.out.box.lt; omega)
        have B5 := Lib.hid (show bN ≠ bR from fun e => absurd (bk_type H1.out.num (e ▸ H1.out.box)) (by decide))
        have A7 := Lib.hid (show ∀ W5, XE.grownBy W5 (Value.slice ao n0 cap0).ownBlock → (fun w' : World => w'.cell? ⟨q, 0, none⟩ = some (.int .i64 (x.1 : Nat)) ∧ w'.cell? ⟨k8, 0, none⟩ = some (.int .i64 (64 * (p.1 : Int) + (x.1 : Int))) ∧ w'.cell? ⟨k8, 1, none⟩ = some (.int .i64 (64 * (p.2 : Int) + (x.2 : Int)))) W5 from fun W5 hg => ⟨(B1.out W5 hg).cell 0, (B2.out W5 hg).cell 0, (B2.out W5 hg).cell 1⟩)
        have A8 := Lib.hid (show ∀ W5, XE.grownBy W5 (Value.slice ao n0 cap0).ownBlock → Bk W5 bR 165 (Vw V) from fun W5 hg => qb_grown hRE.box hg nR)
        have A9 := Lib.hid (show ∀ W5, XE.grownBy W5 (Value.slice ao n0 cap0).ownBlock → Bk W5 bN 3 #[.int .i64 (N : Nat)] from fun W5 hg => qb_grown hRE.num hg nN)
        have c5 : X8.drew.cell? ⟨bR, x.1, none⟩ = some (.slice ao n0 cap0) := by rw [← hvx.out]; exact (H1.out.still hd8).at hx1
        have c5E : XE.cell? ⟨bR, x.1, none⟩ = some (.slice ao n0 cap0) := by rw [← hvx.out]; exact hRE.at hx1
        have SE : (fun w' : World => w'.cell? ⟨q, 0, none⟩ = some (.int .i64 (x.1 : Nat)) ∧ w'.cell? ⟨k8, 0, none⟩ = some (.int .i64 (64 * (p.1 : Int) + (x.1 : Int))) ∧ w'.cell? ⟨k8, 1, none⟩ = some (.int .i64 (64 * (p.2 : Int) + (x.2 : Int)))) XE := A7.out XE (World.grownBy.refl XE _)
        have hSE := Lib.hid SE
        have hXE' := Lib.hid hXE
        have hkE := Lib.hid (show XE.heap.size = kE + 1 ∧ X8.heap.size = kE from ⟨by rw [hXE, hkE0]; exact World.size_alloc X8 _, hkE0.symm⟩)
        have hRE' := Lib.hid hRE
        have hfE' := Lib.hid hfE
        have PST : Hid (∀ g5 cap5 W5 W6, W5.ownsRow w.heap.size 58 2 (.slice (some ⟨g5, 0, none⟩) (n0 + 1) cap5) (n0 + 1) (ccells (pre.foldl (addC p) (stripL M (S.take k)) x.1) ++ [.int .i64 (64 * (p.1 : Int) + (x.1 : Int)), .int .i64 (64 * (p.2 : Int) + (x.2 : Int))]) → XE.grownBy W5 (Value.slice ao n0 cap0).ownBlock → ((Value.slice ao n0 cap0).ownBlock = some g5 ∨ g5 = kE + 1) →
            W6 = W5.setCell ⟨bR, x.1, none⟩ (.slice (some ⟨g5, 0, none⟩) (n0 + 1) cap5) → ∀ a9, ownPostG W2.heap.size (KeepS TabK) (fun pre X => ∃ V N, RowsP w.heap.size bR bN V (pre.foldl (addC p) (stripL M (S.take k))) N X ∧ N ≤ 4096 * k + pre.length ∧ Far (fun _ => False) w X ∧ SpB X b6 (spt p.1 p.2 (blk (sub M p.1 p.2))) ∧ DefK W2 X) (fun _ _ _ => False) (pre ++ [x]) X .normal a9 (W6.setCell ⟨bN, 0, none⟩ (.int .i64 ((N : Int) + 1)))) := by
          refine Lib.hid ?_
          intro g5 cap5 W5 W6 ho5 hg5 hat5 hW6 a9
          have hc1 : 64 * (p.1 : Int) + (x.1 : Int) = ((64 * p.1 + x.1 : Nat) : Int) := by omega
          have hc2 : 64 * (p.2 : Int) + (x.2 : Int) = ((64 * p.2 + x.2 : Nat) : Int) := by omega
          have e9 : ((N : Int) + 1) = ((N + 1 : Nat) : Int) := by omega
          rw [hc1, hc2] at ho5
          have hP := RowsP.push (x := (64 * p.1 + x.1, 64 * p.2 + x.2)) (v := .slice (some ⟨g5, 0, none⟩) (n0 + 1) cap5) hRE'.out hx1 (by rw [← hn0'.out]; exact ho5) (by rw [hvx.out]; exact hg5) (fun g hg => by
            have hgg : g5 = g := Option.some.inj hg
            subst hgg
            rcases hat5 with e | e
            · exact .inl (by rw [hvx.out]; exact e)
            · exact .inr (by have := hkE.out.1; omega))
          have hS : Far (fun q' => q' = bR ∨ q' = bN ∨ (Value.slice ao n0 cap0).ownBlock = some q') X (W6.setCell ⟨bN, 0, none⟩ (.int .i64 ((N : Int) + 1))) := by
            rw [hW6]
            exact (((hfE'.out.mono (G := fun q' => q' = bR ∨ q' = bN ∨ (Value.slice ao n0 cap0).ownBlock = some q') fun _ _ h => h.elim).grown hg5 (fun k _ e => .inr (.inr e))).set ⟨bR, x.1, none⟩ _ (fun _ => .inl rfl)).set ⟨bN, 0, none⟩ _ (fun _ => .inr (.inl rfl))
          have hrX : X.ownsRow w.heap.size 58 2 (.slice ao n0 cap0) n0 (ccells (pre.foldl (addC p) (stripL M (S.take k)) x.1)) := by
            have := H1.out.row x.1 hx1
            rw [hvx.out, ← hn0'.out] at this
            exact this
          have hcB : ∀ q', (q' = bR ∨ q' = bN ∨ (Value.slice ao n0 cap0).ownBlock = some q') → ∃ cs t, Bk X q' t cs := fun q' hq => by
            rcases hq with rfl | rfl | e
            · exact ⟨_, _, H1.out.box⟩
            · exact ⟨_, _, H1.out.num⟩
            · rcases hrX.2 with ⟨e1, _⟩ | ⟨g', cap, cur, e1, _, hg1, _⟩
              · rw [e1] at e; cases e
              · rw [e1] at e
                have : g' = q' := Option.some.inj e
                subst this
                exact ⟨_, _, hg1⟩
          have hlow : ∀ q', (q' = bR ∨ q' = bN ∨ (Value.slice ao n0 cap0).ownBlock = some q') → w.heap.size ≤ q' := fun q' hq => by
            rcases hq with rfl | rfl | e
            · have := hBN.out; omega
            · have := hBN.out; omega
            · exact (hrX.lt q' e).1
          refine ⟨keeps_far hS hcB, ⟨KeepK.of_far hS fun q' e => ?_, hS.size⟩, updV V x.1 (.slice (some ⟨g5, 0, none⟩) (n0 + 1) cap5), N + 1, ?_, ?_, H3.out.trans hS fun i hi h => absurd (hlow i h) (by omega), H4.out.far' hS ?_, H5.out.far hS fun q' e => .inr ?_⟩
          · have e' : q' = 0 := e
            subst e'
            exact ⟨Nat.lt_of_lt_of_le hT.lt H3.out.size, fun h => absurd (hlow _ h) (by have := hT.lt; omega)⟩
          · rw [fold_snoc, hW6, e9]
            exact hP
          · rw [List.length_append, List.length_singleton]; omega
          · rintro (e | e | e)
            · exact absurd (bk_type H4.out (e ▸ H1.out.box)) (by decide)
            · exact absurd (bk_type H4.out (e ▸ H1.out.num)) (by decide)
            · exact q_row_ne H4.out hrX (by decide) e
          · obtain ⟨cs, ty, hb⟩ := hcB q' e
            exact ⟨ty, cs, hb⟩
        have SD : (fun w' : World => w'.cell? ⟨q, 0, none⟩ = some (.int .i64 (x.1 : Nat)) ∧ w'.cell? ⟨k8, 0, none⟩ = some (.int .i64 (64 * (p.1 : Int) + (x.1 : Int))) ∧ w'.cell? ⟨k8, 1, none⟩ = some (.int .i64 (64 * (p.2 : Int) + (x.2 : Int)))) X8.drew := ⟨(H6.out.far' hd8 id).cell 0, (show Bk X8.drew k8 58 #[.int .i64 (64 * (p.1 : Int) + (x.1 : Int)), .int .i64 (64 * (p.2 : Int) + (x.2 : Int))] from hB8).cell 0, (show Bk X8.drew k8 58 #[.int .i64 (64 * (p.1 : Int) + (x.1 : Int)), .int .i64 (64 * (p.2 : Int) + (x.2 : Int))] from hB8).cell 1⟩
        clear hkE0 hk8 hf8 hB8 hd8 hsz8 hXE hfE hdE hRE hrow hown0 nR nN nq n8 SE hX8 e1 d0 d1
        refine region_in (S := fun w' : World => w'.cell? ⟨q, 0, none⟩ = some (.int .i64 (x.1 : Nat)) ∧ w'.cell? ⟨k8, 0, none⟩ = some (.int .i64 (64 * (p.1 : Int) + (x.1 : Int))) ∧ w'.cell? ⟨k8, 1, none⟩ = some (.int .i64 (64 * (p.2 : Int) + (x.2 : Int)))) (by kernel_rfl) (by kernel_rfl) SD (fun hS => ?_)
        refine wpAnyH_take (i := 0) (v := ?v0c1) rfl (by kernel_rfl) (by kernel_rfl) (by kernel_rfl) (fun _ _ _ h => h) (Or.inl ⟨by rfl, ?y0c1⟩) (by assumption) ?r0c1
        case y0c1 => (intro w hSw; (try dsimp only at hSw); go_simp; (try with_reducible rfl))
        simp only [Act.put, List.setIfInBounds_toArray, List.set_cons_zero, List.set_cons_succ]
        refine wpAnyH_take (i := 1) (v := ?v1c2) rfl (by kernel_rfl) (by kernel_rfl) (by kernel_rfl) (fun _ _ _ h => h) (Or.inl ⟨by rfl, ?y1c2⟩) (by assumption) ?r1c2
        case y1c2 => (intro w hSw; (try dsimp only at hSw); go_simp; (try with_reducible rfl))
        simp only [Act.put, List.setIfInBounds_toArray, List.set_cons_zero, List.set_cons_succ]
        refine wpAnyH_take (i := 2) (v := ?v2c3) rfl (by kernel_rfl) (by kernel_rfl) (by kernel_rfl) (fun _ _ _ h => h) (Or.inl ⟨by rfl, ?y2c3⟩) (by assumption) ?r2c3
        case y2c3 => (intro w hSw; (try dsimp only at hSw); go_simp; (try with_reducible rfl))
        simp only [Act.put, List.setIfInBounds_toArray, List.set_cons_zero, List.set_cons_succ]
        refine wpAnyH_take (i := 3) (v := ?v3c4) rfl (by kernel_rfl) (by kernel_rfl) (by kernel_rfl) (fun _ _ _ h => h) (Or.inl ⟨by rfl, ?y3c4⟩) (by assumption) ?r3c4
        case y3c4 => (intro w hSw; (try dsimp only at hSw); go_simp; (try with_reducible rfl))
        simp only [Act.put, List.setIfInBounds_toArray, List.set_cons_zero, List.set_cons_succ]
        refine wpAnyH_take (i := 4) (v := ?v4c5) rfl (by kernel_rfl) (by kernel_rfl) (by kernel_rfl) (fun _ _ _ h => h) (Or.inl ⟨by rfl, ?y4c5⟩) (by assumption) ?r4c5
        case y4c5 => (intro w hSw; (try dsimp only at hSw); go_simp; (try with_reducible rfl))
        simp only [Act.put, List.setIfInBounds_toArray, List.set_cons_zero, List.set_cons_succ]
        refine wpAnyH_take (i := 6) (v := ?v6c6) rfl (by kernel_rfl) (by kernel_rfl) (by kernel_rfl) (fun _ _ _ h => h) (Or.inl ⟨by rfl, ?y6c6⟩) (by assumption) ?r6c6
        case y6c6 => (intro w hSw; (try dsimp only at hSw); go_simp; (try with_reducible rfl))
        simp only [Act.put, List.setIfInBounds_toArray, List.set_cons_zero, List.set_cons_succ]
        refine wpAnyH_ready (rs := [5, 7]) (by kernel_rfl) (by decide) (AllReadyH.cons (o := ({ dst := some 42, op := Op.load 26 (Operand.tmp 41), type := 26, pos := "quad.go:270", after := #[{ on := 4, ground := Ground.data }], guard := none } : Oper)) rfl (fun K' hK => ?g5) (AllReadyH.cons (o := ({ dst := some 44, op := Op.buildSlice 26 1 #[(0, Operand.tmp 43)], type := 26, pos := "quad.go:270", after := #[{ on := 6, ground := Ground.data }], guard := none } : Oper)) rfl (fun K' hK => ?g7) AllReadyH.nil))
        case g5 =>
          go_simp
          refine hK.out _ _ hS fun hS1 => ?_
          clear hK
          (try simp only [Act.put, List.setIfInBounds_toArray, List.set_cons_zero, List.set_cons_succ])
          refine wpAnyH_ready (rs := [7]) (by kernel_rfl) (by decide) (AllReadyH.cons (o := ({ dst := some 44, op := Op.buildSlice 26 1 #[(0, Operand.tmp 43)], type := 26, pos := "quad.go:270", after := #[{ on := 6, ground := Ground.data }], guard := none } : Oper)) rfl (fun K' hK => ?_) AllReadyH.nil)
          go_simp
          rw [← hXE'.out, hkE.out.2]
          refine hK.out _ _ hSE.out fun hS2 => ?_
          clear hK
          (try simp only [Act.put, List.setIfInBounds_toArray, List.set_cons_zero, List.set_cons_succ])
          refine wpAnyH_ready (rs := [8]) (by kernel_rfl) (by decide) (AllReadyH.cons (o := ({ dst := some 45, op := Op.call { callee := Callee.builtin Builtin.append, args := #[Operand.tmp 42, Operand.tmp 44], argTypes := #[26, 26] }, type := 26, pos := "quad.go:270", after := #[{ on := 5, ground := Ground.data }, { on := 7, ground := Ground.data }], guard := none } : Oper)) rfl (fun K' hK => ?_) AllReadyH.nil)
          refine step_append_lies _ rfl (.tmp 42) (.tmp 44) 26 rfl w.heap.size 58 ci _ 2 16 Tryd.underlying26 hci hz0 hz1 hz2 rfl (by decide) (.slice ao n0 cap0) n0 _ rfl A1.out ⟨kE, 0, none⟩ 1 1 [.int .i64 (64 * (p.1 : Int) + (x.1 : Int)), .int .i64 (64 * (p.2 : Int) + (x.2 : Int))] rfl rfl A2.out A3.out (by decide) A4 A5 A6 (kE + 1) hkE.out.1 ?_
          intro g5 cap5 W5 ho5 hg5 hat5 hl5
          refine hK.out _ _ (A7.out W5 hg5) fun hS6 => ?_
          have hbx5 := Lib.hid (A8.out W5 hg5)
          have hbn5 := Lib.hid (A9.out W5 hg5)
          have c10 : W5.cell? ⟨bR, x.1, none⟩ = some (.slice ao n0 cap0) := by rw [← hvx.out]; exact (hbx5.out.cell x.1).trans (Vw_get V x.1 hx1)
          have c11 := hbx5.out.free x.1
          have ho5' := Lib.hid ho5
          have hg5' := Lib.hid hg5
          have hat5' := Lib.hid hat5
          clear hK ho5 hg5 hat5
          (try simp only [Act.put, List.setIfInBounds_toArray, List.set_cons_zero, List.set_cons_succ])
          refine wpAnyH_take (i := 9) (v := ?v9d1) rfl (by kernel_rfl) (by kernel_rfl) (by kernel_rfl) (fun _ _ _ h => h) (Or.inl ⟨by rfl, ?y9d1⟩) (by assumption) ?r9d1
          case y9d1 => (intro w hSw; (try dsimp only at hSw); go_simp; (try with_reducible rfl))
          simp only [Act.put, List.setIfInBounds_toArray, List.set_cons_zero, List.set_cons_succ]
          refine wpAnyH_ready (rs := [10]) (by kernel_rfl) (by decide) (AllReadyH.cons (o := ({ dst := none, op := Op.store 26 (Operand.tmp 46) (Operand.tmp 45), type := 0, pos := "quad.go:270", after := #[{ on := 9, ground := Ground.data }, { on := 8, ground := Ground.data }, { on := 8, ground := Ground.chain }, { on := 0, ground := Ground.phase }, { on := 1, ground := Ground.phase }, { on := 2, ground := Ground.phase }, { on := 3, ground := Ground.phase }, { on := 4, ground := Ground.phase }, { on := 5, ground := Ground.phase }, { on := 6, ground := Ground.phase }, { on := 7, ground := Ground.phase }, { on := 8, ground := Ground.phase }], guard := none } : Oper)) rfl (fun K' hK => ?_) AllReadyH.nil)
          go_simp
          refine hK.out _ _ ⟨((B1.out W5 hg5'.out).far (p := ⟨bR, x.1, none⟩) B3.out _).cell 0, ((B2.out W5 hg5'.out).far (p := ⟨bR, x.1, none⟩) B4.out _).cell 0, ((B2.out W5 hg5'.out).far (p := ⟨bR, x.1, none⟩) B4.out _).cell 1⟩ fun hS7 => ?_
          clear hK c10 c11
          refine wpAnyH_done (by kernel_rfl) ?_ _
          unfold OnlyNormal
          dsimp only
          have hbn6 := hbn5.out.far (p := ⟨bR, x.1, none⟩) B5.out (.slice (some ⟨g5, 0, none⟩) (n0 + 1) cap5)
          have c12 : (W5.setCell ⟨bR, x.1, none⟩ (.slice (some ⟨g5, 0, none⟩) (n0 + 1) cap5)).cell? ⟨bN, 0, none⟩ = some (.int .i64 (N : Nat)) := hbn6.cell 0
          have c13 := hbn6.free 0
          obtain ⟨W6, hW6⟩ : ∃ Y, Y = W5.setCell ⟨bR, x.1, none⟩ (.slice (some ⟨g5, 0, none⟩) (n0 + 1) cap5) := ⟨_, rfl⟩
          rw [← hW6] at c12 c13 ⊢
          have hW6' := Lib.hid hW6
          clear hW6 hbn6
          gi_wp2
          exact PST.out g5 cap5 W5 W6 ho5'.out hg5'.out hat5'.out hW6'.out _
        case g7 =>
          go_simp
          rw [← hXE'.out, hkE.out.2]
          refine hK.out _ _ hSE.out fun hS2 => ?_
          clear hK
          (try simp only [Act.put, List.setIfInBounds_toArray, List.set_cons_zero, List.set_cons_succ])
          refine wpAnyH_ready (rs := [5]) (by kernel_rfl) (by decide) (AllReadyH.cons (o := ({ dst := some 42, op := Op.load 26 (Operand.tmp 41), type := 26, pos := "quad.go:270", after := #[{ on := 4, ground := Ground.data }], guard := none } : Oper)) rfl (fun K' hK => ?_) AllReadyH.nil)
          go_simp
          refine hK.out _ _ hSE.out fun hS1 => ?_
          clear hK
          (try simp only [Act.put, List.setIfInBounds_toArray, List.set_cons_zero, List.set_cons_succ])
          refine wpAnyH_ready (rs := [8]) (by kernel_rfl) (by decide) (AllReadyH.cons (o := ({ dst := some 45, op := Op.call { callee := Callee.builtin Builtin.append, args := #[Operand.tmp 42, Operand.tmp 44], argTypes := #[26, 26] }, type := 26, pos := "quad.go:270", after := #[{ on := 5, ground := Ground.data }, { on := 7, ground := Ground.data }], guard := none } : Oper)) rfl (fun K' hK => ?_) AllReadyH.nil)
          refine step_append_lies _ rfl (.tmp 42) (.tmp 44) 26 rfl w.heap.size 58 ci _ 2 16 Tryd.underlying26 hci hz0 hz1 hz2 rfl (by decide) (.slice ao n0 cap0) n0 _ rfl A1.out ⟨kE, 0, none⟩ 1 1 [.int .i64 (64 * (p.1 : Int) + (x.1 : Int)), .int .i64 (64 * (p.2 : Int) + (x.2 : Int))] rfl rfl A2.out A3.out (by decide) A4 A5 A6 (kE + 1) hkE.out.1 ?_
          intro g5 cap5 W5 ho5 hg5 hat5 hl5
          refine hK.out _ _ (A7.out W5 hg5) fun hS6 => ?_
          have hbx5 := Lib.hid (A8.out W5 hg5)
          have hbn5 := Lib.hid (A9.out W5 hg5)
          have c10 : W5.cell? ⟨bR, x.1, none⟩ = some (.slice ao n0 cap0) := by rw [← hvx.out]; exact (hbx5.out.cell x.1).trans (Vw_get V x.1 hx1)
          have c11 := hbx5.out.free x.1
          have ho5' := Lib.hid ho5
          have hg5' := Lib.hid hg5
          have hat5' := Lib.hid hat5
          clear hK ho5 hg5 hat5
          (try simp only [Act.put, List.setIfInBounds_toArray, List.set_cons_zero, List.set_cons_succ])
          refine wpAnyH_take (i := 9) (v := ?v9e1) rfl (by kernel_rfl) (by kernel_rfl) (by kernel_rfl) (fun _ _ _ h => h) (Or.inl ⟨by rfl, ?y9e1⟩) (by assumption) ?r9e1
          case y9e1 => (intro w hSw; (try dsimp only at hSw); go_simp; (try with_reducible rfl))
          simp only [Act.put, List.setIfInBounds_toArray, List.set_cons_zero, List.set_cons_succ]
          refine wpAnyH_ready (rs := [10]) (by kernel_rfl) (by decide) (AllReadyH.cons (o := ({ dst := none, op := Op.store 26 (Operand.tmp 46) (Operand.tmp 45), type := 0, pos := "quad.go:270", after := #[{ on := 9, ground := Ground.data }, { on := 8, ground := Ground.data }, { on := 8, ground := Ground.chain }, { on := 0, ground := Ground.phase }, { on := 1, ground := Ground.phase }, { on := 2, ground := Ground.phase }, { on := 3, ground := Ground.phase }, { on := 4, ground := Ground.phase }, { on := 5, ground := Ground.phase }, { on := 6, ground := Ground.phase }, { on := 7, ground := Ground.phase }, { on := 8, ground := Ground.phase }], guard := none } : Oper)) rfl (fun K' hK => ?_) AllReadyH.nil)
          go_simp
          refine hK.out _ _ ⟨((B1.out W5 hg5'.out).far (p := ⟨bR, x.1, none⟩) B3.out _).cell 0, ((B2.out W5 hg5'.out).far (p := ⟨bR, x.1, none⟩) B4.out _).cell 0, ((B2.out W5 hg5'.out).far (p := ⟨bR, x.1, none⟩) B4.out _).cell 1⟩ fun hS7 => ?_
          clear hK c10 c11
          refine wpAnyH_done (by kernel_rfl) ?_ _
          unfold OnlyNormal
          dsimp only
          have hbn6 := hbn5.out.far (p := ⟨bR, x.1, none⟩) B5.out (.slice (some ⟨g5, 0, none⟩) (n0 + 1) cap5)
          have c12 : (W5.setCell ⟨bR, x.1, none⟩ (.slice (some ⟨g5, 0, none⟩) (n0 + 1) cap5)).cell? ⟨bN, 0, none⟩ = some (.int .i64 (N : Nat)) := hbn6.cell 0
          have c13 := hbn6.free 0
          obtain ⟨W6, hW6⟩ : ∃ Y, Y = W5.setCell ⟨bR, x.1, none⟩ (.slice (some ⟨g5, 0, none⟩) (n0 + 1) cap5) := ⟨_, rfl⟩
          rw [← hW6] at c12 c13 ⊢
          have hW6' := Lib.hid hW6
          clear hW6 hbn6
          gi_wp2
          exact PST.out g5 cap5 W5 W6 ho5'.out hg5'.out hat5'.out hW6'.out _
      case done =>
        rintro Dd Y hDd ⟨V, N, h1, h2, h3, h4, h5⟩ hKD
        have hmk := Lib.hid (Marks.cons hds2.out (hds2.out.defk h5) (Nat.le_trans hsz2 hDd) hDd hKD)
        have hcl := cellsUp_le (blk (sub M p.1 p.2)) 64
        have hst : (cellsUp (blk (sub M p.1 p.2)) 64).foldl (addC p) (stripL M (S.take k)) = stripL M (S.take (k + 1)) := by
          rw [← stripL_app, List.take_add_one, hpe'.out]; rfl
        rw [hst] at h1
        have H1 := Lib.hid h1
        have H3 := Lib.hid h3
        have hN2 : N ≤ 4096 * (k + 1) := by omega
        clear h1 h3 h4 h5 hst hcl h2
        go_wp2_with fail
        refine ⟨⟨k + 1, V, N, by go_num, by omega, H1.out, hN2, H3.out, hmk.out⟩, ?_, ?_⟩
        · simp [getS, intOf, hu]; omega
        · rfl
    · have e3 : decide ((k : Int) < (S.length : Int)) = false := by rw [decide_eq_false_iff_not]; omega
      have e4 : decide (k < S.length) = false := by rw [decide_eq_false_iff_not]; exact hkt
      have hst : S.take k = S := List.take_of_length_le (by omega)
      have hR1 : RowsP w.heap.size bR bN V (stripL M S) N wr := by
        have := hR'.out
        rw [hst] at this
        exact this
      have hR2 := Lib.hid hR1
      obtain ⟨ci, hci, hz0, hz1, hz2⟩ := info_parts cellInfo
      have c0 : wr.cell? ⟨bN, 0, none⟩ = some (.int .i64 (N : Nat)) := hR1.num.cell 0
      have hN3 : N ≤ 1048576 := by omega
      clear hR hf hds hR1 hst hR'
      go_wp2_with (first | (refine wpList_make_own wr rfl _ _ 26 rfl w.heap.size 58 ci _ 2 Tryd.underlying26 hci hz0 hz1 .i64 .i64 _ N rfl rfl rfl (by rw [hz2]; omega) (by unfold maxLen; omega) hf'.out.size ?_; intro w1 ho1 hg1; have hf1 : Far (fun _ => False) wr w1 := (Far.refl _ wr).grown hg1 (fun _ _ e => by cases e); have hR3 := Lib.hid (hR2.out.still hf1); have hV3 := hR3.out.box; have ho1' := Lib.hid ho1; have hf1' := Lib.hid hf1; clear ho1 hg1 hf1 c0) | (refine wpList_ldV rfl _ rfl _ rfl hV3 ?_))
      have hV4 := hR3.out.box
      refine wp_loop_d [9, 11, 53, 54, 55, 56, 57, 58, 59] (fun u ds W => ∃ (j m : Nat) (lo : Option Addr) (lc : Nat), u 53 = .int .i64 (j : Nat) ∧ j ≤ 64 ∧ u 9 = .slice lo m lc ∧ m = ((List.range j).flatMap (stripL M S)).length ∧ m ≤ N * j ∧ W.ownsRow w.heap.size 58 2 (.slice lo m lc) m (ccells ((List.range j).flatMap (stripL M S))) ∧ RowsP w.heap.size bR bN V (stripL M S) N W ∧
        (∀ a, a < 64 → ∀ q, (Value.slice lo m lc).ownBlock = some q → (V a).ownBlock ≠ some q) ∧ Far (fun _ => False) w W ∧ Marks W w.heap.size ds) (fun u _ => 64 - (intOf (u 53)).toNat) (by kernel_rfl) ?start2 ?round2
      case start2 =>
        refine ⟨0, 0, _, _, rfl, Nat.zero_le _, rfl, rfl, Nat.le_refl _, ho1'.out, hR3.out, fun a ha q hq hq2 => ?_, hf'.out.then hf1'.out, hds'.out.far hf1'.out fun _ _ _ q => q⟩
        have e : wr.heap.size = q := Option.some.inj hq
        have := ((hR2.out.row a ha).lt q hq2).2
        omega
      case round2 =>
        clear hR2 hf' hds' hR3 hV3 hV4 ho1' hf1'
        rintro u2 ds2 w2 ⟨j, m, lo, lc, hu1, hj, hu2, hm, hmN, hown, hR, hap, hf, hds⟩
        simp only [putS, List.foldl_cons, List.foldl_nil, List.setIfInBounds_toArray, List.set_cons_zero, List.set_cons_succ, hu1, hu2]
        have hR' := Lib.hid hR
        have hf' := Lib.hid hf
        have hds' := Lib.hid hds
        have hown' := Lib.hid hown
        have hap' := Lib.hid hap
        have hm' := Lib.hid hm
        by_cases hjt : j < 64
        · have e5 : decide ((j : Int) < 64) = true := by rw [decide_eq_true_eq]; omega
          have hjj : (j : Int) < 64 := by omega
          have hix := fun w => run_ixV V (fun i hi => q_form (hR'.out.row i hi) |>.elim fun a h => h.elim fun c h => ⟨a, _, c, h⟩) j hjt w
          have hrj := hR'.out.row j hjt
          have hlj := hR'.out.len j
          have hflat : (List.range (j + 1)).flatMap (stripL M S) = (List.range j).flatMap (stripL M S) ++ stripL M S j := by rw [List.range_succ, List.flatMap_append]; simp
          by_cases he : stripL M S j = []
          · have hVn := hR'.out.empty j he
            rw [hVn] at hix
            have hflat2 : (List.range (j + 1)).flatMap (stripL M S) = (List.range j).flatMap (stripL M S) := by rw [hflat, he, List.append_nil]
            have hm2 : m = ((List.range (j + 1)).flatMap (stripL M S)).length := by rw [hflat2]; exact hm
            have hown2 := Lib.hid (show w2.ownsRow w.heap.size 58 2 (.slice lo m lc) m (ccells ((List.range (j + 1)).flatMap (stripL M S))) by rw [hflat2]; exact hown)
            have hmN2 : m ≤ N * (j + 1) := by rw [Nat.mul_succ]; omega
            have hm2' := Lib.hid hm2
            clear hrj hlj hflat hflat2 he hm hown hR hap hf hds hm2
            go_wp2_with (at_builtin; refine wpList_app_none rfl _ _ 26 rfl w.heap.size 58 ci 2 Tryd.underlying26 hci (.slice lo m lc) m _ rfl hown'.out rfl ?_)
            refine ⟨⟨j + 1, m, lo, lc, by go_num, by omega, rfl, hm2'.out, hmN2, hown2.out, hR'.out, hap'.out, hf'.out, hds'.out⟩, ?_, ?_⟩
            · simp [getS, intOf, hu1]; omega
            · rfl
          · obtain ⟨nj, hnj⟩ : ∃ n, n = (stripL M S j).length := ⟨_, rfl⟩
            have hpos : 0 < nj := by
              rw [hnj]
              exact List.length_pos_iff.2 he
            rw [← hnj] at hrj hlj
            obtain ⟨gj, cj, hVj, _, hgl⟩ := hrj.form (by omega)
            have hnews := Lib.hid (fun q u hu => hrj.cells (g := gj) (by rw [hVj]; rfl) q u hu)
            have hlen2 : (ccells (stripL M S j)).length = nj * 2 := by rw [ccells_len, hnj]
            rw [hVj] at hix
            have hB5 : m + nj ≤ maxLen := by unfold maxLen; have : N * j ≤ 1048576 * 64 := Nat.mul_le_mul hN3 (by omega); omega
            have hB6 : (m + nj) * 16 ≤ 140737488355328 := by have : N * j ≤ 1048576 * 64 := Nat.mul_le_mul hN3 (by omega); omega
            have hm2 := Lib.hid (show m + nj = ((List.range (j + 1)).flatMap (stripL M S)).length by rw [hflat, List.length_append, ← hm, ← hnj])
            have hmN2 : m + nj ≤ N * (j + 1) := by rw [Nat.mul_succ]; omega
            have hone := Lib.hid (ccells_one (stripL M S j))
            have hflat' := Lib.hid hflat
            have hsz2 := hf.size
            clear hrj hlj hflat he hm hown hR hap hf hds hVj hnj
            go_wp2_with (at_builtin; refine wpList_append_lies _ rfl _ _ 26 rfl w.heap.size 58 ci _ 2 16 Tryd.underlying26 hci hz0 hz1 hz2 rfl (by decide) (.slice lo m lc) m _ rfl hown'.out ⟨gj, 0, none⟩ nj cj (ccells (stripL M S j)) rfl hlen2 hnews.out hone.out hpos hB5 hB6 hsz2 _ rfl ?_; intro g5 cap5 W5 ho5 hg5 hat5 hl5; have ho5' := Lib.hid ho5; have hg5' := Lib.hid hg5; have hat5' := Lib.hid hat5; clear ho5 hg5 hat5)
            have hapn : ∀ a, a < 64 → ∀ q, (Value.slice (some ⟨g5, 0, none⟩) (m + nj) cap5).ownBlock = some q → (V a).ownBlock ≠ some q := fun a ha q hq hq2 => by
              have e : g5 = q := Option.some.inj hq
              subst e
              rcases hat5'.out with e | e
              · exact hap'.out a ha g5 e hq2
              · have := ((hR'.out.row a ha).lt g5 hq2).2
                omega
            refine ⟨⟨j + 1, m + nj, some ⟨g5, 0, none⟩, cap5, by go_num, by omega, rfl, hm2.out, hmN2, ?_, hR'.out.past hg5'.out hown'.out hap'.out, hapn, hf'.out.grown hg5'.out fun q hq e => absurd (hown'.out.lt q e).1 (by omega), hds'.out.far (grown_F hg5'.out) fun q _ hd e => ?_⟩, ?_, ?_⟩
            · rw [hflat'.out, ccells_join]; exact ho5'.out
            · rcases hown'.out.2 with ⟨e1, _⟩ | ⟨g', cap, cur, e1, _, hg1, _⟩
              · rw [e1] at e; cases e
              · rw [e1] at e
                have : g' = q := Option.some.inj e
                subst this
                rw [hg1] at hd
                cases hd
            · simp [getS, intOf, hu1]; omega
            · rfl
        · have ej : j = 64 := by omega
          subst ej
          clear hm hown hR hap hf hds
          go_wp2_with fail
          refine leave_marks hds'.out fun W' hfW => ?_
          refine ⟨.slice lo m lc, ?_, _, rfl, ?_, hf'.out.trans hfW fun q hq e => absurd e.1 (by omega), by rw [cellsS_eq, ← hm'.out]; omega⟩
          · simp [results, Tryd.f92, go_sem]
          · rw [cellsS_eq, ← hm'.out]
            refine row_same hown'.out fun q hq hl => hfW.block q hl fun e => ?_
            rcases hown'.out.2 with ⟨e1, _⟩ | ⟨g', cap, cur, e1, _, hg1, _⟩
            · rw [e1] at hq; cases hq
            · rw [e1] at hq
              have : g' = q := Option.some.inj hq
              subst this
              rw [hg1] at e
              cases e.2
end
end Go.Proofs.YtoaeeojnelmlnaaDoor
