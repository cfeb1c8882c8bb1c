/-
  mul: the product of two matrices of one side, piece by piece.
-/
import Derived.Test.YtjolkhiggcmoiaaGreatDoorQPRows
import Derived.Test.YtjolkhiggcmoiaaGreatDoorQKeepsLaw
namespace Go.Proofs.YtjolkhiggcmoiaaGreatDoor
open Go.RowKit Go.Shelf
set_option linter.unusedVariables false
set_option linter.unusedSimpArgs false
attribute [local go_sem] Oper.semAt_some
/-- Where the first loop stands: behind the places pre. -/
structure P1 (M : Nat → Nat → Bool) (bR : Nat) (W0 : World) (pre : List (Nat × Nat)) (X : World) : Prop where
  rows : ∃ V, PR W0.heap.size bR V (rowP pre) M X
  far : Far (fun k => k = bR) W0 X
theorem P1.go {M : Nat → Nat → Bool} {bR : Nat} {W0 A B : World} {pre : List (Nat × Nat)} {row : Option Nat} (h : P1 M bR W0 pre A) (hg : A.grownBy B row) (hr : ∀ r, row = some r → W0.heap.size ≤ r ∧ ∃ o : Obj, A.heap[r]? = some o ∧ o.isCells = false) : P1 M bR W0 pre B :=
  ⟨h.rows.elim fun V hV => ⟨V, hV.grown hg fun r e => (hr r e).2⟩, far_own h.far hg hr⟩
theorem P1.still {M : Nat → Nat → Bool} {bR : Nat} {W0 A B : World} {pre : List (Nat × Nat)} (h : P1 M bR W0 pre A) (hf : Far (fun _ => False) A B) : P1 M bR W0 pre B :=
  ⟨h.rows.elim fun V hV => ⟨V, hV.still hf⟩, h.far.trans hf fun _ _ h => h.elim⟩
/-- Where the second loop stands: behind the places pre. -/
structure P2 (A B : Nat → Nat → Bool) (R : Nat → List (Nat × Nat)) (side Bc : Nat) (W0 : World) (F : Nat → Prop) (pre : List (Nat × Nat)) (X : World) : Prop where
  mx : Mx X Bc F side (prodP A B R pre)
  own : ∀ k, F k → k = Bc ∨ W0.heap.size ≤ k
  far : Far (fun k => k = Bc) W0 X
theorem P2.go {A B : Nat → Nat → Bool} {R : Nat → List (Nat × Nat)} {side Bc : Nat} {W0 C D : World} {F : Nat → Prop} {pre : List (Nat × Nat)} {row : Option Nat} (h : P2 A B R side Bc W0 F pre C) (hg : C.grownBy D row) (hr : ∀ r, row = some r → W0.heap.size ≤ r ∧ ∃ o : Obj, C.heap[r]? = some o ∧ o.isCells = false) : P2 A B R side Bc W0 F pre D := by
  refine ⟨h.mx.kept (grown_F hg) fun k hk e => ?_, h.own, far_own h.far hg hr⟩
  obtain ⟨_, o, ho, hc⟩ := hr k e
  have := h.mx.cells hk ho
  rw [hc] at this
  exact Bool.noConfusion this
theorem P2.still {A B : Nat → Nat → Bool} {R : Nat → List (Nat × Nat)} {side Bc : Nat} {W0 C D : World} {F : Nat → Prop} {pre : List (Nat × Nat)} (h : P2 A B R side Bc W0 F pre C) (hf : Far (fun _ => False) C D) : P2 A B R side Bc W0 F pre D :=
  ⟨h.mx.still hf, h.own, h.far.trans hf fun _ _ h => h.elim⟩
theorem Mx.boxBk {w : World} {B side : Nat} {F : Nat → Prop} {M : Nat → Nat → Bool} (h : Mx w B F side M) : ∃ cs, Bk w B 99 cs := by
  obtain ⟨lv, root, nv, lvv, ns, A, ps, hq, hl, rfl⟩ := h
  exact ⟨_, hq.box⟩
section
variable {w : World} {Ba Bb side : Nat} {Fa Fb : Nat → Prop} {A B : Nat → Nat → Bool}
set_option maxHeartbeats 8000000
set_option maxRecDepth 100000
theorem pmul_any (ha : Mx w Ba Fa side A) (hb : Mx w Bb Fb side B) (hT : Tab w) : Calls Tryz.prog 109 #[.pointer (some ⟨Ba, 0, none⟩), .pointer (some ⟨Bb, 0, none⟩)] w fun e w' => ∃ B', e = .returned (.pointer (some ⟨B', 0, none⟩)) ∧ ∃ F', Mx w' B' F' side (mulM A B) ∧ (∀ k, F' k → w.heap.size ≤ k) ∧ Far (fun _ => False) w w' := by
  obtain ⟨s1, s2⟩ := ha.sides
  have hzr : ∀ w, (zeroValue 182).run Tryz.prog w = .ok (.agg (Wq fun _ => .slice none 0 0)) w := (zero_of_info pRowsZero).1
  have hzb : ∀ w, (zeroValue 108).run Tryz.prog w = .ok (.agg (Rw fun _ => 0)) w := (zero_of_info blockZero).1
  have hzp : ∀ w, (zeroValue 187).run Tryz.prog w = .ok (.agg (spt 0 0 fun _ => 0)) w := (zero_of_info pieceZero).1
  obtain ⟨bR, hbR⟩ : ∃ h, h = w.heap.size := ⟨_, rfl⟩
  obtain ⟨W1, hW1⟩ : ∃ V, V = w.alloc (.cells (Wq fun _ => .slice none 0 0) 182) := ⟨_, rfl⟩
  have hf1 : Far (fun _ => False) w W1 := hW1 ▸ (Far.refl _ w).alloc _
  have hB1 : Bk W1 bR 182 (Wq fun _ => .slice none 0 0) := hW1 ▸ Bk.new hbR
  have BL := qblocks_any (hb.still hf1)
  have ha' := Lib.hid ha
  have hb' := Lib.hid hb
  have hbR' := Lib.hid hbR
  have hW1' := Lib.hid hW1
  have hf1' := Lib.hid hf1
  have hB1' := Lib.hid hB1
  clear ha hb hbR hW1 hf1 hB1
  refine (callsIn_wide (n := 10)).1 (callsIn_of_wp_marks Tryz.func109 rfl trivial (wpIn_wide.2 ?_) rfl)
  simp only [Tryz.ntmps109, List.size_toArray, List.length_cons, List.length_nil, Nat.reduceAdd, Nat.reduceSub, Array.replicate_succ, Array.replicate_zero, List.push_toArray, List.append_toArray, List.nil_append, List.cons_append]
  go_upto_region 2 with fail
  rw [← hbR'.out, ← hW1'.out]
  go_wp2_with fail
  refine BL.mono ?_
  rintro e W0 ⟨hbk, v, rfl, hbX, hbO, hbz, hf2⟩
  have hB0 := Lib.hid (hB1'.out.far' hf2 id)
  have hbX' := Lib.hid hbX
  have hbO' := Lib.hid hbO
  have hfw0 := Lib.hid (hf1'.out.then hf2)
  have hbz' := Lib.hid hbz
  have hW1z := Lib.hid (show bR < W1.heap.size from hB1'.out.lt)
  clear BL hbX hbO hf2 hbz hB1'
  go_wp2_with fail
  refine (wpIn_wide (n := 10)).1 ?_
  obtain ⟨aov, capv, rfl⟩ := q_form hbO'.out
  obtain ⟨L, hL⟩ : ∃ L, placesL B side = L := ⟨_, rfl⟩
  rw [hL] at hbO' hbX'
  have hLf : L.length ≤ 65536 := by have := placesL_few B s2; rw [hL] at this; omega
  have hL256 : L.length ≤ 256 := by have := placesL_few B s2; rw [hL] at this; omega
  have hLp : ∀ p ∈ L, p.1 < 16 ∧ p.2 < 16 := fun p hp => by
    rw [← hL] at hp
    obtain ⟨h1, h2, _⟩ := mem_placesL.1 hp
    have := lns_le s2
    omega
  have hL' := Lib.hid hL
  have hvb := Lib.hid (fun k hk => hbO'.out.lt k hk : ∀ k, (Value.slice aov L.length capv).ownBlock = some k → W1.heap.size ≤ k ∧ k < W0.heap.size)
  clear hL
  have hI0 : P1 B bR W0 [] W0 := ⟨⟨fun _ => .slice none 0 0, hB0.out, fun a _ => World.ownsRow_nil _ _ _ _, fun a a' _ _ _ k hk => by cases hk⟩, Far.refl _ _⟩
  refine name_frame fun T hTT => ?_
  refine range_ok (by decide) (by rw [← hTT]; rfl) (enters_of Tryz.func141 (by kernel_rfl) rfl) (blocks_seq (10 - 1) (by decide) hbk W1.heap.size _ B L hLf W0 hbX'.out hbO'.out) keepS_t (fun V l o o' hl h ho => keepS_put (B := W0.heap.size) (fun k hk => ?hK) V l o o' hl) (fun _ => rfl)
    (fun pre V => P1 B bR W0 pre V) (fun _ _ _ => False) ?own ?ownx hI0
    (fun pre y a' V => BOk L pre y V ∧ ∃ k, P1 B bR W0 pre V ∧ Bk V k 71 #[.int .i64 (y.1 : Nat), .int .i64 (y.2 : Nat)] ∧ Hold V (k + 1) (Rw (blk (sub B y.1 y.2))) ∧ W0.heap.size ≤ k ∧
      a' = { tmps := ((((T.setIfInBounds 16 (.agg #[.int .i64 (y.1 : Nat), .int .i64 (y.2 : Nat)])).setIfInBounds 17 (.agg (Rw (blk (sub B y.1 y.2))))).setIfInBounds 6 (.pointer (some ⟨k, 0, none⟩))).setIfInBounds 7 (.pointer (some ⟨k + 1, 0, none⟩))), defers := [] }) ?hAx ?assign ?body ?done ?stop
  case hK =>
    rcases hk with rfl | e
    · exact hbX'.out.lt
    · exact (hvb.out k e).2
  case own => exact fun u A B row h hg hr => P1.go h hg hr
  case ownx => exact fun c u A B row h _ _ => h
  case stop => exact fun D c pre V _ _ h _ => h.elim
  case hAx =>
    rintro pre y a' u A B row ⟨h9, k, hi, hc, hh, hz, e⟩ hg hr
    exact ⟨h9, k, hi.go hg hr, hc.kept hg hr, (Bk.kept (B := W0.heap.size) hh hg hr : Bk B (k + 1) 108 _), hz, e⟩
  case assign =>
    intro l pre y V KK hI hok hK
    subst hTT
    simp only [bencs, List.zip_toArray, List.zip_cons_cons, List.zip_nil_right, List.foldl_toArray', List.foldl_cons, List.foldl_nil, List.setIfInBounds_toArray, List.set_cons_succ, List.set_cons_zero] at hK ⊢
    gi_wp2_with (first | (refine wpListIn_st rfl _ _ rfl _ rfl _ rfl (Hold.new (by simp)) ?_))
    obtain ⟨V1, hV1⟩ : ∃ V1, V1 = V.alloc (.cells #[.int .i64 (y.1 : Nat), .int .i64 (y.2 : Nat)] 71) := ⟨_, rfl⟩
    have z1 : V.heap.size + 1 = V1.heap.size := by rw [hV1]; simp
    have e9 : ∀ X, (V1.alloc (.cells (Rw fun _ => 0) 108)).setRow (V.heap.size + 1) X = V1.alloc (.cells X 108) := fun X => by rw [z1, World.setRow_alloc_new]
    have hf : Far (fun _ => False) V (V1.alloc (.cells (Rw (blk (sub B y.1 y.2))) 108)) := (hV1 ▸ (Far.refl _ V).alloc _ : Far (fun _ => False) V V1).alloc _
    have hc1 : Bk V1 V.heap.size 71 #[.int .i64 (y.1 : Nat), .int .i64 (y.2 : Nat)] := hV1 ▸ Bk.new rfl
    rw [← hV1, e9]
    have hsz := hI.far.size
    refine hK _ _ (keeps_far hf fun _ h => h.elim) ⟨KeepK.of_far hf fun k hk => ⟨?_, id⟩, hf.size⟩ (hI.still hf) ⟨hok, V.heap.size, hI.still hf, hc1.alloc _, Hold.new z1, hsz, rfl⟩
    rcases hk with rfl | e
    · exact Nat.lt_of_lt_of_le hbX'.out.lt hsz
    · exact Nat.lt_of_lt_of_le (hvb.out k e).2 hsz
  case body =>
    rintro l pre y a' V hl _ ⟨⟨hk1, hk2⟩, k, hi, hc, hh, hz, rfl⟩
    subst hTT
    simp only [List.setIfInBounds_toArray, List.set_cons_succ, List.set_cons_zero]
    gi_wp2
    have hy16 : y.1 < 16 := (hLp y (List.mem_of_mem_take (hk1 ▸ (by simp : y ∈ pre ++ [y])))).1
    have hy16b : y.2 < 16 := (hLp y (List.mem_of_mem_take (hk1 ▸ (by simp : y ∈ pre ++ [y])))).2
    have hyi1 : (y.1 : Int) < 16 := by omega
    obtain ⟨Vw, hPR⟩ := hi.rows
    obtain ⟨ao, cap0, hvx⟩ := q_form (hPR.row y.1 hy16)
    obtain ⟨n0, hn0⟩ : ∃ n, n = (rowP pre y.1).length := ⟨_, rfl⟩
    have hn0b : n0 ≤ 256 := by have := rowP_len pre y.1; omega
    rw [← hn0] at hvx
    obtain ⟨f, hfe⟩ : ∃ f, blk (sub B y.1 y.2) = f := ⟨_, rfl⟩
    have hwf : Wf f := hfe ▸ blk_wf _
    have hsf : srow B y = (spt y.1 y.2 f).toList := by unfold srow; rw [hfe]
    rw [hfe] at hh ⊢
    have hPRd : PR W0.heap.size bR Vw (rowP pre) B V.drew := hPR.still ((Far.refl _ V).drew)
    obtain ⟨kE, hkE0⟩ : ∃ b, b = V.drew.heap.size := ⟨_, rfl⟩
    obtain ⟨XE, hXE⟩ : ∃ Y, Y = V.drew.alloc (.cells (spt y.1 y.2 f) 187) := ⟨_, rfl⟩
    have hfE : Far (fun _ => False) V.drew XE := hXE ▸ (Far.refl _ V.drew).alloc _
    have hRE := hPRd.still hfE
    obtain ⟨ci, hci, hz0, hz1, hz2⟩ := info_parts pieceInfo
    have hrow : XE.ownsRow W0.heap.size 187 66 (.slice ao n0 cap0) n0 (srows B (rowP pre y.1)).flatten := by
      have := hRE.row y.1 hy16
      rw [hvx, ← hn0] at this
      exact this
    have hVz : W0.heap.size ≤ V.heap.size := hi.far.size
    have A0 := Lib.hid (show (spt y.1 y.2 f).toList.length = 1 * 66 by rw [Array.length_toList, spt_size])
    have A1 := Lib.hid hrow
    have A2 := Lib.hid (show ∀ j u, (spt y.1 y.2 f).toList[j]? = some u → XE.cell? ((⟨kE, 0, none⟩ : Addr).add j) = some u from World.news_of_block (cs := spt y.1 y.2 f) (t := 187) (fr := (0, 0)) (by rw [hXE, hkE0]; exact heap_alloc_new V.drew _))
    have A3 := Lib.hid (show ∀ u ∈ (spt y.1 y.2 f).toList, u.oneCell' = true from fun u hu => (Array.all_eq_true_iff_forall_mem.1 (spt_one _ _ _)) u (by simpa using hu))
    have A9 := Lib.hid (show (Value.agg (spt 0 0 fun _ => 0)).cells.size = 66 from spt_size _ _ _)
    have A4 : n0 + 1 ≤ maxLen := by unfold maxLen; omega
    have A5 : (n0 + 1) * 528 ≤ 140737488355328 := by omega
    have A6 : W0.heap.size ≤ XE.heap.size := Nat.le_trans hVz hfE.size
    have hown0 : (Vw y.1).ownBlock = (Value.slice ao n0 cap0).ownBlock := by rw [hvx]
    have nR : some bR ≠ (Value.slice ao n0 cap0).ownBlock := fun e => q_row_ne hRE.box hrow (by decide) e.symm
    have hcE : Bk XE k 71 #[.int .i64 (y.1 : Nat), .int .i64 (y.2 : Nat)] := Bk.far' (w := V.drew) hc hfE id
    have hhE : Hold XE (k + 1) (Rw f) := Bk.far' (w := V.drew) (t := 108) hh hfE id
    have nq : some k ≠ (Value.slice ao n0 cap0).ownBlock := fun e => q_row_ne hcE hrow (by decide) e.symm
    have nh : some (k + 1) ≠ (Value.slice ao n0 cap0).ownBlock := fun e => q_row_ne (t := 108) hhE hrow (by decide) e.symm
    have B3 := Lib.hid (show k ≠ bR from fun e => absurd (bk_type hc (e ▸ hPR.box)) (by decide))
    have B4 := Lib.hid (show k + 1 ≠ bR from fun e => absurd (bk_type (t := 108) hh (e ▸ hPR.box)) (by decide))
    have A7 := Lib.hid (show ∀ W5, XE.grownBy W5 (Value.slice ao n0 cap0).ownBlock → (fun w' : World => Bk w' k 71 #[.int .i64 (y.1 : Nat), .int .i64 (y.2 : Nat)] ∧ Hold w' (k + 1) (Rw f)) W5 from fun W5 hg => ⟨qb_grown hcE hg nq, qb_grown (t := 108) hhE hg nh⟩)
    have A8 := Lib.hid (show ∀ W5, XE.grownBy W5 (Value.slice ao n0 cap0).ownBlock → Bk W5 bR 182 (Wq Vw) from fun W5 hg => qb_grown hRE.box hg nR)
    have c5 : V.drew.cell? ⟨bR, y.1, none⟩ = some (.slice ao n0 cap0) := by rw [← hvx]; exact hPRd.at hy16
    have c5E : XE.cell? ⟨bR, y.1, none⟩ = some (.slice ao n0 cap0) := by rw [← hvx]; exact hRE.at hy16
    have SD : (fun w' : World => Bk w' k 71 #[.int .i64 (y.1 : Nat), .int .i64 (y.2 : Nat)] ∧ Hold w' (k + 1) (Rw f)) V.drew := ⟨hc, hh⟩
    have hSE := Lib.hid (show (fun w' : World => Bk w' k 71 #[.int .i64 (y.1 : Nat), .int .i64 (y.2 : Nat)] ∧ Hold w' (k + 1) (Rw f)) XE from ⟨hcE, hhE⟩)
    have hXE' := Lib.hid hXE
    have hkE := Lib.hid (show XE.heap.size = kE + 1 by rw [hXE, hkE0]; exact World.size_alloc V.drew _)
    have hkE2 := Lib.hid (show V.drew.heap.size = kE from hkE0.symm)
    have hvx := Lib.hid hvx
    have PST : Hid (∀ g5 cap5 W5, W5.ownsRow W0.heap.size 187 66 (.slice (some ⟨g5, 0, none⟩) (n0 + 1) cap5) (n0 + 1) ((srows B (rowP pre y.1)).flatten ++ (spt y.1 y.2 f).toList) → XE.grownBy W5 (Value.slice ao n0 cap0).ownBlock → ((Value.slice ao n0 cap0).ownBlock = some g5 ∨ g5 = kE + 1) →
        ∀ a9, ownPostG W0.heap.size (KeepS fun k => k = hbk ∨ (Value.slice aov L.length capv).ownBlock = some k) (fun pre V => P1 B bR W0 pre V) (fun _ _ _ => False) (pre ++ [y]) V .normal a9 (W5.setCell ⟨bR, y.1, none⟩ (.slice (some ⟨g5, 0, none⟩) (n0 + 1) cap5))) := by
      refine Lib.hid ?_
      intro g5 cap5 W5 ho5 hg5 hat5 a9
      obtain ⟨v5, hv5⟩ : ∃ v, v = Value.slice (some ⟨g5, 0, none⟩) (n0 + 1) cap5 := ⟨_, rfl⟩
      have hpush := hRE.push (r := y.1) (v := v5) (x := y) hy16 (by rw [hv5, hsf, ← hn0]; exact ho5) (by rw [hown0]; exact hg5) (fun q hq => by
        rw [hv5] at hq
        have : g5 = q := Option.some.inj hq
        rw [hown0, hXE, World.size_alloc, ← hkE0]
        rcases hat5 with e | e
        · exact .inl (this ▸ e)
        · exact .inr (by omega))
      rw [← rowP_app] at hpush
      rw [← hv5]
      have hfa : Far (fun q => q = bR ∨ (Value.slice ao n0 cap0).ownBlock = some q) V (W5.setCell ⟨bR, y.1, none⟩ v5) :=
        ((((Far.refl (fun _ => False) V).drew.then hfE).mono (G := fun q => q = bR ∨ (Value.slice ao n0 cap0).ownBlock = some q) fun _ _ q => q.elim).trans ((grown_F hg5).mono (G := fun q => q = bR ∨ (Value.slice ao n0 cap0).ownBlock = some q) fun _ _ q => .inr q) fun _ _ q => q).set ⟨bR, y.1, none⟩ v5 fun _ => .inl rfl
      have hown9 : ∀ q, (Value.slice ao n0 cap0).ownBlock = some q → W0.heap.size ≤ q ∧ ∃ cs, Bk V q 187 cs := fun q e => by
        rw [← hown0] at e
        obtain ⟨b1, _, cs, b2⟩ := own_type (hPR.row y.1 hy16) e
        exact ⟨b1, cs, b2⟩
      refine ⟨keeps_far hfa fun q hq => ?_, ⟨KeepK.of_far hfa fun q hq => ?_, hfa.size⟩, ⟨⟨_, hpush⟩, hi.far.trans hfa fun q hq e => ?_⟩⟩
      · rcases hq with rfl | e
        · exact ⟨_, _, hPR.box⟩
        · obtain ⟨_, cs, b⟩ := hown9 q e
          exact ⟨_, _, b⟩
      · have hq2 : q < W0.heap.size ∧ q ≠ bR := by
          rcases hq with rfl | e
          · exact ⟨hbX'.out.lt, fun e2 => absurd (bk_type hbX'.out (e2 ▸ hB0.out)) (by decide)⟩
          · have := hvb.out q e
            have := hW1z.out
            exact ⟨by omega, by omega⟩
        refine ⟨by omega, fun e => ?_⟩
        rcases e with e | e
        · exact hq2.2 e
        · have := (hown9 q e).1
          omega
      · rcases e with e | e
        · exact e
        · have := (hown9 q e).1
          omega
    clear hkE0 hfE hRE hrow nR nq nh hcE hhE hXE hi hPR hPRd hown0 hn0 hfe hsf hc hh hk1 hk2 hz
    refine region_in (S := fun w' : World => Bk w' k 71 #[.int .i64 (y.1 : Nat), .int .i64 (y.2 : Nat)] ∧ Hold w' (k + 1) (Rw f)) (by kernel_rfl) (by kernel_rfl) SD (fun hS => ?_)
    refine wpAnyH_take (i := 0) (v := ?v0c1) rfl (by kernel_rfl) (by kernel_rfl) (by kernel_rfl) (fun _ _ _ h => h) (Or.inl ⟨by rfl, ?y0c1⟩) (by assumption) ?r0c1
    case y0c1 => (intro w hSw; (try dsimp only at hSw); go_simp; (try with_reducible rfl))
    simp only [Act.put, List.setIfInBounds_toArray, List.set_cons_zero, List.set_cons_succ]
    refine wpAnyH_take (i := 1) (v := ?v1m1) rfl (by kernel_rfl) (by kernel_rfl) (by kernel_rfl) (fun _ _ _ h => h) (Or.inl ⟨by rfl, ?y1m1⟩) (by assumption) ?r1m1
    case y1m1 => (intro w hSw; (try dsimp only at hSw); have d0 : w.cell? ⟨k, 0, none⟩ = some (.int .i64 (y.1 : Nat)) := hSw.1.cell 0; have d1 : w.cell? ⟨k, 1, none⟩ = some (.int .i64 (y.2 : Nat)) := hSw.1.cell 1; go_simp; (try with_reducible rfl))
    simp only [Act.put, List.setIfInBounds_toArray, List.set_cons_zero, List.set_cons_succ]
    refine wpAnyH_take (i := 2) (v := ?v2m2) rfl (by kernel_rfl) (by kernel_rfl) (by kernel_rfl) (fun _ _ _ h => h) (Or.inl ⟨by rfl, ?y2m2⟩) (by assumption) ?r2m2
    case y2m2 => (intro w hSw; (try dsimp only at hSw); have d0 : w.cell? ⟨k, 0, none⟩ = some (.int .i64 (y.1 : Nat)) := hSw.1.cell 0; have d1 : w.cell? ⟨k, 1, none⟩ = some (.int .i64 (y.2 : Nat)) := hSw.1.cell 1; go_simp; (try with_reducible rfl))
    simp only [Act.put, List.setIfInBounds_toArray, List.set_cons_zero, List.set_cons_succ]
    refine wpAnyH_take (i := 3) (v := ?v3m3) rfl (by kernel_rfl) (by kernel_rfl) (by kernel_rfl) (fun _ _ _ h => h) (Or.inl ⟨by rfl, ?y3m3⟩) (by assumption) ?r3m3
    case y3m3 => (intro w hSw; (try dsimp only at hSw); have d0 : w.cell? ⟨k, 0, none⟩ = some (.int .i64 (y.1 : Nat)) := hSw.1.cell 0; have d1 : w.cell? ⟨k, 1, none⟩ = some (.int .i64 (y.2 : Nat)) := hSw.1.cell 1; go_simp; (try with_reducible rfl))
    simp only [Act.put, List.setIfInBounds_toArray, List.set_cons_zero, List.set_cons_succ]
    refine wpAnyH_take (i := 4) (v := ?v4m4) rfl (by kernel_rfl) (by kernel_rfl) (by kernel_rfl) (fun _ _ _ h => h) (Or.inl ⟨by rfl, ?y4m4⟩) (by assumption) ?r4m4
    case y4m4 => (intro w hSw; (try dsimp only at hSw); have d0 : w.cell? ⟨k, 0, none⟩ = some (.int .i64 (y.1 : Nat)) := hSw.1.cell 0; have d1 : w.cell? ⟨k, 1, none⟩ = some (.int .i64 (y.2 : Nat)) := hSw.1.cell 1; go_simp; (try with_reducible rfl))
    simp only [Act.put, List.setIfInBounds_toArray, List.set_cons_zero, List.set_cons_succ]
    refine wpAnyH_take (i := 6) (v := ?v6m5) rfl (by kernel_rfl) (by kernel_rfl) (by kernel_rfl) (fun _ _ _ h => h) (Or.inl ⟨by rfl, ?y6m5⟩) (by assumption) ?r6m5
    case y6m5 => (intro w hSw; (try dsimp only at hSw); have d0 : w.cell? ⟨k, 0, none⟩ = some (.int .i64 (y.1 : Nat)) := hSw.1.cell 0; have d1 : w.cell? ⟨k, 1, none⟩ = some (.int .i64 (y.2 : Nat)) := hSw.1.cell 1; go_simp; (try with_reducible rfl))
    simp only [Act.put, List.setIfInBounds_toArray, List.set_cons_zero, List.set_cons_succ]
    refine wpAnyH_take (i := 7) rfl (by kernel_rfl) (by kernel_rfl) (by kernel_rfl) (fun _ _ _ h => h) (yl (wanted_none rfl) (.tmp 7) rfl (k + 1) (by kernel_rfl) (f := f) fun w hSw => hSw.2) (by assumption) ?_
    simp only [Act.put, List.setIfInBounds_toArray, List.set_cons_zero, List.set_cons_succ]
    refine wpAnyH_take (i := 8) rfl (by kernel_rfl) (by kernel_rfl) (by kernel_rfl) (fun _ _ _ h => h) (ypiece (wanted_none rfl) (.tmp 24) (.tmp 25) rfl y.1 y.2 f (by kernel_rfl) (by kernel_rfl)) (by assumption) ?_
    simp only [Act.put, List.setIfInBounds_toArray, List.set_cons_zero, List.set_cons_succ]
    refine wpAnyH_ready (rs := [5, 9]) (by kernel_rfl) (by decide) (AllReadyH.cons (o := ({ dst := some 23, op := Op.load 181 (Operand.tmp 22), type := 181, pos := "product.go:65", after := #[{ on := 4, ground := Ground.data }], guard := none } : Oper)) rfl (fun K' hK => ?g5) (AllReadyH.cons (o := ({ dst := some 27, op := Op.buildSlice 181 1 #[(0, Operand.tmp 26)], type := 181, pos := "product.go:65", after := #[{ on := 8, ground := Ground.data }], guard := none } : Oper)) rfl (fun K' hK => ?g9) AllReadyH.nil))
    case g5 =>
      go_simp
      refine hK.out _ _ hS fun hS1 => ?_
      clear hK
      (try simp only [Act.put, List.setIfInBounds_toArray, List.set_cons_zero, List.set_cons_succ])
      refine wpAnyH_ready (rs := [9]) (by kernel_rfl) (by decide) (AllReadyH.cons (o := ({ dst := some 27, op := Op.buildSlice 181 1 #[(0, Operand.tmp 26)], type := 181, pos := "product.go:65", after := #[{ on := 8, ground := Ground.data }], guard := none } : Oper)) rfl (fun K' hK => ?_) AllReadyH.nil)
      refine hw_mk1 (wanted_none rfl) 181 187 (.tmp 26) rfl (spt y.1 y.2 f) 66 ?mx (spt_size _ _ _) ci _ Tryz.underlying181 hci hz0 hz1 (by decide) (by decide) ?_
      case mx => kernel_rfl
      rw [hkE2.out, ← hXE'.out]
      refine hK.out _ _ hSE.out fun hS2 => ?_
      clear hK
      (try simp only [Act.put, List.setIfInBounds_toArray, List.set_cons_zero, List.set_cons_succ])
      refine wpAnyH_ready (rs := [10]) (by kernel_rfl) (by decide) (AllReadyH.cons (o := ({ dst := some 28, op := Op.call { callee := Callee.builtin Builtin.append, args := #[Operand.tmp 23, Operand.tmp 27], argTypes := #[181, 181] }, type := 181, pos := "product.go:65", after := #[{ on := 5, ground := Ground.data }, { on := 9, ground := Ground.data }], guard := none } : Oper)) rfl (fun K' hK => ?_) AllReadyH.nil)
      refine step_append_lies _ rfl (.tmp 23) (.tmp 27) 181 rfl W0.heap.size 187 ci _ 66 528 Tryz.underlying181 hci hz0 hz1 hz2 A9.out (by decide) (.slice ao n0 cap0) n0 _ rfl A1.out ⟨kE, 0, none⟩ 1 1 (spt y.1 y.2 f).toList rfl A0.out A2.out A3.out (by decide) A4 A5 A6 (kE + 1) hkE.out ?_
      intro g5 cap5 W5 ho5 hg5 hat5 hl5
      refine hK.out _ _ (A7.out W5 hg5) fun hS6 => ?_
      have hbx5 := Lib.hid (A8.out W5 hg5)
      have c10 : W5.cell? ⟨bR, y.1, none⟩ = some (.slice ao n0 cap0) := by rw [← hvx.out]; exact (hbx5.out.cell y.1).trans (Wq_get Vw y.1 hy16)
      have c11 := hbx5.out.free y.1
      have ho5' := Lib.hid ho5
      have hg5' := Lib.hid hg5
      have hat5' := Lib.hid hat5
      clear hK ho5 hg5 hat5
      (try simp only [Act.put, List.setIfInBounds_toArray, List.set_cons_zero, List.set_cons_succ])
      refine wpAnyH_take (i := 11) (v := ?v11d1) rfl (by kernel_rfl) (by kernel_rfl) (by kernel_rfl) (fun _ _ _ h => h) (Or.inl ⟨by rfl, ?y11d1⟩) (by assumption) ?r11d1
      case y11d1 => (intro w hSw; (try dsimp only at hSw); go_simp; (try with_reducible rfl))
      simp only [Act.put, List.setIfInBounds_toArray, List.set_cons_zero, List.set_cons_succ]
      refine wpAnyH_ready (rs := [12]) (by kernel_rfl) (by decide) (AllReadyH.cons (o := ({ dst := none, op := Op.store 181 (Operand.tmp 29) (Operand.tmp 28), type := 0, pos := "product.go:65", after := #[{ on := 11, ground := Ground.data }, { on := 10, ground := Ground.data }, { on := 10, ground := Ground.chain }, { on := 0, ground := Ground.phase }, { on := 1, ground := Ground.phase }, { on := 2, ground := Ground.phase }, { on := 3, ground := Ground.phase }, { on := 4, ground := Ground.phase }, { on := 5, ground := Ground.phase }, { on := 6, ground := Ground.phase }, { on := 7, ground := Ground.phase }, { on := 8, ground := Ground.phase }, { on := 9, ground := Ground.phase }, { on := 10, ground := Ground.phase }], guard := none } : Oper)) rfl (fun K' hK => ?_) AllReadyH.nil)
      go_simp
      refine hK.out _ _ ⟨(A7.out W5 hg5'.out).1.far (p := ⟨bR, y.1, none⟩) B3.out _, Bk.far (t := 108) (A7.out W5 hg5'.out).2 (p := ⟨bR, y.1, none⟩) B4.out _⟩ fun hS7 => ?_
      clear hK c10 c11
      refine wpAnyH_done (by kernel_rfl) ?_ _
      unfold OnlyNormal
      dsimp only
      exact PST.out g5 cap5 W5 ho5'.out hg5'.out hat5'.out ⟨#[], []⟩
    case g9 =>
      refine hw_mk1 (wanted_none rfl) 181 187 (.tmp 26) rfl (spt y.1 y.2 f) 66 ?mx (spt_size _ _ _) ci _ Tryz.underlying181 hci hz0 hz1 (by decide) (by decide) ?_
      case mx => kernel_rfl
      rw [hkE2.out, ← hXE'.out]
      refine hK.out _ _ hSE.out fun hS2 => ?_
      clear hK
      (try simp only [Act.put, List.setIfInBounds_toArray, List.set_cons_zero, List.set_cons_succ])
      refine wpAnyH_ready (rs := [5]) (by kernel_rfl) (by decide) (AllReadyH.cons (o := ({ dst := some 23, op := Op.load 181 (Operand.tmp 22), type := 181, pos := "product.go:65", after := #[{ on := 4, ground := Ground.data }], guard := none } : Oper)) rfl (fun K' hK => ?_) AllReadyH.nil)
      go_simp
      refine hK.out _ _ hSE.out fun hS1 => ?_
      clear hK
      (try simp only [Act.put, List.setIfInBounds_toArray, List.set_cons_zero, List.set_cons_succ])
      refine wpAnyH_ready (rs := [10]) (by kernel_rfl) (by decide) (AllReadyH.cons (o := ({ dst := some 28, op := Op.call { callee := Callee.builtin Builtin.append, args := #[Operand.tmp 23, Operand.tmp 27], argTypes := #[181, 181] }, type := 181, pos := "product.go:65", after := #[{ on := 5, ground := Ground.data }, { on := 9, ground := Ground.data }], guard := none } : Oper)) rfl (fun K' hK => ?_) AllReadyH.nil)
      refine step_append_lies _ rfl (.tmp 23) (.tmp 27) 181 rfl W0.heap.size 187 ci _ 66 528 Tryz.underlying181 hci hz0 hz1 hz2 A9.out (by decide) (.slice ao n0 cap0) n0 _ rfl A1.out ⟨kE, 0, none⟩ 1 1 (spt y.1 y.2 f).toList rfl A0.out A2.out A3.out (by decide) A4 A5 A6 (kE + 1) hkE.out ?_
      intro g5 cap5 W5 ho5 hg5 hat5 hl5
      refine hK.out _ _ (A7.out W5 hg5) fun hS6 => ?_
      have hbx5 := Lib.hid (A8.out W5 hg5)
      have c10 : W5.cell? ⟨bR, y.1, none⟩ = some (.slice ao n0 cap0) := by rw [← hvx.out]; exact (hbx5.out.cell y.1).trans (Wq_get Vw y.1 hy16)
      have c11 := hbx5.out.free y.1
      have ho5' := Lib.hid ho5
      have hg5' := Lib.hid hg5
      have hat5' := Lib.hid hat5
      clear hK ho5 hg5 hat5
      (try simp only [Act.put, List.setIfInBounds_toArray, List.set_cons_zero, List.set_cons_succ])
      refine wpAnyH_take (i := 11) (v := ?v11e1) rfl (by kernel_rfl) (by kernel_rfl) (by kernel_rfl) (fun _ _ _ h => h) (Or.inl ⟨by rfl, ?y11e1⟩) (by assumption) ?r11e1
      case y11e1 => (intro w hSw; (try dsimp only at hSw); go_simp; (try with_reducible rfl))
      simp only [Act.put, List.setIfInBounds_toArray, List.set_cons_zero, List.set_cons_succ]
      refine wpAnyH_ready (rs := [12]) (by kernel_rfl) (by decide) (AllReadyH.cons (o := ({ dst := none, op := Op.store 181 (Operand.tmp 29) (Operand.tmp 28), type := 0, pos := "product.go:65", after := #[{ on := 11, ground := Ground.data }, { on := 10, ground := Ground.data }, { on := 10, ground := Ground.chain }, { on := 0, ground := Ground.phase }, { on := 1, ground := Ground.phase }, { on := 2, ground := Ground.phase }, { on := 3, ground := Ground.phase }, { on := 4, ground := Ground.phase }, { on := 5, ground := Ground.phase }, { on := 6, ground := Ground.phase }, { on := 7, ground := Ground.phase }, { on := 8, ground := Ground.phase }, { on := 9, ground := Ground.phase }, { on := 10, ground := Ground.phase }], guard := none } : Oper)) rfl (fun K' hK => ?_) AllReadyH.nil)
      go_simp
      refine hK.out _ _ ⟨(A7.out W5 hg5'.out).1.far (p := ⟨bR, y.1, none⟩) B3.out _, Bk.far (t := 108) (A7.out W5 hg5'.out).2 (p := ⟨bR, y.1, none⟩) B4.out _⟩ fun hS7 => ?_
      clear hK c10 c11
      refine wpAnyH_done (by kernel_rfl) ?_ _
      unfold OnlyNormal
      dsimp only
      exact PST.out g5 cap5 W5 ho5'.out hg5'.out hat5'.out ⟨#[], []⟩
  case done =>
    rintro D xs V hD rfl hI hK
    have hXa : Mx V Ba Fa side A := (ha'.out.still hfw0.out).kept hI.far fun q hq e => by have := ha'.out.lt q hq; have := hbR'.out; omega
    have hPR := hI.rows
    have hDR : D ≠ bR := by have := hB0.out.lt; omega
    have hXa' := Lib.hid hXa
    have hPR' := Lib.hid hPR
    have hfV := Lib.hid hI.far
    have hK' := Lib.hid hK
    have SD := hXa.side
    subst hTT
    clear hXa hPR hI hK hI0
    go_wp2_with fail
    refine SD.mono ?_
    rintro e w' ⟨rfl, rfl⟩
    clear SD
    go_wp2_with fail
    refine (qnew_yes side s1 s2 V).mono ?_
    rintro e V1 ⟨rfl, l, hl, hw, hB, hf3⟩
    have hN3 := Lib.hid (Mx.new (w := V) s1 s2 hl hw hB)
    go_upto_region 7 with fail
    obtain ⟨Bc, hBc⟩ : ∃ b, b = V.heap.size := ⟨_, rfl⟩
    rw [← hBc] at hN3 hB ⊢
    obtain ⟨h8, hh8⟩ : ∃ h, h = V1.heap.size := ⟨_, rfl⟩
    obtain ⟨V2, hV2⟩ : ∃ X, X = V1.alloc (.cells #[.pointer (some ⟨Bc, 0, none⟩)] 26) := ⟨_, rfl⟩
    rw [← hh8, ← hV2]
    have hf12 : Far (fun _ => False) V1 V2 := hV2 ▸ (Far.refl _ V1).alloc _
    have hf2 : Far (fun _ => False) V V2 := hf3.then hf12
    have hB8 : Bk V2 h8 26 #[.pointer (some ⟨Bc, 0, none⟩)] := hV2 ▸ Bk.new hh8
    have hN2 := hN3.out.still hf12
    obtain ⟨Vr, hVr⟩ := hPR'.out
    have hR2 := hVr.still hf2
    have hD2 : V2.heap[D]? = some (.deferred (some [])) := (hf2.block D (Array.getElem?_eq_some_iff.1 hK'.out).1 id).trans hK'.out
    have hXa2 := hXa'.out.still hf2
    have BL2 := qblocks_any hXa2
    obtain ⟨Fc, hFc⟩ : ∃ F, F = Qf Bc (Value.slice none 0 0) (Value.slice none 0 0) := ⟨_, rfl⟩
    rw [← hFc] at hN2
    have hFc' := Lib.hid (show ∀ k, Fc k → k = Bc from fun k hk => Qf_none (hFc ▸ hk))
    have hBcw := Lib.hid (show w.heap.size ≤ Bc ∧ Bc < h8 by have := hfw0.out.size; have := hfV.out.size; have := hB.lt; omega)
    have hf2' := Lib.hid hf2
    have hB8' := Lib.hid hB8
    have hN2' := Lib.hid hN2
    have hR2' := Lib.hid hR2
    have hD2' := Lib.hid hD2
    clear hh8 hV2 hf12 hf2 hB8 hN2 hVr hR2 hD2 hXa2 hFc hBc hB hf3 hN3 hK' hPR' hl hw
    go_wp2_with fail
    refine BL2.mono ?_
    rintro e V0 ⟨hb2, v2, rfl, hbX2, hbO2, hbz2, hf0⟩
    have hfV0 := Lib.hid (hf2'.out.then hf0)
    have hXa0 := Lib.hid (hXa'.out.still hfV0.out)
    have hB80 := Lib.hid (hB8'.out.far' hf0 id)
    have hN0 := Lib.hid (hN2'.out.still hf0)
    have hR0 := Lib.hid (hR2'.out.still hf0)
    have hD0 := Lib.hid (show V0.heap[D]? = some (.deferred (some [])) from (hf0.block D (Array.getElem?_eq_some_iff.1 hD2'.out).1 id).trans hD2'.out)
    have hbX2' := Lib.hid hbX2
    have hbO2' := Lib.hid hbO2
    have hz20 := Lib.hid (show h8 < V2.heap.size ∧ V2.heap.size ≤ hb2 ∧ V2.heap.size ≤ V0.heap.size from ⟨hB8'.out.lt, hbz2, hf0.size⟩)
    clear BL2 hbX2 hbO2 hbz2 hf0 hB8' hN2' hR2' hD2' hXa' hf2'
    go_wp2_with fail
    refine (wpIn_wide (n := 10)).1 ?_
    obtain ⟨aov2, capv2, rfl⟩ := q_form hbO2'.out
    obtain ⟨L2, hL2⟩ : ∃ L, placesL A side = L := ⟨_, rfl⟩
    rw [hL2] at hbO2' hbX2'
    have hLf2 : L2.length ≤ 65536 := by have := placesL_few A s2; rw [hL2] at this; omega
    have hLp2 : ∀ p ∈ L2, p.1 < lns side ∧ p.2 < lns side := fun p hp => by
      rw [← hL2] at hp
      obtain ⟨h1, h2, _⟩ := mem_placesL.1 hp
      exact ⟨h1, h2⟩
    have hln := lns_le s2
    have hL2' := Lib.hid hL2
    have hvb2 := Lib.hid (fun k hk => hbO2'.out.lt k hk : ∀ k, (Value.slice aov2 L2.length capv2).ownBlock = some k → V2.heap.size ≤ k ∧ k < V0.heap.size)
    obtain ⟨R, hR⟩ : ∃ R, rowP xs = R := ⟨_, rfl⟩
    rw [hR] at hR0
    have hRl : ∀ a, (R a).length ≤ 256 := fun a => by rw [← hR]; exact Nat.le_trans (rowP_len xs a) hL256
    have hRm := Lib.hid (show ∀ a p, p ∈ R a → p.1 < lns side ∧ p.2 < lns side from fun a p hp => by
      rw [← hR] at hp
      obtain ⟨h1, _⟩ := mem_rowP.1 hp
      rw [← hL'.out] at h1
      obtain ⟨h1, h2, _⟩ := mem_placesL.1 h1
      exact ⟨h1, h2⟩)
    have hR' := Lib.hid hR
    have hI0 : ∃ F, P2 A B R side Bc V0 F [] V0 := ⟨Fc, hN0.out, fun k hk => .inl (hFc'.out k hk), Far.refl _ _⟩
    have hwa := Lib.hid hXa0.out.within
    have hwb := Lib.hid hb'.out.within
    have hTV0 := Lib.hid (show Tab V0 from (((hT.still hfw0.out).far hfV.out (by have := hT.lt; have := hbR'.out; omega)).still hfV0.out))
    clear hL2 hR
    refine name_frame fun T hTT => ?_
    refine range_ok (by decide) (by rw [← hTT]; rfl) (enters_of Tryz.func141 (by kernel_rfl) rfl) (blocks_seq (10 - 1) (by decide) hb2 V2.heap.size _ A L2 hLf2 V0 hbX2'.out hbO2'.out) keepS_t (fun V l o o' hl h ho => keepS_put (B := V0.heap.size) (fun k hk => ?hK2) V l o o' hl) (fun _ => rfl)
      (fun pre X => ∃ F, P2 A B R side Bc V0 F pre X) (fun _ _ _ => False) ?own2 ?ownx2 hI0
      (fun pre y a' X => BOk L2 pre y X ∧ ∃ k F, P2 A B R side Bc V0 F pre X ∧ Bk X k 71 #[.int .i64 (y.1 : Nat), .int .i64 (y.2 : Nat)] ∧ Hold X (k + 1) (Rw (blk (sub A y.1 y.2))) ∧ ¬ F (k + 1) ∧ V0.heap.size ≤ k ∧
        a' = { tmps := ((((T.setIfInBounds 38 (.agg #[.int .i64 (y.1 : Nat), .int .i64 (y.2 : Nat)])).setIfInBounds 39 (.agg (Rw (blk (sub A y.1 y.2))))).setIfInBounds 10 (.pointer (some ⟨k, 0, none⟩))).setIfInBounds 11 (.pointer (some ⟨k + 1, 0, none⟩))), defers := [] }) ?hAx2 ?assign2 ?body2 ?done2 ?stop2
    case hK2 =>
      rcases hk with rfl | e
      · exact hbX2'.out.lt
      · exact (hvb2.out k e).2
    case own2 =>
      rintro u A B row ⟨F, hi⟩ hg hr
      exact ⟨F, hi.go hg hr⟩
    case ownx2 => exact fun c u A B row h _ _ => h
    case stop2 => exact fun D c pre V _ _ h _ => h.elim
    case hAx2 =>
      rintro pre y a' u A B row ⟨h9, k, F, hi, hc, hh, n2, hz, e⟩ hg hr
      exact ⟨h9, k, F, hi.go hg hr, hc.kept hg hr, (Bk.kept (B := V0.heap.size) hh hg hr : Bk B (k + 1) 108 _), n2, hz, e⟩
    case assign2 =>
      intro l pre y X KK hI hok hK
      obtain ⟨F, hi⟩ := hI
      subst hTT
      simp only [bencs, List.zip_toArray, List.zip_cons_cons, List.zip_nil_right, List.foldl_toArray', List.foldl_cons, List.foldl_nil, List.setIfInBounds_toArray, List.set_cons_succ, List.set_cons_zero] at hK ⊢
      gi_wp2_with (first | (refine wpListIn_st rfl _ _ rfl _ rfl _ rfl (Hold.new (by simp)) ?_))
      obtain ⟨V1, hV1⟩ : ∃ V1, V1 = X.alloc (.cells #[.int .i64 (y.1 : Nat), .int .i64 (y.2 : Nat)] 71) := ⟨_, rfl⟩
      have z1 : X.heap.size + 1 = V1.heap.size := by rw [hV1]; simp
      have e9 : ∀ Z, (V1.alloc (.cells (Rw fun _ => 0) 108)).setRow (X.heap.size + 1) Z = V1.alloc (.cells Z 108) := fun Z => by rw [z1, World.setRow_alloc_new]
      have hf : Far (fun _ => False) X (V1.alloc (.cells (Rw (blk (sub A y.1 y.2))) 108)) := (hV1 ▸ (Far.refl _ X).alloc _ : Far (fun _ => False) X V1).alloc _
      have hc1 : Bk V1 X.heap.size 71 #[.int .i64 (y.1 : Nat), .int .i64 (y.2 : Nat)] := hV1 ▸ Bk.new rfl
      rw [← hV1, e9]
      have hsz := hi.far.size
      refine hK _ _ (keeps_far hf fun _ h => h.elim) ⟨KeepK.of_far hf fun k hk => ⟨?_, id⟩, hf.size⟩ ⟨F, hi.still hf⟩ ⟨hok, X.heap.size, F, hi.still hf, hc1.alloc _, Hold.new z1, fun h => by have := hi.mx.lt _ h; omega, hsz, rfl⟩
      rcases hk with rfl | e
      · exact Nat.lt_of_lt_of_le hbX2'.out.lt hsz
      · exact Nat.lt_of_lt_of_le (hvb2.out k e).2 hsz
    case body2 =>
      rintro l pre y a' X hl _ ⟨⟨hk1, hk2⟩, k, F0, hi, hc, hh, n2, hz, rfl⟩
      subst hTT
      simp only [List.setIfInBounds_toArray, List.set_cons_succ, List.set_cons_zero]
      have hyL : y ∈ L2 := List.mem_of_mem_take (hk1 ▸ (by simp : y ∈ pre ++ [y]))
      have hy1 := hLp2 y hyL
      have hyi2 : (y.2 : Int) < 16 := by omega
      have hy216 : y.2 < 16 := by omega
      have hRX : PR W0.heap.size bR Vr R B X := hR0.out.kept hi.far fun q hq o ho cs t ht e => by
        subst hq e
        obtain ⟨cs2, hb2⟩ := hN0.out.boxBk
        have := bk_type (show Bk V0 q t cs from ho) hb2
        rcases ht with rfl | rfl <;> exact absurd this (by decide)
      obtain ⟨ao, cap, hvx⟩ := q_form (hRX.row y.2 hy216)
      obtain ⟨n, hn⟩ : ∃ n, n = (R y.2).length := ⟨_, rfl⟩
      have hnb : n ≤ 256 := by rw [hn]; exact hRl y.2
      rw [← hn] at hvx
      have c0 : X.cell? ⟨k, 0, none⟩ = some (.int .i64 (y.1 : Nat)) := hc.cell 0
      have c1 : X.cell? ⟨k, 1, none⟩ = some (.int .i64 (y.2 : Nat)) := hc.cell 1
      have c5 : X.cell? ⟨bR, y.2, none⟩ = some (.slice ao n cap) := by rw [← hvx]; exact hRX.at hy216
      have hi' := Lib.hid hi
      have hc' := Lib.hid hc
      have hh' := Lib.hid hh
      have hRX' := Lib.hid hRX
      have hvx' := Lib.hid hvx
      have hn' := Lib.hid hn
      have n2' := Lib.hid n2
      have hk1' := Lib.hid hk1
      clear hi hc hh hRX hvx hn n2 hk1 hk2
      gi_wp2
      gi_loopw [13, 45] (fun _ iv wr => ∃ j : Nat, j ≤ n ∧ iv = .int .i64 (j : Nat) ∧ ∃ F, Mx wr Bc F side (((R y.2).take j).foldl (addM A B y) (prodP A B R pre)) ∧ Mv X wr F0 F) (fun _ iv _ => n - (intOf iv).toNat)
      case atStart => exact ⟨0, Nat.zero_le _, rfl, F0, hi'.out.mx, Mv.still (Far.refl _ _)⟩
      case round =>
        obtain ⟨j, hj, rfl, F, hX, hm⟩ := hrel
        have hRw : PR W0.heap.size bR Vr R B wr := hRX'.out.kept hm.far fun q hq o ho cs t ht e => by
          subst e
          have hb : Bk X q t cs := ho
          rcases ht with rfl | rfl
          · exact hi'.out.mx.notBk hb (by decide) (by decide) (by decide) hq
          · exact hi'.out.mx.notBk hb (by decide) (by decide) (by decide) hq
        by_cases hlt : j < n
        · have hji : (j : Int) < (n : Int) := by omega
          obtain ⟨p, hp⟩ : ∃ p, (R y.2)[j]? = some p := ⟨(R y.2)[j]'(by rw [← hn'.out]; exact hlt), List.getElem?_eq_getElem _⟩
          have hpm := hRm.out y.2 p (List.mem_of_getElem? hp)
          have hrow := hRw.row y.2 hy216
          rw [hvx'.out, ← hn'.out] at hrow
          obtain ⟨g, c2, hsv, _⟩ := hrow.form (by omega)
          cases hsv
          obtain ⟨fB, hfB⟩ : ∃ f, blk (sub B p.1 p.2) = f := ⟨_, rfl⟩
          have hwB : Wf fB := hfB ▸ blk_wf _
          have hr : wr.rangeAt g (j * 66) (spt p.1 p.2 fB).toList := by
            have := own_range hrow (srows_even B _) (srows_get hp)
            unfold srow at this
            rw [hfB] at this
            exact this
          have hp' := Lib.hid hp
          have hX' := Lib.hid hX
          have hm' := Lib.hid hm
          have hfB' := Lib.hid hfB
          clear hX hm hRw hrow hp hfB c0 c1 c5
          gi_wp2_with (first | (refine wpListIn_pl rfl _ rfl _ _ rfl hr ?_) | (refine wpListIn_pst rfl _ _ rfl _ rfl rfl (Bk.new rfl) (spt_size _ _ _) ?_; rw [World.setRow_alloc_new]))
          obtain ⟨kp, hkp⟩ : ∃ b, b = wr.heap.size := ⟨_, rfl⟩
          obtain ⟨wp, hwp⟩ : ∃ Y, Y = wr.alloc (.cells (spt p.1 p.2 fB) 187) := ⟨_, rfl⟩
          rw [← hkp, ← hwp]
          have hfp : Far (fun _ => False) wr wp := hwp ▸ (Far.refl _ wr).alloc _
          have hfd : Far (fun _ => False) wr wp.drew := hfp.drew
          obtain ⟨fA, hfA⟩ : ∃ f, blk (sub A y.1 y.2) = f := ⟨_, rfl⟩
          have hwA : Wf fA := hfA ▸ blk_wf _
          have hhA : Hold X (k + 1) (Rw fA) := hfA ▸ hh'.out
          have hFn : ∀ q, F q → F0 q ∨ X.heap.size ≤ q := hm'.out.more
          have hFk1 : ¬ F (k + 1) := fun h => (hFn _ h).elim n2'.out fun e => by have := hhA.lt; omega
          have s8 : Bk wr h8 26 #[.pointer (some ⟨Bc, 0, none⟩)] := (hB80.out.far' hi'.out.far (by have := hBcw.out; omega)).far' hm'.out.far (hi'.out.mx.notBk (hB80.out.far' hi'.out.far (by have := hBcw.out; omega)) (by decide) (by decide) (by decide))
          have sk : Bk wr k 71 #[.int .i64 (y.1 : Nat), .int .i64 (y.2 : Nat)] := hc'.out.far' hm'.out.far (hi'.out.mx.notBk hc'.out (by decide) (by decide) (by decide))
          have sh : Hold wr (k + 1) (Rw fA) := Bk.far' (t := 108) hhA hm'.out.far n2'.out
          have SDr : (fun w' : World => Bk w' h8 26 #[.pointer (some ⟨Bc, 0, none⟩)] ∧ Bk w' k 71 #[.int .i64 (y.1 : Nat), .int .i64 (y.2 : Nat)] ∧ Hold w' (k + 1) (Rw fA) ∧ PcB w' kp (spt p.1 p.2 fB)) wp.drew := ⟨s8.far' hfd id, sk.far' hfd id, Bk.far' (t := 108) sh hfd id, (hwp ▸ Bk.new hkp : PcB wp kp _)⟩
          have hXd := hX'.out.still hfd
          have hTd : Tab wp.drew := (((hTV0.out.far hi'.out.far (by have := hT.lt; have := hBcw.out; omega)).far hm'.out.far (fun h => by
            rcases hi'.out.own _ h with e | e
            · have := hT.lt; have := hBcw.out; omega
            · have := hTV0.out.lt; omega)).still hfd)
          have ML := mul_any fA fB wp.drew hwA hwB hTd
          have hnk : ∀ W : World, ∀ N, Mx W Bc F side N → (fun w' : World => Bk w' h8 26 #[.pointer (some ⟨Bc, 0, none⟩)] ∧ Bk w' k 71 #[.int .i64 (y.1 : Nat), .int .i64 (y.2 : Nat)] ∧ Hold w' (k + 1) (Rw fA) ∧ PcB w' kp (spt p.1 p.2 fB)) W → ¬ F h8 ∧ ¬ F k ∧ ¬ F (k + 1) ∧ ¬ F kp := fun W N h9 h0 => ⟨h9.notBk h0.1 (by decide) (by decide) (by decide), h9.notBk h0.2.1 (by decide) (by decide) (by decide), hFk1, h9.notBk h0.2.2.2 (by decide) (by decide) (by decide)⟩
          have hSF : ∀ (W W' : World), Far (fun _ => False) W W' → (fun w' : World => Bk w' h8 26 #[.pointer (some ⟨Bc, 0, none⟩)] ∧ Bk w' k 71 #[.int .i64 (y.1 : Nat), .int .i64 (y.2 : Nat)] ∧ Hold w' (k + 1) (Rw fA) ∧ PcB w' kp (spt p.1 p.2 fB)) W → (fun w' : World => Bk w' h8 26 #[.pointer (some ⟨Bc, 0, none⟩)] ∧ Bk w' k 71 #[.int .i64 (y.1 : Nat), .int .i64 (y.2 : Nat)] ∧ Hold w' (k + 1) (Rw fA) ∧ PcB w' kp (spt p.1 p.2 fB)) W' := fun W W' hf h0 => ⟨h0.1.far' hf id, h0.2.1.far' hf id, Bk.far' (t := 108) h0.2.2.1 hf id, h0.2.2.2.far' hf id⟩
          have hin : ∀ r c, r < 64 → c < 64 → bt (blk (mulS fA fB)) r c = true → 64 * y.1 + r < side ∧ 64 * p.2 + c < side := by
            rw [← hfA, ← hfB'.out]
            exact piece_within hwa.out hwb.out
          have PT : ∀ W, Far (fun _ => False) wp.drew W → _ := fun W hf => qPut_yes (hXd.still hf) y.1 p.2 hy1.1 hpm.2 (blk_wf (mulS fA fB)) hin
          have hstep : orM (((R y.2).take j).foldl (addM A B y) (prodP A B R pre)) y.1 p.2 (blk (mulS fA fB)) = ((R y.2).take (j + 1)).foldl (addM A B y) (prodP A B R pre) := by
            rw [← hfA, ← hfB'.out]
            exact (foldM_step A B y _ hp'.out).symm
          have hXd' := Lib.hid hXd
          have hstep' := Lib.hid hstep
          have PT' := Lib.hid PT
          have hfd' := Lib.hid hfd
          have hnk' := Lib.hid hnk
          have hSF' := Lib.hid hSF
          have hyi1 : (y.1 : Int) < 16 := by have := hy1.1; omega
          have hpi2 : (p.2 : Int) < 16 := by have := hpm.2; omega
          clear hkp hwp hfp s8 sk sh hin hFn hhA hXd hstep PT hfd hnk hSF hfA hTd
          refine region_in (S := fun w' : World => Bk w' h8 26 #[.pointer (some ⟨Bc, 0, none⟩)] ∧ Bk w' k 71 #[.int .i64 (y.1 : Nat), .int .i64 (y.2 : Nat)] ∧ Hold w' (k + 1) (Rw fA) ∧ PcB w' kp (spt p.1 p.2 fB)) (by kernel_rfl) (by kernel_rfl) SDr (fun hS => ?_)
          refine wpAnyH_take (i := 0) (v := ?v0q1) rfl (by kernel_rfl) (by kernel_rfl) (by kernel_rfl) (fun _ _ _ h => h) (Or.inl ⟨by rfl, ?y0q1⟩) (by assumption) ?r0q1
          case y0q1 => (intro w hSw; (try dsimp only at hSw); have g0 : w.cell? ⟨h8, 0, none⟩ = some (.pointer (some ⟨Bc, 0, none⟩)) := hSw.1.cell 0; have g1 : w.cell? ⟨k, 0, none⟩ = some (.int .i64 (y.1 : Nat)) := hSw.2.1.cell 0; have g3 : w.cell? ⟨kp, 1, none⟩ = some (.int .i64 (p.2 : Nat)) := (PcB.at hSw.2.2.2).2; go_simp; (try with_reducible rfl))
          simp only [Act.put, List.setIfInBounds_toArray, List.set_cons_zero, List.set_cons_succ]
          refine wpAnyH_take (i := 1) (v := ?v1q2) rfl (by kernel_rfl) (by kernel_rfl) (by kernel_rfl) (fun _ _ _ h => h) (Or.inl ⟨by rfl, ?y1q2⟩) (by assumption) ?r1q2
          case y1q2 => (intro w hSw; (try dsimp only at hSw); have g0 : w.cell? ⟨h8, 0, none⟩ = some (.pointer (some ⟨Bc, 0, none⟩)) := hSw.1.cell 0; have g1 : w.cell? ⟨k, 0, none⟩ = some (.int .i64 (y.1 : Nat)) := hSw.2.1.cell 0; have g3 : w.cell? ⟨kp, 1, none⟩ = some (.int .i64 (p.2 : Nat)) := (PcB.at hSw.2.2.2).2; go_simp; (try with_reducible rfl))
          simp only [Act.put, List.setIfInBounds_toArray, List.set_cons_zero, List.set_cons_succ]
          refine wpAnyH_take (i := 2) (v := ?v2q3) rfl (by kernel_rfl) (by kernel_rfl) (by kernel_rfl) (fun _ _ _ h => h) (Or.inl ⟨by rfl, ?y2q3⟩) (by assumption) ?r2q3
          case y2q3 => (intro w hSw; (try dsimp only at hSw); have g0 : w.cell? ⟨h8, 0, none⟩ = some (.pointer (some ⟨Bc, 0, none⟩)) := hSw.1.cell 0; have g1 : w.cell? ⟨k, 0, none⟩ = some (.int .i64 (y.1 : Nat)) := hSw.2.1.cell 0; have g3 : w.cell? ⟨kp, 1, none⟩ = some (.int .i64 (p.2 : Nat)) := (PcB.at hSw.2.2.2).2; go_simp; (try with_reducible rfl))
          simp only [Act.put, List.setIfInBounds_toArray, List.set_cons_zero, List.set_cons_succ]
          refine wpAnyH_take (i := 3) (v := ?v3q4) rfl (by kernel_rfl) (by kernel_rfl) (by kernel_rfl) (fun _ _ _ h => h) (Or.inl ⟨by rfl, ?y3q4⟩) (by assumption) ?r3q4
          case y3q4 => (intro w hSw; (try dsimp only at hSw); have g0 : w.cell? ⟨h8, 0, none⟩ = some (.pointer (some ⟨Bc, 0, none⟩)) := hSw.1.cell 0; have g1 : w.cell? ⟨k, 0, none⟩ = some (.int .i64 (y.1 : Nat)) := hSw.2.1.cell 0; have g3 : w.cell? ⟨kp, 1, none⟩ = some (.int .i64 (p.2 : Nat)) := (PcB.at hSw.2.2.2).2; go_simp; (try with_reducible rfl))
          simp only [Act.put, List.setIfInBounds_toArray, List.set_cons_zero, List.set_cons_succ]
          refine wpAnyH_take (i := 4) (v := ?v4q5) rfl (by kernel_rfl) (by kernel_rfl) (by kernel_rfl) (fun _ _ _ h => h) (Or.inl ⟨by rfl, ?y4q5⟩) (by assumption) ?r4q5
          case y4q5 => (intro w hSw; (try dsimp only at hSw); have g0 : w.cell? ⟨h8, 0, none⟩ = some (.pointer (some ⟨Bc, 0, none⟩)) := hSw.1.cell 0; have g1 : w.cell? ⟨k, 0, none⟩ = some (.int .i64 (y.1 : Nat)) := hSw.2.1.cell 0; have g3 : w.cell? ⟨kp, 1, none⟩ = some (.int .i64 (p.2 : Nat)) := (PcB.at hSw.2.2.2).2; go_simp; (try with_reducible rfl))
          simp only [Act.put, List.setIfInBounds_toArray, List.set_cons_zero, List.set_cons_succ]
          refine wpAnyH_take (i := 5) (v := ?v5q6) rfl (by kernel_rfl) (by kernel_rfl) (by kernel_rfl) (fun _ _ _ h => h) (Or.inl ⟨by rfl, ?y5q6⟩) (by assumption) ?r5q6
          case y5q6 => (intro w hSw; (try dsimp only at hSw); have g0 : w.cell? ⟨h8, 0, none⟩ = some (.pointer (some ⟨Bc, 0, none⟩)) := hSw.1.cell 0; have g1 : w.cell? ⟨k, 0, none⟩ = some (.int .i64 (y.1 : Nat)) := hSw.2.1.cell 0; have g3 : w.cell? ⟨kp, 1, none⟩ = some (.int .i64 (p.2 : Nat)) := (PcB.at hSw.2.2.2).2; go_simp; (try with_reducible rfl))
          simp only [Act.put, List.setIfInBounds_toArray, List.set_cons_zero, List.set_cons_succ]
          refine wpAnyH_take (i := 6) rfl (by kernel_rfl) (by kernel_rfl) (by kernel_rfl) (fun _ _ _ h => h) (yl (wanted_none rfl) (.tmp 11) rfl (k + 1) (by kernel_rfl) (f := fA) fun w hSw => hSw.2.2.1) (by assumption) ?_
          simp only [Act.put, List.setIfInBounds_toArray, List.set_cons_zero, List.set_cons_succ]
          refine wpAnyH_take (i := 7) (v := ?v7q8) rfl (by kernel_rfl) (by kernel_rfl) (by kernel_rfl) (fun _ _ _ h => h) (Or.inl ⟨by rfl, ?y7q8⟩) (by assumption) ?r7q8
          case y7q8 => (intro w hSw; (try dsimp only at hSw); have g0 : w.cell? ⟨h8, 0, none⟩ = some (.pointer (some ⟨Bc, 0, none⟩)) := hSw.1.cell 0; have g1 : w.cell? ⟨k, 0, none⟩ = some (.int .i64 (y.1 : Nat)) := hSw.2.1.cell 0; have g3 : w.cell? ⟨kp, 1, none⟩ = some (.int .i64 (p.2 : Nat)) := (PcB.at hSw.2.2.2).2; go_simp; (try with_reducible rfl))
          simp only [Act.put, List.setIfInBounds_toArray, List.set_cons_zero, List.set_cons_succ]
          refine wpAnyH_take (i := 8) rfl (by kernel_rfl) (by kernel_rfl) (by kernel_rfl) (fun _ _ _ h => h) (ylf (wanted_none rfl) (.tmp 56) rfl kp 2 (by kernel_rfl) (f := fB) fun w hSw => PcB.leaf hSw.2.2.2) (by assumption) ?_
          simp only [Act.put, List.setIfInBounds_toArray, List.set_cons_zero, List.set_cons_succ]
          refine wpAnyH_ready (rs := [9]) (by kernel_rfl) (by decide) (AllReadyH.cons rfl (fun K' hK => ?_) AllReadyH.nil)
          refine hw_call (.agg (Rw (blk (mulS fA fB)))) _ _ (fun w' => Far (fun _ => False) wp.drew w') (wanted_none rfl) (by go_simp) (ML.mono fun e w' h => ⟨h.1, ⟨h.2.os, h.2.tape, h.2.output, h.2.size, fun k hk _ => h.2.block k hk⟩⟩) fun w3 hf3 => ?_
          have hS3 := hSF'.out _ _ hf3 hS
          refine hK.out _ _ hS3 fun hS9 => ?_
          go_simp
          clear hK
          have PT3 := PT'.out w3 hf3
          refine wpAnyH_ready (rs := [10]) (by kernel_rfl) (by decide) (AllReadyH.cons rfl (fun K' hK => ?_) AllReadyH.nil)
          refine hw_call (.tuple #[.bool (newB (((R y.2).take j).foldl (addM A B y) (prodP A B R pre)) y.1 p.2 (blk (mulS fA fB))), .int .i64 0]) _ _ (fun w' => ∃ F', Mx w' Bc F' side (orM (((R y.2).take j).foldl (addM A B y) (prodP A B R pre)) y.1 p.2 (blk (mulS fA fB))) ∧ Mv w3 w' F F') (wanted_none rfl) (by go_simp) PT3 fun w4 hw4 => ?_
          obtain ⟨F4, hX4, hm4⟩ := hw4
          obtain ⟨u1, u2, u3, u4⟩ := hnk'.out _ _ (hXd'.out.still hf3) hS3
          refine hK.out _ _ ⟨hS3.1.far' hm4.far u1, hS3.2.1.far' hm4.far u2, Bk.far' (t := 108) hS3.2.2.1 hm4.far u3, hS3.2.2.2.far' hm4.far u4⟩ fun hS9 => ?_
          go_simp
          clear hK
          refine wpAnyH_done (by kernel_rfl) ?_ _
          unfold OnlyNormal
          dsimp only
          rw [hstep'.out] at hX4
          have hX4' := Lib.hid hX4
          have hm5 := Lib.hid (hm'.out.trans ((Mv.still (F := F) (hfd'.out.then hf3)).trans hm4))
          clear hX4 hm4 hf3 hS3 hS hS9 PT3 SDr
          gi_wp2
          exact ⟨⟨j + 1, by omega, by go_num, F4, hX4'.out, hm5.out⟩, by simp [intOf]; omega⟩
        · have hje : j = n := by omega
          subst hje
          have hfull : (R y.2).take j = R y.2 := List.take_of_length_le (by rw [← hn'.out]; exact Nat.le_refl _)
          rw [hfull, ← prodP_app] at hX
          have hX' := Lib.hid hX
          have hm' := Lib.hid hm
          clear hX hm hRw hfull c0 c1 c5
          gi_wp2
          have hi := hi'.out
          have hm := hm'.out
          have hFX : ∀ q, F0 q → q = Bc ∨ V0.heap.size ≤ q := hi.own
          refine ⟨⟨hm.far.size, fun q o _ hq ho => (hm.far.block q (Array.getElem?_eq_some_iff.1 hq).1 fun e => ?_).trans hq⟩, ⟨KeepK.of_far hm.far fun q hq => ?_, hm.far.size⟩, F, hX'.out, fun q hq => ?_, hi.far.trans hm.far fun q hq e => ?_⟩
          · have := hi.mx.cells e hq; rw [ho] at this; cases this
          · have hq2 : V2.heap.size ≤ q ∧ q < V0.heap.size := by
              rcases hq with rfl | e
              · exact ⟨hz20.out.2.1, hbX2'.out.lt⟩
              · exact hvb2.out q e
            have := hi.far.size
            refine ⟨by omega, fun e => ?_⟩
            have := hBcw.out
            have := hz20.out
            rcases hFX q e with e | e <;> omega
          · rcases hm.more q hq with e | e
            · exact hFX q e
            · have := hi.far.size; omega
          · rcases hFX q e with e | e
            · exact e
            · omega
    case done2 =>
      rintro D2 xs2 V' hD2 rfl ⟨F, hi⟩ hK2
      have h8b : Bk V' h8 26 #[.pointer (some ⟨Bc, 0, none⟩)] := hB80.out.far' hi.far (by have := hBcw.out; omega)
      have c8 : V'.cell? ⟨h8, 0, none⟩ = some (.pointer (some ⟨Bc, 0, none⟩)) := h8b.cell 0
      obtain ⟨csB, hbB⟩ := hN0.out.boxBk
      have m0 : Marks V0 w.heap.size [{ target := .collected D, args := #[] }] := Marks.cons (Marks.nil W0 w.heap.size) (Marks.nil V0 w.heap.size) (Nat.le_trans hfw0.out.size hD) hD hD0.out
      have m1 : Marks V' w.heap.size [{ target := .collected D, args := #[] }] := m0.far hi.far fun q _ hq e => by
        subst e
        rw [show V0.heap[q]? = _ from hbB] at hq
        cases hq
      have hwV0 : w.heap.size ≤ V0.heap.size := Nat.le_trans hfw0.out.size (Nat.le_trans hfV.out.size hfV0.out.size)
      have m2 := Lib.hid (Marks.cons m0 m1 (Nat.le_trans hwV0 hD2) hD2 hK2)
      have hi' := Lib.hid hi
      subst hTT
      clear hi m0 m1 h8b hK2 hbB
      go_wp2_with fail
      refine leave_marks m2.out fun W' hfW => ?_
      refine ⟨.pointer (some ⟨Bc, 0, none⟩), by simp [results, Tryz.f109, go_sem], Bc, rfl, F, ?_, fun q hq => ?_, ?_⟩
      · refine (hi'.out.mx.kept hfW fun q hq e => ?_).congr fun r c => ?_
        · have := hi'.out.mx.cells hq e.2
          cases this
        · rw [← hR'.out, ← hL'.out, ← hL2'.out]
          exact (prod_mul s2 hwa.out hwb.out r c).symm
      · rcases hi'.out.own q hq with e | e
        · have := hBcw.out; omega
        · omega
      · exact (((((hfw0.out.trans (G := fun k => w.heap.size ≤ k) (hfV.out.mono fun k _ e => by have := hbR'.out; omega) fun k hk e => by omega).then hfV0.out).trans (G := fun k => w.heap.size ≤ k) (hi'.out.far.mono fun k _ e => by have := hBcw.out; omega) fun k hk e => by omega)).trans (G := fun k => w.heap.size ≤ k) (hfW.mono fun k _ e => e.1) fun k hk e => by omega)
end
end Go.Proofs.YtjolkhiggcmoiaaGreatDoor
