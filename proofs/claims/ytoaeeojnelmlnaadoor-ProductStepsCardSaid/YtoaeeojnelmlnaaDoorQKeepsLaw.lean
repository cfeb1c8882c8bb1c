/-
  QuadKeeps walked.
-/
import Derived.Test.YtoaeeojnelmlnaaDoorQRising
import Derived.OwnWalk
namespace Go.Proofs.YtoaeeojnelmlnaaDoor
open Go.RowKit Go.Shelf
set_option linter.unusedVariables false
set_option linter.unusedSimpArgs false
theorem Mx.side {w : World} {B side : Nat} {F : Nat → Prop} {M : Nat → Nat → Bool} (h : Mx w B F side M) : Calls Tryd.prog 30 #[.pointer (some ⟨B, 0, none⟩)] w fun e w' => e = .returned (.int .i64 (side : Nat)) ∧ w = w' := by
  obtain ⟨lv, root, nv, lvv, ns, A, ps, hq, hl, rfl⟩ := h
  exact qside_any hq
/-- A matrix lies in blocks of cells. -/
theorem Mx.cells {w : World} {B side : Nat} {F : Nat → Prop} {M : Nat → Nat → Bool} (h : Mx w B F side M) {k : Nat} (hk : F k) {o : Obj} (ho : w.heap[k]? = some o) : o.isCells = true := by
  obtain ⟨lv, root, nv, lvv, ns, A, ps, hq, hl, rfl⟩ := h
  have row : ∀ {b e s n : Nat} {v : Value} {xs : List Value}, w.ownsRow b e s v n xs → v.ownBlock = some k → o.isCells = true := fun {b e s n v xs} hr e' => by
    rcases hr.2 with ⟨rfl, _⟩ | ⟨g', cap, cur, rfl, _, hg, _⟩
    · cases e'
    · have : g' = k := Option.some.inj e'
      subst this
      rw [ho] at hg
      cases hg
      rfl
  rcases hk with rfl | e | e
  · have := hq.box; unfold Bk at this; rw [ho] at this; cases this; rfl
  · exact row hq.nodes e
  · exact row hq.leaves e
theorem cellsK_le (M : Nat → Nat → Bool) (side : Nat) : ∀ k, (cellsK M side k).length ≤ k * side
  | 0 => by simp [cellsK]
  | k + 1 => by
    rw [cellsK_succ, List.length_append, List.length_map, Nat.succ_mul]
    have h1 := cellsK_le M side k
    have h2 : (colsM M side k).length ≤ side := by unfold colsM; have := List.length_filter_le (fun c => M k c) (List.range side); simpa using this
    omega
theorem colsM_le (M : Nat → Nat → Bool) (side k : Nat) : (colsM M side k).length ≤ side := by unfold colsM; have := List.length_filter_le (fun c => M k c) (List.range side); simpa using this
/-- The cells of a list of places put one by one. -/
theorem put_cells {L : List (Nat × Nat)} {a b : Nat} : putL (fun k => (L.getD k (0, 0)).1) (fun k => (L.getD k (0, 0)).2) L.length a b = true ↔ (a, b) ∈ L := by
  rw [putL_iff]
  constructor
  · rintro ⟨q, hq, h1, h2⟩
    rw [List.getD_eq_getElem?_getD, List.getElem?_eq_getElem hq] at h1 h2
    simp only [Option.getD_some] at h1 h2
    rw [h1, h2]
    exact List.getElem_mem hq
  · intro h
    obtain ⟨q, hq, e⟩ := List.getElem_of_mem h
    refine ⟨q, hq, ?_, ?_⟩ <;> rw [List.getD_eq_getElem?_getD, List.getElem?_eq_getElem hq, Option.getD_some, e]
theorem cls_own {w : World} {base n cap : Nat} {ao : Option Addr} {L : List (Nat × Nat)} (h : w.ownsRow base 58 2 (.slice ao n cap) n (ccells L)) (hn : n = L.length) : Cls w ao n (fun k => ((L.getD k (0, 0)).1 : Nat)) (fun k => ((L.getD k (0, 0)).2 : Nat)) := fun h0 => by
  obtain ⟨g, c2, hsv, _⟩ := h.form h0
  cases hsv
  refine ⟨g, 0, rfl, (h.lt g rfl).2, fun k hk => ?_⟩
  have hk2 : k < L.length := by omega
  have hc := ccells_at (List.getElem?_eq_getElem hk2)
  have e : L.getD k (0, 0) = L[k] := by rw [List.getD_eq_getElem?_getD, List.getElem?_eq_getElem hk2]; rfl
  dsimp only
  rw [e]
  have h1 := h.cellAt (k * 2) (by omega)
  have h2 := h.cellAt (k * 2 + 1) (by omega)
  rw [Nat.zero_add]
  exact ⟨h1.trans hc.1, h2.trans hc.2⟩
section
set_option maxHeartbeats 8000000
set_option maxRecDepth 100000
theorem keeps_law (W : World) (x : Int) (ao : Option Addr) (n cap : Nat) (R C : Nat → Int) (hn : n ≤ 9223372036854775807) (hC : Cls W ao n R C) (hT : Tab W) :
    Calls Tryd.prog 4 #[.int .i64 x, .slice ao n cap] W fun e w' => e = .returned (.bool true) ∧ Far (fun _ => False) W w' := by
  obtain ⟨s, hs⟩ : ∃ s, (x % 1024).toNat + 1 = s := ⟨_, rfl⟩
  have hs1 : 1 ≤ s := by omega
  have hs2 : s ≤ 1024 := by omega
  have SZ := size02_any x W
  rw [hs] at SZ
  have PU := put02_any s hs1 hs2 ao n cap R C hn W hC
  obtain ⟨M, hM⟩ : ∃ M, putL (fun k => red s (R k)) (fun k => red s (C k)) n = M := ⟨_, rfl⟩
  rw [hM] at PU
  have hle := numM_le M
  clear hC hM hs
  go_enter Tryd.func4, Tryd.ntmps4
  go_wp2_with fail
  refine SZ.mono ?_
  rintro e w' ⟨rfl, rfl⟩
  clear SZ
  go_wp2_with fail
  refine PU.mono ?_
  rintro e w1 ⟨Bm, rfl, Fm, hXm, hlm, hf1⟩
  have SD := hXm.side
  have hXm' := Lib.hid hXm
  have hf1' := Lib.hid hf1
  clear PU hXm hlm hf1
  go_wp2_with fail
  refine SD.mono ?_
  rintro e w' ⟨rfl, rfl⟩
  have L1 := qlen_any hXm'.out
  clear SD
  go_wp2_with fail
  refine L1.mono ?_
  rintro e w2 ⟨rfl, hf2⟩
  have hX2 := Lib.hid (hXm'.out.still hf2)
  have hfw2 := Lib.hid (hf1'.out.then hf2)
  have RS := rising_any hX2.out (hT.still hfw2.out)
  clear L1 hXm' hf1' hf2
  go_wp2_with fail
  refine RS.mono ?_
  rintro e w3 ⟨rfl, hf3⟩
  have hX3 := Lib.hid (hX2.out.still hf3)
  have hfw3 := Lib.hid (hfw2.out.then hf3)
  have hlen := cellsL_len hs2 hX3.out.within
  have hwin := Lib.hid hX3.out.within
  obtain ⟨nM, hnM⟩ : ∃ n, numM M = n := ⟨_, rfl⟩
  rw [hnM] at hle hlen ⊢
  have hlen' := Lib.hid hlen
  clear RS hX2 hfw2 hf3 hlen hnM
  go_wp2_with fail
  go_loopw [9, 10, 11, 12, 13, 14] (fun av sv iv _ _ _ wr => ∃ k : Nat, k ≤ s ∧ iv = .int .i64 (k : Nat) ∧ sv = .int .i64 ((cellsK M s k).length : Nat) ∧ wr.ownsRow w3.heap.size 58 2 av (cellsK M s k).length (ccells (cellsK M s k)) ∧ Far (fun _ => False) w3 wr) (fun _ _ iv _ _ _ _ => s - (intOf iv).toNat)
  case atStart => exact ⟨0, Nat.zero_le _, rfl, rfl, World.ownsRow_nil _ _ _ _, Far.refl _ _⟩
  case round =>
    obtain ⟨k, hk, rfl, rfl, hown, hf⟩ := hrel
    obtain ⟨aov, capv, rfl⟩ := q_form hown
    have hown' := Lib.hid hown
    have hf' := Lib.hid hf
    obtain ⟨nK, hnK⟩ : ∃ n, n = (cellsK M s k).length := ⟨_, rfl⟩
    have hnb : nK ≤ 1048576 := by
      have h1 := cellsK_le M s k
      have h2 := Nat.mul_le_mul hk hs2
      have h3 := Nat.mul_le_mul_right 1024 hs2
      omega
    rw [← hnK] at hown' ⊢
    have hnK' := Lib.hid hnK
    by_cases hlt : k < s
    · have hki : (k : Int) < (s : Int) := by omega
      have RW := qrow_any (hX3.out.still hf) ((hT.still hfw3.out).still hf) k hlt
      obtain ⟨cs, hcs⟩ : ∃ c, c = colsM M s k := ⟨_, rfl⟩
      have hcl : cs.length ≤ 1024 := by rw [hcs]; exact Nat.le_trans (colsM_le M s k) hs2
      rw [← hcs] at RW
      have hcs' := Lib.hid hcs
      clear hown hf hnK hcs
      go_wp2_with fail
      refine RW.mono ?_
      rintro e w5 ⟨v, rfl, hrow, hf5⟩
      obtain ⟨ro, rc, rfl⟩ := q_form hrow
      have hrow' := Lib.hid hrow
      have hf5' := Lib.hid (hf'.out.then hf5)
      have hown5 := Lib.hid (show w5.ownsRow w3.heap.size 58 2 (.slice aov nK capv) nK (ccells (cellsK M s k)) from row_same hown'.out fun q _ hl => hf5.block q hl id)
      have hsum : ((nK : Int) + (cs.length : Int)) ≤ 9223372036854775807 := by omega
      obtain ⟨nc, hnc⟩ : ∃ n, n = cs.length := ⟨_, rfl⟩
      rw [← hnc] at hrow' hcl hsum ⊢
      have hnc' := Lib.hid hnc
      clear RW hrow hf5 hown' hf' hnc
      go_wp2_with fail
      obtain ⟨wo, hwo⟩ : ∃ wo, wo = wr := ⟨_, rfl⟩
      rw [← hwo] at hrow'
      clear hwo
      go_loopw [9, 14] (fun av jv wr => ∃ j : Nat, j ≤ nc ∧ jv = .int .i64 (j : Nat) ∧ wr.ownsRow w3.heap.size 58 2 av (nK + j) (ccells (cellsK M s k ++ (cs.take j).map fun c => (k, c))) ∧ Far (fun _ => False) w3 wr ∧ wr.ownsRow wo.heap.size 3 1 (.slice ro nc rc) nc (ncells cs)) (fun _ jv _ => nc - (intOf jv).toNat)
      case atStart => exact ⟨0, Nat.zero_le _, rfl, by rw [List.take_zero, List.map_nil, List.append_nil]; exact hown5.out, hf5'.out, hrow'.out⟩
      case round =>
        clear hown5 hf5' hrow'
        obtain ⟨j, hj, rfl, ho, hf, hr⟩ := hrel
        obtain ⟨bov, bcap, rfl⟩ := q_form ho
        by_cases hjl : j < nc
        · have hji : (j : Int) < (nc : Int) := by omega
          obtain ⟨c, hc⟩ : ∃ c, cs[j]? = some c := ⟨cs[j]'(by rw [← hnc'.out]; exact hjl), List.getElem?_eq_getElem _⟩
          obtain ⟨g, c2, hsv, _⟩ := hr.form (by omega)
          cases hsv
          have e0 : wr.cell? ⟨g, j, none⟩ = some (.int .i64 (c : Nat)) := by have := hr.cellAt j (by omega); rw [this]; exact ncells_at hc
          obtain ⟨ci, hci, hz0, hz1, hz2⟩ := info_parts cellInfo
          have C1 := Lib.hid (World.ownsRow.alloc ho (.cells #[.int .i64 (k : Nat), .int .i64 (c : Nat)] 58))
          have C7 := Lib.hid (World.news_of_block (w := wr.alloc (.cells #[.int .i64 (k : Nat), .int .i64 (c : Nat)] 58)) (cs := #[.int .i64 (k : Nat), .int .i64 (c : Nat)]) (t := 58) (fr := (0, 0)) (heap_alloc_new wr _))
          have C3 := Lib.hid (show ∀ u ∈ [(.int .i64 (k : Nat) : Value), .int .i64 (c : Nat)], u.oneCell' = true by simp [Value.oneCell'])
          have C4 : nK + j + 1 ≤ maxLen := by unfold maxLen; omega
          have C5 : (nK + j + 1) * 16 ≤ 140737488355328 := by omega
          have C6 : w3.heap.size ≤ (wr.alloc (.cells #[.int .i64 (k : Nat), .int .i64 (c : Nat)] 58)).heap.size := by have := hf.size; simp; omega
          have H1 := Lib.hid ho
          have H2 := Lib.hid hf
          have H3 := Lib.hid hr
          have hc' := Lib.hid hc
          clear ho hf hr hc
          go_wp2_with (at_builtin; refine wpList_append_own _ rfl _ _ 26 rfl w3.heap.size 58 ci _ 2 16 Tryd.underlying26 hci hz0 hz1 hz2 rfl (by decide) (.slice bov (nK + j) bcap) (nK + j) _ rfl C1.out ⟨wr.heap.size, 0, none⟩ 1 1 [.int .i64 (k : Nat), .int .i64 (c : Nat)] rfl rfl C7.out C3.out C4 C5 C6 ?_; intro v2 w6 ho6 hg6 hn6; have ho6' := Lib.hid ho6; have hg6' := Lib.hid hg6; clear ho6 hg6 hn6 e0)
          have fa : Far (fun _ => False) w3 w6 := (H2.out.alloc _).trans (grown_F hg6'.out) fun q hq e => by
            have := (own_type H1.out e).1
            omega
          have hr6 : w6.ownsRow wo.heap.size 3 1 (.slice (some ⟨g, 0, none⟩) nc rc) nc (ncells cs) := row_same H3.out fun q hq hl => ((grown_F hg6'.out).block q (by simp; omega) fun e => by
            obtain ⟨_, _, cs1, hb1⟩ := own_type H1.out e
            obtain ⟨_, _, cs2, hb2⟩ := own_type H3.out hq
            exact absurd (bk_type hb1 hb2) (by decide)).trans (heap_alloc_old wr _ hl)
          have ho6 : w6.ownsRow w3.heap.size 58 2 v2 (nK + (j + 1)) (ccells (cellsK M s k ++ (cs.take (j + 1)).map fun c => (k, c))) := by
            have := ho6'.out
            rw [← ccells_app _ (k, c), List.append_assoc] at this
            rw [List.take_add_one, hc'.out, List.map_append]
            exact this
          have ho7 := Lib.hid ho6
          have fa' := Lib.hid fa
          have hr7 := Lib.hid hr6
          clear ho6 fa hr6
          go_roundw
          case rel => exact ⟨j + 1, by omega, by go_num, ho7.out, fa'.out, hr7.out⟩
          case measure => simp [intOf]; omega
        · have hje : j = nc := by omega
          subst hje
          have hfull : cs.take j = cs := List.take_of_length_le (by rw [← hnc'.out]; exact Nat.le_refl _)
          have hck : cellsK M s k ++ (cs.take j).map (fun c => (k, c)) = cellsK M s (k + 1) := by rw [hfull, cellsK_succ, hcs'.out]
          have hlenK : nK + j = (cellsK M s (k + 1)).length := by rw [← hck, hfull, List.length_append, List.length_map, ← hnK'.out, ← hnc'.out]
          rw [hck] at ho
          have ho' := Lib.hid ho
          have hf' := Lib.hid hf
          have hlenK' := Lib.hid hlenK
          clear ho hf hr hfull hck hlenK
          go_wp2_with fail
          refine ⟨⟨k + 1, by omega, by go_num, ?_, ?_, hf'.out⟩, ?_⟩
          · rw [← hlenK'.out]; go_num
          · rw [← hlenK'.out]; exact ho'.out
          · simp [intOf]; omega
    · have hke : s = k := by omega
      subst hke
      have hKM : nK = nM := hnK'.out.trans hlen'.out
      have hX := Lib.hid (hX3.out.still hf)
      have hLn : nK = (cellsK M s s).length := hnK'.out
      obtain ⟨L, hL⟩ : ∃ L, L = cellsK M s s := ⟨_, rfl⟩
      rw [← hL] at hLn hown'
      have hmem : ∀ y : Nat × Nat, y ∈ L ↔ M y.1 y.2 = true := fun y => by rw [hL]; exact mem_cellsL hwin.out
      have hCl := cls_own hown'.out hLn
      have OF := qof_yes s hs1 hs2 aov nK capv (fun k => (L.getD k (0, 0)).1) (fun k => (L.getD k (0, 0)).2) (by omega) (fun q hq => by
        have hq2 : q < L.length := by omega
        have := (hmem _).1 (List.getElem_mem hq2)
        have := hwin.out _ _ this
        rw [List.getD_eq_getElem?_getD, List.getElem?_eq_getElem hq2]
        exact this) wr hCl
      have hP : ∀ r c, putL (fun k => (L.getD k (0, 0)).1) (fun k => (L.getD k (0, 0)).2) nK r c = M r c := fun r c => by
        rw [hLn, Bool.eq_iff_iff, put_cells, hmem]
      have hP' := Lib.hid hP
      have hfw := Lib.hid (hfw3.out.then hf)
      subst hKM
      clear hown hf hnK hL hLn hmem hCl hP hown' hnK' hX3 hfw3 hf'
      go_wp2_with fail
      refine OF.mono ?_
      rintro e w5 ⟨Bo, rfl, Fo, hXo, _, hf5⟩
      have hXo' := Lib.hid (hXo.congr fun r c => (hP'.out r c).symm)
      have hX5 := Lib.hid (hX.out.still hf5)
      have S1 := qsame_any hX5.out hXo'.out
      have hf5' := Lib.hid (hfw.out.then hf5)
      clear OF hXo hf5 hX hfw
      go_wp2_with fail
      refine S1.mono ?_
      rintro e w6 ⟨v1, rfl, hv1, hf6⟩
      have hv1t : v1 = true := hv1.2 (by simp)
      subst hv1t
      have S2 := qsame_any (hXo'.out.still hf6) (hX5.out.still hf6)
      have hf6' := Lib.hid (hf5'.out.then hf6)
      clear S1 hf6 hv1 hXo' hX5
      go_wp2_with fail
      refine S2.mono ?_
      rintro e w7 ⟨v2, rfl, hv2, hf7⟩
      have hv2t : v2 = true := hv2.2 (by simp)
      subst hv2t
      have hf7' := Lib.hid (hf6'.out.then hf7)
      clear S2 hf7 hv2
      go_wp2_with fail
      refine (awake02_any _).mono ?_
      rintro e w8 ⟨rfl, hf8⟩
      have hf8' := Lib.hid (hf7'.out.then hf8)
      clear hf8
      go_wp2_with fail
      go_ret
      exact ⟨rfl, hf8'.out⟩
end
end Go.Proofs.YtoaeeojnelmlnaaDoor
