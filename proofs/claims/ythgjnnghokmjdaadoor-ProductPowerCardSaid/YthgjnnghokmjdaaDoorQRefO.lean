/-
  One of the program and of the document, whatever side is asked for; few.
-/
import Derived.Test.YthgjnnghokmjdaaDoorQRefP2
namespace Go.Proofs.YthgjnnghokmjdaaDoor
open Go.RowKit Go.Shelf
set_option linter.unusedVariables false
set_option linter.unusedSimpArgs false
def oneS (s : Int) : Nat := if sideOK s = true then s.toNat else 0
def oneMM (s : Int) : Nat → Nat → Bool := if sideOK s = true then oneM s.toNat else zeroM
def oneE (s : Int) : Nat := if sideOK s = true then 0 else 2
theorem oneM_within (s : Nat) : ∀ r c, oneM s r c = true → r < s ∧ c < s := fun r c h => by
  unfold oneM at h
  rw [Bool.and_eq_true, decide_eq_true_eq, decide_eq_true_eq] at h
  omega
theorem one_cells {s i : Nat} (hi : i < s) : cellsK (oneM s) s (i + 1) = cellsK (oneM s) s i ++ [(i, i)] := by
  rw [cellsK_succ]
  congr 1
  have : colsM (oneM s) s i = [i] := by
    have h1 : ((colsM (oneM s) s i).map fun c => (i, c)) = [(i, i)] := by
      refine rise_eq ?_ (List.pairwise_singleton _ _) fun x => ?_
      · rw [List.pairwise_map]
        exact (colsM_rise _ _ _).imp fun h => .inr ⟨rfl, h⟩
      · rw [List.mem_map, List.mem_singleton]
        constructor
        · rintro ⟨c, hc, rfl⟩
          have := (mem_colsM.1 hc).2
          unfold oneM at this
          rw [Bool.and_eq_true, decide_eq_true_eq] at this
          rw [← this.1]
        · rintro rfl
          exact ⟨i, mem_colsM.2 ⟨hi, by unfold oneM; simp [hi]⟩, rfl⟩
    have h2 := congrArg (List.map Prod.snd) h1
    simpa [List.map_map, Function.comp_def] using h2
  rw [this]; rfl
section
set_option maxHeartbeats 4000000
set_option maxRecDepth 100000
theorem one_no (s : Int) (h : s < 1 ∨ 1024 < s) (w : World) : Calls Tryd.prog 34 #[.int .i64 s] w fun e w' => e = .returned (.tuple #[.pointer none, .int .i64 2]) ∧ w = w' := by
  have NW := qnew_no s h w
  clear h
  go_enter Tryd.func34, Tryd.ntmps34
  go_wp2_with fail
  refine NW.mono ?_
  rintro e w' ⟨rfl, rfl⟩
  go_wp2_with fail
  go_ret2
  exact ⟨rfl, rfl⟩
theorem pOne_any (s : Int) (w : World) : Calls Tryd.prog 34 #[.int .i64 s] w fun e w' => ∃ v, e = .returned (.tuple #[v, .int .i64 (oneE s : Nat)]) ∧ ∃ F', HasF w' v F' (oneS s) (oneMM s) ∧ (∀ k, F' k → w.heap.size ≤ k) ∧ Far (fun _ => False) w w' := by
  unfold oneE oneS oneMM sideOK
  by_cases h : 1 ≤ s ∧ s ≤ 1024
  · obtain ⟨t, rfl⟩ : ∃ t : Nat, s = (t : Int) := ⟨s.toNat, by omega⟩
    rw [if_pos (decide_eq_true h), if_pos (decide_eq_true h), if_pos (decide_eq_true h), Int.toNat_natCast]
    refine (one_yes t (by omega) (by omega) w).mono ?_
    rintro e w' ⟨B', rfl, F', hX, hlo, hf⟩
    exact ⟨_, rfl, F', .inr ⟨B', rfl, hX⟩, hlo, hf⟩
  · have hd : ¬ decide (1 ≤ s ∧ s ≤ 1024) = true := by simpa using h
    rw [if_neg hd, if_neg hd, if_neg hd]
    refine (one_no s (by omega) w).mono ?_
    rintro e w' ⟨rfl, rfl⟩
    exact ⟨_, rfl, _, HasF.none _, fun _ h => h.elim, Far.refl _ _⟩
theorem rone_side (s : Nat) (s1 : 1 ≤ s) (s2 : s ≤ 1024) (w : World) : Calls Tryd.prog 35 #[.int .i64 (s : Nat)] w fun e w' => ∃ v, e = .returned (.tuple #[v, .int .i64 0]) ∧ Dm w' v s (oneM s) ∧ Dn v w.heap.size ∧ Far (fun _ => False) w w' := by
  obtain ⟨h2, hh2⟩ : ∃ h, h = w.heap.size := ⟨_, rfl⟩
  obtain ⟨W0, hW0⟩ : ∃ V, V = w.alloc (.cells #[.int .i64 0, .slice none 0 0] 28) := ⟨_, rfl⟩
  have hF0 : Far (fun _ => False) w W0 := hW0 ▸ (Far.refl _ w).alloc _
  have hB0 : Bk W0 h2 28 #[.int .i64 0, .slice none 0 0] := hW0 ▸ Bk.new hh2
  have NW := rnew_yes s s1 s2 W0
  have hh2' := Lib.hid hh2
  have hW0' := Lib.hid hW0
  have hF0' := Lib.hid hF0
  have hB0' := Lib.hid hB0
  clear hh2 hW0 hF0 hB0
  go_enter Tryd.func35, Tryd.ntmps35
  go_upto_region 1 with fail
  rw [← hW0'.out, ← hh2'.out]
  go_wp2_with fail
  refine NW.mono ?_
  rintro e Wn ⟨rfl, hfn⟩
  obtain ⟨h4, hh4⟩ : ∃ h, h = Wn.heap.size := ⟨_, rfl⟩
  obtain ⟨W1, hW1⟩ : ∃ V, V = Wn.alloc (.cells #[.int .i64 (s : Nat), .slice none 0 0] 28) := ⟨_, rfl⟩
  have hf1 : Far (fun _ => False) Wn W1 := hW1 ▸ (Far.refl _ Wn).alloc _
  have hB4 : Bk W1 h4 28 #[.int .i64 (s : Nat), .slice none 0 0] := hW1 ▸ Bk.new hh4
  have hB2 := Lib.hid ((hB0'.out.far' hfn id).far' hf1 id)
  have hF1 := Lib.hid (hF0'.out.then (hfn.then hf1))
  have h24 := Lib.hid (show h2 < h4 by rw [hh4]; exact (hB0'.out.far' hfn id).lt)
  have h4z := Lib.hid (show w.heap.size ≤ h4 by rw [hh4]; exact (hF0'.out.then hfn).size)
  have hO0 : TO W1 h4 s (cellsK (oneM s) s 0) (.slice none 0 0) W1 := ⟨hB4, World.ownsRow_nil _ _ _ _, Far.refl _ _⟩
  have hO0' := Lib.hid hO0
  have hh4' := Lib.hid hh4
  have hW1' := Lib.hid hW1
  clear NW hfn hh4 hW1 hf1 hB4 hO0 hB0' hF0'
  go_upto_region 2 with fail
  rw [← hW1'.out, ← hh4'.out]
  go_wp2_with fail
  go_loopw [6] (fun iv wr => ∃ (i : Nat) (lv : Value), i ≤ s ∧ iv = .int .i64 (i : Nat) ∧ TO W1 h4 s (cellsK (oneM s) s i) lv wr) (fun iv _ => s - (intOf iv).toNat)
  case atStart => exact ⟨0, _, Nat.zero_le _, rfl, hO0'.out⟩
  case round =>
    clear hO0'
    obtain ⟨i, lv, hi, rfl, hO⟩ := hrel
    obtain ⟨wj, hwj⟩ : ∃ wj, wj = wr := ⟨_, rfl⟩
    rw [← hwj] at hO ⊢
    clear hwj
    by_cases hlt : i < s
    · have hii : (i : Int) < (s : Int) := by omega
      have hst := one_cells hlt
      obtain ⟨O, hOO⟩ : ∃ O, cellsK (oneM s) s i = O := ⟨_, rfl⟩
      have hOl : O.length ≤ 1048576 := by
        rw [← hOO]
        have h1 := cellsK_le (oneM s) s i
        have h2 : i * s ≤ 1024 * 1024 := Nat.mul_le_mul (by omega) s2
        omega
      rw [hOO] at hst hO
      obtain ⟨n, hn⟩ : ∃ n, n = O.length := ⟨_, rfl⟩
      have hown := hO.own
      rw [← hn] at hown hOl
      obtain ⟨oo, oc, rfl⟩ := q_form hown
      have c50 : wj.cell? ⟨h4, 0, none⟩ = some (.int .i64 (s : Nat)) := hO.b5.cell 0
      have c51 : wj.cell? ⟨h4, 1, none⟩ = some (.slice oo n oc) := hO.b5.cell 1
      obtain ⟨ci, hci, hz0, hz1, hz2⟩ := info_parts cellInfo
      have C1 := Lib.hid (World.ownsRow.alloc hown (.cells #[.int .i64 (i : Nat), .int .i64 (i : Nat)] 96))
      have C7 := Lib.hid (World.news_of_block (w := wj.alloc (.cells #[.int .i64 (i : Nat), .int .i64 (i : Nat)] 96)) (cs := #[.int .i64 (i : Nat), .int .i64 (i : Nat)]) (t := 96) (fr := (0, 0)) (heap_alloc_new wj _))
      have C3 := Lib.hid (show ∀ u ∈ [(.int .i64 (i : Nat) : Value), .int .i64 (i : Nat)], u.oneCell' = true by simp [Value.oneCell'])
      have C4 : n + 1 ≤ maxLen := by unfold maxLen; omega
      have C5 : (n + 1) * 16 ≤ 140737488355328 := by omega
      have C6 : W1.heap.size ≤ (wj.alloc (.cells #[.int .i64 (i : Nat), .int .i64 (i : Nat)] 96)).heap.size := by have := hO.far.size; simp; omega
      have hfa := (Far.refl (fun _ => False) wj).alloc (.cells #[.int .i64 (i : Nat), .int .i64 (i : Nat)] 96)
      have hAl := hO.still hfa
      have n5r : ∀ r, (Value.slice oo n oc).ownBlock = some r → r ≠ h4 ∧ W1.heap.size ≤ r := fun r hr => by
        obtain ⟨q1, _, cs, hb2⟩ := own_type hown hr
        refine ⟨fun e => ?_, q1⟩
        rw [e] at hb2; have := bk_type hb2 hO.b5; revert this; decide
      have HN := Lib.hid (show ∀ (v2 : Value) (w6 : World), w6.ownsRow W1.heap.size 96 2 v2 (n + 1) (ccells O ++ [.int .i64 (i : Nat), .int .i64 (i : Nat)]) → (wj.alloc (.cells #[.int .i64 (i : Nat), .int .i64 (i : Nat)] 96)).grownBy w6 (Value.slice oo n oc).ownBlock →
          Bk w6 h4 28 #[.int .i64 (s : Nat), .slice oo n oc] ∧ TO W1 h4 s (O ++ [(i, i)]) v2 (w6.setCell ⟨h4, 1, none⟩ v2) from fun v2 w6 ho hg => by
        have hf6 := grown_F hg
        have hb5 : Bk w6 h4 28 #[.int .i64 (s : Nat), .slice oo n oc] := Bk.far' (hAl.b5) hf6 fun e => (n5r _ e).1 rfl
        refine ⟨hb5, hb5.set 1 v2, ?_, ?_⟩
        · have ho2 : w6.ownsRow W1.heap.size 96 2 v2 (O ++ [(i, i)]).length (ccells (O ++ [(i, i)])) := by
            rw [ccells_app, List.length_append, List.length_singleton, ← hn]
            exact ho
          refine row_same ho2 fun k hk hl => RowKit.Below.heap_setCell _ _ _ _ fun e => ?_
          obtain ⟨_, _, cs, hb2⟩ := own_type ho2 hk
          have e2 : k = h4 := e
          rw [e2] at hb2
          have := bk_type hb2 hb5
          revert this; decide
        · exact ((hAl.far).trans hf6 fun k hk e => by have := (n5r k e).2; omega).set ⟨h4, 1, none⟩ v2 fun _ => rfl)
      have hst' := Lib.hid hst
      clear hst hO hOO hn hown hAl n5r hfa
      go_wp2_with (at_builtin; refine wpList_append_own _ rfl _ _ 26 rfl W1.heap.size 96 ci _ 2 16 Tryd.underlying26 hci hz0 hz1 hz2 rfl (by decide) (.slice oo n oc) n _ rfl C1.out ⟨wj.heap.size, 0, none⟩ 1 1 [.int .i64 (i : Nat), .int .i64 (i : Nat)] rfl rfl C7.out C3.out C4 C5 C6 ?_; intro v2 w6 ho6 hg6 hn6; obtain ⟨vo, vc, rfl⟩ := q_form ho6; obtain ⟨k5, kO⟩ := HN.out _ w6 ho6 hg6; have s51 : w6.cell? ⟨h4, 1, none⟩ = some (.slice oo n oc) := k5.cell 1; have sf5 := k5.free 1; have kO' := Lib.hid kO; clear ho6 hg6 hn6 k5 kO c50 c51 HN)
      go_roundw
      case rel => exact ⟨i + 1, _, by omega, by go_num, by rw [hst'.out]; exact kO'.out⟩
      case measure => simp only [intOf]; omega
    · have e : i = s := by omega
      subst e
      have hB2o : Bk wj h2 28 #[.int .i64 0, .slice none 0 0] := hB2.out.far' hO.far (by have := h24.out; omega)
      obtain ⟨oo, oc, rfl⟩ := q_form hO.own
      obtain ⟨n, hn2⟩ : ∃ n, n = (cellsK (oneM i) i i).length := ⟨_, rfl⟩
      have hown := hO.own
      have hb5 := hO.b5
      rw [← hn2] at hown hb5
      have q0 : wj.cell? ⟨h4, 0, none⟩ = some (.int .i64 (i : Nat)) := hb5.cell 0
      have q1 : wj.cell? ⟨h4, 1, none⟩ = some (.slice oo n oc) := hb5.cell 1
      have d0 : wj.cell? ⟨h2, 0, none⟩ = some (.int .i64 0) := hB2o.cell 0
      have d1 : wj.cell? ⟨h2, 1, none⟩ = some (.slice none 0 0) := hB2o.cell 1
      have f0 := hB2o.free 0
      have f1 := hB2o.free 1
      have n24 : h2 ≠ h4 := by have := h24.out; omega
      have n42 : h4 ≠ h2 := by have := h24.out; omega
      have hB2o' := Lib.hid hB2o
      have hfO := Lib.hid hO.far
      have hown' := Lib.hid hown
      have hn2' := Lib.hid hn2
      clear hO hB2o hown hb5 hn2
      go_wp2_with fail
      (try simp only [Exit.inBlock, Exit.then])
      obtain ⟨w7, hw7⟩ : ∃ V, V = (wj.setCell ⟨h2, 0, none⟩ (.int .i64 (i : Nat))).setCell ⟨h2, 1, none⟩ (.slice oo n oc) := ⟨_, rfl⟩
      have hB7 : Bk w7 h2 28 #[.int .i64 (i : Nat), .slice oo n oc] := hw7 ▸ (hB2o'.out.set 0 _).set 1 _
      have hf67 : Far (fun q => q = h2) wj w7 := hw7 ▸ ((Far.refl (fun q => q = h2) wj).set ⟨h2, 0, none⟩ _ fun _ => rfl).set ⟨h2, 1, none⟩ _ fun _ => rfl
      have hf57 : Far (fun q => q = h2 ∨ q = h4) W1 w7 := (hfO.out.mono fun _ _ e => .inr e).trans hf67 fun _ _ e => .inl e
      have hz2 := hh2'.out
      have hz4 := h4z.out
      have hf7 : Far (fun _ => False) w w7 := hF1.out.trans hf57 fun q hq e => by rcases e with rfl | rfl <;> omega
      have c0 : w7.cell? ⟨h2, 0, none⟩ = some (.int .i64 (i : Nat)) := hB7.cell 0
      have c1 : w7.cell? ⟨h2, 1, none⟩ = some (.slice oo n oc) := hB7.cell 1
      have ho7 := row_same hown'.out fun q hq hl => hf67.block q hl fun e => by
        obtain ⟨_, _, cs, hb2⟩ := own_type hown'.out hq
        rw [e] at hb2
        have := bk_type hb2 hB2o'.out
        revert this; decide
      have hDn : Dn (.agg #[.int .i64 (i : Nat), .slice oo n oc]) w.heap.size := fun _ _ _ _ e a ha => by
        cases e
        subst ha
        obtain ⟨h1, _⟩ := own_type hown'.out (k := a.block) rfl
        have := hF1.out.size
        omega
      have hD : Dm w7 (.agg #[.int .i64 (i : Nat), .slice oo n oc]) i (oneM i) := Dm.own s2 (oneM_within i) (cellsK_rise (oneM i) i i) (fun x => mem_cellsL (oneM_within i)) ho7 hn2'.out
      rw [← hw7]
      exact bodyPost_ret (v := .tuple #[.agg #[.int .i64 (i : Nat), .slice oo n oc], .int .i64 0]) (by simp [results, Tryd.f35, go_sem, c0, c1]) rfl ⟨_, rfl, hD, hDn, hf7⟩
theorem rone_no (s : Int) (h : s < 1 ∨ 1024 < s) (w : World) : Calls Tryd.prog 35 #[.int .i64 s] w fun e w' => ∃ v, e = .returned (.tuple #[v, .int .i64 2]) ∧ Dm w' v 0 zeroM ∧ Dn v w.heap.size ∧ Far (fun _ => False) w w' := by
  obtain ⟨h0, hh0⟩ : ∃ h, h = w.heap.size := ⟨_, rfl⟩
  obtain ⟨W0, hW0⟩ : ∃ V, V = w.alloc (.cells #[.int .i64 0, .slice none 0 0] 28) := ⟨_, rfl⟩
  have hF0 : Far (fun _ => False) w W0 := hW0 ▸ (Far.refl _ w).alloc _
  have hB0 : Bk W0 h0 28 #[.int .i64 0, .slice none 0 0] := hW0 ▸ Bk.new hh0
  have NW := rnew_no s h W0
  have hh0' := Lib.hid hh0
  have hW0' := Lib.hid hW0
  have hF0' := Lib.hid hF0
  have hB0' := Lib.hid hB0
  clear hh0 hW0 hF0 hB0 h
  go_enter Tryd.func35, Tryd.ntmps35
  go_upto_region 1 with fail
  rw [← hW0'.out, ← hh0'.out]
  go_wp2_with fail
  refine NW.mono ?_
  rintro e W1 ⟨rfl, hf1⟩
  obtain ⟨h6, hh6⟩ : ∃ h, h = W1.heap.size := ⟨_, rfl⟩
  obtain ⟨W2, hW2⟩ : ∃ V, V = W1.alloc (.cells #[.int .i64 0, .slice none 0 0] 28) := ⟨_, rfl⟩
  have hF2 : Far (fun _ => False) w W2 := hF0'.out.then (hf1.then (hW2 ▸ (Far.refl _ W1).alloc _))
  have hB6 : Bk W2 h6 28 #[.int .i64 0, .slice none 0 0] := hW2 ▸ Bk.new hh6
  have hB02 : Bk W2 h0 28 #[.int .i64 0, .slice none 0 0] := (hB0'.out.far' hf1 id).far' (F := fun _ => False) (hW2 ▸ (Far.refl _ W1).alloc _) id
  have q0 : W2.cell? ⟨h6, 0, none⟩ = some (.int .i64 0) := hB6.cell 0
  have q1 : W2.cell? ⟨h6, 1, none⟩ = some (.slice none 0 0) := hB6.cell 1
  have d0 : W2.cell? ⟨h0, 0, none⟩ = some (.int .i64 0) := hB02.cell 0
  have d1 : W2.cell? ⟨h0, 1, none⟩ = some (.slice none 0 0) := hB02.cell 1
  have f0 := hB02.free 0
  have f1 := hB02.free 1
  have n06 : h0 ≠ h6 := fun e => by rw [e, hh6] at hB0'; exact Nat.lt_irrefl _ (hB0'.out.far' hf1 id).lt
  have n60 : h6 ≠ h0 := fun e => n06 e.symm
  have hh6' := Lib.hid hh6
  have hW2' := Lib.hid hW2
  have hF2' := Lib.hid hF2
  have hB02' := Lib.hid hB02
  clear NW hf1 hh6 hW2 hF2 hB02 hB0' hF0' hB6
  go_upto_region 2 with fail
  rw [← hW2'.out, ← hh6'.out]
  go_wp2_with fail
  go_loopw [6] (fun iv wr => iv = .int .i64 0 ∧ wr = W2) (fun _ _ => 0)
  case atStart => exact ⟨rfl, rfl⟩
  case round =>
    obtain ⟨rfl, rfl⟩ := hrel
    go_wp2_with fail
    (try simp only [Exit.inBlock, Exit.then])
    obtain ⟨w7, hw7⟩ : ∃ V, V = (wr.setCell ⟨h0, 0, none⟩ (.int .i64 0)).setCell ⟨h0, 1, none⟩ (.slice none 0 0) := ⟨_, rfl⟩
    have hB7 : Bk w7 h0 28 #[.int .i64 0, .slice none 0 0] := hw7 ▸ (hB02'.out.set 0 _).set 1 _
    have hf7 : Far (fun _ => False) w w7 := hw7 ▸ (hF2'.out.set ⟨h0, 0, none⟩ _ (fun h => by rw [hh0'.out] at h; exact absurd h (Nat.lt_irrefl _))).set ⟨h0, 1, none⟩ _ (fun h => by rw [hh0'.out] at h; exact absurd h (Nat.lt_irrefl _))
    have c0 : w7.cell? ⟨h0, 0, none⟩ = some (.int .i64 0) := hB7.cell 0
    have c1 : w7.cell? ⟨h0, 1, none⟩ = some (.slice none 0 0) := hB7.cell 1
    rw [← hw7]
    exact bodyPost_ret (v := .tuple #[.agg #[.int .i64 0, .slice none 0 0], .int .i64 2]) (by simp [results, Tryd.f35, go_sem, c0, c1]) rfl ⟨_, rfl, Dm.none _, Dn.none _, hf7⟩
theorem rOne_any (s : Int) (w : World) : Calls Tryd.prog 35 #[.int .i64 s] w fun e w' => ∃ v, e = .returned (.tuple #[v, .int .i64 (oneE s : Nat)]) ∧ Dm w' v (oneS s) (oneMM s) ∧ Dn v w.heap.size ∧ Far (fun _ => False) w w' := by
  unfold oneE oneS oneMM sideOK
  by_cases h : 1 ≤ s ∧ s ≤ 1024
  · obtain ⟨t, rfl⟩ : ∃ t : Nat, s = (t : Int) := ⟨s.toNat, by omega⟩
    rw [if_pos (decide_eq_true h), if_pos (decide_eq_true h), if_pos (decide_eq_true h), Int.toNat_natCast]
    exact rone_side t (by omega) (by omega) w
  · have hd : ¬ decide (1 ≤ s ∧ s ≤ 1024) = true := by simpa using h
    rw [if_neg hd, if_neg hd, if_neg hd]
    exact rone_no s (by omega) w
theorem rfew_any (w : World) (g off n cap : Nat) (hn : n ≤ 1000000) (sv : Nat → Value) (av : Nat → Option Addr) (ls cs : Nat → Nat) (hc : ∀ k, k < n → w.cell? ⟨g, off + k * 2 + 1, none⟩ = some (.slice (av k) (ls k) (cs k))) :
    Calls Tryd.prog 29 #[.slice (some ⟨g, off, none⟩) n cap] w fun e w' => e = .returned (.bool ((List.range n).all fun k => decide (ls k ≤ 400))) ∧ w = w' := by
  have hc' := Lib.hid hc
  clear hc
  go_enter Tryd.func29, Tryd.ntmps29
  go_wp2_with fail
  go_loopw [3] (fun kv wr => ∃ k : Nat, k ≤ n ∧ kv = .int .i64 (k : Nat) ∧ (∀ q, q < k → ls q ≤ 400) ∧ w = wr) (fun kv _ => n - (intOf kv).toNat)
  case atStart => exact ⟨0, Nat.zero_le _, rfl, fun q hq => by omega, rfl⟩
  case round =>
    obtain ⟨k, hk, rfl, h0, rfl⟩ := hrel
    by_cases hlt : k < n
    · have hki : (k : Int) < (n : Int) := by omega
      have hkb : (k : Int) + 1 ≤ 9223372036854775807 := by omega
      have c0 := hc'.out k hlt
      obtain ⟨l, hl⟩ : ∃ l, ls k = l := ⟨_, rfl⟩
      obtain ⟨a, ha⟩ : ∃ a, av k = a := ⟨_, rfl⟩
      obtain ⟨c, hcc⟩ : ∃ c, cs k = c := ⟨_, rfl⟩
      rw [hl, ha, hcc] at c0
      by_cases h4 : l ≤ 400
      · have hnext := Lib.hid (show ∀ q, q < k + 1 → ls q ≤ 400 from fun q hq => by
          by_cases e : q = k
          · rw [e, hl]; exact h4
          · exact h0 q (by omega))
        have h4i : ¬ (400 : Int) < (l : Int) := by omega
        have h4n : ¬ 400 < l := by omega
        clear h0 hl ha hcc
        go_wp2_with fail
        go_roundw
        case rel => exact ⟨k + 1, by omega, by go_num, hnext.out, by first | rfl | trivial⟩
        case measure => simp only [intOf]; omega
      · have hno := Lib.hid (show ((List.range n).all fun k => decide (ls k ≤ 400)) = false by
          cases hh : (List.range n).all fun k => decide (ls k ≤ 400)
          · rfl
          · have := of_decide_eq_true (all_range.1 hh k hlt)
            rw [hl] at this; exact absurd this h4)
        have h4i : (400 : Int) < (l : Int) := by omega
        have h4n : 400 < l := by omega
        clear h0 hl ha hcc
        go_wp2_with fail
        go_ret
        exact ⟨by rw [hno.out]; rfl, rfl⟩
    · have e : k = n := by omega
      have hyes := Lib.hid (show ((List.range n).all fun k => decide (ls k ≤ 400)) = true from all_range.2 fun q hq => decide_eq_true (h0 q (by omega)))
      clear h0 e
      go_wp2_with fail
      go_ret
      exact ⟨by rw [hyes.out]; rfl, rfl⟩
end
end Go.Proofs.YthgjnnghokmjdaaDoor
