/-
  The program's Without. Made by gen/without13.py.
-/
import Derived.Test.YtjkfieilaahejaaRangeB13
import Derived.Test.YtjkfieilaahejaaMadeE13
import Derived.Test.YtjkfieilaahejaaSortOk
import Derived.Deep.RegionHeld3
import Derived.OwnWalkIn
import Derived.Maps.OwnIn
namespace Go.Proofs.Ytjkfieilaahejaa
open Go.RowKit
set_option linter.unusedVariables false
set_option linter.unusedSimpArgs false
attribute [local go_sem] Oper.semAt_some
/-- What comes of a production's first n bodies. -/
def outB (em : Nat → Bool) (h : Int) (l : List Sy) (n : Nat) : List (Int × List Sy) := (((List.range n).map (bodyG em l)).filter fun x => !x.isEmpty).map fun x => (h, x)
def outT (em : Nat → Bool) : List Tr → List (Int × List Sy)
  | [] => []
  | t :: T => outB em t.1 t.2.2 (2 ^ (placesF em 0 t.2.2).length) ++ outT em T
theorem outB_succ (em : Nat → Bool) (h : Int) (l : List Sy) (n : Nat) : outB em h l (n + 1) = outB em h l n ++ if (bodyG em l n).isEmpty then [] else [(h, bodyG em l n)] := by
  unfold outB
  rw [List.range_succ, List.map_append, List.filter_append, List.map_append]
  congr 1
  cases hx : (bodyG em l n).isEmpty <;> simp [hx]
theorem outT_app (em : Nat → Bool) : ∀ (A B : List Tr), outT em (A ++ B) = outT em A ++ outT em B
  | [], B => rfl
  | t :: A, B => by rw [List.cons_append, outT, outT, outT_app em A B, List.append_assoc]
theorem outT_succ {em : Nat → Bool} {T : List Tr} {i : Nat} {t : Tr} (h : T[i]? = some t) : outT em (T.take (i + 1)) = outT em (T.take i) ++ outB em t.1 t.2.2 (2 ^ (placesF em 0 t.2.2).length) := by
  rw [List.take_add_one, h, outT_app]
  simp [outT]
theorem outB_len (em : Nat → Bool) (h : Int) (l : List Sy) (n : Nat) : (outB em h l n).length ≤ n := by
  unfold outB
  rw [List.length_map]
  exact Nat.le_trans (List.length_filter_le _ _) (by simp)
theorem outT_len (em : Nat → Bool) : ∀ (T : List Tr), (∀ t ∈ T, (placesF em 0 t.2.2).length ≤ 12) → (outT em T).length ≤ T.length * 4096
  | [], _ => Nat.le_refl _
  | t :: T, h => by
    have h1 := outB_len em t.1 t.2.2 (2 ^ (placesF em 0 t.2.2).length)
    have h2 := outT_len em T fun t ht => h t (List.mem_cons_of_mem _ ht)
    have h3 := (shl_one _ (h t (List.mem_cons_self ..))).2
    rw [outT, List.length_append, List.length_cons]
    omega
theorem outT_mem {em : Nat → Bool} : ∀ {T : List Tr} {x : Int × List Sy}, x ∈ outT em T ↔ ∃ t ∈ T, x.1 = t.1 ∧ x.2 ≠ [] ∧ Drop em t.2.2 x.2
  | [], x => by simp [outT]
  | t :: T, x => by
    rw [outT, List.mem_append, outT_mem]
    constructor
    · rintro (h | ⟨u, hu, r⟩)
      · unfold outB at h
        simp only [List.mem_map, List.mem_filter, List.mem_range] at h
        obtain ⟨y, ⟨⟨g, hg, rfl⟩, hy⟩, rfl⟩ := h
        refine ⟨t, List.mem_cons_self .., rfl, fun e => ?_, ?_⟩
        · rw [show bodyG em t.2.2 g = [] from e] at hy
          cases hy
        · rw [bodyG_left]; exact drop_left em _ _
      · exact ⟨u, List.mem_cons_of_mem _ hu, r⟩
    · rintro ⟨u, hu, h1, h2, h3⟩
      rcases List.mem_cons.1 hu with rfl | hu
      · left
        obtain ⟨g, hg, e⟩ := left_drop em h3
        unfold outB
        simp only [List.mem_map, List.mem_filter, List.mem_range]
        refine ⟨x.2, ⟨⟨g, hg, by rw [bodyG_left, e]⟩, ?_⟩, by rw [← h1]⟩
        cases hx : x.2 with
        | nil => exact absurd hx h2
        | cons _ _ => rfl
      · exact .inr ⟨u, hu, h1, h2, h3⟩
theorem symIn_ok {S : Nat} {T : List Tr} (h : CnfOK (S : Int) T) {t : Tr} (ht : t ∈ T) : ∀ x ∈ t.2.2, SymIn S x := fun x hx hb => by
  have := (h.2 t ht).2 x hx
  unfold symOK at this
  simp [hb] at this
  omega
theorem cell_def {W : World} {p : Addr} {v : Value} {x : Option (List Deferred)} (h : W.cell? p = some v) (hd : W.heap[p.block]? = some (.deferred x)) : False := by
  unfold World.cell? at h
  rw [hd] at h
  simp at h
theorem Src.shut {A C : World} {F : Nat → Prop} {sz m : Nat} {v : Value} {xs : List Value} (h : Src A sz v m xs) (hF : ∀ k, F k → A.heap[k]? = some (.deferred (some []))) (hf : Far F A C) : Src C sz v m xs := by
  obtain ⟨h1, h2 | ⟨a, c, rfl, h2⟩⟩ := h
  · exact ⟨h1, .inl h2⟩
  · refine ⟨h1, .inr ⟨a, c, rfl, fun j u hu => ?_⟩⟩
    obtain ⟨hb, hc⟩ := h2 j u hu
    have hne : ¬ F a.block := fun e => cell_def hc (show A.heap[(a.add j).block]? = _ by rw [add_block]; exact hF _ e)
    exact ⟨Nat.lt_of_lt_of_le hb hf.size, (cell_eq (by rw [add_block]; exact hf.block _ hb hne)).trans hc⟩
theorem PO.shut {A C : World} {F : Nat → Prop} {v : Value} {T : List Tr} (h : PO A v T) (hF : ∀ k, F k → A.heap[k]? = some (.deferred (some []))) (hf : Far F A C) : PO C v T :=
  ⟨⟨Src.shut h.1.1 hF hf, fun t ht => Src.shut (h.1.2 t ht) hF hf⟩, h.2.elim fun B hr => ⟨B, row_other hr hf fun k hk => ⟨_, hF k hk, rfl⟩⟩⟩
section
set_option maxHeartbeats 8000000
set_option maxRecDepth 100000
theorem without_yes (S : Nat) (pv : Value) (T : List Tr) (w : World) (hP : Prods w pv T) (hs : T.length ≤ 1048576) (hs2 : ∀ t ∈ T, t.2.2.length ≤ 1048576) (hok : CnfOK (S : Int) T) :
    Calls Try.prog 8 #[.agg #[.int .i64 (S : Int), pv]] w fun e w' => Far (fun _ => False) w w' ∧ ∃ E, ClosedG goodE T E ∧ LeastG goodE T E ∧
      (((∃ t ∈ T, 12 < (placesF E 0 t.2.2).length) ∧ e = .returned (.tuple #[.agg #[.int .i64 0, .slice none 0 0], .int .i64 230])) ∨
       ((∀ t ∈ T, (placesF E 0 t.2.2).length ≤ 12) ∧ ∃ R ao c, e = .returned (.tuple #[.agg #[.int .i64 (S : Int), .slice ao R.length c], .int .i64 0]) ∧ PO w' (.slice ao R.length c) R ∧ Up (R.map pl) ∧ (∀ x, x ∈ R.map pl ↔ x ∈ outT E T) ∧ Fits R ∧ CnfOK (S : Int) R)) := by
  obtain ⟨ao, ac, rfl⟩ := Src.form hP.1
  obtain ⟨h0, hh0⟩ : ∃ h, h = w.heap.size := ⟨_, rfl⟩
  obtain ⟨kR, hkR⟩ : ∃ k, k = h0 + 1 := ⟨_, rfl⟩
  obtain ⟨w0, hw0⟩ : ∃ w0, w0 = (w.alloc (.cells #[.int .i64 (S : Int), .slice ao T.length ac] 24)).alloc (.cells #[.int .i64 0, .slice none 0 0] 24) := ⟨_, rfl⟩
  have hA0 : Bk w0 h0 24 #[.int .i64 (S : Int), .slice ao T.length ac] := hw0 ▸ (Bk.new hh0).alloc _
  have hR0 : Bk w0 kR 24 #[.int .i64 0, .slice none 0 0] := hw0 ▸ Bk.new (by simp [hkR, hh0])
  have hF0 : Far (fun _ => False) w w0 := hw0 ▸ ((Far.refl _ w).alloc _).alloc _
  have hz0 : w0.heap.size = kR + 1 := by rw [hw0]; simp [hkR, hh0]
  have LE := Lib.hid (leastE_yes S (.slice ao T.length ac) T w0 (hP.move hF0) (by omega) (fun t ht => by have := hs2 t ht; unfold maxLen; omega) hok)
  have q0 : w0.cell? ⟨h0, 0, none⟩ = some (.int .i64 (S : Int)) := hA0.cell 0
  have q1 : w0.cell? ⟨h0, 1, none⟩ = some (.slice ao T.length ac) := hA0.cell 1
  have hP' := Lib.hid hP
  have hs2' := Lib.hid hs2
  have hok' := Lib.hid hok
  have hA := Lib.hid hA0
  have hR := Lib.hid hR0
  have hF := Lib.hid hF0
  have hh0' := Lib.hid hh0
  have hkR' := Lib.hid hkR
  have hw0' := Lib.hid hw0
  have hz0' := Lib.hid hz0
  have hsy := Lib.hid (fun t ht => symIn_ok (S := S) hok (t := t) ht)
  have hS1 : S ≤ 1024 := by have := hok.1.2; omega
  clear hP hs2 hok hA0 hR0 hF0 hh0 hkR hw0 hz0
  refine (callsIn_wide (n := 10)).1 (callsIn_of_wp_marks Try.func8 rfl trivial (wpIn_wide.2 ?_) rfl)
  simp only [Try.ntmps8, List.size_toArray, List.length_cons, List.length_nil, Nat.reduceAdd, Nat.reduceSub, Array.replicate_succ, Array.replicate_zero, List.push_toArray, List.append_toArray, List.nil_append, List.cons_append]
  go_upto_region 1 with fail
  rw [← hh0'.out, ← hkR'.out, ← hw0'.out]
  go_wp2_with (go_at_call 11; refine LE.out.mono ?_; rintro e w1 ⟨hf1, gR, E, rfl, hgR, hbr, hcl, hle⟩; have hF1 := Lib.hid (hF.out.then hf1); have hA1 := Lib.hid (hA.out.far' hf1 id); have hR1 := Lib.hid (hR.out.far' hf1 id); have hbr' := Lib.hid hbr; have hcl' := Lib.hid hcl; have hle' := Lib.hid hle; have hgR' := Lib.hid (show w.heap.size ≤ gR from Nat.le_trans hF.out.size hgR); have p0 : w1.cell? ⟨h0, 0, none⟩ = some (.int .i64 (S : Int)) := hA1.out.cell 0; have p1 : w1.cell? ⟨h0, 1, none⟩ = some (.slice ao T.length ac) := hA1.out.cell 1; clear hf1 hgR hbr hcl hle q0 q1)
  go_loopw [24] (fun iv' wr => ∃ i : Nat, iv' = .int .i64 i ∧ i ≤ T.length ∧ (∀ (j : Nat) (t : Tr), j < i → T[j]? = some t → (placesF E 0 t.2.2).length ≤ 12) ∧ Far (fun _ => False) w1 wr) (fun iv' _ => T.length - (intOf iv').toNat)
  case atStart => exact ⟨0, rfl, Nat.zero_le _, fun j t h => absurd h (Nat.not_lt_zero _), Far.refl _ _⟩
  case round =>
    obtain ⟨i, rfl, hi, hno, hfw⟩ := hrel
    clear p0 p1
    have hno' := Lib.hid hno
    have hfw' := Lib.hid hfw
    clear hno hfw
    by_cases hlt : i < T.length
    · have e1 : decide ((i : Int) < (T.length : Int)) = true := by rw [decide_eq_true_eq]; omega
      have hii : (i : Int) < (T.length : Int) := by omega
      obtain ⟨t, ht⟩ : ∃ t, T[i]? = some t := ⟨T[i], List.getElem?_eq_getElem hlt⟩
      obtain ⟨b, off, c, he, hbl, c0, c1, hbd⟩ := ((hP'.out.move hF1.out).move hfw'.out).prod ht
      simp only [Value.slice.injEq] at he
      obtain ⟨rfl, _, rfl⟩ := he
      have hmem := List.mem_of_getElem? ht
      have hl2 := hs2'.out t hmem
      have hsi := hsy.out t hmem
      obtain ⟨hd, tv, l⟩ := t
      simp only [] at c0 c1 hbd hl2 hsi
      obtain ⟨vo, vc, rfl⟩ := Src.form hbd
      obtain ⟨kp, hkp⟩ : ∃ k, k = wr.heap.size := ⟨_, rfl⟩
      obtain ⟨wp, hwp⟩ : ∃ W, W = wr.alloc (.cells #[.int .i64 hd, .slice vo l.length vc] 44) := ⟨_, rfl⟩
      have hfp : Far (fun _ => False) wr wp := hwp ▸ alloc_far0 _ _
      have hX : Bk wp kp 44 #[.int .i64 hd, .slice vo l.length vc] := hwp ▸ Bk.new hkp
      have y1 : wp.cell? ⟨kp, 1, none⟩ = some (.slice vo l.length vc) := hX.cell 1
      have GO := Lib.hid (cango_any (.slice vo l.length vc) l gR S E wp (hbd.move hfp) (by omega) (Bk.far' (Bk.far' hbr'.out hfw'.out id) hfp id) hsi hS1)
      have hfwp := Lib.hid (hfw'.out.then hfp)
      have ht' := Lib.hid ht
      have hkp' := Lib.hid hkp
      have hwp' := Lib.hid hwp
      have hRp := hR1.out.far' hfwp.out id
      clear hbd hmem ht hkp hwp hfp hX hsi
      have R0 := Lib.hid hRp
      by_cases hm : 12 < (placesF E 0 l).length
      · have d12 : decide ((12 : Int) < ((placesF E 0 l).length : Int)) = true := by rw [decide_eq_true_eq]; omega
        have hbad := Lib.hid (show ∃ t ∈ T, 12 < (placesF E 0 t.2.2).length from ⟨_, List.mem_of_getElem? ht'.out, hm⟩)
        go_upto_region 7 with fail
        rw [← hkp'.out, ← hwp'.out]
        clear c0 c1
        go_upto_region 8 with (go_at_call 21; refine GO.out.mono ?_; rintro e w2 ⟨gv, rfl, ho, hf2⟩; obtain ⟨go', gc, rfl⟩ := Src.form (Src.own ho); have hf2' := Lib.hid (hfwp.out.then hf2); have hR2 := hR1.out.far' hf2'.out id; have r0 : w2.cell? ⟨kR, 0, none⟩ = some (.int .i64 0) := hR2.cell 0; have r1 : w2.cell? ⟨kR, 1, none⟩ = some (.slice none 0 0) := hR2.cell 1; have f0 : w2.frozen? ⟨kR, 0, none⟩ = false := hR2.free 0; have f1 : w2.frozen? ⟨kR, 1, none⟩ = false := hR2.free 1; have hR2' := Lib.hid hR2; clear ho hf2 hR2)
        go_wp2_with fail
        obtain ⟨V, hV⟩ : ∃ V, V = (w2.setCell ⟨kR, 0, none⟩ (.int .i64 0)).setCell ⟨kR, 1, none⟩ (.slice none 0 0) := ⟨_, rfl⟩
        rw [← hV]
        have hbk : Bk V kR 24 #[.int .i64 0, .slice none 0 0] := hV ▸ (hR2'.out.set 0 (.int .i64 0)).set 1 (.slice none 0 0)
        have x0 : V.cell? ⟨kR, 0, none⟩ = some (.int .i64 0) := hbk.cell 0
        have x1 : V.cell? ⟨kR, 1, none⟩ = some (.slice none 0 0) := hbk.cell 1
        have hfv : Far (fun k => k = kR) w2 V := hV ▸ ((Far.refl (fun k => k = kR) w2).set ⟨kR, 0, none⟩ (.int .i64 0) (fun _ => rfl)).set ⟨kR, 1, none⟩ (.slice none 0 0) (fun _ => rfl)
        refine ⟨.tuple #[.agg #[.int .i64 0, .slice none 0 0], .int .i64 230], by simp [results, Try.f8, go_sem, x0, x1], ?_⟩
        exact ⟨(hF1.out.then hf2'.out).out hfv (fun k hk e => by have := hkR'.out; have := hh0'.out; omega), E, hcl'.out, hle'.out, .inl ⟨hbad.out, rfl⟩⟩
      · have d12 : decide ((12 : Int) < ((placesF E 0 l).length : Int)) = false := by rw [decide_eq_false_iff_not]; omega
        have hno2 := Lib.hid (show ∀ (j : Nat) (t : Tr), j < i + 1 → T[j]? = some t → (placesF E 0 t.2.2).length ≤ 12 from fun j t hj hx => by
          by_cases e : j = i
          · subst e
            rw [ht'.out] at hx
            cases hx
            show (placesF E 0 l).length ≤ 12
            omega
          · exact hno'.out j t (by omega) hx)
        go_upto_region 7 with fail
        rw [← hkp'.out, ← hwp'.out]
        clear c0 c1
        go_wp2_with (go_at_call 21; refine GO.out.mono ?_; rintro e w2 ⟨gv, rfl, ho, hf2⟩; obtain ⟨go', gc, rfl⟩ := Src.form (Src.own ho); have hf2' := Lib.hid (hfwp.out.then hf2); clear ho hf2)
        go_roundw
        case rel => exact ⟨i + 1, by go_num, by omega, hno2.out, hf2'.out⟩
        case measure => simp [intOf]; omega
    · have e1 : decide ((i : Int) < (T.length : Int)) = false := by rw [decide_eq_false_iff_not]; omega
      have e2 : decide (i < T.length) = false := by rw [decide_eq_false_iff_not]; exact hlt
      have hall := Lib.hid (show ∀ t ∈ T, (placesF E 0 t.2.2).length ≤ 12 from fun t ht => by
        obtain ⟨j, hj, rfl⟩ := List.getElem_of_mem ht
        exact hno'.out j _ (by omega) (List.getElem?_eq_getElem hj))
      have hAr := Lib.hid (hA1.out.far' hfw'.out id)
      have hRr := Lib.hid (hR1.out.far' hfw'.out id)
      have hFr := Lib.hid (hF1.out.then hfw'.out)
      have hbrr := Lib.hid (show BRow wr gR S E from Bk.far' hbr'.out hfw'.out id)
      have p0 : wr.cell? ⟨h0, 0, none⟩ = some (.int .i64 (S : Int)) := hAr.out.cell 0
      have p1 : wr.cell? ⟨h0, 1, none⟩ = some (.slice ao T.length ac) := hAr.out.cell 1
      have hal : h0 < wr.heap.size := hAr.out.lt
      clear hno' hA1 hR1 hF1 hfw' hbr'
      obtain ⟨wo, hwo⟩ : ∃ W, W = wr := ⟨_, rfl⟩
      rw [← hwo] at p0 p1 hal hAr hRr hFr hbrr ⊢
      clear hwo
      obtain ⟨kM, hkM⟩ : ∃ k, k = wo.heap.size := ⟨_, rfl⟩
      obtain ⟨W1, hW1⟩ : ∃ W, W = wo.alloc (.cells #[.int .i64 (S : Int), .slice none 0 0] 24) := ⟨_, rfl⟩
      have hf1 : Far (fun _ => False) wo W1 := hW1 ▸ alloc_far0 _ _
      have hM1 := Lib.hid (hW1 ▸ Bk.new hkM : Bk W1 kM 24 #[.int .i64 (S : Int), .slice none 0 0])
      have hA2 := Lib.hid (hAr.out.far' hf1 id)
      have hR2 := Lib.hid (hRr.out.far' hf1 id)
      have hF2 := Lib.hid (hFr.out.then hf1)
      have hb2 := Lib.hid (show BRow W1 gR S E from Bk.far' hbrr.out hf1 id)
      have s0 : W1.cell? ⟨h0, 0, none⟩ = some (.int .i64 (S : Int)) := hA2.out.cell 0
      have s1 : W1.cell? ⟨h0, 1, none⟩ = some (.slice ao T.length ac) := hA2.out.cell 1
      have hkM' := Lib.hid hkM
      have hW1' := Lib.hid hW1
      have hwk := Lib.hid (show w.heap.size ≤ kM by have := hFr.out.size; omega)
      have hgk := Lib.hid (show gR < kM ∧ h0 < kM ∧ kR < kM by have := Bk.lt hbrr.out; have := hRr.out.lt; omega)
      clear hkM hW1 hf1 hAr hRr hFr hbrr
      go_upto_region 11 with fail
      rw [← hkM'.out, ← hW1'.out]
      clear p0 p1
      go_wp2_with fail
      have hob := Lib.hid (show w.heap.size ≤ W1.heap.size from hF2.out.size)
      have hkl := Lib.hid (show kM < W1.heap.size from hM1.out.lt)
      clear s0 s1
      refine wp_loop_d [10, 42, 43, 44, 45, 46, 47, 48, 49, 50, 51, 52, 66] (fun u ds W => ∃ (j : Nat) (bo : Option Addr) (bc : Nat) (Dd : List Tr), u 42 = .int .i64 j ∧ j ≤ T.length ∧ Bk W kM 24 #[.int .i64 (S : Int), .slice bo Dd.length bc] ∧ OwnP W kM (.slice bo Dd.length bc) Dd ∧ Dd.map pl = outT E (T.take j) ∧ Far (fun k => kM ≤ k) W1 W ∧ Marks W kM ds) (fun u _ => T.length - (intOf (u 42)).toNat) (by kernel_rfl) ?start ?round
      case start => exact ⟨0, none, 0, [], rfl, Nat.zero_le _, hM1.out, ⟨World.ownsRow_nil _ _ _ _, fun t ht => by cases ht⟩, rfl, Far.refl _ _, Marks.nil _ _⟩
      case round =>
        rintro u ds wr ⟨j, bo, bc, Dd, hu, hj, hMk, hO, hD, hfw, hds⟩
        simp only [putS, List.foldl_cons, List.foldl_nil, List.setIfInBounds_toArray, List.set_cons_zero, List.set_cons_succ, hu]
        have hfx : Far (fun _ => False) w wr := hF2.out.out hfw fun k hk e => by have := hwk.out; omega
        have hMk' := Lib.hid hMk
        have hO' := Lib.hid hO
        have hD' := Lib.hid hD
        have hfw' := Lib.hid hfw
        have hds' := Lib.hid hds
        have hfx' := Lib.hid hfx
        have hAr := Lib.hid (hA2.out.far' hfw (fun e => by have := hgk.out; omega))
        clear hMk hO hD hfw hds
        by_cases hjt : j < T.length
        · have e3 : decide ((j : Int) < (T.length : Int)) = true := by rw [decide_eq_true_eq]; omega
          have hjj : (j : Int) < (T.length : Int) := by omega
          obtain ⟨t, ht⟩ : ∃ t, T[j]? = some t := ⟨T[j], List.getElem?_eq_getElem hjt⟩
          have hbdw := hP'.out.2 t (List.mem_of_getElem? ht)
          obtain ⟨b, off, c, he, hbl, c0, c1, hbd⟩ := (hP'.out.move hfx).prod ht
          simp only [Value.slice.injEq] at he
          obtain ⟨rfl, _, rfl⟩ := he
          have hmem := List.mem_of_getElem? ht
          have hl2 := hs2'.out t hmem
          have hsi := hsy.out t hmem
          have hpl := hall.out t hmem
          have hos := Lib.hid (outT_succ (em := E) ht)
          obtain ⟨hd, tv, l⟩ := t
          simp only [] at c0 c1 hbd hl2 hsi hpl hbdw
          obtain ⟨vo, vc, rfl⟩ := Src.form hbd
          obtain ⟨kp, hkp⟩ : ∃ k, k = wr.heap.size := ⟨_, rfl⟩
          obtain ⟨wp, hwp⟩ : ∃ W, W = wr.alloc (.cells #[.int .i64 hd, .slice vo l.length vc] 44) := ⟨_, rfl⟩
          have hfp : Far (fun _ => False) wr wp := hwp ▸ alloc_far0 _ _
          have hX := Lib.hid (hwp ▸ Bk.new hkp : Bk wp kp 44 #[.int .i64 hd, .slice vo l.length vc])
          have hbp := Lib.hid (show BRow wp gR S E from Bk.far' (Bk.far' hb2.out hfw'.out (fun e => by have := hgk.out; omega)) hfp id)
          have GO := Lib.hid (fun W' (hf : Far (fun _ => False) wp W') => cango_any (.slice vo l.length vc) l gR S E W' ((hbd.move hfp).move hf) (by omega) (Bk.far' hbp.out hf id) hsi hS1)
          have hfp' := Lib.hid hfp
          have hkp' := Lib.hid hkp
          have hwp' := Lib.hid hwp
          have hbdp := Lib.hid (hbd.move hfp)
          have hbdw' := Lib.hid hbdw
          have hl2' := Lib.hid hl2
          have hxp := hX.out.lt
          clear hbd hmem ht hkp hwp hfp hsi hbdw hfx
          go_upto_region 14 with fail
          rw [← hkp'.out, ← hwp'.out]
          have z1 : wp.cell? ⟨kp, 1, none⟩ = some (.slice vo l.length vc) := hX.out.cell 1
          clear c0 c1
          go_region_held3 (fun W' => W'.cell? ⟨kp, 1, none⟩ = some (.slice vo l.length vc)) ((first | exact (Bk.alloc (Bk.alloc hX2.out _) _).cell 1 | exact hX2.out.cell 1 | exact (hX.out.far' (drew_far _) id).cell 1))
            (first
              | (go_at_call 21; refine (GO.out _ (drew_far _)).mono ?_; rintro e w2 ⟨gv, rfl, ho, hf2⟩; obtain ⟨po, pc, rfl⟩ := Src.form (Src.own ho); have ho' := Lib.hid ho; have hf2' := Lib.hid ((drew_far wp).then hf2); have hX2 := Lib.hid (hX.out.far' hf2'.out id); clear ho hf2)
              | (go_at_call 22; refine (bodies_any _ _ _ _ _ _ _).mono ?_; rintro e w9 ⟨rfl, rfl⟩))
          obtain ⟨m, hm⟩ : ∃ m, m = (placesF E 0 l).length := ⟨_, rfl⟩
          rw [← hm] at ho' hpl ⊢
          obtain ⟨kb, hkb⟩ : ∃ k, k = w2.heap.size := ⟨_, rfl⟩
          obtain ⟨Wb, hWb⟩ : ∃ W, W = (w2.alloc (.cells #[.slice vo l.length vc] 42)).alloc (.cells #[.slice po m pc] 33) := ⟨_, rfl⟩
          rw [← hkb, ← hWb]
          have hfb : Far (fun _ => False) w2 Wb := hWb ▸ ((Far.refl _ w2).alloc _).alloc _
          have hXb : Bk Wb kb 42 #[.slice vo l.length vc] := hWb ▸ (Bk.new hkb).alloc _
          have hYb : Bk Wb (kb + 1) 33 #[.slice po m pc] := hWb ▸ Bk.new (by simp [hkb])
          have hIo : IOwn Wb wp.drew.heap.size (.slice po m pc) (placesF E 0 l) := by
            have h9 := ho'.out
            unfold IOwn at h9 ⊢
            rw [← hm] at h9 ⊢
            exact row_far h9 hfb fun _ _ q => q
          have hPb : Src Wb 1 (.slice po m pc) m (iv (placesF E 0 l)) := by have h9 := Src.own hIo; rwa [← hm] at h9
          have hfpb := Lib.hid (hf2'.out.then hfb)
          have hBb : Body Wb (.slice vo l.length vc) l := hbdp.out.move hfpb.out
          have hXpb := Lib.hid (hX.out.far' hfpb.out id)
          have hfwb := Lib.hid (show Far (fun k => kM ≤ k) W1 Wb from (hfw'.out.trans (hfp'.out.mono (G := fun k => kM ≤ k) fun _ _ q => q.elim) fun _ _ q => q).trans (hfpb.out.mono (G := fun k => kM ≤ k) fun _ _ q => q.elim) fun _ _ q => q)
          have hfrb := Lib.hid (show Far (fun _ => False) wr Wb from hfp'.out.then hfpb.out)
          have hMb := Lib.hid (hMk'.out.far' hfrb.out id)
          have hOb := Lib.hid (OwnP.move hO'.out hfrb.out)
          have hdb := Lib.hid (hds'.out.far hfrb.out fun _ _ _ q => q)
          have hzb := Lib.hid (show W1.heap.size ≤ Wb.heap.size ∧ kp < kb ∧ W1.heap.size ≤ kp ∧ kb + 1 < Wb.heap.size by
            have a1 := hfw'.out.size
            have a2 := hfrb.out.size
            have a3 := hkp'.out
            have a4 := hf2'.out.size
            have a5 := hX.out.lt
            have a6 := hYb.lt
            omega)
          obtain ⟨K, hKd⟩ : ∃ K : Nat → Prop, K = fun k => k = kb ∨ k = kb + 1 ∨ (∃ a, vo = some a ∧ 0 < l.length ∧ k = a.block) ∨ (∃ a, po = some a ∧ 0 < m ∧ k = a.block) := ⟨_, rfl⟩
          have hKl : ∀ k, K k → k < Wb.heap.size := fun k hk => by
            rw [hKd] at hk
            rcases hk with rfl | rfl | ⟨a, rfl, h0, rfl⟩ | ⟨a, rfl, h0, rfl⟩
            · exact hXb.lt
            · exact hYb.lt
            · exact src_block hBb (by rw [scells_len]; omega)
            · exact src_block hPb (by unfold iv; rw [List.length_map]; omega)
          /- what the loop's body writes to is none of these -/
          have hKn := Lib.hid (show ∀ (W : World) (v : Value) (n : Nat) (xs : List Value), KeepS K Wb W → W.ownsRow kM 44 2 v n xs → ∀ k, K k → k ≠ kM ∧ v.ownBlock ≠ some k from fun W v n xs hks hrow k hk => by
            have hkk := hks.1 k hk
            rw [hKd] at hk
            have a1 := hkl.out
            have a2 := hzb.out
            have a3 := hwk.out
            have a4 := hob.out
            rcases hk with rfl | rfl | ⟨a, rfl, h0, rfl⟩ | ⟨a, rfl, h0, rfl⟩
            · refine ⟨by omega, fun e => ?_⟩
              obtain ⟨_, cs, hb⟩ := own_type hrow e
              have hc : Bk W k 42 #[.slice vo l.length vc] := hkk.trans hXb
              exact absurd (bk_type hb hc) (by decide)
            · refine ⟨by omega, fun e => ?_⟩
              obtain ⟨_, cs, hb⟩ := own_type hrow e
              have hc : Bk W (kb + 1) 33 #[.slice po m pc] := hkk.trans hYb
              exact absurd (bk_type hb hc) (by decide)
            · have hlt : a.block < w.heap.size := src_block hbdw'.out (by rw [scells_len]; omega)
              refine ⟨by omega, fun e => ?_⟩
              obtain ⟨hB, _⟩ := own_type hrow e
              omega
            · have hbl : (Value.slice (some a) m pc).ownBlock = some a.block := rfl
              have h9 := hIo
              unfold IOwn at h9
              obtain ⟨hB, cs, hb⟩ := own_type h9 hbl
              have hsz : wp.heap.size ≤ wp.drew.heap.size := Nat.le_refl _
              refine ⟨by have := hX.out.lt; omega, fun e => ?_⟩
              obtain ⟨_, cs2, hb2⟩ := own_type hrow e
              have hc : Bk W a.block 3 cs := hkk.trans hb
              exact absurd (bk_type hb2 hc) (by decide))
          have hKl' := Lib.hid hKl
          have hnp := Lib.hid (show (Value.slice bo Dd.length bc).ownBlock ≠ some kp from fun e => by have := (hO'.out.1.lt _ e).2; have := hkp'.out; omega)
          have hm' := Lib.hid hm
          go_wp2_with fail
          refine range_bod (q := 11) kb vo po vc pc m l E K hm hpl (by have := hl2'.out; omega) hXb hYb hBb hPb hKl (by rw [hKd]; exact .inl rfl) (by rw [hKd]; exact .inr (.inl rfl)) (fun a e h0 => by rw [hKd]; exact .inr (.inr (.inl ⟨a, e, h0, rfl⟩))) (fun a e h0 => by rw [hKd]; exact .inr (.inr (.inr ⟨a, e, h0, rfl⟩))) rfl
            (fun pre W => ∃ (bo : Option Addr) (bc : Nat) (D2 : List Tr), Bk W kM 24 #[.int .i64 (S : Int), .slice bo D2.length bc] ∧ OwnP W kM (.slice bo D2.length bc) D2 ∧ D2.map pl = outT E (T.take j) ++ outB E hd l pre.length ∧ Far (fun k => kM ≤ k) W1 W ∧ KeepS K Wb W ∧ Bk W kp 44 #[.int .i64 hd, .slice vo l.length vc] ∧ DefK Wb W ∧ (Value.slice bo D2.length bc).ownBlock ≠ some kp)
            ?own ⟨bo, bc, Dd, hMb.out, hOb.out, by rw [hD'.out]; simp [outB], hfwb.out, keepS_refl _ _, hXpb.out, DefK.refl _, hnp.out⟩ ?assign ?body ?done
          case own =>
            rintro pre A C row ⟨bo, bc, D2, h1, h2, h3, h4, h5, h6, h7, h8⟩ hg hr
            have hf := grown_F hg
            have hz := hzb.out
            have hc : ∀ k, row = some k → ∃ o : Obj, A.heap[k]? = some o ∧ o.isCells = false := fun k e => (hr k e).2
            have hge : ∀ k, row = some k → kM ≤ k := fun k e => by have := (hr k e).1; have := hkl.out; omega
            exact ⟨bo, bc, D2, bk_other h1 hf hc, h2.other hf (fun k e => ⟨hge k e, hc k e⟩), h3, h4.trans (hf.mono (G := fun k => kM ≤ k) fun k _ e => hge k e) fun _ _ q => q,
              ⟨keepK_t h5.1 (KeepK.of_far hf fun k hk => ⟨Nat.lt_of_lt_of_le (hKl'.out k hk) h5.2, fun e => by have := (hr k e).1; have := hKl'.out k hk; omega⟩), Nat.le_trans h5.2 hf.size⟩, bk_other h6 hf hc, h7.far hf fun k e => .inl (hr k e).1, h8⟩
          case assign =>
            intro Lq x W KK hKK
            simp only [List.setIfInBounds_toArray, List.set_cons_zero, List.set_cons_succ] at hKK ⊢
            gi_wp2
            exact hKK
          case body =>
            clear hkb hWb hKd hm hXb hYb hIo hPb hBb hKl hfb
            rintro Lq pre x W hL ⟨bo, bc, D2, h1, h2, h3, h4, h5, h6, h7, h8⟩ ⟨hlt, hso⟩
            obtain ⟨xo, xc, rfl⟩ := Src.form (Src.own hso)
            simp only [List.setIfInBounds_toArray, List.set_cons_zero, List.set_cons_succ]
            have d0 : W.cell? ⟨kM, 0, none⟩ = some (.int .i64 (S : Int)) := h1.cell 0
            have d1 : W.cell? ⟨kM, 1, none⟩ = some (.slice bo D2.length bc) := h1.cell 1
            have d2 : W.cell? ⟨kp, 0, none⟩ = some (.int .i64 hd) := h6.cell 0
            have hmp : kM < W.heap.size := h1.lt
            have hpp : kp < W.heap.size := h6.lt
            have H1 := Lib.hid h1
            have H2 := Lib.hid h2
            have H3 := Lib.hid h3
            have H4 := Lib.hid h4
            have H5 := Lib.hid h5
            have H6 := Lib.hid h6
            have H7 := Lib.hid h7
            have H8 := Lib.hid h8
            have HS := Lib.hid hso
            have hl2D : D2.length ≤ 1048577 * 4096 := by
              have a1 := congrArg List.length h3
              rw [List.length_map, List.length_append] at a1
              have a2 := outT_len E (T.take j) fun t ht => hall.out t (List.mem_of_mem_take ht)
              have a3 := outB_len E hd l pre.length
              have a4 := (shl_one m hpl).2
              rw [← hm'.out] at hlt
              rw [List.length_take] at a2
              have a5 : min j T.length ≤ 1048576 := by omega
              have a6 : min j T.length * 4096 ≤ 1048576 * 4096 := Nat.mul_le_mul_right _ a5
              omega
            have hob2 := Lib.hid (outB_succ E hd l pre.length)
            clear h1 h2 h3 h4 h5 h6 h7 h8 hso hlt
            by_cases hy : 0 < (bodyG E l pre.length).length
            · have e5 : decide ((0 : Int) < ((bodyG E l pre.length).length : Int)) = true := by rw [decide_eq_true_eq]; omega
              have hye := Lib.hid (show (bodyG E l pre.length).isEmpty = false by cases hq : bodyG E l pre.length with
                | nil => rw [hq] at hy; exact absurd hy (by decide)
                | cons _ _ => rfl)
              obtain ⟨pi, pz, pi1, pi2, pi3, pi4, pi5⟩ := info3 info_prod
              have A7 : 0 < 2 := by decide
              have C1 := Lib.hid (World.ownsRow.alloc H2.out.1 (.cells #[.int .i64 hd, .slice xo (bodyG E l pre.length).length xc] 44))
              have C7 := Lib.hid (World.news_of_block (w := W.alloc (.cells #[.int .i64 hd, .slice xo (bodyG E l pre.length).length xc] 44)) (heap_alloc_new W _))
              have C3 := Lib.hid (show ∀ u ∈ [(.int .i64 hd : Value), .slice xo (bodyG E l pre.length).length xc], u.oneCell' = true by simp [Value.oneCell'])
              have C4 : D2.length + 1 ≤ maxLen := by unfold maxLen; omega
              have C5 : (D2.length + 1) * 32 ≤ 140737488355328 := by omega
              have C6 : kM ≤ (W.alloc (.cells #[.int .i64 hd, .slice xo (bodyG E l pre.length).length xc] 44)).heap.size := by have := hzb.out; have := H5.out.2; simp; omega
              gi_wp2_with (gi_at_builtin; go_loud (refine wpListIn_append_own_at _ rfl _ _ 22 rfl kM 44 pi pz 2 32 Try.underlying22 pi1 pi2 pi3 pi4 pi5 A7 (.slice bo D2.length bc) D2.length _ rfl C1.out ⟨W.heap.size, 0, none⟩ 1 1 [.int .i64 hd, .slice xo (bodyG E l pre.length).length xc] rfl rfl C7.out C3.out C4 C5 C6 ?_); intro v2 w5 ho5 hg5 _ hat; obtain ⟨bo2, bc2, rfl⟩ := Src.form (Src.own ho5); have ho5' := Lib.hid ho5; have hat' := Lib.hid hat; have hg5' := Lib.hid hg5; have hM5 := Lib.hid (Bk.grown (w := W.alloc (.cells #[.int .i64 hd, .slice xo (bodyG E l pre.length).length xc] 44)) (Bk.alloc H1.out _) hg5 (fun e => own_ne H2.out.1 H1.out (by decide) e)); have g1 : w5.cell? ⟨kM, 1, none⟩ = some (.slice bo D2.length bc) := hM5.out.cell 1; have g2 : w5.frozen? ⟨kM, 1, none⟩ = false := hM5.out.free 1; clear ho5 hg5 hat)
              obtain ⟨V, hV⟩ : ∃ V, V = w5.setCell ⟨kM, 1, none⟩ (.slice bo2 (D2.length + 1) bc2) := ⟨_, rfl⟩
              rw [← hV]
              have hown := fun q (e : (Value.slice bo D2.length bc).ownBlock = some q) => own_type H2.out.1 e
              have fa : Far (fun k => k = kM ∨ (Value.slice bo D2.length bc).ownBlock = some k) W V := hV ▸ ((((alloc_far0 W _).mono (G := fun k => k = kM ∨ (Value.slice bo D2.length bc).ownBlock = some k) fun _ _ q => q.elim).trans ((grown_far hg5'.out).mono (G := fun k => k = kM ∨ (Value.slice bo D2.length bc).ownBlock = some k) fun _ _ q => .inr q) fun _ _ q => q).set ⟨kM, 1, none⟩ (.slice bo2 (D2.length + 1) bc2) fun _ => .inl rfl)
              have hc : ∀ k, (k = kM ∨ (Value.slice bo D2.length bc).ownBlock = some k) → ∃ t cs, Bk W k t cs := fun k hk => by
                rcases hk with rfl | e
                · exact ⟨_, _, H1.out⟩
                · obtain ⟨_, cs, hb⟩ := hown k e
                  exact ⟨_, _, hb⟩
              have hO5 : OwnP w5 kM (.slice bo2 (D2.length + 1) bc2) (D2 ++ [(hd, .slice xo (bodyG E l pre.length).length xc, bodyG E l pre.length)]) := own_push (OwnP.move H2.out (alloc_far0 W _)) (.inr (row_zero (row_far HS.out (alloc_far0 W _) fun _ _ q => q))) (grown_far hg5'.out) ho5'.out
              have hn9 : D2.length + 1 = (D2 ++ [(hd, Value.slice xo (bodyG E l pre.length).length xc, bodyG E l pre.length)]).length := by rw [List.length_append]; rfl
              have hS9 : Far (fun k => k = kM) w5 V := hV ▸ (Far.refl (fun k => k = kM) w5).set ⟨kM, 1, none⟩ _ fun _ => rfl
              have hO6 : OwnP V kM (.slice bo2 (D2.length + 1) bc2) (D2 ++ [(hd, .slice xo (bodyG E l pre.length).length xc, bodyG E l pre.length)]) :=
                hO5.far hS9 fun k e => by subst e; exact ⟨Nat.le_refl _, _, _, hM5.out, by decide, by decide⟩
              have hM6 : Bk V kM 24 #[.int .i64 (S : Int), .slice bo2 (D2.length + 1) bc2] := hV ▸ hM5.out.set 1 _
              rw [hn9] at hM6 hO6
              have hne : kp ≠ kM := by have := hzb.out; have := hkl.out; omega
              have hkk : ∀ k, K k → ¬ (k = kM ∨ (Value.slice bo D2.length bc).ownBlock = some k) := fun k hk e => by
                have := hKn.out W _ _ _ H5.out H2.out.1 k hk
                rcases e with e | e
                · exact this.1 e
                · exact this.2 e
              have hgF : ∀ k, k < W.heap.size → (k = kM ∨ (Value.slice bo D2.length bc).ownBlock = some k) → kM ≤ k := fun k _ e => by
                rcases e with e | e
                · omega
                · exact (hown k e).1
              have hnp2 : (Value.slice bo2 (D2 ++ [(hd, Value.slice xo (bodyG E l pre.length).length xc, bodyG E l pre.length)]).length bc2).ownBlock ≠ some kp := fun e => by
                have e1 : (Value.slice bo2 (D2.length + 1) bc2).ownBlock = some kp := by simpa [Value.ownBlock] using e
                rcases hat'.out with h | h
                · rw [h] at e1
                  exact H8.out e1
                · rw [h] at e1
                  have := H6.out.lt
                  simp at e1
                  omega
              refine ⟨keeps_far fa fun k hk => ?_, ⟨KeepK.of_far fa fun k hk => ⟨Nat.lt_of_lt_of_le (hKl'.out k hk) H5.out.2, hkk k hk⟩, fa.size⟩, bo2, bc2, D2 ++ [(hd, .slice xo (bodyG E l pre.length).length xc, bodyG E l pre.length)], hM6, hO6, ?_, H4.out.trans (fa.mono hgF) fun _ _ q => q, ⟨keepK_t H5.out.1 (KeepK.of_far fa fun k hk => ⟨Nat.lt_of_lt_of_le (hKl'.out k hk) H5.out.2, hkk k hk⟩), Nat.le_trans H5.out.2 fa.size⟩, ?_, H7.out.far fa fun k hk => .inr (hc k hk), hnp2⟩
              · obtain ⟨t, cs, hb⟩ := hc k hk
                exact ⟨cs, t, hb⟩
              · rw [List.map_append, H3.out, List.length_append, List.length_singleton, hob2.out, hye.out, if_neg (by decide), List.append_assoc]
                rfl
              · refine H6.out.far' fa fun e => ?_
                rcases e with e | e
                · exact hne e
                · exact H8.out e
            · have e5 : decide ((0 : Int) < ((bodyG E l pre.length).length : Int)) = false := by rw [decide_eq_false_iff_not]; omega
              have hye := Lib.hid (show (bodyG E l pre.length).isEmpty = true by cases hq : bodyG E l pre.length with
                | nil => rfl
                | cons _ _ => rw [hq] at hy; exact absurd (Nat.succ_pos _) hy)
              gi_wp2
              refine ⟨KeepsFrom.refl _ _, keepS_refl _ _, bo, bc, D2, H1.out, H2.out, ?_, H4.out, H5.out, H6.out, H7.out, H8.out⟩
              rw [H3.out, List.length_append, List.length_singleton, hob2.out, hye.out, if_pos rfl, List.append_nil]
          case done =>
            clear hkb hWb hKd hm hXb hYb hIo hPb hBb hKl hfb
            rintro D xs W hD hxs ⟨bo, bc, D2, h1, h2, h3, h4, h5, h6, h7, h8⟩ hKD
            have hmk := Lib.hid (Marks.cons hdb.out (hdb.out.defk h7) (by have := hzb.out; have := hkl.out; omega) hD hKD)
            have H1 := Lib.hid h1
            have H2 := Lib.hid h2
            have H3 := Lib.hid (show D2.map pl = outT E (T.take (j + 1)) by rw [h3, hos.out, hxs, hm'.out])
            have H4 := Lib.hid h4
            clear h1 h2 h3 h4 h5 h6 h7 h8 hxs
            go_wp2_with fail
            refine ⟨⟨j + 1, bo, bc, D2, by go_num, by omega, H1.out, H2.out, H3.out, H4.out, hmk.out⟩, ?_, ?_⟩
            · simp [getS, intOf, hu]; omega
            · rfl
        · have e3 : decide ((j : Int) < (T.length : Int)) = false := by rw [decide_eq_false_iff_not]; omega
          have hDf : Dd.map pl = outT E T := by rw [hD'.out, List.take_of_length_le (by omega)]
          have hpr : Prods wr (.slice bo Dd.length bc) Dd := hO'.out.prods
          have hmm : ∀ t ∈ Dd, ∃ u ∈ T, t.1 = u.1 ∧ t.2.2 ≠ [] ∧ Drop E u.2.2 t.2.2 := fun t ht => outT_mem.1 (by rw [← hDf]; exact List.mem_map_of_mem (f := pl) ht)
          have hfit : Fits Dd := fits_of (by
            have a1 := congrArg List.length hDf
            rw [List.length_map] at a1
            have a2 := outT_len E T hall.out
            have a3 : T.length * 4096 ≤ 1048576 * 4096 := Nat.mul_le_mul_right _ hs
            omega) fun t ht => by
              obtain ⟨u, hu, _, _, hdr⟩ := hmm t ht
              have := hdr.len
              have := hs2'.out u hu
              omega
          have hokD : CnfOK (S : Int) Dd := ok_le (fun t ht => by
            obtain ⟨u, hu, e, _, hdr⟩ := hmm t ht
            exact ⟨u, hu, e.symm, hdr.mem⟩) hok'.out
          have SO := Lib.hid (sort_ok (S : Int) (.slice bo Dd.length bc) Dd wr hpr hfit hokD)
          have hRw := Lib.hid (hR2.out.far' hfw'.out (fun e => by have := hgk.out; omega))
          have m0 : wr.cell? ⟨kM, 0, none⟩ = some (.int .i64 (S : Int)) := hMk'.out.cell 0
          have m1 : wr.cell? ⟨kM, 1, none⟩ = some (.slice bo Dd.length bc) := hMk'.out.cell 1
          have hDf' := Lib.hid hDf
          clear hDf hpr hmm hfit hokD
          go_wp2_with (go_at_call 23; refine SO.out.mono ?_; rintro e w2 ⟨⟨R, ro, rc, rfl, hpo, hup, hfR, hokR⟩, hf2⟩; have hR9 := Lib.hid (hRw.out.far' hf2 id); have r0 : w2.cell? ⟨kR, 0, none⟩ = some (.int .i64 0) := hR9.out.cell 0; have r1 : w2.cell? ⟨kR, 1, none⟩ = some (.slice none 0 0) := hR9.out.cell 1; have f0 : w2.frozen? ⟨kR, 0, none⟩ = false := hR9.out.free 0; have f1 : w2.frozen? ⟨kR, 1, none⟩ = false := hR9.out.free 1; have hpo' := Lib.hid hpo; have hup' := Lib.hid hup; have hfR' := Lib.hid hfR; have hokR' := Lib.hid hokR; have hf2' := Lib.hid hf2; clear hpo hup hfR hokR hf2)
          obtain ⟨V, hV⟩ : ∃ V, V = (w2.setCell ⟨kR, 0, none⟩ (.int .i64 (S : Int))).setCell ⟨kR, 1, none⟩ (.slice ro R.length rc) := ⟨_, rfl⟩
          rw [← hV]
          have hbk : Bk V kR 24 #[.int .i64 (S : Int), .slice ro R.length rc] := hV ▸ (hR9.out.set 0 (.int .i64 (S : Int))).set 1 (.slice ro R.length rc)
          have hfv : Far (fun k => k = kR) w2 V := hV ▸ ((Far.refl (fun k => k = kR) w2).set ⟨kR, 0, none⟩ (.int .i64 (S : Int)) (fun _ => rfl)).set ⟨kR, 1, none⟩ (.slice ro R.length rc) (fun _ => rfl)
          have hmk : Marks V kM ds := (hds'.out.far hf2'.out fun _ _ _ q => q).far hfv fun k hk _ e => by have := hgk.out; omega
          have hpv : PO V (.slice ro R.length rc) R := hpo'.out.cnf hR9.out (fun x e => by cases e) hfv
          refine leave_marks hmk fun W' hfW => ?_
          have hb9 := hbk.shut hfW
          have x0 : W'.cell? ⟨kR, 0, none⟩ = some (.int .i64 (S : Int)) := hb9.cell 0
          have x1 : W'.cell? ⟨kR, 1, none⟩ = some (.slice ro R.length rc) := hb9.cell 1
          refine ⟨.tuple #[.agg #[.int .i64 (S : Int), .slice ro R.length rc], .int .i64 0], by simp [results, Try.f8, go_sem, x0, x1], ?_⟩
          refine ⟨((hfx'.out.then hf2'.out).out hfv (fun k hk e => by have := hkR'.out; have := hh0'.out; omega)).out hfW (fun k hk e => by have := hwk.out; have := e.1; omega), E, hcl'.out, hle'.out, .inr ⟨hall.out, R, ro, rc, rfl, hpv.shut (fun k e => e.2) hfW, hup'.out.1, fun x => (hup'.out.2.1 x).trans (by rw [hDf'.out]), hfR'.out, hokR'.out⟩⟩
end
end Go.Proofs.Ytjkfieilaahejaa
