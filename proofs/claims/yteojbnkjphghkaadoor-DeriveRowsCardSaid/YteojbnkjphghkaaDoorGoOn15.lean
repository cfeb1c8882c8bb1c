/-
  A piece goes on: with all that stands beside it.
-/
import Derived.Test.YteojbnkjphghkaaDoorGS15
namespace Go.Proofs.YteojbnkjphghkaaDoor
open Go.RowKit Go.Shelf
set_option linter.unusedVariables false
set_option linter.unusedSimpArgs false
theorem PM.isMap {w : World} {b n : Nat} {E : Ends} (h : PM w b n E) : ∃ es cl, w.heap[b]? = some (.map es cl) := by
  obtain ⟨D, ⟨es, clock, h1, _⟩, _⟩ := h
  exact ⟨es, clock, h1⟩
theorem Ch.noDef {W : World} {kB eB gB B S n : Nat} {pv wv lv fv rv : Value} {E G : Ends} {K : List Pc} (h : Ch W kB eB gB B S n pv wv lv fv rv E G K) {k : Nat} {d : Option (List Deferred)} (hk : W.heap[k]? = some (.deferred d)) : ¬ ChF kB eB gB rv k := by
  rintro (e | e | e | e)
  · subst e; rw [show W.heap[k]? = _ from h.box] at hk; cases hk
  · subst e; obtain ⟨_, _, hm⟩ := h.e.isMap; rw [hm] at hk; cases hk
  · subst e; obtain ⟨_, _, hm⟩ := h.g.isMap; rw [hm] at hk; cases hk
  · obtain ⟨_, cs, hb⟩ := own_type h.row e
    rw [show W.heap[k]? = _ from hb] at hk; cases hk
theorem Ch.defk {A W W' : World} {kB eB gB B S n : Nat} {pv wv lv fv rv : Value} {E G : Ends} {K : List Pc} (h : Ch W kB eB gB B S n pv wv lv fv rv E G K) (hd : DefK A W) (hf : Far (ChF kB eB gB rv) W W') : DefK A W' :=
  ⟨Nat.le_trans hd.1 hf.size, fun k hk => by
    have h2 := hd.2 k hk
    exact (hf.block k (Array.getElem?_eq_some_iff.1 h2).1 (h.noDef h2)).trans h2⟩
theorem Ch.keepsFrom {W W' : World} {kB eB gB B S n M : Nat} {pv wv lv fv rv : Value} {E G : Ends} {K : List Pc} (h : Ch W kB eB gB B S n pv wv lv fv rv E G K) (hf : Far (ChF kB eB gB rv) W W') (hM : eB < M ∧ gB < M) : KeepsFrom M W W' :=
  ⟨hf.size, fun k o hk ho hc => (hf.block k (Array.getElem?_eq_some_iff.1 ho).1 fun q => by
    rcases q with e | e | e | e
    · subst e; rw [show W.heap[k]? = _ from h.box] at ho; cases ho; cases hc
    · omega
    · omega
    · obtain ⟨_, cs, hb⟩ := own_type h.row e
      rw [show W.heap[k]? = _ from hb] at ho; cases ho; cases hc).trans ho⟩
theorem row_at {w : World} {B n : Nat} {v : Value} {l : List (Int × Int)} (h : w.ownsRow B 123 2 v n (prcells l)) {j : Nat} {p : Int × Int} (hj : l[j]? = some p) : ∃ b off c, v = .slice (some ⟨b, off, none⟩) n c ∧ b < w.heap.size ∧ w.cell? ⟨b, off + j * 2, none⟩ = some (.int .i64 p.1) ∧ w.cell? ⟨b, off + j * 2 + 1, none⟩ = some (.int .i64 p.2) := by
  obtain ⟨h0, h1⟩ := prcells_at hj
  obtain ⟨b, off, c, he, hb, hc⟩ := (Src.own h).at (by have := (List.getElem?_eq_some_iff.1 h0).1; omega)
  exact ⟨b, off, c, he, hb, hc _ _ h0, by have := hc _ _ h1; rwa [← Nat.add_assoc] at this⟩
section
set_option maxHeartbeats 8000000
set_option maxRecDepth 100000
attribute [local go_sem] Oper.semAt_some
theorem goon_any (kB eB gB B S n : Nat) (pv wv rv : Value) (E G : Ends) (K : List Pc) (gl gr cl cr : Nat) (V : Bool → Nat → Value) (L : Bool → Nat → List (Int × Int)) (an i j : Nat) (D : Pc → Prop) (w : World)
    (hC : Ch w kB eB gB B S n pv wv (.slice (some ⟨gl, 0, none⟩) S cl) (.slice (some ⟨gr, 0, none⟩) S cr) rv E G K) (hL : LR w gl gr S V L) (hT : Tab w) (low : 0 ≠ kB ∧ 0 ≠ eB ∧ 0 ≠ gB ∧ 0 < B)
    (hx : ((an : Int), i, j) ∈ K) (hS : S ≤ 1024) (hn : n ≤ 64) (hl : ∀ s a, a < S → ∀ p ∈ L s a, (0 ≤ p.1 ∧ p.1 < S) ∧ (0 ≤ p.2 ∧ p.2 < S)) (hll : ∀ s a, a < S → (L s a).length ≤ 8796093022208)
    (hD : ∀ q ∈ K, D q) (hDl : ∀ p ∈ L false an, ∀ i k j : Nat, D ((an : Int), i, k) → D (p.2, k, j) → D (p.1, i, j)) (hDr : ∀ p ∈ L true an, ∀ i k j : Nat, D (p.2, i, k) → D ((an : Int), k, j) → D (p.1, i, j)) :
    Calls Tryd.prog 47 #[.pointer (some ⟨kB, 0, none⟩), .agg #[.int .i64 (an : Int), .int .i64 (i : Int), .int .i64 (j : Int)]] w fun e w' => e = .returned (.tuple #[]) ∧ ∃ rv' E' G' K', Ch w' kB eB gB B S n pv wv (.slice (some ⟨gl, 0, none⟩) S cl) (.slice (some ⟨gr, 0, none⟩) S cr) rv' E' G' K' ∧ LR w' gl gr S V L ∧ Tab w' ∧ K <+: K' ∧ (∀ q ∈ K', D q) ∧
      (∀ p ∈ L false an, ∀ t, (p.2, j, t) ∈ K → (p.1, i, t) ∈ K') ∧ (∀ p ∈ L true an, ∀ f, (p.2, f, i) ∈ K → (p.1, f, j) ∈ K') ∧ Far (ChF kB eB gB rv) w w' ∧ (∀ k, rv'.ownBlock = some k → rv.ownBlock = some k ∨ w.heap.size ≤ k) := by
  obtain ⟨ro, rc, rfl⟩ := Src.form (Src.own hC.row)
  obtain ⟨rv, hrv⟩ : ∃ v, v = Value.slice ro K.length rc := ⟨_, rfl⟩
  rw [← hrv] at hC ⊢
  clear hrv
  have hin := hC.ki.inn _ hx
  obtain ⟨⟨ha0, haS⟩, hij, hjn⟩ := hin
  simp only at ha0 haS hij hjn
  have haS : an < S := by omega
  obtain ⟨b0, hb0⟩ : ∃ h, h = w.heap.size := ⟨_, rfl⟩
  obtain ⟨b1, hb1⟩ : ∃ h, h = b0 + 1 := ⟨_, rfl⟩
  obtain ⟨W, hW⟩ : ∃ W, W = (w.alloc (.cells #[.pointer (some ⟨kB, 0, none⟩)] 68)).alloc (.cells #[.int .i64 (an : Int), .int .i64 (i : Int), .int .i64 (j : Int)] 59) := ⟨_, rfl⟩
  have hF : Far (fun _ => False) w W := hW ▸ ((Far.refl _ w).alloc _).alloc _
  have hX0 : Bk W b0 68 #[.pointer (some ⟨kB, 0, none⟩)] := hW ▸ (Bk.new hb0).alloc _
  have hX1 : Bk W b1 59 #[.int .i64 (an : Int), .int .i64 (i : Int), .int .i64 (j : Int)] := hW ▸ Bk.new (by simp [hb1, hb0])
  have hG0 : GS w W kB eB gB B S n b0 b1 gl gr pv wv (.slice (some ⟨gl, 0, none⟩) S cl) (.slice (some ⟨gr, 0, none⟩) S cr) rv V L ((an : Int), i, j) D K rv E G K := ⟨hC.move hF, hL.move hF, hT.farF hF id, hX0, hX1, fun k q => .inl q, fun e => by have := (hC.row.lt _ e).2; omega, hF.mono fun _ _ q => q.elim, List.prefix_rfl, hD, low⟩
  have hb0' := Lib.hid (show w.heap.size = b0 by omega)
  have hb1' := Lib.hid (show b0 + 1 = b1 by omega)
  have hWs := Lib.hid (show W.heap.size = b1 + 1 ∧ eB < W.heap.size ∧ gB < W.heap.size ∧ w.heap.size ≤ W.heap.size by
    have h1 : W.heap.size = b1 + 1 := by rw [hW]; simp [hb1, hb0]
    have h2 := hC.e.lt
    have h3 := hC.g.lt
    omega)
  have hW' := Lib.hid hW
  have hG0' := Lib.hid hG0
  have hl' := Lib.hid hl
  have hll' := Lib.hid hll
  have hDl' := Lib.hid hDl
  have hDr' := Lib.hid hDr
  have hDx := Lib.hid (hD _ hx)
  have hC0 := Lib.hid hC
  clear hC hL hT low hl hll hD hDl hDr hX0 hX1 hG0 hF hW hb0 hb1 hx
  obtain ⟨vofalse, vcfalse, hVfalse⟩ := Src.form (Src.own (hG0'.out.lr.row false an haS))
  have hVfalse := Lib.hid hVfalse
  obtain ⟨votrue, vctrue, hVtrue⟩ := Src.form (Src.own (hG0'.out.lr.row true an haS))
  have hVtrue := Lib.hid hVtrue
  refine (callsIn_wide (n := 10)).1 (callsIn_of_wp_marks Tryd.func47 rfl trivial (wpIn_wide.2 ?_) rfl)
  simp only [Tryd.ntmps47, List.size_toArray, List.length_cons, List.length_nil, Nat.reduceAdd, Nat.reduceSub, Array.replicate_succ, Array.replicate_zero, List.push_toArray, List.append_toArray, List.nil_append, List.cons_append]
  have HRfalse := Lib.hid (show ∀ w', Far (fun _ => False) W w' → (fun w' => w'.cell? ⟨b0, 0, none⟩ = some (.pointer (some ⟨kB, 0, none⟩)) ∧ w'.cell? ⟨kB, 6, none⟩ = some (.slice (some ⟨gl, 0, none⟩) S cl) ∧ w'.cell? ⟨b1, 0, none⟩ = some (.int .i64 (an : Int)) ∧ w'.cell? ⟨gl, an, none⟩ = some (.slice vofalse (L false an).length vcfalse)) w' from fun w' hf => ⟨(hG0'.out.x0.far' hf id).cell 0, (hG0'.out.ch.box.far' hf id).cell 6, (hG0'.out.x1.far' hf id).cell 0, by rw [← hVfalse.out]; exact (hG0'.out.lr.move hf).at false haS⟩)
  have hmIfalse : (an : Int) < (S : Int) := by omega
  go_upto_region 1 with fail
  rw [hb0'.out, hb1'.out, ← hW'.out]
  go_region_held3 (fun w' => w'.cell? ⟨b0, 0, none⟩ = some (.pointer (some ⟨kB, 0, none⟩)) ∧ w'.cell? ⟨kB, 6, none⟩ = some (.slice (some ⟨gl, 0, none⟩) S cl) ∧ w'.cell? ⟨b1, 0, none⟩ = some (.int .i64 (an : Int)) ∧ w'.cell? ⟨gl, an, none⟩ = some (.slice vofalse (L false an).length vcfalse)) (exact HRfalse.out _ (drew_far _)) (fail)
  go_wp2_with fail
  obtain ⟨wo, hwo⟩ : ∃ wo, wo = W := ⟨_, rfl⟩
  rw [← hwo] at hG0' ⊢
  clear hwo
  refine wp_loop_d [5, 6, 7, 21, 22, 23, 24, 25, 26, 27, 28, 29, 30, 31, 32, 33, 34, 35, 36, 37, 38, 39, 40, 41, 42, 43, 44, 45, 46, 47, 48, 49, 50, 51, 52, 53, 54, 55, 56, 57] (fun u ds W => ∃ (jj : Nat) (rv1 : Value) (E1 G1 : Ends) (K1 : List Pc), u 21 = .int .i64 jj ∧ jj ≤ (L false an).length ∧ GS w W kB eB gB B S n b0 b1 gl gr pv wv (.slice (some ⟨gl, 0, none⟩) S cl) (.slice (some ⟨gr, 0, none⟩) S cr) rv V L ((an : Int), i, j) D K rv1 E1 G1 K1 ∧ (∀ (j' : Nat) (p : Int × Int), j' < jj → (L false an)[j']? = some p → ∀ t, (p.2, j, t) ∈ K → (p.1, i, t) ∈ K1) ∧ Marks W w.heap.size ds) (fun u _ => (L false an).length - (intOf (u 21)).toNat) (by kernel_rfl) ?start ?round
  case start => exact ⟨0, rv, E, G, K, rfl, Nat.zero_le _, hG0'.out.move (drew_far _), fun j' p h => absurd h (Nat.not_lt_zero _), Marks.nil _ _⟩
  case round =>
    clear hG0'
    rintro u ds wr ⟨jj, rv1, E1, G1, K1, hu, hj, hG, hLL,  hds⟩
    simp only [putS, List.foldl_cons, List.foldl_nil, List.setIfInBounds_toArray, List.set_cons_zero, List.set_cons_succ, hu]
    have hG' := Lib.hid hG
    have hLL' := Lib.hid hLL
    skip
    have hds' := Lib.hid hds
    clear hG hLL hds
    by_cases hjt : jj < (L false an).length
    · have e3 : decide ((jj : Int) < ((L false an).length : Int)) = true := by rw [decide_eq_true_eq]; omega
      have hjj : (jj : Int) < ((L false an).length : Int) := by omega
      obtain ⟨⟨hd, o⟩, hpr⟩ : ∃ p, (L false an)[jj]? = some p := ⟨(L false an)[jj], List.getElem?_eq_getElem hjt⟩
      obtain ⟨pb, poff, pc', he, hpb, c0, c1⟩ := row_at (hG'.out.lr.row false an haS) hpr
      rw [hVfalse.out] at he
      simp only [Value.slice.injEq] at he
      obtain ⟨he1, _, he2⟩ := he
      have hmem := List.mem_of_getElem? hpr
      obtain ⟨⟨hd0, hd1⟩, ho0, ho1⟩ := hl'.out false an haS _ hmem
      have hlm := hll'.out false an haS
      simp only at c0 c1 hd0 hd1 ho0 ho1
      have hfh : Fit hd := by unfold Fit; omega
      have hfo : Fit o := by unfold Fit; omega
      obtain ⟨kp, hkp⟩ : ∃ k, k = wr.heap.size := ⟨_, rfl⟩
      obtain ⟨wp, hwp⟩ : ∃ W, W = wr.alloc (.cells #[.int .i64 hd, .int .i64 o] 123) := ⟨_, rfl⟩
      have hfp : Far (fun _ => False) wr wp := hwp ▸ afar _ _
      have hX := Lib.hid (hwp ▸ Bk.new hkp : Bk wp kp 123 #[.int .i64 hd, .int .i64 o])
      have hGp := Lib.hid (hG'.out.move hfp)
      have hdp := Lib.hid (hds'.out.far hfp fun _ _ _ q => q)
      have HK := Lib.hid (show ∀ w', Far (fun _ => False) wp w' → (fun w' => w'.cell? ⟨b0, 0, none⟩ = some (.pointer (some ⟨kB, 0, none⟩)) ∧ w'.cell? ⟨kp, 0, none⟩ = some (.int .i64 hd) ∧ w'.cell? ⟨kp, 1, none⟩ = some (.int .i64 o) ∧ w'.cell? ⟨b1, 1, none⟩ = some (.int .i64 (i : Int)) ∧ w'.cell? ⟨b1, 2, none⟩ = some (.int .i64 (j : Int)) ∧ w'.cell? ⟨kB, 3, none⟩ = some (.map (some eB)) ∧ (Instr.lookup 80 (.map (some eB)) (.agg #[.int .i64 o, .int .i64 (j : Int)]) false).run Tryd.prog w' = .ok (.agg #[.int .u64 ((E1 o j).1 : Int), .int .u64 ((E1 o j).2 : Int)]) w' ∧ (Instr.lookup 80 (.map (some eB)) (.agg #[.int .i64 hd, .int .i64 (i : Int)]) false).run Tryd.prog w' = .ok (.agg #[.int .u64 ((E1 hd i).1 : Int), .int .u64 ((E1 hd i).2 : Int)]) w') w' from fun w' hf => ⟨(hGp.out.x0.far' hf id).cell 0, (hX.out.far' hf id).cell 0, (hX.out.far' hf id).cell 1, (hGp.out.x1.far' hf id).cell 1, (hGp.out.x1.far' hf id).cell 2, (hGp.out.ch.box.far' hf id).cell 3, (hGp.out.ch.e.far hf id).look hfo (fit_nat (by omega)), (hGp.out.ch.e.far hf id).look hfh (fit_nat (by omega))⟩)
      have LS := Lib.hid (fun w' => (pless_any (E1 o j) (E1 hd i) (hGp.out.ch.ki.eW _ _) (hGp.out.ch.ki.eW _ _) w'))
      have hkp' := Lib.hid hkp
      have hwp' := Lib.hid hwp
      have hpr' := Lib.hid hpr
      have hmem' := Lib.hid hmem
      clear hkp hwp hfp hpr hmem
      subst he1 he2
      go_upto_region 4 with fail
      rw [← hkp'.out, ← hwp'.out]
      clear c0 c1
      go_cut [6] from 22 to 57 (fun u6 wc => ∃ (bq : Nat) (pp : Nat × Nat), u6 = .pointer (some ⟨bq, 0, none⟩) ∧ Wd pp ∧ (∀ t, memP pp t = (memP (E1 o j) t && !memP (E1 hd i) t)) ∧ Bk wc bq 79 #[.int .u64 (pp.1 : Int), .int .u64 (pp.2 : Int)] ∧ Far (fun _ => False) wp wc)
      case first =>
        go_region_held3 (fun w' => w'.cell? ⟨b0, 0, none⟩ = some (.pointer (some ⟨kB, 0, none⟩)) ∧ w'.cell? ⟨kp, 0, none⟩ = some (.int .i64 hd) ∧ w'.cell? ⟨kp, 1, none⟩ = some (.int .i64 o) ∧ w'.cell? ⟨b1, 1, none⟩ = some (.int .i64 (i : Int)) ∧ w'.cell? ⟨b1, 2, none⟩ = some (.int .i64 (j : Int)) ∧ w'.cell? ⟨kB, 3, none⟩ = some (.map (some eB)) ∧ (Instr.lookup 80 (.map (some eB)) (.agg #[.int .i64 o, .int .i64 (j : Int)]) false).run Tryd.prog w' = .ok (.agg #[.int .u64 ((E1 o j).1 : Int), .int .u64 ((E1 o j).2 : Int)]) w' ∧ (Instr.lookup 80 (.map (some eB)) (.agg #[.int .i64 hd, .int .i64 (i : Int)]) false).run Tryd.prog w' = .ok (.agg #[.int .u64 ((E1 hd i).1 : Int), .int .u64 ((E1 hd i).2 : Int)]) w') ((refine HK.out _ ?_; (repeat' (first | exact hf8'.out | exact Far.refl _ _ | exact Nat.le_refl _ | exact Nat.le_add_right _ _ | refine Far.drew ?_ | refine Far.alloc ?_ _ | refine far_set_new ?_ ?_ | (have := hf8'.out.size; omega) | omega))))
          (first
            | (go_at_call 68; refine (LS.out _).mono ?_; rintro e w8 ⟨pp, rfl, hpp, hmm, hf8⟩; unfold plV; (try (have hbx := Bk.far' (g := wp.heap.size) (t := 79) (cs := #[.int .u64 0, .int .u64 0]) (by first | exact bk_drew (Bk.new rfl) | exact Bk.new rfl) hf8 id; have n0 : w8.cell? ⟨wp.heap.size, 0, none⟩ = some (.int .u64 0) := hbx.cell 0; have n1 : w8.cell? ⟨wp.heap.size, 1, none⟩ = some (.int .u64 0) := hbx.cell 1; have n2 : w8.frozen? ⟨wp.heap.size, 0, none⟩ = false := hbx.free 0; have n3 : w8.frozen? ⟨wp.heap.size, 1, none⟩ = false := hbx.free 1; have hbx' := Lib.hid hbx; clear hbx)); have hf8' := Lib.hid (show Far (fun _ => False) wp w8 from Far.then (by (repeat' (first | exact Far.refl _ _ | exact Nat.le_refl _ | exact Nat.le_add_right _ _ | refine Far.drew ?_ | refine Far.alloc ?_ _ | refine far_set_new ?_ ?_ | omega))) hf8); have hpp' := Lib.hid hpp; have hmm' := Lib.hid hmm; clear hf8 hpp hmm))
        all_goals
          go_wp2_with fail
          go_meet
          refine ⟨_, pp, rfl, hpp'.out, hmm'.out, ?_, ?_⟩
          · (first | exact bk_drew (Bk.new rfl) | exact Bk.new rfl | exact bk_drew ((hbx'.out.set 0 _).set 1 _) | exact ((hbx'.out.set 0 _).set 1 _))
          · (repeat' (first | exact hf8'.out | exact Far.refl _ _ | exact Nat.le_refl _ | exact Nat.le_add_right _ _ | refine Far.drew ?_ | refine Far.alloc ?_ _ | refine far_set_new ?_ ?_ | (have := hf8'.out.size; omega) | omega))
      case rest =>
        obtain ⟨v1, rfl⟩ : ∃ v1 : World, v1 = wc := ⟨_, rfl⟩
        obtain ⟨bq, pp, rfl, hpp, hmm, hBq, hfc⟩ := hcut
        obtain ⟨kb, hkb⟩ : ∃ k, k = v1.heap.size := ⟨_, rfl⟩
        obtain ⟨Wb, hWb⟩ : ∃ W, W = v1.alloc (.cells #[.int .u64 (pp.1 : Int), .int .u64 (pp.2 : Int)] 79) := ⟨_, rfl⟩
        have hfb : Far (fun _ => False) wp Wb := hfc.then (hWb ▸ afar _ _)
        have hGb := Lib.hid (hGp.out.move hfb)
        have hXb := Lib.hid (hX.out.far' hfb id)
        have hdb := Lib.hid (hdp.out.far hfb fun _ _ _ q => q)
        have hBb : Bk Wb kb 79 #[.int .u64 (pp.1 : Int), .int .u64 (pp.2 : Int)] := hWb ▸ Bk.new hkb
        have d0 : v1.cell? ⟨bq, 0, none⟩ = some (.int .u64 (pp.1 : Int)) := hBq.cell 0
        have d1 : v1.cell? ⟨bq, 1, none⟩ = some (.int .u64 (pp.2 : Int)) := hBq.cell 1
        have hkb' := Lib.hid hkb
        have hWb' := Lib.hid hWb
        have hsz := Lib.hid (show eB < Wb.heap.size ∧ gB < Wb.heap.size ∧ w.heap.size ≤ Wb.heap.size from ⟨hGb.out.ch.e.lt, hGb.out.ch.g.lt, hGb.out.far.size⟩)
        have hmm' := Lib.hid hmm
        clear hkb hWb hfb hfc hBq hmm
        go_wp2_with (go_at_call 34; refine (all_any pp _).mono ?_; rintro e w2 ⟨rfl, hw2⟩; rw [← hWb'.out] at hw2; subst hw2; rw [← hkb'.out])
        clear d0 d1
        refine range_pl (q := 7) kb pp hpp hBb hGb.out.tab rfl
          (fun pre W => ∃ (rv2 : Value) (E2 G2 : Ends) (K2 : List Pc), GS w W kB eB gB B S n b0 b1 gl gr pv wv (.slice (some ⟨gl, 0, none⟩) S cl) (.slice (some ⟨gr, 0, none⟩) S cr) rv V L ((an : Int), i, j) D K rv2 E2 G2 K2 ∧ K1 <+: K2 ∧ (∀ t : Nat, t ∈ pre → (hd, i, t) ∈ K2) ∧ Bk W kp 123 #[.int .i64 hd, .int .i64 o] ∧ DefK w2 W)
          ?own ⟨rv1, E1, G1, K1, hGb.out, List.prefix_rfl, (fun t ht => by cases ht), hXb.out, DefK.refl _⟩ ?assign ?body ?done
        case own =>
          rintro pre A C row ⟨rv2, E2, G2, K2, h1, h2, h3, h4, h5⟩ hg hr
          exact ⟨rv2, E2, G2, K2, h1.shut (M := w2.heap.size) (grown_F hg) hr hsz.out, h2, h3, bk_other h4 (grown_F hg) (fun k e => (hr k e).2), h5.far (grown_F hg) fun k e => .inl (hr k e).1⟩
        case assign =>
          intro Lq t W KK hKK
          simp only [List.setIfInBounds_toArray, List.set_cons_zero, List.set_cons_succ] at hKK ⊢
          gi_wp2
          exact hKK
        case body =>
          rintro Lq pre t W hLq ⟨rv2, E2, G2, K2, h1, h2, h3, h4, h5⟩ hm h128
          simp only [List.setIfInBounds_toArray, List.set_cons_zero, List.set_cons_succ]
          have hm2 := hmm'.out t
          rw [hm] at hm2
          have hm3 : memP (E1 o j) t = true := by
            cases hq : memP (E1 o j) t with
            | true => rfl
            | false => rw [hq] at hm2; simp at hm2
          have hin : (o, j, t) ∈ K1 := (hGb.out.ch.ki.eK o j t h128).1 hm3
          have hpi := hGb.out.ch.ki.inn _ hin
          have hPc : PcIn S n (hd, i, t) := ⟨⟨hd0, hd1⟩, by have := hpi.2; simp only at this ⊢; omega, by have := hpi.2; simp only at this ⊢; omega⟩
          have hDp : D (hd, i, t) := hDl'.out _ hmem'.out i j t hDx.out (hGb.out.d _ hin)
          have AD := cadd_any kB eB gB B S n pv wv _ _ rv2 E2 G2 K2 hd i t W h1.ch hPc hS hn
          have e0 : W.cell? ⟨b0, 0, none⟩ = some (.pointer (some ⟨kB, 0, none⟩)) := h1.x0.cell 0
          have e1 : W.cell? ⟨kp, 0, none⟩ = some (.int .i64 hd) := h4.cell 0
          have e2 : W.cell? ⟨b1, 1, none⟩ = some (.int .i64 (i : Int)) := h1.x1.cell 1
          have H1 := Lib.hid h1
          have H2 := Lib.hid h2
          have H3 := Lib.hid h3
          have H4 := Lib.hid h4
          have H5 := Lib.hid h5
          have HD := Lib.hid hDp
          clear h1 h2 h3 h4 h5 hm hm2 hm3 hin hpi hPc hDp
          gi_wp2_with (refine ⟨trivial, ?_⟩; refine (CallsIn.inRound Lq (callsIn_wide.2 AD)).mono ?_; rintro e W3 ⟨rv3, E3, G3, rfl, hC3, hf3, ho3⟩; have hC3' := Lib.hid hC3; have hf3' := Lib.hid hf3; have ho3' := Lib.hid ho3; clear hC3 hf3 ho3)
          refine ⟨H1.out.ch.keepsFrom hf3'.out ⟨hsz.out.1, hsz.out.2.1⟩, ⟨fun k hk => by rw [show k = _ from hk]; exact hf3'.out.block _ H1.out.tab.lt (H1.out.ch.noTab H1.out.low), hf3'.out.size⟩, rv3, E3, G3, addK K2 (hd, i, t), H1.out.add hC3'.out hf3'.out ho3'.out HD.out, H2.out.trans (addK_pre _ _), fun t' ht' => ?_, H4.out.far' hf3'.out (H1.out.ch.other H4.out (by decide) (by decide)), H1.out.ch.defk H5.out hf3'.out⟩
          rcases List.mem_append.1 ht' with ht' | ht'
          · exact addK_mem.2 (.inl (H3.out t' ht'))
          · rw [List.mem_singleton.1 ht']
            exact addK_mem.2 (.inr rfl)
        case done =>
          rintro Dd xs W hDd hU ⟨rv2, E2, G2, K2, h1, h2, h3, h4, h5⟩ hKD
          have hmk := Lib.hid (Marks.cons hdb.out (hdb.out.defk h5) (Nat.le_trans hsz.out.2.2 hDd) hDd hKD)
          have H1 := Lib.hid h1
          have H2 := Lib.hid h2
          have HL := Lib.hid (show ∀ (j' : Nat) (p : Int × Int), j' < jj + 1 → (L false an)[j']? = some p → ∀ t, (p.2, j, t) ∈ K → (p.1, i, t) ∈ K2 from fun j' p hj' hp t ht => by
            by_cases hlt : j' < jj
            · exact h2.subset (hLL'.out j' p hlt hp t ht)
            · have hjj' : j' = jj := by omega
              subst hjj'
              rw [hpr'.out] at hp
              cases hp
              have hk1 := hG'.out.pre.subset ht
              have hpi := hG'.out.ch.ki.inn _ hk1
              have h128 : t < 128 := by have := hpi.2; simp only at this; omega
              have hm1 := (hG'.out.ch.ki.eK o j t h128).2 hk1
              by_cases hin : (hd, i, t) ∈ K1
              · exact h2.subset hin
              · refine h3 t ((hU.2.1 t).2 ⟨h128, ?_⟩)
                have h9 := hmm'.out t
                have h8 : memP (E1 hd i) t = false := by
                  cases hq : memP (E1 hd i) t with
                  | false => rfl
                  | true => exact absurd ((hG'.out.ch.ki.eK hd i t h128).1 hq) hin
                rw [hm1, h8] at h9
                exact h9)
          skip
          clear h1 h2 h3 h4 h5 hU
          go_wp2_with fail
          refine ⟨⟨jj + 1, rv2, E2, G2, K2, by go_num, by omega, H1.out, HL.out,  hmk.out⟩, ?_, ?_⟩
          · simp [getS, intOf, hu]; omega
          · rfl
    · have e3 : decide ((jj : Int) < ((L false an).length : Int)) = false := by rw [decide_eq_false_iff_not]; omega
      have e4 : decide (jj < (L false an).length) = false := by rw [decide_eq_false_iff_not]; exact hjt
      have hAll := Lib.hid (show ∀ p ∈ L false an, ∀ t, (p.2, j, t) ∈ K → (p.1, i, t) ∈ K1 from fun p hp t ht => by
        obtain ⟨j', hj', e⟩ := List.getElem_of_mem hp
        exact hLL'.out j' p (by omega) (by rw [List.getElem?_eq_getElem hj', e]) t ht)
      clear hLL'
      have HRtrue := Lib.hid (show ∀ w', Far (fun _ => False) wr w' → (fun w' => w'.cell? ⟨b0, 0, none⟩ = some (.pointer (some ⟨kB, 0, none⟩)) ∧ w'.cell? ⟨kB, 7, none⟩ = some (.slice (some ⟨gr, 0, none⟩) S cr) ∧ w'.cell? ⟨b1, 0, none⟩ = some (.int .i64 (an : Int)) ∧ w'.cell? ⟨gr, an, none⟩ = some (.slice votrue (L true an).length vctrue)) w' from fun w' hf => ⟨(hG'.out.x0.far' hf id).cell 0, (hG'.out.ch.box.far' hf id).cell 7, (hG'.out.x1.far' hf id).cell 0, by rw [← hVtrue.out]; exact (hG'.out.lr.move hf).at true haS⟩)
      have hmItrue : (an : Int) < (S : Int) := by omega
      go_upto_region 9 with fail
      go_region_held3 (fun w' => w'.cell? ⟨b0, 0, none⟩ = some (.pointer (some ⟨kB, 0, none⟩)) ∧ w'.cell? ⟨kB, 7, none⟩ = some (.slice (some ⟨gr, 0, none⟩) S cr) ∧ w'.cell? ⟨b1, 0, none⟩ = some (.int .i64 (an : Int)) ∧ w'.cell? ⟨gr, an, none⟩ = some (.slice votrue (L true an).length vctrue)) (exact HRtrue.out _ (drew_far _)) (fail)
      go_wp2_with fail
      obtain ⟨wo, hwo⟩ : ∃ wo, wo = wr := ⟨_, rfl⟩
      rw [← hwo] at hG' hds' ⊢
      clear hwo
      refine wp_loop_d [9, 10, 11, 67, 68, 69, 70, 71, 72, 73, 74, 75, 76, 77, 78, 79, 80, 81, 82, 83, 84, 85, 86, 87, 88, 89, 90, 91, 92, 93, 94, 95, 96, 97, 98, 99, 100, 101, 102, 103] (fun u ds W => ∃ (jj : Nat) (rv1 : Value) (E1 G1 : Ends) (K1 : List Pc), u 67 = .int .i64 jj ∧ jj ≤ (L true an).length ∧ GS w W kB eB gB B S n b0 b1 gl gr pv wv (.slice (some ⟨gl, 0, none⟩) S cl) (.slice (some ⟨gr, 0, none⟩) S cr) rv V L ((an : Int), i, j) D K rv1 E1 G1 K1 ∧ (∀ (j' : Nat) (p : Int × Int), j' < jj → (L true an)[j']? = some p → ∀ t, (p.2, t, i) ∈ K → (p.1, t, j) ∈ K1) ∧ (∀ p ∈ L false an, ∀ t, (p.2, j, t) ∈ K → (p.1, i, t) ∈ K1) ∧ Marks W w.heap.size ds) (fun u _ => (L true an).length - (intOf (u 67)).toNat) (by kernel_rfl) ?start ?round
      case start => exact ⟨0, rv1, E1, G1, K1, rfl, Nat.zero_le _, hG'.out.move (drew_far _), (fun j' p h => absurd h (Nat.not_lt_zero _)), hAll.out, hds'.out.far (drew_far _) fun _ _ _ q => q⟩
      case round =>
        clear hG' hds' hAll
        rintro u ds wr ⟨jj, rv1, E1, G1, K1, hu, hj, hG, hLL, hfst, hds⟩
        simp only [putS, List.foldl_cons, List.foldl_nil, List.setIfInBounds_toArray, List.set_cons_zero, List.set_cons_succ, hu]
        have hG' := Lib.hid hG
        have hLL' := Lib.hid hLL
        have hfst' := Lib.hid hfst
        clear hfst
        have hds' := Lib.hid hds
        clear hG hLL hds
        by_cases hjt : jj < (L true an).length
        · have e3 : decide ((jj : Int) < ((L true an).length : Int)) = true := by rw [decide_eq_true_eq]; omega
          have hjj : (jj : Int) < ((L true an).length : Int) := by omega
          obtain ⟨⟨hd, o⟩, hpr⟩ : ∃ p, (L true an)[jj]? = some p := ⟨(L true an)[jj], List.getElem?_eq_getElem hjt⟩
          obtain ⟨pb, poff, pc', he, hpb, c0, c1⟩ := row_at (hG'.out.lr.row true an haS) hpr
          rw [hVtrue.out] at he
          simp only [Value.slice.injEq] at he
          obtain ⟨he1, _, he2⟩ := he
          have hmem := List.mem_of_getElem? hpr
          obtain ⟨⟨hd0, hd1⟩, ho0, ho1⟩ := hl'.out true an haS _ hmem
          have hlm := hll'.out true an haS
          simp only at c0 c1 hd0 hd1 ho0 ho1
          have hfh : Fit hd := by unfold Fit; omega
          have hfo : Fit o := by unfold Fit; omega
          obtain ⟨kp, hkp⟩ : ∃ k, k = wr.heap.size := ⟨_, rfl⟩
          obtain ⟨wp, hwp⟩ : ∃ W, W = wr.alloc (.cells #[.int .i64 hd, .int .i64 o] 123) := ⟨_, rfl⟩
          have hfp : Far (fun _ => False) wr wp := hwp ▸ afar _ _
          have hX := Lib.hid (hwp ▸ Bk.new hkp : Bk wp kp 123 #[.int .i64 hd, .int .i64 o])
          have hGp := Lib.hid (hG'.out.move hfp)
          have hdp := Lib.hid (hds'.out.far hfp fun _ _ _ q => q)
          have HK := Lib.hid (show ∀ w', Far (fun _ => False) wp w' → (fun w' => w'.cell? ⟨b0, 0, none⟩ = some (.pointer (some ⟨kB, 0, none⟩)) ∧ w'.cell? ⟨kp, 0, none⟩ = some (.int .i64 hd) ∧ w'.cell? ⟨kp, 1, none⟩ = some (.int .i64 o) ∧ w'.cell? ⟨b1, 1, none⟩ = some (.int .i64 (i : Int)) ∧ w'.cell? ⟨b1, 2, none⟩ = some (.int .i64 (j : Int)) ∧ w'.cell? ⟨kB, 4, none⟩ = some (.map (some gB)) ∧ (Instr.lookup 80 (.map (some gB)) (.agg #[.int .i64 o, .int .i64 (i : Int)]) false).run Tryd.prog w' = .ok (.agg #[.int .u64 ((G1 o i).1 : Int), .int .u64 ((G1 o i).2 : Int)]) w' ∧ (Instr.lookup 80 (.map (some gB)) (.agg #[.int .i64 hd, .int .i64 (j : Int)]) false).run Tryd.prog w' = .ok (.agg #[.int .u64 ((G1 hd j).1 : Int), .int .u64 ((G1 hd j).2 : Int)]) w') w' from fun w' hf => ⟨(hGp.out.x0.far' hf id).cell 0, (hX.out.far' hf id).cell 0, (hX.out.far' hf id).cell 1, (hGp.out.x1.far' hf id).cell 1, (hGp.out.x1.far' hf id).cell 2, (hGp.out.ch.box.far' hf id).cell 4, (hGp.out.ch.g.far hf id).look hfo (fit_nat (by omega)), (hGp.out.ch.g.far hf id).look hfh (fit_nat (by omega))⟩)
          have LS := Lib.hid (fun w' => (pless_any (G1 o i) (G1 hd j) (hGp.out.ch.ki.gW _ _) (hGp.out.ch.ki.gW _ _) w'))
          have hkp' := Lib.hid hkp
          have hwp' := Lib.hid hwp
          have hpr' := Lib.hid hpr
          have hmem' := Lib.hid hmem
          clear hkp hwp hfp hpr hmem
          subst he1 he2
          go_upto_region 12 with fail
          rw [← hkp'.out, ← hwp'.out]
          clear c0 c1
          go_cut [10] from 68 to 103 (fun u6 wc => ∃ (bq : Nat) (pp : Nat × Nat), u6 = .pointer (some ⟨bq, 0, none⟩) ∧ Wd pp ∧ (∀ t, memP pp t = (memP (G1 o i) t && !memP (G1 hd j) t)) ∧ Bk wc bq 79 #[.int .u64 (pp.1 : Int), .int .u64 (pp.2 : Int)] ∧ Far (fun _ => False) wp wc)
          case first =>
            go_region_held3 (fun w' => w'.cell? ⟨b0, 0, none⟩ = some (.pointer (some ⟨kB, 0, none⟩)) ∧ w'.cell? ⟨kp, 0, none⟩ = some (.int .i64 hd) ∧ w'.cell? ⟨kp, 1, none⟩ = some (.int .i64 o) ∧ w'.cell? ⟨b1, 1, none⟩ = some (.int .i64 (i : Int)) ∧ w'.cell? ⟨b1, 2, none⟩ = some (.int .i64 (j : Int)) ∧ w'.cell? ⟨kB, 4, none⟩ = some (.map (some gB)) ∧ (Instr.lookup 80 (.map (some gB)) (.agg #[.int .i64 o, .int .i64 (i : Int)]) false).run Tryd.prog w' = .ok (.agg #[.int .u64 ((G1 o i).1 : Int), .int .u64 ((G1 o i).2 : Int)]) w' ∧ (Instr.lookup 80 (.map (some gB)) (.agg #[.int .i64 hd, .int .i64 (j : Int)]) false).run Tryd.prog w' = .ok (.agg #[.int .u64 ((G1 hd j).1 : Int), .int .u64 ((G1 hd j).2 : Int)]) w') ((refine HK.out _ ?_; (repeat' (first | exact hf8'.out | exact Far.refl _ _ | exact Nat.le_refl _ | exact Nat.le_add_right _ _ | refine Far.drew ?_ | refine Far.alloc ?_ _ | refine far_set_new ?_ ?_ | (have := hf8'.out.size; omega) | omega))))
              (first
                | (go_at_call 68; refine (LS.out _).mono ?_; rintro e w8 ⟨pp, rfl, hpp, hmm, hf8⟩; unfold plV; (try (have hbx := Bk.far' (g := wp.heap.size) (t := 79) (cs := #[.int .u64 0, .int .u64 0]) (by first | exact bk_drew (Bk.new rfl) | exact Bk.new rfl) hf8 id; have n0 : w8.cell? ⟨wp.heap.size, 0, none⟩ = some (.int .u64 0) := hbx.cell 0; have n1 : w8.cell? ⟨wp.heap.size, 1, none⟩ = some (.int .u64 0) := hbx.cell 1; have n2 : w8.frozen? ⟨wp.heap.size, 0, none⟩ = false := hbx.free 0; have n3 : w8.frozen? ⟨wp.heap.size, 1, none⟩ = false := hbx.free 1; have hbx' := Lib.hid hbx; clear hbx)); have hf8' := Lib.hid (show Far (fun _ => False) wp w8 from Far.then (by (repeat' (first | exact Far.refl _ _ | exact Nat.le_refl _ | exact Nat.le_add_right _ _ | refine Far.drew ?_ | refine Far.alloc ?_ _ | refine far_set_new ?_ ?_ | omega))) hf8); have hpp' := Lib.hid hpp; have hmm' := Lib.hid hmm; clear hf8 hpp hmm))
            all_goals
              go_wp2_with fail
              go_meet
              refine ⟨_, pp, rfl, hpp'.out, hmm'.out, ?_, ?_⟩
              · (first | exact bk_drew (Bk.new rfl) | exact Bk.new rfl | exact bk_drew ((hbx'.out.set 0 _).set 1 _) | exact ((hbx'.out.set 0 _).set 1 _))
              · (repeat' (first | exact hf8'.out | exact Far.refl _ _ | exact Nat.le_refl _ | exact Nat.le_add_right _ _ | refine Far.drew ?_ | refine Far.alloc ?_ _ | refine far_set_new ?_ ?_ | (have := hf8'.out.size; omega) | omega))
          case rest =>
            obtain ⟨v1, rfl⟩ : ∃ v1 : World, v1 = wc := ⟨_, rfl⟩
            obtain ⟨bq, pp, rfl, hpp, hmm, hBq, hfc⟩ := hcut
            obtain ⟨kb, hkb⟩ : ∃ k, k = v1.heap.size := ⟨_, rfl⟩
            obtain ⟨Wb, hWb⟩ : ∃ W, W = v1.alloc (.cells #[.int .u64 (pp.1 : Int), .int .u64 (pp.2 : Int)] 79) := ⟨_, rfl⟩
            have hfb : Far (fun _ => False) wp Wb := hfc.then (hWb ▸ afar _ _)
            have hGb := Lib.hid (hGp.out.move hfb)
            have hXb := Lib.hid (hX.out.far' hfb id)
            have hdb := Lib.hid (hdp.out.far hfb fun _ _ _ q => q)
            have hBb : Bk Wb kb 79 #[.int .u64 (pp.1 : Int), .int .u64 (pp.2 : Int)] := hWb ▸ Bk.new hkb
            have d0 : v1.cell? ⟨bq, 0, none⟩ = some (.int .u64 (pp.1 : Int)) := hBq.cell 0
            have d1 : v1.cell? ⟨bq, 1, none⟩ = some (.int .u64 (pp.2 : Int)) := hBq.cell 1
            have hkb' := Lib.hid hkb
            have hWb' := Lib.hid hWb
            have hsz := Lib.hid (show eB < Wb.heap.size ∧ gB < Wb.heap.size ∧ w.heap.size ≤ Wb.heap.size from ⟨hGb.out.ch.e.lt, hGb.out.ch.g.lt, hGb.out.far.size⟩)
            have hmm' := Lib.hid hmm
            clear hkb hWb hfb hfc hBq hmm
            go_wp2_with (go_at_call 34; refine (all_any pp _).mono ?_; rintro e w2 ⟨rfl, hw2⟩; rw [← hWb'.out] at hw2; subst hw2; rw [← hkb'.out])
            clear d0 d1
            refine range_pl (q := 11) kb pp hpp hBb hGb.out.tab rfl
              (fun pre W => ∃ (rv2 : Value) (E2 G2 : Ends) (K2 : List Pc), GS w W kB eB gB B S n b0 b1 gl gr pv wv (.slice (some ⟨gl, 0, none⟩) S cl) (.slice (some ⟨gr, 0, none⟩) S cr) rv V L ((an : Int), i, j) D K rv2 E2 G2 K2 ∧ K1 <+: K2 ∧ (∀ t : Nat, t ∈ pre → (hd, t, j) ∈ K2) ∧ Bk W kp 123 #[.int .i64 hd, .int .i64 o] ∧ DefK w2 W)
              ?own ⟨rv1, E1, G1, K1, hGb.out, List.prefix_rfl, (fun t ht => by cases ht), hXb.out, DefK.refl _⟩ ?assign ?body ?done
            case own =>
              rintro pre A C row ⟨rv2, E2, G2, K2, h1, h2, h3, h4, h5⟩ hg hr
              exact ⟨rv2, E2, G2, K2, h1.shut (M := w2.heap.size) (grown_F hg) hr hsz.out, h2, h3, bk_other h4 (grown_F hg) (fun k e => (hr k e).2), h5.far (grown_F hg) fun k e => .inl (hr k e).1⟩
            case assign =>
              intro Lq t W KK hKK
              simp only [List.setIfInBounds_toArray, List.set_cons_zero, List.set_cons_succ] at hKK ⊢
              gi_wp2
              exact hKK
            case body =>
              rintro Lq pre t W hLq ⟨rv2, E2, G2, K2, h1, h2, h3, h4, h5⟩ hm h128
              simp only [List.setIfInBounds_toArray, List.set_cons_zero, List.set_cons_succ]
              have hm2 := hmm'.out t
              rw [hm] at hm2
              have hm3 : memP (G1 o i) t = true := by
                cases hq : memP (G1 o i) t with
                | true => rfl
                | false => rw [hq] at hm2; simp at hm2
              have hin : (o, t, i) ∈ K1 := (hGb.out.ch.ki.gK o t i h128).1 hm3
              have hpi := hGb.out.ch.ki.inn _ hin
              have hPc : PcIn S n (hd, t, j) := ⟨⟨hd0, hd1⟩, by have := hpi.2; simp only at this ⊢; omega, by have := hpi.2; simp only at this ⊢; omega⟩
              have hDp : D (hd, t, j) := hDr'.out _ hmem'.out t i j (hGb.out.d _ hin) hDx.out
              have AD := cadd_any kB eB gB B S n pv wv _ _ rv2 E2 G2 K2 hd t j W h1.ch hPc hS hn
              have e0 : W.cell? ⟨b0, 0, none⟩ = some (.pointer (some ⟨kB, 0, none⟩)) := h1.x0.cell 0
              have e1 : W.cell? ⟨kp, 0, none⟩ = some (.int .i64 hd) := h4.cell 0
              have e2 : W.cell? ⟨b1, 2, none⟩ = some (.int .i64 (j : Int)) := h1.x1.cell 2
              have H1 := Lib.hid h1
              have H2 := Lib.hid h2
              have H3 := Lib.hid h3
              have H4 := Lib.hid h4
              have H5 := Lib.hid h5
              have HD := Lib.hid hDp
              clear h1 h2 h3 h4 h5 hm hm2 hm3 hin hpi hPc hDp
              gi_wp2_with (refine ⟨trivial, ?_⟩; refine (CallsIn.inRound Lq (callsIn_wide.2 AD)).mono ?_; rintro e W3 ⟨rv3, E3, G3, rfl, hC3, hf3, ho3⟩; have hC3' := Lib.hid hC3; have hf3' := Lib.hid hf3; have ho3' := Lib.hid ho3; clear hC3 hf3 ho3)
              refine ⟨H1.out.ch.keepsFrom hf3'.out ⟨hsz.out.1, hsz.out.2.1⟩, ⟨fun k hk => by rw [show k = _ from hk]; exact hf3'.out.block _ H1.out.tab.lt (H1.out.ch.noTab H1.out.low), hf3'.out.size⟩, rv3, E3, G3, addK K2 (hd, t, j), H1.out.add hC3'.out hf3'.out ho3'.out HD.out, H2.out.trans (addK_pre _ _), fun t' ht' => ?_, H4.out.far' hf3'.out (H1.out.ch.other H4.out (by decide) (by decide)), H1.out.ch.defk H5.out hf3'.out⟩
              rcases List.mem_append.1 ht' with ht' | ht'
              · exact addK_mem.2 (.inl (H3.out t' ht'))
              · rw [List.mem_singleton.1 ht']
                exact addK_mem.2 (.inr rfl)
            case done =>
              rintro Dd xs W hDd hU ⟨rv2, E2, G2, K2, h1, h2, h3, h4, h5⟩ hKD
              have hmk := Lib.hid (Marks.cons hdb.out (hdb.out.defk h5) (Nat.le_trans hsz.out.2.2 hDd) hDd hKD)
              have H1 := Lib.hid h1
              have H2 := Lib.hid h2
              have HL := Lib.hid (show ∀ (j' : Nat) (p : Int × Int), j' < jj + 1 → (L true an)[j']? = some p → ∀ t, (p.2, t, i) ∈ K → (p.1, t, j) ∈ K2 from fun j' p hj' hp t ht => by
                by_cases hlt : j' < jj
                · exact h2.subset (hLL'.out j' p hlt hp t ht)
                · have hjj' : j' = jj := by omega
                  subst hjj'
                  rw [hpr'.out] at hp
                  cases hp
                  have hk1 := hG'.out.pre.subset ht
                  have hpi := hG'.out.ch.ki.inn _ hk1
                  have h128 : t < 128 := by have := hpi.2; simp only at this; omega
                  have hm1 := (hG'.out.ch.ki.gK o t i h128).2 hk1
                  by_cases hin : (hd, t, j) ∈ K1
                  · exact h2.subset hin
                  · refine h3 t ((hU.2.1 t).2 ⟨h128, ?_⟩)
                    have h9 := hmm'.out t
                    have h8 : memP (G1 hd j) t = false := by
                      cases hq : memP (G1 hd j) t with
                      | false => rfl
                      | true => exact absurd ((hG'.out.ch.ki.gK hd t j h128).1 hq) hin
                    rw [hm1, h8] at h9
                    exact h9)
              have hF2 := Lib.hid (show ∀ p ∈ L false an, ∀ t, (p.2, j, t) ∈ K → (p.1, i, t) ∈ K2 from fun p hp t ht => h2.subset (hfst'.out p hp t ht))
              clear h1 h2 h3 h4 h5 hU
              go_wp2_with fail
              refine ⟨⟨jj + 1, rv2, E2, G2, K2, by go_num, by omega, H1.out, HL.out, hF2.out, hmk.out⟩, ?_, ?_⟩
              · simp [getS, intOf, hu]; omega
              · rfl
        · have e3 : decide ((jj : Int) < ((L true an).length : Int)) = false := by rw [decide_eq_false_iff_not]; omega
          have e4 : decide (jj < (L true an).length) = false := by rw [decide_eq_false_iff_not]; exact hjt
          have hAll := Lib.hid (show ∀ p ∈ L true an, ∀ t, (p.2, t, i) ∈ K → (p.1, t, j) ∈ K1 from fun p hp t ht => by
            obtain ⟨j', hj', e⟩ := List.getElem_of_mem hp
            exact hLL'.out j' p (by omega) (by rw [List.getElem?_eq_getElem hj', e]) t ht)
          clear hLL'
          go_wp2_with fail
          refine leave_marks hds'.out fun W' hfW => ?_
          have hnb : ∀ k, (w.heap.size ≤ k ∧ wr.heap[k]? = some (.deferred (some []))) → ∀ t cs, ¬ Bk wr k t cs := fun k q t cs hb => by
            rw [show wr.heap[k]? = _ from hb] at q
            cases q.2
          refine ⟨.tuple #[], results_none rfl _ _ _, rfl, rv1, E1, G1, K1, hG'.out.ch.go hfW fun k q => hG'.out.ch.noDef q.2, hG'.out.lr.go hfW fun k q t cs hb => absurd hb (hnb k q t cs), hG'.out.tab.otherF hfW fun k q => ⟨_, q.2, rfl⟩, hG'.out.pre, hG'.out.d, hfst'.out, hAll.out, hG'.out.far.trans hfW fun k hk q => absurd q.1 (by omega), hG'.out.own⟩
end
end Go.Proofs.YteojbnkjphghkaaDoor
