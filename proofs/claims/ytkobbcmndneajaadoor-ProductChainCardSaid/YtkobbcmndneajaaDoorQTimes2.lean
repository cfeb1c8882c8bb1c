/-
  The document's product of two matrices.
-/
import Derived.Test.YtkobbcmndneajaaDoorQTimes
namespace Go.Proofs.YtkobbcmndneajaaDoor
open Go.RowKit Go.Shelf
set_option linter.unusedVariables false
set_option linter.unusedSimpArgs false
theorem IRow.farK {w w' : World} {g n : Nat} {f : Nat → Int} (h : IRow w g n f) (hf : Far (fun _ => False) w w') : IRow w' g n f := Bk.far' (F := fun _ => False) h hf id
/-- Where Times stands: what is told so far. -/
structure TO (W1 : World) (h5 s : Nat) (O : List (Nat × Nat)) (lv : Value) (X : World) : Prop where
  b5 : Bk X h5 28 #[.int .i64 (s : Nat), lv]
  own : X.ownsRow W1.heap.size 82 2 lv O.length (ccells O)
  far : Far (fun k => k = h5) W1 X
theorem TO.still {W1 X Y : World} {h5 s : Nat} {O : List (Nat × Nat)} {lv : Value} (h : TO W1 h5 s O lv X) (hf : Far (fun _ => False) X Y) : TO W1 h5 s O lv Y :=
  ⟨h.b5.far' hf id, row_same h.own fun k _ hl => hf.block k hl id, h.far.trans hf fun _ _ h => h.elim⟩
theorem TO.bool {W1 X : World} {h5 s gm S : Nat} {O : List (Nat × Nat)} {lv : Value} {f : Nat → Bool} (h : TO W1 h5 s O lv X) (hb : BRow X gm S f) (hg : W1.heap.size ≤ gm) (i : Nat) (v : Value) : TO W1 h5 s O lv (X.setCell ⟨gm, i, none⟩ v) := by
  have hn : h5 ≠ gm := fun e => by
    have h1 := h.b5
    rw [e] at h1
    have := bk_type h1 hb
    revert this; decide
  refine ⟨h.b5.far (p := ⟨gm, i, none⟩) hn v, row_same h.own fun k hk hl => RowKit.Below.heap_setCell _ _ _ _ fun e => ?_, h.far.set _ _ fun hl => absurd hg (by show ¬ _ ≤ gm; exact Nat.not_le.2 hl)⟩
  obtain ⟨_, _, cs, hb2⟩ := own_type h.own hk
  have e2 : k = gm := e
  rw [e2] at hb2
  have := bk_type hb2 hb
  revert this; decide
section
set_option maxHeartbeats 16000000
set_option maxRecDepth 100000
theorem rtimes_any {w : World} {va vb : Value} {s : Nat} {A B : Nat → Nat → Bool} (ha : Dm w va s A) (hb : Dm w vb s B) : Calls Tryd.prog 86 #[va, vb] w fun e w' => ∃ v, e = .returned v ∧ Dm w' v s (mulM A B) ∧ Dn v w.heap.size ∧ Far (fun _ => False) w w' := by
  have hlenA := ha.len
  have hlenB := hb.len
  have FA0 := fun (W : World) (hf : Far (fun _ => False) w W) => rfirst_any (ha.move hf)
  have FB0 := fun (W : World) (hf : Far (fun _ => False) w W) => rfirst_any (hb.move hf)
  obtain ⟨aoa, ca, rfl, hPa, hca, hs, hwa⟩ := ha
  obtain ⟨aob, cb, rfl, hPb, hcb, _, hwb⟩ := hb
  obtain ⟨LA, hLA⟩ : ∃ L, cellsL A s = L := ⟨_, rfl⟩
  obtain ⟨LB, hLB⟩ : ∃ L, cellsL B s = L := ⟨_, rfl⟩
  obtain ⟨na, hna⟩ : ∃ n, LA.length = n := ⟨_, rfl⟩
  obtain ⟨nb, hnb⟩ : ∃ n, LB.length = n := ⟨_, rfl⟩
  rw [hLA] at hPa hca hlenA FA0 ⊢
  rw [hLB] at hPb hcb hlenB FB0 ⊢
  rw [hna] at hca hlenA FA0 ⊢
  rw [hnb] at hcb hlenB FB0 ⊢
  obtain ⟨h2, hh2⟩ : ∃ h, h = w.heap.size := ⟨_, rfl⟩
  obtain ⟨h3, hh3⟩ : ∃ h, h = h2 + 1 := ⟨_, rfl⟩
  obtain ⟨h4, hh4⟩ : ∃ h, h = h3 + 1 := ⟨_, rfl⟩
  obtain ⟨h5, hh5⟩ : ∃ h, h = h4 + 1 := ⟨_, rfl⟩
  obtain ⟨Wz, hWz⟩ : ∃ V, V = ((w.alloc (.cells #[.int .i64 (s : Nat), .slice aoa na ca] 28)).alloc (.cells #[.int .i64 (s : Nat), .slice aob nb cb] 28)).alloc (.cells #[.int .i64 0, .slice none 0 0] 28) := ⟨_, rfl⟩
  obtain ⟨W0, hW0⟩ : ∃ V, V = Wz.alloc (.cells #[.int .i64 (s : Nat), .slice none 0 0] 28) := ⟨_, rfl⟩
  have hzz : Wz.heap.size = h5 := by rw [hWz]; simp [hh5, hh4, hh3, hh2]
  have hFz : Far (fun _ => False) w Wz := hWz ▸ (((Far.refl _ w).alloc _).alloc _).alloc _
  have hF0 : Far (fun _ => False) w W0 := hW0 ▸ hFz.alloc _
  have hz2 : Bk Wz h2 28 #[.int .i64 (s : Nat), .slice aoa na ca] := hWz ▸ ((Bk.new hh2).alloc _).alloc _
  have hz3 : Bk Wz h3 28 #[.int .i64 (s : Nat), .slice aob nb cb] := hWz ▸ (Bk.new (by simp [hh3, hh2])).alloc _
  have hz4 : Bk Wz h4 28 #[.int .i64 0, .slice none 0 0] := hWz ▸ Bk.new (by simp [hh4, hh3, hh2])
  have hB2 : Bk W0 h2 28 #[.int .i64 (s : Nat), .slice aoa na ca] := hW0 ▸ hz2.alloc _
  have hB3 : Bk W0 h3 28 #[.int .i64 (s : Nat), .slice aob nb cb] := hW0 ▸ hz3.alloc _
  have hB4 : Bk W0 h4 28 #[.int .i64 0, .slice none 0 0] := hW0 ▸ hz4.alloc _
  have hB5 : Bk W0 h5 28 #[.int .i64 (s : Nat), .slice none 0 0] := hW0 ▸ Bk.new hzz.symm
  have zz0 : Wz.cell? ⟨h2, 0, none⟩ = some (.int .i64 (s : Nat)) := hz2.cell 0
  have HK := Lib.hid (show ∀ w2, Far (fun _ => False) W0 w2 → w2.cell? ⟨h2, 0, none⟩ = some (.int .i64 (s : Nat)) ∧ w2.cell? ⟨h2, 1, none⟩ = some (.slice aoa na ca) ∧ w2.cell? ⟨h3, 0, none⟩ = some (.int .i64 (s : Nat)) ∧ w2.cell? ⟨h3, 1, none⟩ = some (.slice aob nb cb) from fun w2 hf => ⟨(hB2.far' hf id).cell 0, (hB2.far' hf id).cell 1, (hB3.far' hf id).cell 0, (hB3.far' hf id).cell 1⟩)
  obtain ⟨r0, r1, r2, r3⟩ := HK.out W0 (Far.refl _ _)
  have FA := Lib.hid (fun (W : World) (hf : Far (fun _ => False) W0 W) => FA0 W (hF0.then hf))
  have FB := Lib.hid (fun (W : World) (hf : Far (fun _ => False) W0 W) => FB0 W (hF0.then hf))
  have hPa' := Lib.hid hPa
  have hPb' := Lib.hid hPb
  have hLA' := Lib.hid hLA
  have hLB' := Lib.hid hLB
  have hna' := Lib.hid hna
  have hnb' := Lib.hid hnb
  have hwa' := Lib.hid hwa
  have hwb' := Lib.hid hwb
  have hnum := Lib.hid (show h2 = w.heap.size ∧ h3 = h2 + 1 ∧ h4 = h3 + 1 ∧ h5 = h4 + 1 from ⟨hh2, hh3, hh4, hh5⟩)
  have hWz' := Lib.hid hWz
  have hW0' := Lib.hid hW0
  have hzz' := Lib.hid hzz
  have hF0' := Lib.hid hF0
  have hB2' := Lib.hid hB2
  have hB3' := Lib.hid hB3
  have hB4' := Lib.hid hB4
  have hB5' := Lib.hid hB5
  have e3 := Lib.hid hh3
  have e4 := Lib.hid hh4
  have e2 := Lib.hid hh2
  clear hPa hPb hLA hLB hna hnb hwa hwb hh2 hh3 hh4 hh5 hWz hW0 hzz hFz hF0 hz2 hz3 hz4 hB2 hB3 hB4 hB5 FA0 FB0
  go_enter Tryd.func86, Tryd.ntmps86
  go_upto_region 1 with fail
  rw [← e2.out, ← e3.out, ← e4.out, ← hWz'.out]
  go_upto_region 2 with fail
  rw [hzz'.out, ← hW0'.out]
  clear zz0
  go_cut [6, 7] (fun v6 v7 wc => ∃ ga gb, v6 = .slice (some ⟨ga, 0, none⟩) (s + 1) (s + 1) ∧ v7 = .slice (some ⟨gb, 0, none⟩) (s + 1) (s + 1) ∧ W0.heap.size ≤ ga ∧ W0.heap.size ≤ gb ∧ IRow wc ga (s + 1) (fun r => (posM A s r : Nat)) ∧ IRow wc gb (s + 1) (fun r => (posM B s r : Nat)) ∧ Far (fun _ => False) W0 wc)
  case first =>
    go_region_with
      (first
        | (go_at_call 119; with_reducible refine (FA.out _ (Far.refl _ W0).drew).mono ?_; rintro e w5 ⟨ga, rfl, hz5, hI5, hf5⟩; obtain ⟨r0, r1, r2, r3⟩ := HK.out w5 (((Far.refl _ W0).drew).then hf5); have hfA := Lib.hid (((Far.refl _ W0).drew).then hf5); have hzA := Lib.hid (Nat.le_trans ((Far.refl (fun _ => False) W0).drew).size hz5); have hIA := Lib.hid hI5; clear hf5 hz5 hI5)
        | (go_at_call 119; with_reducible refine (FB.out _ (Far.refl _ W0).drew).mono ?_; rintro e w5 ⟨gb, rfl, hz5, hI5, hf5⟩; obtain ⟨r0, r1, r2, r3⟩ := HK.out w5 (((Far.refl _ W0).drew).then hf5); have hfB := Lib.hid (((Far.refl _ W0).drew).then hf5); have hzB := Lib.hid (Nat.le_trans ((Far.refl (fun _ => False) W0).drew).size hz5); have hIB := Lib.hid hI5; clear hf5 hz5 hI5)
        | (go_at_call 119; with_reducible refine (FB.out _ hfA.out).mono ?_; rintro e w6 ⟨gb, rfl, hz6, hI6, hf6⟩; obtain ⟨r0, r1, r2, r3⟩ := HK.out w6 (hfA.out.then hf6); have hfAB := Lib.hid (hfA.out.then hf6); have hzB := Lib.hid (Nat.le_trans hfA.out.size hz6); have hIB := Lib.hid hI6; have hIA2 := Lib.hid (hIA.out.farK hf6); clear hf6 hz6 hI6)
        | (go_at_call 119; with_reducible refine (FA.out _ hfB.out).mono ?_; rintro e w6 ⟨ga, rfl, hz6, hI6, hf6⟩; obtain ⟨r0, r1, r2, r3⟩ := HK.out w6 (hfB.out.then hf6); have hfAB := Lib.hid (hfB.out.then hf6); have hzA := Lib.hid (Nat.le_trans hfB.out.size hz6); have hIA := Lib.hid hI6; have hIB2 := Lib.hid (hIB.out.farK hf6); clear hf6 hz6 hI6))
    all_goals
      go_wp2_with fail
      go_meet
      first
        | exact ⟨ga, gb, rfl, rfl, hzA.out, hzB.out, hIA2.out, hIB.out, hfAB.out⟩
        | exact ⟨ga, gb, rfl, rfl, hzA.out, hzB.out, hIA.out, hIB2.out, hfAB.out⟩
  case rest =>
    obtain ⟨ga, gb, rfl, rfl, hga, hgb, hIA, hIB, hfc⟩ := hcut
    obtain ⟨W1, hW1⟩ : ∃ V, V = wc := ⟨_, rfl⟩
    rw [← hW1] at hIA hIB hfc ⊢
    clear hW1
    have hIA' := Lib.hid hIA
    have hIB' := Lib.hid hIB
    have hfc' := Lib.hid hfc
    have hga' := Lib.hid hga
    have hgb' := Lib.hid hgb
    have hPlt : ∀ (ao : Option Addr) (L : List (Nat × Nat)), PL w ao L → ∀ X, Far (fun k => k = h5) W1 X → PL X ao L := fun ao L hP X hX h0 => by
      have hn := hnum.out
      obtain ⟨g, off, e9, hg, _⟩ := hP h0
      exact ((hP.move (hF0'.out.then hfc)).kept hX fun a e hl h => by
        rw [e] at e9
        cases e9
        have h : g = h5 := h
        omega) h0
    have HX := Lib.hid (show ∀ X, Far (fun k => k = h5) W1 X → X.cell? ⟨h2, 0, none⟩ = some (.int .i64 (s : Nat)) ∧ X.cell? ⟨h2, 1, none⟩ = some (.slice aoa na ca) ∧ X.cell? ⟨h3, 1, none⟩ = some (.slice aob nb cb) ∧ IRow X ga (s + 1) (fun r => (posM A s r : Nat)) ∧ IRow X gb (s + 1) (fun r => (posM B s r : Nat)) ∧ PL X aoa LA ∧ PL X aob LB from fun X hX => by
      have hn := hnum.out
      have h5l := hB5'.out.lt
      refine ⟨((hB2'.out.far' hfc id).far' hX (by omega)).cell 0, ((hB2'.out.far' hfc id).far' hX (by omega)).cell 1, ((hB3'.out.far' hfc id).far' hX (by omega)).cell 1, Bk.far' hIA hX (by omega), Bk.far' hIB hX (by omega), hPlt _ _ hPa'.out X hX, hPlt _ _ hPb'.out X hX⟩)
    have hO0 : TO W1 h5 s (cellsK (mulM A B) s 0) (.slice none 0 0) W1 := ⟨hB5'.out.far' hfc id, World.ownsRow_nil _ _ _ _, Far.refl _ _⟩
    have hO0' := Lib.hid hO0
    clear hIA hIB hfc hga hgb r0 r1 r2 r3 FA FB HK hPlt hO0
    go_wp2_with fail
    go_loopw [8] (fun iv wr => ∃ (i : Nat) (lv : Value), i ≤ s ∧ iv = .int .i64 (i : Nat) ∧ TO W1 h5 s (cellsK (mulM A B) s i) lv wr) (fun iv _ => s - (intOf iv).toNat)
    case atStart => exact ⟨0, _, Nat.zero_le _, rfl, hO0'.out⟩
    case round =>
      clear hO0'
      obtain ⟨i, lv, hi, rfl, hO⟩ := hrel
      obtain ⟨wo, hwo⟩ : ∃ wo, wo = wr := ⟨_, rfl⟩
      rw [← hwo] at hO ⊢
      clear hwo
      obtain ⟨b20, b21, b31, hIAo, hIBo, hPAo, hPBo⟩ := HX.out wo hO.far
      by_cases hlt : i < s
      · have hii : (i : Int) < (s : Int) := by omega
        obtain ⟨c, hc⟩ : ∃ c, c = i + 1 := ⟨_, rfl⟩
        have hci : (i : Int) + 1 = (c : Int) := by omega
        have hcsi : (c : Int) < (s : Int) + 1 := by omega
        have hisi : (i : Int) < (s : Int) + 1 := by omega
        have hcs : c < s + 1 := by omega
        have his : i < s + 1 := by omega
        have hwc : IntKind.i64.wrap (c : Int) = (c : Int) := by rw [IntKind.wrap_i64]; omega
        have hps := posM_succ A s i
        rw [← hc] at hps
        obtain ⟨x, hx⟩ : ∃ x, posM A s i = x := ⟨_, rfl⟩
        obtain ⟨y, hy⟩ : ∃ y, posM A s c = y := ⟨_, rfl⟩
        have d0 : wo.cell? ⟨ga, i, none⟩ = some (.int .i64 (x : Nat)) := by rw [← hx]; exact hIAo.at his
        have d1 : wo.cell? ⟨ga, c, none⟩ = some (.int .i64 (y : Nat)) := by rw [← hy]; exact hIAo.at hcs
        rw [hx, hy] at hps
        have hxy := Lib.hid hps
        have hx' := Lib.hid hx
        have hy' := Lib.hid hy
        have hc' := Lib.hid hc
        have hO' := Lib.hid hO
        clear hx hy hc hO hps b21 b31 hIAo hIBo hPAo hPBo
        go_upto_region 6 with fail
        by_cases heq : x = y
        · have hno : colsM A s i = [] := List.length_eq_zero_iff.1 (by have := hxy.out; omega)
          have heB : ((x : Int) == (y : Int)) = true := by simp; omega
          have hO2 := Lib.hid (show TO W1 h5 s (cellsK (mulM A B) s (i + 1)) lv wo by rw [mul_none hs hwa'.out hno]; exact hO'.out)
          clear hno heq
          go_quiet (fail)
          obtain ⟨wd, hwd⟩ : ∃ wd, wd = wo.drewN nq := ⟨_, rfl⟩
          have hO3 := Lib.hid (hO2.out.still (hwd ▸ (Far.refl (fun _ => False) wo).drewN nq : Far (fun _ => False) wo wd))
          rw [← hwd]
          clear hwd
          go_wp2_with fail
          go_roundw
          case rel => exact ⟨i + 1, lv, by omega, by rw [hc'.out], hO3.out⟩
          case measure => simp only [intOf]; have := hc'.out; omega
        · have heB : ((x : Int) == (y : Int)) = false := by simp; omega
          clear heq
          go_quiet (fail)
          obtain ⟨wd, hwd⟩ : ∃ wd, wd = wo.drewN nq := ⟨_, rfl⟩
          have hfd : Far (fun _ => False) wo wd := hwd ▸ (Far.refl (fun _ => False) wo).drewN nq
          have hOd := hO'.out.still hfd
          obtain ⟨b20, b21, b31, hIAo, hIBo, hPAo, hPBo⟩ := HX.out wd hOd.far
          have d0 : wd.cell? ⟨ga, i, none⟩ = some (.int .i64 (x : Nat)) := by rw [← hx'.out]; exact hIAo.at his
          have d1 : wd.cell? ⟨ga, c, none⟩ = some (.int .i64 (y : Nat)) := by rw [← hy'.out]; exact hIAo.at hcs
          obtain ⟨gm, hgm⟩ : ∃ g, g = wd.heap.size := ⟨_, rfl⟩
          obtain ⟨Wm, hWm⟩ : ∃ V, V = wd.alloc (.cells (bcells s fun _ => false) 4) := ⟨_, rfl⟩
          have hMK := make_bools s (by omega) wd
          rw [← hgm, ← hWm] at hMK
          have hfm : Far (fun _ => False) wd Wm := hWm ▸ (Far.refl _ wd).alloc _
          have hOm := Lib.hid (hOd.still hfm)
          have hBm : BRow Wm gm s (fun _ => false) := hWm ▸ Bk.new hgm
          have hBm' := Lib.hid hBm
          have hgW := Lib.hid (show W1.heap.size ≤ gm by rw [hgm]; exact hOd.far.size)
          obtain ⟨_, _, _, hIAm, _⟩ := HX.out Wm hOm.out.far
          have d0m : Wm.cell? ⟨ga, i, none⟩ = some (.int .i64 (x : Nat)) := by rw [← hx'.out]; exact hIAm.at his
          rw [← hwd]
          clear hwd hfd hOd b21 b31 hIAo hIBo hPAo hPBo hgm hWm hfm hBm hIAm
          go_wp2_with fail
          obtain ⟨cl, hcl⟩ : ∃ l, colsM A s i = l := ⟨_, rfl⟩
          have hcl' := Lib.hid hcl
          rw [hcl] at hxy
          have hclw := Lib.hid (show ∀ q c, cl[q]? = some c → c < s ∧ A i c = true from fun q c h => by rw [← hcl] at h; exact mem_colsM.1 (List.mem_of_getElem? h))
          have hrow := Lib.hid (show ∀ q c, cl[q]? = some c → LA[x + q]? = some (i, c) from fun q c h => by rw [← hcl] at h; rw [← hLA'.out, ← hx'.out]; exact cells_row hlt h)
          have hyb : y ≤ na := by
            have h1 := posM_mono (M := A) (side := s) (r := c) (s := s) (by omega)
            rw [hy'.out, posM_all, hLA'.out, hna'.out] at h1
            exact h1
          clear hcl d0m hMK d0
          go_loopw [10] (fun kv wr => ∃ k q : Nat, k = x + q ∧ q ≤ cl.length ∧ kv = .int .i64 (k : Nat) ∧ BRow wr gm s (metK B cl q) ∧ TO W1 h5 s (cellsK (mulM A B) s i) lv wr) (fun kv _ => y - (intOf kv).toNat)
          case atStart => exact ⟨x, 0, rfl, Nat.zero_le _, rfl, hBm'.out.congr fun j _ => by rw [metK_zero], hOm.out⟩
          case round =>
            clear hBm' hOm
            obtain ⟨k, q, hk, hq, rfl, hBr, hOr⟩ := hrel
            obtain ⟨wq, hwq⟩ : ∃ wq, wq = wr := ⟨_, rfl⟩
            rw [← hwq] at hBr hOr ⊢
            clear hwq
            obtain ⟨b20, b21, b31, hIAq, hIBq, hPAq, hPBq⟩ := HX.out wq hOr.far
            have d1 : wq.cell? ⟨ga, c, none⟩ = some (.int .i64 (y : Nat)) := by rw [← hy'.out]; exact hIAq.at hcs
            by_cases hky : k < y
            · have hkyi : (k : Int) < (y : Int) := by omega
              have hqc : q < cl.length := by have := hxy.out; omega
              obtain ⟨cc, hcq⟩ : ∃ cc, cl[q]? = some cc := ⟨cl[q], List.getElem?_eq_getElem hqc⟩
              obtain ⟨hccs, hAc⟩ := hclw.out q cc hcq
              have hLk := hrow.out q cc hcq
              rw [← hk] at hLk
              have hkna : (k : Int) < (na : Int) := by omega
              obtain ⟨g1, o1, rfl, hg1, a0, a1⟩ := hPAq.at hLk
              obtain ⟨cd, hcd⟩ : ∃ d, d = cc + 1 := ⟨_, rfl⟩
              have hcdi : (cc : Int) + 1 = (cd : Int) := by omega
              have hccsi : (cc : Int) < (s : Int) + 1 := by omega
              have hcdsi : (cd : Int) < (s : Int) + 1 := by omega
              have hps := posM_succ B s cc
              rw [← hcd] at hps
              obtain ⟨u, hu⟩ : ∃ u, posM B s cc = u := ⟨_, rfl⟩
              obtain ⟨v, hv⟩ : ∃ v, posM B s cd = v := ⟨_, rfl⟩
              have f0 : wq.cell? ⟨gb, cc, none⟩ = some (.int .i64 (u : Nat)) := by rw [← hu]; exact hIBq.at (by omega)
              rw [hu, hv] at hps
              have huv := Lib.hid hps
              have hu' := Lib.hid hu
              have hv' := Lib.hid hv
              have hcd' := Lib.hid hcd
              have hvb : v ≤ nb := by
                have h1 := posM_mono (M := B) (side := s) (r := cd) (s := s) (by omega)
                rw [hv, posM_all, hLB'.out, hnb'.out] at h1
                exact h1
              obtain ⟨cb2, hcb2⟩ : ∃ l, colsM B s cc = l := ⟨_, rfl⟩
              rw [hcb2] at huv
              have hcbw := Lib.hid (show ∀ m d, cb2[m]? = some d → d < s from fun m d h => by rw [← hcb2] at h; exact (mem_colsM.1 (List.mem_of_getElem? h)).1)
              have hrowb := Lib.hid (show ∀ m d, cb2[m]? = some d → LB[u + m]? = some (cc, d) from fun m d h => by rw [← hcb2] at h; rw [← hLB'.out, ← hu]; exact cells_row hccs h)
              have hcb2' := Lib.hid hcb2
              have hcq' := Lib.hid hcq
              have hk' := Lib.hid hk
              have hBr' := Lib.hid hBr
              have hOr' := Lib.hid hOr
              have hkb : (k : Int) + 1 ≤ 9223372036854775807 := by omega
              clear hk hcq hu hv hcd hps hcb2 hBr hOr hIAq hIBq hPAq hPBq hLk
              go_wp2_with fail
              go_loopw [11] (fun nv wr => ∃ n m : Nat, n = u + m ∧ m ≤ cb2.length ∧ nv = .int .i64 (n : Nat) ∧ BRow wr gm s (metN B s cl q m cc) ∧ TO W1 h5 s (cellsK (mulM A B) s i) lv wr) (fun nv _ => v - (intOf nv).toNat)
              case atStart => exact ⟨u, 0, rfl, Nat.zero_le _, rfl, hBr'.out.congr fun j _ => by rw [metN_zero], hOr'.out⟩
              case round =>
                clear hBr' hOr' b20 b21 b31 d1 a0 a1 f0
                obtain ⟨n, m, hn, hm, rfl, hBn, hOn⟩ := hrel
                obtain ⟨wn, hwn⟩ : ∃ wn, wn = wr := ⟨_, rfl⟩
                rw [← hwn] at hBn hOn ⊢
                clear hwn
                obtain ⟨b20, b21, b31, hIAn, hIBn, hPAn, hPBn⟩ := HX.out wn hOn.far
                have f1 : wn.cell? ⟨gb, cd, none⟩ = some (.int .i64 (v : Nat)) := by rw [← hv'.out]; exact hIBn.at (by have := hcd'.out; omega)
                obtain ⟨g9, o9, e9, _, a0, a1⟩ := hPAn.at (by have := hrow.out q cc hcq'.out; rw [← hk'.out] at this; exact this)
                cases e9
                by_cases hnv : n < v
                · have hnvi : (n : Int) < (v : Int) := by omega
                  have hmc : m < cb2.length := by have := huv.out; omega
                  obtain ⟨dd, hdq⟩ : ∃ d, cb2[m]? = some d := ⟨cb2[m], List.getElem?_eq_getElem hmc⟩
                  have hds := hcbw.out m dd hdq
                  have hdsi : (dd : Int) < (s : Int) := by omega
                  have hLn := hrowb.out m dd hdq
                  rw [← hn] at hLn
                  have hnnb : (n : Int) < (nb : Int) := by omega
                  have hnb1 : (n : Int) + 1 ≤ 9223372036854775807 := by omega
                  obtain ⟨g2, o2, rfl, hg2, q0, q1⟩ := hPBn.at hLn
                  have t0 : wn.cell? ⟨gm, dd, none⟩ = some (.bool (metN B s cl q m cc dd)) := hBn.get dd hds
                  have t1 : wn.frozen? ⟨gm, dd, none⟩ = false := hBn.free dd
                  have hstep := Lib.hid (metN_step (B := B) (side := s) (cs := cl) (q := q) (n := m) (c := cc) (d := dd) (by rw [hcb2'.out]; exact hdq))
                  have hBn' := Lib.hid hBn
                  have hOn' := Lib.hid hOn
                  have hn' := Lib.hid hn
                  clear hn hdq hBn hOn hIAn hIBn hPAn hPBn hLn
                  go_wp2_with fail
                  go_roundw
                  case rel => exact ⟨n + 1, m + 1, by have := hn'.out; omega, by omega, by go_num, (hBn'.out.put dd).congr fun j _ => by rw [hstep.out j]; rfl, hOn'.out.bool hBn'.out hgW.out dd _⟩
                  case measure => simp only [intOf]; omega
                · have hmv : m = cb2.length := by have := huv.out; omega
                  have hBq := Lib.hid (hBn.congr (h := metK B cl (q + 1)) fun j _ => by rw [hmv, ← hcb2'.out]; exact metK_step hwb'.out hcq'.out j)
                  have hOq := Lib.hid hOn
                  clear hmv hBn hOn hIAn hIBn hPAn hPBn
                  have hkk := hk'.out
                  have hkr := Lib.hid (show k + 1 = x + (q + 1) by omega)
                  clear hn hkk
                  go_wp2_with fail
                  go_roundw
                  case rel => exact ⟨k + 1, q + 1, hkr.out, by omega, by go_num, hBq.out, hOq.out⟩
                  case measure => simp only [intOf]; omega
            · have hqe : q = cl.length := by have := hxy.out; omega
              have hBj := Lib.hid (hBr.congr (h := mulM A B i) fun j _ => by rw [hqe, ← hcl'.out]; exact metK_all hs hwa'.out j)
              have hOj := Lib.hid (show TO W1 h5 s (cellsR (mulM A B) s i 0) lv wq by rw [cellsR_zero]; exact hOr)
              clear hqe hBr hOr hk hIAq hIBq hPAq hPBq b31
              go_wp2_with fail
              clear b20 b21 d1
              go_loopw [12] (fun jv wr => ∃ (j : Nat) (lv : Value), j ≤ s ∧ jv = .int .i64 (j : Nat) ∧ BRow wr gm s (mulM A B i) ∧ TO W1 h5 s (cellsR (mulM A B) s i j) lv wr) (fun jv _ => s - (intOf jv).toNat)
              case atStart => exact ⟨0, lv, Nat.zero_le _, rfl, hBj.out, hOj.out⟩
              case round =>
                clear hBj hOj
                obtain ⟨j, lj, hj, rfl, hBj, hOj⟩ := hrel
                obtain ⟨wj, hwj⟩ : ∃ wj, wj = wr := ⟨_, rfl⟩
                rw [← hwj] at hBj hOj ⊢
                clear hwj
                obtain ⟨b20, _⟩ := HX.out wj hOj.far
                by_cases hjs : j < s
                · have hjsi : (j : Int) < (s : Int) := by omega
                  have hjb : (j : Int) + 1 ≤ 9223372036854775807 := by omega
                  have t0 : wj.cell? ⟨gm, j, none⟩ = some (.bool (mulM A B i j)) := hBj.get j hjs
                  have hst := cellsR_step (mulM A B) s i j
                  cases hb : mulM A B i j with
                  | false =>
                    rw [hb] at t0
                    rw [if_neg (by rw [hb]; exact Bool.false_ne_true)] at hst
                    have hOk := Lib.hid (show TO W1 h5 s (cellsR (mulM A B) s i (j + 1)) lj wj by rw [hst]; exact hOj)
                    have hBk := Lib.hid hBj
                    clear hb hst hOj hBj
                    go_wp2_with fail
                    go_roundw
                    case rel => exact ⟨j + 1, lj, by omega, by go_num, hBk.out, hOk.out⟩
                    case measure => simp only [intOf]; omega
                  | true =>
                    rw [hb] at t0
                    rw [if_pos hb] at hst
                    obtain ⟨O, hOO⟩ : ∃ O, cellsR (mulM A B) s i j = O := ⟨_, rfl⟩
                    have hOl := cellsR_len (M := mulM A B) (i := i) (j := j) hs hlt hj
                    rw [hOO] at hst hOj hOl
                    obtain ⟨n, hn⟩ : ∃ n, n = O.length := ⟨_, rfl⟩
                    have hown := hOj.own
                    rw [← hn] at hown hOl
                    obtain ⟨oo, oc, rfl⟩ := q_form hown
                    have c50 : wj.cell? ⟨h5, 0, none⟩ = some (.int .i64 (s : Nat)) := hOj.b5.cell 0
                    have c51 : wj.cell? ⟨h5, 1, none⟩ = some (.slice oo n oc) := hOj.b5.cell 1
                    obtain ⟨ci, hci, hz0, hz1, hz2⟩ := info_parts cellInfo
                    have C1 := Lib.hid (World.ownsRow.alloc hown (.cells #[.int .i64 (i : Nat), .int .i64 (j : Nat)] 82))
                    have C7 := Lib.hid (World.news_of_block (w := wj.alloc (.cells #[.int .i64 (i : Nat), .int .i64 (j : Nat)] 82)) (cs := #[.int .i64 (i : Nat), .int .i64 (j : Nat)]) (t := 82) (fr := (0, 0)) (heap_alloc_new wj _))
                    have C3 := Lib.hid (show ∀ u ∈ [(.int .i64 (i : Nat) : Value), .int .i64 (j : Nat)], u.oneCell' = true by simp [Value.oneCell'])
                    have C4 : n + 1 ≤ maxLen := by unfold maxLen; omega
                    have C5 : (n + 1) * 16 ≤ 140737488355328 := by omega
                    have C6 : W1.heap.size ≤ (wj.alloc (.cells #[.int .i64 (i : Nat), .int .i64 (j : Nat)] 82)).heap.size := by have := hOj.far.size; simp; omega
                    have hfa := (Far.refl (fun _ => False) wj).alloc (.cells #[.int .i64 (i : Nat), .int .i64 (j : Nat)] 82)
                    have hAl := hOj.still hfa
                    have n5r : ∀ r, (Value.slice oo n oc).ownBlock = some r → r ≠ h5 ∧ r ≠ gm ∧ W1.heap.size ≤ r := fun r hr => by
                      obtain ⟨q1, _, cs, hb2⟩ := own_type hown hr
                      refine ⟨fun e => ?_, fun e => ?_, q1⟩
                      · rw [e] at hb2; have := bk_type hb2 hOj.b5; revert this; decide
                      · rw [e] at hb2; have := bk_type hb2 hBj; revert this; decide
                    have HN := Lib.hid (show ∀ (v2 : Value) (w6 : World), w6.ownsRow W1.heap.size 82 2 v2 (n + 1) (ccells O ++ [.int .i64 (i : Nat), .int .i64 (j : Nat)]) → (wj.alloc (.cells #[.int .i64 (i : Nat), .int .i64 (j : Nat)] 82)).grownBy w6 (Value.slice oo n oc).ownBlock →
                        Bk w6 h5 28 #[.int .i64 (s : Nat), .slice oo n oc] ∧ BRow (w6.setCell ⟨h5, 1, none⟩ v2) gm s (mulM A B i) ∧ TO W1 h5 s (O ++ [(i, j)]) v2 (w6.setCell ⟨h5, 1, none⟩ v2) from fun v2 w6 ho hg => by
                      have hf6 := grown_F hg
                      have hb5 : Bk w6 h5 28 #[.int .i64 (s : Nat), .slice oo n oc] := Bk.far' (hAl.b5) hf6 fun e => (n5r _ e).1 rfl
                      have hbm : BRow w6 gm s (mulM A B i) := Bk.far' (Bk.far' hBj hfa id) hf6 fun e => (n5r _ e).2.1 rfl
                      have n5m : gm ≠ h5 := fun e => by
                        have h1 := hb5
                        rw [← e] at h1
                        have := bk_type h1 hbm
                        revert this; decide
                      refine ⟨hb5, Bk.far hbm (p := ⟨h5, 1, none⟩) n5m v2, ?_, ?_, ?_⟩
                      · exact hb5.set 1 v2
                      · have ho2 : w6.ownsRow W1.heap.size 82 2 v2 (O ++ [(i, j)]).length (ccells (O ++ [(i, j)])) := by
                          rw [ccells_app, List.length_append, List.length_singleton, ← hn]
                          exact ho
                        refine row_same ho2 fun k hk hl => RowKit.Below.heap_setCell _ _ _ _ fun e => ?_
                        obtain ⟨_, _, cs, hb2⟩ := own_type ho2 hk
                        have e2 : k = h5 := e
                        rw [e2] at hb2
                        have := bk_type hb2 hb5
                        revert this; decide
                      · exact ((hAl.far).trans hf6 fun k hk e => by have := (n5r k e).2.2; omega).set ⟨h5, 1, none⟩ v2 fun _ => rfl)
                    have hst' := Lib.hid hst
                    clear hb hst hOj hBj hOO hn hown hAl n5r hfa
                    go_wp2_with (at_builtin; refine wpList_append_own _ rfl _ _ 26 rfl W1.heap.size 82 ci _ 2 16 Tryd.underlying26 hci hz0 hz1 hz2 rfl (by decide) (.slice oo n oc) n _ rfl C1.out ⟨wj.heap.size, 0, none⟩ 1 1 [.int .i64 (i : Nat), .int .i64 (j : Nat)] rfl rfl C7.out C3.out C4 C5 C6 ?_; intro v2 w6 ho6 hg6 hn6; obtain ⟨vo, vc, rfl⟩ := q_form ho6; obtain ⟨k5, kb, kO⟩ := HN.out _ w6 ho6 hg6; have s51 : w6.cell? ⟨h5, 1, none⟩ = some (.slice oo n oc) := k5.cell 1; have sf5 := k5.free 1; have kb' := Lib.hid kb; have kO' := Lib.hid kO; clear ho6 hg6 hn6 k5 kb kO c50 c51 HN)
                    go_roundw
                    case rel => exact ⟨j + 1, _, by omega, by go_num, kb'.out, by rw [hst'.out]; exact kO'.out⟩
                    case measure => simp only [intOf]; omega
                · have e : j = s := by omega
                  have hOk := Lib.hid (show TO W1 h5 s (cellsK (mulM A B) s (i + 1)) lj wj by have h := cellsR_all (mulM A B) s i; rw [← h]; rw [e] at hOj; exact hOj)
                  clear e hOj hBj
                  go_wp2_with fail
                  go_roundw
                  case rel => exact ⟨i + 1, lj, by omega, by rw [hc'.out], hOk.out⟩
                  case measure => simp only [intOf]; have := hc'.out; omega
      · have e : i = s := by omega
        subst e
        clear b21 b31 hIAo hIBo hPAo hPBo
        have hn := hnum.out
        have hB4o : Bk wo h4 28 #[.int .i64 0, .slice none 0 0] := (hB4'.out.far' hfc'.out id).far' hO.far (by omega)
        obtain ⟨oo, oc, rfl⟩ := q_form hO.own
        have hlen : (cellsK (mulM A B) i i).length = (cellsL (mulM A B) i).length := rfl
        obtain ⟨n, hn2⟩ : ∃ n, n = (cellsK (mulM A B) i i).length := ⟨_, rfl⟩
        have hown := hO.own
        have hb5 := hO.b5
        rw [← hn2] at hown hb5
        have q0 : wo.cell? ⟨h5, 0, none⟩ = some (.int .i64 (i : Nat)) := hb5.cell 0
        have q1 : wo.cell? ⟨h5, 1, none⟩ = some (.slice oo n oc) := hb5.cell 1
        have d0 : wo.cell? ⟨h4, 0, none⟩ = some (.int .i64 0) := hB4o.cell 0
        have d1 : wo.cell? ⟨h4, 1, none⟩ = some (.slice none 0 0) := hB4o.cell 1
        have f0 := hB4o.free 0
        have f1 := hB4o.free 1
        have n45 : h4 ≠ h5 := by omega
        have n54 : h5 ≠ h4 := by omega
        have hB4o' := Lib.hid hB4o
        have hfO := Lib.hid hO.far
        have hown' := Lib.hid hown
        have hn2' := Lib.hid hn2
        have hW1z := Lib.hid (show w.heap.size ≤ W1.heap.size from (hF0'.out.then hfc'.out).size)
        clear hO hB4o hown hb5 hn2 hlen hn
        go_wp2_with fail
        (try simp only [Exit.inBlock, Exit.then])
        obtain ⟨w7, hw7⟩ : ∃ V, V = (wo.setCell ⟨h4, 0, none⟩ (.int .i64 (i : Nat))).setCell ⟨h4, 1, none⟩ (.slice oo n oc) := ⟨_, rfl⟩
        have hB7 : Bk w7 h4 28 #[.int .i64 (i : Nat), .slice oo n oc] := hw7 ▸ (hB4o'.out.set 0 _).set 1 _
        have hf67 : Far (fun q => q = h4) wo w7 := hw7 ▸ ((Far.refl (fun q => q = h4) wo).set ⟨h4, 0, none⟩ _ fun _ => rfl).set ⟨h4, 1, none⟩ _ fun _ => rfl
        have hf57 : Far (fun q => q = h4 ∨ q = h5) W1 w7 := (hfO.out.mono fun _ _ e => .inr e).trans hf67 fun _ _ e => .inl e
        have hnn := hnum.out
        have hf7 : Far (fun _ => False) w w7 := (hF0'.out.then hfc'.out).trans hf57 fun q hq e => by rcases e with rfl | rfl <;> omega
        have c0 : w7.cell? ⟨h4, 0, none⟩ = some (.int .i64 (i : Nat)) := hB7.cell 0
        have c1 : w7.cell? ⟨h4, 1, none⟩ = some (.slice oo n oc) := hB7.cell 1
        have ho7 := row_same hown'.out fun q hq hl => hf67.block q hl fun e => by
          obtain ⟨_, _, cs, hb2⟩ := own_type hown'.out hq
          rw [e] at hb2
          have := bk_type hb2 hB4o'.out
          revert this; decide
        have hwm : ∀ r c, mulM A B r c = true → r < i ∧ c < i := fun r c h => by
          obtain ⟨t, h1, h2⟩ := (mulM_iff hs hwa'.out).1 h
          exact ⟨(hwa'.out _ _ h1).1, (hwb'.out _ _ h2).2⟩
        have hDn : Dn (.agg #[.int .i64 (i : Nat), .slice oo n oc]) w.heap.size := fun _ _ _ _ e a ha => by
          cases e
          subst ha
          obtain ⟨h1, _⟩ := own_type hown'.out (k := a.block) rfl
          have := hW1z.out
          omega
        have hD : Dm w7 (.agg #[.int .i64 (i : Nat), .slice oo n oc]) i (mulM A B) := Dm.own hs hwm (cellsK_rise (mulM A B) i i) (fun x => mem_cellsL hwm) ho7 hn2'.out
        rw [← hw7]
        exact bodyPost_ret (v := .agg #[.int .i64 (i : Nat), .slice oo n oc]) (by simp [results, Tryd.f86, go_sem, c0, c1]) rfl ⟨_, rfl, hD, hDn, hf7⟩
end
end Go.Proofs.YtkobbcmndneajaaDoor
