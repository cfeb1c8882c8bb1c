/-
  May a forest be: the program's word.
-/
import Derived.Test.YteoglnbmmgoibaaGreatDoorIntRow
namespace Go.Proofs.YteoglnbmmgoibaaGreatDoor
open Go.RowKit
set_option linter.unusedVariables false
set_option linter.unusedSimpArgs false
theorem gw_place {F : List Fc} {p0 p1 p2 p3 p4 : Int} (h : goesB F p0 p1 p2 p3 p4 = true) : 0 ≤ p0 ∧ p0 < (F.length : Int) := by
  by_cases hb : p0 < 0 ∨ (F.length : Int) ≤ p0 ∨ p1 < 0 ∨ p2 < 0
  · rw [goes_a hb] at h; cases h
  · omega
section
set_option maxHeartbeats 8000000
set_option maxRecDepth 100000
theorem check_any (v pv : Value) (F : List Fc) (P : List Pk) (w : World) (hP : Facts w v F) (hQ : Packs w pv P) (hs : F.length * 24 ≤ 140737488351232) (hs2 : P.length * 40 ≤ 140737488351232) :
    Calls Tryz.prog 5 #[.agg #[v, pv]] w fun e w' => e = .returned (.int .i64 (fcode (CkOK F P))) ∧ Far (fun _ => False) w w' := by
  obtain ⟨h, hh⟩ : ∃ h, h = w.heap.size := ⟨_, rfl⟩
  obtain ⟨fo, ac, rfl⟩ := Src.form hP
  obtain ⟨po, pc, rfl⟩ := Src.form hQ
  obtain ⟨W, hW⟩ : ∃ W, W = w.alloc (.cells #[.slice fo F.length ac, .slice po P.length pc] 25) := ⟨_, rfl⟩
  have hA : Bk W h 25 #[.slice fo F.length ac, .slice po P.length pc] := hW ▸ Bk.new hh
  have hF : Far (fun _ => False) w W := hW ▸ (Far.refl _ w).alloc _
  have hPF := Lib.hid (hP.move hF)
  have hPP := Lib.hid (hQ.move hF)
  have hlF : F.length ≤ 5864062014805 := by omega
  have hlP : P.length ≤ 3518437208783 := by omega
  have hs2' := Lib.hid hs2
  have hh' := Lib.hid hh
  have hW' := Lib.hid hW
  have hA' := Lib.hid hA
  have hF' := Lib.hid hF
  clear hP hQ hh hW hA hF hs hs2
  go_enter Tryz.func5, Tryz.ntmps5
  go_upto_region 1 with fail
  rw [← hh'.out, ← hW'.out]
  go_wp2_with fail
  go_loopw [3] (fun iv wr => ∃ i : Nat, iv = .int .i64 i ∧ 1 ≤ i ∧ (F.length = 0 ∨ i ≤ F.length) ∧ RiseF F i ∧ Far (fun _ => False) W wr) (fun iv _ => F.length - (intOf iv).toNat)
  case atStart => exact ⟨1, rfl, Nat.le_refl _, by omega, fun k hk => by omega, Far.refl _ _⟩
  case round =>
    obtain ⟨i, rfl, hi1, hi, hgood, hfw⟩ := hrel
    have hAr := hA'.out.far' hfw id
    have a0 : wr.cell? ⟨h, 0, none⟩ = some (.slice fo F.length ac) := hAr.cell 0
    have a1 : wr.cell? ⟨h, 1, none⟩ = some (.slice po P.length pc) := hAr.cell 1
    have hlh := hAr.lt
    have hfw' := Lib.hid hfw
    have hgood' := Lib.hid hgood
    by_cases hlt : i < F.length
    · have e1 : decide ((i : Int) < (F.length : Int)) = true := by rw [decide_eq_true_eq]; omega
      have hii : (i : Int) < (F.length : Int) := by omega
      obtain ⟨j, hj⟩ : ∃ j, i = j + 1 := ⟨i - 1, by omega⟩
      have hjj : (j : Int) < (F.length : Int) := by omega
      have hwj : IntKind.i64.wrap ((i : Int) - 1) = (j : Int) := by rw [show ((i : Int) - 1) = (j : Int) by omega]; exact wrap_in (by omega)
      have hwj2 : IntKind.i64.wrap (j : Int) = (j : Int) := wrap_in (by omega)
      obtain ⟨b, off, c, he, hbl, c0, c1, c2⟩ := (hPF.out.move hfw).fact (fa_get hlt)
      obtain ⟨b', off', c', he', _, e0, e1', e2⟩ := (hPF.out.move hfw).fact (fa_get (show j < F.length by omega))
      rw [he] at he'
      simp only [Value.slice.injEq, Option.some.injEq, Addr.mk.injEq] at he he'
      obtain ⟨rfl, _, rfl⟩ := he
      obtain ⟨⟨rfl, rfl, _⟩, _, rfl⟩ := he'
      have hfl : ∀ q, fl (fa F j) (fa F i) = q → less3 (fa F j).1 (fa F j).2.1 (fa F j).2.2 (fa F i).1 (fa F i).2.1 (fa F i).2.2 = q := fun q h => h
      generalize hx : fa F i = x at *
      generalize hy : fa F j = y at *
      obtain ⟨x0, x1, x2⟩ := x
      obtain ⟨y0, y1, y2⟩ := y
      dsimp only at c0 c1 c2 e0 e1' e2
      have LE0 := fun w' (hf : Far (fun _ => False) wr w') => (fless_any y0 y1 y2 x0 x1 x2 w').mono fun e w'' (hr : e = .returned (.bool (less3 y0 y1 y2 x0 x1 x2)) ∧ Far (fun _ => False) w' w'') => (⟨hr.1, hf.then hr.2⟩ : e = .returned (.bool (less3 y0 y1 y2 x0 x1 x2)) ∧ Far (fun _ => False) wr w'')
      have hx' := Lib.hid hx
      have hy' := Lib.hid hy
      have hj' := Lib.hid hj
      have e1 := e1
      have ey1 := e1'
      clear hfw hgood hx hy hj hAr e1'
      go_upto_region 4 with fail
      obtain ⟨o, ho⟩ : ∃ o, o = ord3 y0 y1 y2 x0 x1 x2 := ⟨_, rfl⟩
      have hod : decide (o ≥ 0) = !fl (y0, y1, y2) (x0, x1, x2) := by rw [ho]; exact ord_less _ _ _ _ _ _
      have LE := Lib.hid (fun w' (hf : Far (fun _ => False) wr w') => (ofacts_any y0 y1 y2 x0 x1 x2 w').mono fun e w'' (hr : e = .returned (.int .i64 (ord3 y0 y1 y2 x0 x1 x2)) ∧ Far (fun _ => False) w' w'') => (⟨by rw [ho]; exact hr.1, hf.then hr.2⟩ : e = .returned (.int .i64 o) ∧ Far (fun _ => False) wr w''))
      clear ho LE0 hfl
      cases hq : fl (y0, y1, y2) (x0, x1, x2) with
      | true =>
        rw [hq] at hod
        have d1 : decide (o ≥ 0) = false := hod
        have d2 : decide (0 ≤ o) = false := hod
        have hq' := Lib.hid hq
        clear hod hq
        have HK := Lib.hid (show ∀ w2, Far (fun _ => False) wr w2 → w2.cell? ⟨h, 0, none⟩ = some (.slice (some ⟨b, off, none⟩) F.length ac) ∧ w2.cell? ⟨b, off + i * 3, none⟩ = some (.int .i64 x0) ∧ w2.cell? ⟨b, off + i * 3 + 1, none⟩ = some (.int .i64 x1) ∧ w2.cell? ⟨b, off + i * 3 + 2, none⟩ = some (.int .i64 x2) ∧ w2.cell? ⟨b, off + j * 3, none⟩ = some (.int .i64 y0) ∧ w2.cell? ⟨b, off + j * 3 + 1, none⟩ = some (.int .i64 y1) ∧ w2.cell? ⟨b, off + j * 3 + 2, none⟩ = some (.int .i64 y2) from fun w2 h => ⟨(h.cell hlh).trans a0, (h.cell hbl).trans c0, (h.cell hbl).trans c1, (h.cell hbl).trans c2, (h.cell hbl).trans e0, (h.cell hbl).trans ey1, (h.cell hbl).trans e2⟩)
        refine quiet_far (by kernel_rfl) (by kernel_rfl) ?_
        go_big_quiet_want; refine l_val (.pointer (some ⟨h, 0, none⟩)) (fun w' hw' => by go_simp) ?_; go_simp; go_big_quiet_on
        go_big_quiet_want; refine l_val (.slice (some ⟨b, off, none⟩) F.length ac) (fun w' hw' => by obtain ⟨q0, q1, q2, q3, q4, q5, q6⟩ := HK.out w' hw'; go_simp) ?_; go_simp; go_big_quiet_on
        go_big_quiet_want; refine l_val (.int .i64 i) (fun w' hw' => by go_simp) ?_; go_simp; go_big_quiet_on
        go_big_quiet_want; refine l_val (.int .i64 j) (fun w' hw' => by go_simp) ?_; go_simp; go_big_quiet_on
        go_big_quiet_want; refine l_val (.pointer (some ⟨b, off + j * 3, none⟩)) (fun w' hw' => by go_simp) ?_; go_simp; go_big_quiet_on
        go_big_quiet_want; refine l_val (.agg #[.int .i64 y0, .int .i64 y1, .int .i64 y2]) (fun w' hw' => by obtain ⟨q0, q1, q2, q3, q4, q5, q6⟩ := HK.out w' hw'; go_simp) ?_; go_simp; go_big_quiet_on
        go_big_quiet_want; refine l_val (.pointer (some ⟨h, 0, none⟩)) (fun w' hw' => by go_simp) ?_; go_simp; go_big_quiet_on
        go_big_quiet_want; refine l_val (.slice (some ⟨b, off, none⟩) F.length ac) (fun w' hw' => by obtain ⟨q0, q1, q2, q3, q4, q5, q6⟩ := HK.out w' hw'; go_simp) ?_; go_simp; go_big_quiet_on
        go_big_quiet_want; refine l_val (.int .i64 i) (fun w' hw' => by go_simp) ?_; go_simp; go_big_quiet_on
        go_big_quiet_want; refine l_val (.pointer (some ⟨b, off + i * 3, none⟩)) (fun w' hw' => by go_simp) ?_; go_simp; go_big_quiet_on
        go_big_quiet_want; refine l_val (.agg #[.int .i64 x0, .int .i64 x1, .int .i64 x2]) (fun w' hw' => by obtain ⟨q0, q1, q2, q3, q4, q5, q6⟩ := HK.out w' hw'; go_simp) ?_; go_simp; go_big_quiet_on
        go_big_quiet_want; refine l_call (.int .i64 o) _ #[.agg #[.int .i64 y0, .int .i64 y1, .int .i64 y2], .agg #[.int .i64 x0, .int .i64 x1, .int .i64 x2]] (fun w' => by go_simp) (fun w' hw' => LE.out w' hw') ?_; go_simp; go_big_quiet_on
        go_big_quiet_want; refine l_val (.bool false) (fun w' hw' => by go_simp) ?_; go_simp; go_big_quiet_on
        refine wpQuiet_nil ?_
        intro w' hw'
        have hw2 := Lib.hid hw'
        clear hw'
        go_wp2_with fail
        go_roundw
        case rel => exact ⟨i + 1, by go_num, by omega, by omega, fun k hk => (by
          by_cases hk2 : k + 1 < i
          · exact hgood'.out k hk2
          · have hkj : k = j := by have := hj'.out; omega
            subst hkj
            rw [← hj'.out, hx'.out, hy'.out]
            exact hq'.out), hfw'.out.then hw2.out⟩
        case measure => simp [intOf]; omega
      | false =>
        rw [hq] at hod
        have d1 : decide (o ≥ 0) = true := hod
        have d2 : decide (0 ≤ o) = true := hod
        have hno := Lib.hid (show ¬ CkOK F P from fun hc => by
          have := hc.1 j (by have := hj'.out; omega)
          rw [← hj'.out, hx'.out, hy'.out, hq] at this
          cases this)
        clear hod hq
        have HK := Lib.hid (show ∀ w2, Far (fun _ => False) wr w2 → w2.cell? ⟨h, 0, none⟩ = some (.slice (some ⟨b, off, none⟩) F.length ac) ∧ w2.cell? ⟨b, off + i * 3, none⟩ = some (.int .i64 x0) ∧ w2.cell? ⟨b, off + i * 3 + 1, none⟩ = some (.int .i64 x1) ∧ w2.cell? ⟨b, off + i * 3 + 2, none⟩ = some (.int .i64 x2) ∧ w2.cell? ⟨b, off + j * 3, none⟩ = some (.int .i64 y0) ∧ w2.cell? ⟨b, off + j * 3 + 1, none⟩ = some (.int .i64 y1) ∧ w2.cell? ⟨b, off + j * 3 + 2, none⟩ = some (.int .i64 y2) from fun w2 h => ⟨(h.cell hlh).trans a0, (h.cell hbl).trans c0, (h.cell hbl).trans c1, (h.cell hbl).trans c2, (h.cell hbl).trans e0, (h.cell hbl).trans ey1, (h.cell hbl).trans e2⟩)
        refine quiet_far (by kernel_rfl) (by kernel_rfl) ?_
        go_big_quiet_want; refine l_val (.pointer (some ⟨h, 0, none⟩)) (fun w' hw' => by go_simp) ?_; go_simp; go_big_quiet_on
        go_big_quiet_want; refine l_val (.slice (some ⟨b, off, none⟩) F.length ac) (fun w' hw' => by obtain ⟨q0, q1, q2, q3, q4, q5, q6⟩ := HK.out w' hw'; go_simp) ?_; go_simp; go_big_quiet_on
        go_big_quiet_want; refine l_val (.int .i64 i) (fun w' hw' => by go_simp) ?_; go_simp; go_big_quiet_on
        go_big_quiet_want; refine l_val (.int .i64 j) (fun w' hw' => by go_simp) ?_; go_simp; go_big_quiet_on
        go_big_quiet_want; refine l_val (.pointer (some ⟨b, off + j * 3, none⟩)) (fun w' hw' => by go_simp) ?_; go_simp; go_big_quiet_on
        go_big_quiet_want; refine l_val (.agg #[.int .i64 y0, .int .i64 y1, .int .i64 y2]) (fun w' hw' => by obtain ⟨q0, q1, q2, q3, q4, q5, q6⟩ := HK.out w' hw'; go_simp) ?_; go_simp; go_big_quiet_on
        go_big_quiet_want; refine l_val (.pointer (some ⟨h, 0, none⟩)) (fun w' hw' => by go_simp) ?_; go_simp; go_big_quiet_on
        go_big_quiet_want; refine l_val (.slice (some ⟨b, off, none⟩) F.length ac) (fun w' hw' => by obtain ⟨q0, q1, q2, q3, q4, q5, q6⟩ := HK.out w' hw'; go_simp) ?_; go_simp; go_big_quiet_on
        go_big_quiet_want; refine l_val (.int .i64 i) (fun w' hw' => by go_simp) ?_; go_simp; go_big_quiet_on
        go_big_quiet_want; refine l_val (.pointer (some ⟨b, off + i * 3, none⟩)) (fun w' hw' => by go_simp) ?_; go_simp; go_big_quiet_on
        go_big_quiet_want; refine l_val (.agg #[.int .i64 x0, .int .i64 x1, .int .i64 x2]) (fun w' hw' => by obtain ⟨q0, q1, q2, q3, q4, q5, q6⟩ := HK.out w' hw'; go_simp) ?_; go_simp; go_big_quiet_on
        go_big_quiet_want; refine l_call (.int .i64 o) _ #[.agg #[.int .i64 y0, .int .i64 y1, .int .i64 y2], .agg #[.int .i64 x0, .int .i64 x1, .int .i64 x2]] (fun w' => by go_simp) (fun w' hw' => LE.out w' hw') ?_; go_simp; go_big_quiet_on
        go_big_quiet_want; refine l_val (.bool true) (fun w' hw' => by go_simp) ?_; go_simp; go_big_quiet_on
        refine wpQuiet_nil ?_
        intro w' hw'
        have hw2 := Lib.hid hw'
        clear hw'
        go_wp2_with fail
        go_ret
        exact ⟨by rw [fcode_no hno.out]; rfl, hF'.out.then (hfw'.out.then hw2.out)⟩
    · have e1 : decide ((i : Int) < (F.length : Int)) = false := by rw [decide_eq_false_iff_not]; omega
      have hRise := Lib.hid (show RiseF F F.length from fun k hk => hgood k (by omega))
      have hMK := make_ints F.length hlF
      clear hgood hi hi1 hAr
      go_upto_region 7 with fail
      obtain ⟨kM, hkM⟩ : ∃ k, k = wr.heap.size := ⟨_, rfl⟩
      obtain ⟨W2, hW2⟩ : ∃ W2, W2 = wr.alloc (.cells (icells F.length (fun _ => 0)) 3) := ⟨_, rfl⟩
      rw [← hkM, ← hW2]
      have hM : IRow W2 kM F.length (fun _ => 0) := hW2 ▸ Bk.new hkM
      have hf2 := Lib.hid (show Far (fun _ => False) W W2 from hfw.then (hW2 ▸ (Far.refl _ wr).alloc _))
      have hkM' := Lib.hid (show W.heap.size ≤ kM by rw [hkM]; exact hfw.size)
      have a1 : W2.cell? ⟨h, 1, none⟩ = some (.slice po P.length pc) := (hA'.out.far' hf2.out id).cell 1
      clear a0 hlh e1 hlt hMK hkM hW2
      go_wp2_with fail
      clear a1
      go_loopw [34] (fun iv wr => ∃ i : Nat, iv = .int .i64 i ∧ i ≤ P.length ∧ GoodP F P i ∧ IRow wr kM F.length (fun s => ((ofSpot (P.take i) (s : Int)).length : Int)) ∧ Far (fun k => k = kM) W2 wr) (fun iv _ => P.length - (intOf iv).toNat)
      case atStart => exact ⟨0, rfl, Nat.zero_le _, fun k hk => absurd hk (Nat.not_lt_zero _), hM, Far.refl _ _⟩
      case round =>
        clear hfw hfw' hgood' hM
        obtain ⟨i, rfl, hi, hgood, hI, hfv⟩ := hrel
        have hfw : Far (fun _ => False) W wr := hf2.out.out hfv (fun k hk e => by have := hkM'.out; omega)
        have hAr := hA'.out.far' hfw id
        have a0 : wr.cell? ⟨h, 0, none⟩ = some (.slice fo F.length ac) := hAr.cell 0
        have a1 : wr.cell? ⟨h, 1, none⟩ = some (.slice po P.length pc) := hAr.cell 1
        have hlh := hAr.lt
        have hgood' := Lib.hid hgood
        by_cases hlt : i < P.length
        · have e1 : decide ((i : Int) < (P.length : Int)) = true := by rw [decide_eq_true_eq]; omega
          have hii : (i : Int) < (P.length : Int) := by omega
          obtain ⟨b, off, c, he, hbl, c0, c1, c2, c3, c4⟩ := (hPP.out.move hfw).pack (pk_get hlt)
          have hPy : ∀ j, j < P.length → ∃ b' off' c', Value.slice po P.length pc = .slice (some ⟨b', off', none⟩) P.length c' ∧ b' < wr.heap.size ∧ wr.cell? ⟨b', off' + j * 5, none⟩ = some (.int .i64 (pk P j).1) ∧ wr.cell? ⟨b', off' + j * 5 + 1, none⟩ = some (.int .i64 (pk P j).2.1) ∧ wr.cell? ⟨b', off' + j * 5 + 2, none⟩ = some (.int .i64 (pk P j).2.2.1) ∧ wr.cell? ⟨b', off' + j * 5 + 3, none⟩ = some (.int .i64 (pk P j).2.2.2.1) ∧ wr.cell? ⟨b', off' + j * 5 + 4, none⟩ = some (.int .i64 (pk P j).2.2.2.2) := fun j hj => (hPP.out.move hfw).pack (pk_get hj)
          have hcnt := Lib.hid (fun s : Int => ofSpot_succ (pk_get hlt) s)
          simp only [Value.slice.injEq] at he
          obtain ⟨rfl, _, rfl⟩ := he
          generalize hx : pk P i = x at *
          obtain ⟨x0, x1, x2, x3, x4⟩ := x
          dsimp only at c0 c1 c2 c3 c4
          go_upto_region 10 with fail
          obtain ⟨ax, hax⟩ : ∃ k, k = wr.heap.size := ⟨_, rfl⟩
          obtain ⟨wa, hwa⟩ : ∃ wa, wa = wr.alloc (.cells #[.int .i64 x0, .int .i64 x1, .int .i64 x2, .int .i64 x3, .int .i64 x4] 42) := ⟨_, rfl⟩
          rw [← hax, ← hwa]
          have hX : Bk wa ax 42 #[.int .i64 x0, .int .i64 x1, .int .i64 x2, .int .i64 x3, .int .i64 x4] := hwa ▸ Bk.new hax
          have hfa : Far (fun _ => False) wr wa := hwa ▸ (Far.refl _ wr).alloc _
          have hAa := hAr.far' hfa id
          have hfwa := Lib.hid (hfw.then hfa)
          have hbl := Nat.lt_of_lt_of_le hbl hfa.size
          have hlh := hAa.lt
          have hlx := hX.lt
          have hI' := Lib.hid hI
          have hfv' := Lib.hid hfv
          have hfa' := Lib.hid hfa
          have hX' := Lib.hid hX
          have hx' := Lib.hid hx
          have hPy := fun j hj => (hPP.out.move hfwa.out).pack (pk_get (P := P) (k := j) hj)
          clear a0 a1 c0 c1 c2 c3 c4 hax hwa hgood hfv hx
          have a0 : wa.cell? ⟨h, 0, none⟩ = some (.slice fo F.length ac) := hAa.cell 0
          have a1 : wa.cell? ⟨h, 1, none⟩ = some (.slice (some ⟨b, off, none⟩) P.length pc) := hAa.cell 1
          have c0 : wa.cell? ⟨ax, 0, none⟩ = some (.int .i64 x0) := hX.cell 0
          have c1 : wa.cell? ⟨ax, 1, none⟩ = some (.int .i64 x1) := hX.cell 1
          have c2 : wa.cell? ⟨ax, 2, none⟩ = some (.int .i64 x2) := hX.cell 2
          have c3 : wa.cell? ⟨ax, 3, none⟩ = some (.int .i64 x3) := hX.cell 3
          have c4 : wa.cell? ⟨ax, 4, none⟩ = some (.int .i64 x4) := hX.cell 4
          have GO0 := fun w' (hf : Far (fun _ => False) wa w') => (maybe_any (.slice fo F.length ac) F x0 x1 x2 x3 x4 w' (hPF.out.move (hfwa.out.then hf)) hlF).mono fun e w'' (hr : e = .returned (.bool (goesB F x0 x1 x2 x3 x4)) ∧ Far (fun _ => False) w' w'') => (⟨hr.1, hf.then hr.2⟩ : e = .returned (.bool (goesB F x0 x1 x2 x3 x4)) ∧ Far (fun _ => False) wa w'')
          clear hAr hI hfa hX hAa hfw
          by_cases hi0 : i = 0
          · have g0 : decide ((i : Int) > 0) = false := decide_eq_false (by omega)
            have g1 : decide ((0 : Int) < (i : Int)) = false := decide_eq_false (by omega)
            have g2 : decide (0 < i) = false := decide_eq_false (by omega)
            have hi0' := Lib.hid hi0
            clear hPy hi0
            cases hg : goesB F x0 x1 x2 x3 x4 with
            | false =>
              rw [hg] at GO0
              have GO := Lib.hid GO0
              have hno := Lib.hid (show ¬ CkOK F P from fun hc => by
                have := (hc.2.1 i hlt).1
                rw [hx'.out] at this
                exact absurd (hg.symm.trans this) (by decide))
              clear GO0 hg
              have HK := Lib.hid (show ∀ w2, Far (fun _ => False) wa w2 → w2.cell? ⟨h, 0, none⟩ = some (.slice fo F.length ac) ∧ w2.cell? ⟨h, 1, none⟩ = some (.slice (some ⟨b, off, none⟩) P.length pc) ∧ w2.cell? ⟨ax, 0, none⟩ = some (.int .i64 x0) ∧ w2.cell? ⟨ax, 1, none⟩ = some (.int .i64 x1) ∧ w2.cell? ⟨ax, 2, none⟩ = some (.int .i64 x2) ∧ w2.cell? ⟨ax, 3, none⟩ = some (.int .i64 x3) ∧ w2.cell? ⟨ax, 4, none⟩ = some (.int .i64 x4) from fun w2 h => ⟨(h.cell hlh).trans a0, (h.cell hlh).trans a1, (h.cell hlx).trans c0, (h.cell hlx).trans c1, (h.cell hlx).trans c2, (h.cell hlx).trans c3, (h.cell hlx).trans c4⟩)
              refine quiet_far (by kernel_rfl) (by kernel_rfl) ?_
              go_big_quiet_want; refine l_val (.int .i64 i) (fun w' hw' => by go_simp) ?_; go_simp; go_big_quiet_on
              go_big_quiet_want; refine l_val (.bool false) (fun w' hw' => by go_simp) ?_; go_simp; go_big_quiet_on
              go_big_quiet_want; refine l_val (.bool false) (fun w' hw' => by go_simp) ?_; go_simp; go_big_quiet_on
              go_big_quiet_skip
              go_big_quiet_skip
              go_big_quiet_skip
              go_big_quiet_skip
              go_big_quiet_skip
              go_big_quiet_skip
              go_big_quiet_skip
              go_big_quiet_skip
              go_big_quiet_skip
              go_big_quiet_want; refine l_val (.bool false) (fun w' hw' => by go_simp) ?_; go_simp; go_big_quiet_on
              go_big_quiet_want; refine l_val (.bool false) (fun w' hw' => by go_simp) ?_; go_simp; go_big_quiet_on
              go_big_quiet_want; refine l_val (.pointer (some ⟨h, 0, none⟩)) (fun w' hw' => by go_simp) ?_; go_simp; go_big_quiet_on
              go_big_quiet_want; refine l_val (.slice fo F.length ac) (fun w' hw' => by obtain ⟨q0, q1, q2, q3, q4, q5, q6⟩ := HK.out w' hw'; go_simp) ?_; go_simp; go_big_quiet_on
              go_big_quiet_want; refine l_val (.agg #[.int .i64 x0, .int .i64 x1, .int .i64 x2, .int .i64 x3, .int .i64 x4]) (fun w' hw' => by obtain ⟨q0, q1, q2, q3, q4, q5, q6⟩ := HK.out w' hw'; go_simp) ?_; go_simp; go_big_quiet_on
              go_big_quiet_want; refine l_call (.bool false) _ #[.slice fo F.length ac, .agg #[.int .i64 x0, .int .i64 x1, .int .i64 x2, .int .i64 x3, .int .i64 x4]] (fun w' => by go_simp) (fun w' hw' => GO.out w' hw') ?_; go_simp; go_big_quiet_on
              go_big_quiet_want; refine l_val (.bool true) (fun w' hw' => by go_simp) ?_; go_simp; go_big_quiet_on
              go_big_quiet_want; refine l_val (.bool true) (fun w' hw' => by go_simp) ?_; go_simp; go_big_quiet_on
              refine wpQuiet_nil ?_
              intro w' hw'
              have hw2 := Lib.hid hw'
              clear hw'
              go_wp2_with fail
              go_ret
              exact ⟨by rw [fcode_no hno.out]; rfl, hF'.out.then (hfwa.out.then hw2.out)⟩
            | true =>
              rw [hg] at GO0
              have GO := Lib.hid GO0
              have hgood2 := Lib.hid (show GoodP F P (i + 1) from fun k hk => by
                have hk0 : k = i := by have := hi0'.out; omega
                subst hk0
                exact ⟨by rw [hx'.out]; exact hg, fun j hj => by have := hi0'.out; omega⟩)
              have hpl := gw_place hg
              clear GO0 hg
              have HK := Lib.hid (show ∀ w2, Far (fun _ => False) wa w2 → w2.cell? ⟨h, 0, none⟩ = some (.slice fo F.length ac) ∧ w2.cell? ⟨h, 1, none⟩ = some (.slice (some ⟨b, off, none⟩) P.length pc) ∧ w2.cell? ⟨ax, 0, none⟩ = some (.int .i64 x0) ∧ w2.cell? ⟨ax, 1, none⟩ = some (.int .i64 x1) ∧ w2.cell? ⟨ax, 2, none⟩ = some (.int .i64 x2) ∧ w2.cell? ⟨ax, 3, none⟩ = some (.int .i64 x3) ∧ w2.cell? ⟨ax, 4, none⟩ = some (.int .i64 x4) from fun w2 h => ⟨(h.cell hlh).trans a0, (h.cell hlh).trans a1, (h.cell hlx).trans c0, (h.cell hlx).trans c1, (h.cell hlx).trans c2, (h.cell hlx).trans c3, (h.cell hlx).trans c4⟩)
              refine quiet_far (by kernel_rfl) (by kernel_rfl) ?_
              go_big_quiet_want; refine l_val (.int .i64 i) (fun w' hw' => by go_simp) ?_; go_simp; go_big_quiet_on
              go_big_quiet_want; refine l_val (.bool false) (fun w' hw' => by go_simp) ?_; go_simp; go_big_quiet_on
              go_big_quiet_want; refine l_val (.bool false) (fun w' hw' => by go_simp) ?_; go_simp; go_big_quiet_on
              go_big_quiet_skip
              go_big_quiet_skip
              go_big_quiet_skip
              go_big_quiet_skip
              go_big_quiet_skip
              go_big_quiet_skip
              go_big_quiet_skip
              go_big_quiet_skip
              go_big_quiet_skip
              go_big_quiet_want; refine l_val (.bool false) (fun w' hw' => by go_simp) ?_; go_simp; go_big_quiet_on
              go_big_quiet_want; refine l_val (.bool false) (fun w' hw' => by go_simp) ?_; go_simp; go_big_quiet_on
              go_big_quiet_want; refine l_val (.pointer (some ⟨h, 0, none⟩)) (fun w' hw' => by go_simp) ?_; go_simp; go_big_quiet_on
              go_big_quiet_want; refine l_val (.slice fo F.length ac) (fun w' hw' => by obtain ⟨q0, q1, q2, q3, q4, q5, q6⟩ := HK.out w' hw'; go_simp) ?_; go_simp; go_big_quiet_on
              go_big_quiet_want; refine l_val (.agg #[.int .i64 x0, .int .i64 x1, .int .i64 x2, .int .i64 x3, .int .i64 x4]) (fun w' hw' => by obtain ⟨q0, q1, q2, q3, q4, q5, q6⟩ := HK.out w' hw'; go_simp) ?_; go_simp; go_big_quiet_on
              go_big_quiet_want; refine l_call (.bool true) _ #[.slice fo F.length ac, .agg #[.int .i64 x0, .int .i64 x1, .int .i64 x2, .int .i64 x3, .int .i64 x4]] (fun w' => by go_simp) (fun w' hw' => GO.out w' hw') ?_; go_simp; go_big_quiet_on
              go_big_quiet_want; refine l_val (.bool false) (fun w' hw' => by go_simp) ?_; go_simp; go_big_quiet_on
              go_big_quiet_want; refine l_val (.bool false) (fun w' hw' => by go_simp) ?_; go_simp; go_big_quiet_on
              refine wpQuiet_nil ?_
              intro w' hw'
              have hw2 := Lib.hid hw'
              clear hw'
              obtain ⟨k0, hk0⟩ : ∃ k : Nat, x0 = k := ⟨x0.toNat, by omega⟩
              have hk0n : k0 < F.length := by omega
              have i0 : (k0 : Int) < (F.length : Int) := by omega
              have hXw := hX'.out.far' hw2.out id
              have hIw : IRow w' kM F.length (fun s => ((ofSpot (P.take i) (s : Int)).length : Int)) := Bk.far' (Bk.far' hI'.out hfa'.out id) hw2.out id
              have r0 : w'.cell? ⟨ax, 0, none⟩ = some (.int .i64 (k0 : Int)) := by rw [← hk0]; exact hXw.cell 0
              have hcl : (ofSpot (P.take i) (k0 : Int)).length ≤ P.length := Nat.le_trans (ofSpot_len _ _) (by rw [List.length_take]; omega)
              have hIat := hIw.at hk0n
              have hput := IRow.put hIw k0 (((ofSpot (P.take i) (k0 : Int)).length : Int) + 1)
              have hfun : setI (fun s : Nat => ((ofSpot (P.take i) (s : Int)).length : Int)) k0 (((ofSpot (P.take i) (k0 : Int)).length : Int) + 1) = fun s : Nat => ((ofSpot (P.take (i + 1)) (s : Int)).length : Int) := by
                funext s
                have hs := hcnt.out (s : Int)
                dsimp only at hs
                unfold setI
                by_cases e : s = k0
                · subst e
                  rw [if_pos rfl, hs, hk0]
                  simp
                · rw [if_neg e, hs]
                  have : (x0 == (s : Int)) = false := by simp; omega
                  simp [this]
              rw [hfun] at hput
              generalize (ofSpot (P.take i) (k0 : Int)).length = cn at *
              have fK : w'.frozen? ⟨kM, k0, none⟩ = false := Bk.free hIw k0
              have hwc : IntKind.i64.wrap ((cn : Int) + 1) = (cn : Int) + 1 := wrap_in (by omega)
              have hput' := Lib.hid hput
              have hFs := Lib.hid (((hfv'.out.trans hfa'.out (fun _ _ h => h.elim)).trans hw2.out (fun _ _ h => h.elim)).set ⟨kM, k0, none⟩ (.int .i64 ((cn : Int) + 1)) (fun _ => rfl))
              clear hk0 hXw hIw hput hfun hpl
              go_wp2_with fail
              go_roundw
              case rel => exact ⟨i + 1, by go_num, by omega, hgood2.out, hput'.out, hFs.out⟩
              case measure => simp [intOf]; omega
          · have g0 : decide ((i : Int) > 0) = true := decide_eq_true (by omega)
            have g1 : decide ((0 : Int) < (i : Int)) = true := decide_eq_true (by omega)
            have g2 : decide (0 < i) = true := decide_eq_true (by omega)
            obtain ⟨j, hj⟩ : ∃ j, i = j + 1 := ⟨i - 1, by omega⟩
            have hjj : (j : Int) < (P.length : Int) := by omega
            have hwj : IntKind.i64.wrap ((i : Int) - 1) = (j : Int) := by rw [show ((i : Int) - 1) = (j : Int) by omega]; exact wrap_in (by omega)
            have hwj2 : IntKind.i64.wrap (j : Int) = (j : Int) := wrap_in (by omega)
            obtain ⟨b', off', c', he', _, e0, ey1, e2, e3, e4⟩ := hPy j (by omega)
            simp only [Value.slice.injEq, Option.some.injEq, Addr.mk.injEq] at he'
            obtain ⟨⟨rfl, rfl, _⟩, _, rfl⟩ := he'
            generalize hy : pk P j = y at *
            obtain ⟨y0, y1, y2, y3, y4⟩ := y
            dsimp only at e0 ey1 e2 e3 e4
            obtain ⟨o, ho⟩ : ∃ o, o = ord3 y0 y1 y2 x0 x1 x2 := ⟨_, rfl⟩
            have hod : decide (o ≥ 0) = !plt (y0, y1, y2, y3, y4) (x0, x1, x2, x3, x4) := by rw [ho]; exact ord_less _ _ _ _ _ _
            have PL := Lib.hid (fun w' (hf : Far (fun _ => False) wa w') => (opacks_any y0 y1 y2 y3 y4 x0 x1 x2 x3 x4 w').mono fun e w'' (hr : e = .returned (.int .i64 (ord3 y0 y1 y2 x0 x1 x2)) ∧ Far (fun _ => False) w' w'') => (⟨by rw [ho]; exact hr.1, hf.then hr.2⟩ : e = .returned (.int .i64 o) ∧ Far (fun _ => False) wa w''))
            have hy' := Lib.hid hy
            have hj' := Lib.hid hj
            clear hy hj hPy hi0 ho
            cases hq : plt (y0, y1, y2, y3, y4) (x0, x1, x2, x3, x4) with
            | false =>
              rw [hq] at hod
              have d1 : decide (o ≥ 0) = true := hod
              have d2 : decide (0 ≤ o) = true := hod
              have hno := Lib.hid (show ¬ CkOK F P from fun hc => by
                have := (hc.2.1 i hlt).2 j hj'.out
                rw [hx'.out, hy'.out, hq] at this
                cases this)
              have GO := Lib.hid GO0
              clear GO0 hq hod
              have HK := Lib.hid (show ∀ w2, Far (fun _ => False) wa w2 → w2.cell? ⟨h, 0, none⟩ = some (.slice fo F.length ac) ∧ w2.cell? ⟨h, 1, none⟩ = some (.slice (some ⟨b, off, none⟩) P.length pc) ∧ w2.cell? ⟨ax, 0, none⟩ = some (.int .i64 x0) ∧ w2.cell? ⟨ax, 1, none⟩ = some (.int .i64 x1) ∧ w2.cell? ⟨ax, 2, none⟩ = some (.int .i64 x2) ∧ w2.cell? ⟨ax, 3, none⟩ = some (.int .i64 x3) ∧ w2.cell? ⟨ax, 4, none⟩ = some (.int .i64 x4) ∧ w2.cell? ⟨b, off + j * 5, none⟩ = some (.int .i64 y0) ∧ w2.cell? ⟨b, off + j * 5 + 1, none⟩ = some (.int .i64 y1) ∧ w2.cell? ⟨b, off + j * 5 + 2, none⟩ = some (.int .i64 y2) ∧ w2.cell? ⟨b, off + j * 5 + 3, none⟩ = some (.int .i64 y3) ∧ w2.cell? ⟨b, off + j * 5 + 4, none⟩ = some (.int .i64 y4) from fun w2 h => ⟨(h.cell hlh).trans a0, (h.cell hlh).trans a1, (h.cell hlx).trans c0, (h.cell hlx).trans c1, (h.cell hlx).trans c2, (h.cell hlx).trans c3, (h.cell hlx).trans c4, (h.cell hbl).trans e0, (h.cell hbl).trans ey1, (h.cell hbl).trans e2, (h.cell hbl).trans e3, (h.cell hbl).trans e4⟩)
              refine quiet_far (by kernel_rfl) (by kernel_rfl) ?_
              go_big_quiet_want; refine l_val (.int .i64 i) (fun w' hw' => by go_simp) ?_; go_simp; go_big_quiet_on
              go_big_quiet_want; refine l_val (.bool true) (fun w' hw' => by go_simp) ?_; go_simp; go_big_quiet_on
              go_big_quiet_want; refine l_val (.bool true) (fun w' hw' => by go_simp) ?_; go_simp; go_big_quiet_on
              go_big_quiet_want; refine l_val (.pointer (some ⟨h, 1, none⟩)) (fun w' hw' => by go_simp) ?_; go_simp; go_big_quiet_on
              go_big_quiet_want; refine l_val (.slice (some ⟨b, off, none⟩) P.length pc) (fun w' hw' => by obtain ⟨q0, q1, q2, q3, q4, q5, q6, q7, q8, q9, q10, q11⟩ := HK.out w' hw'; go_simp) ?_; go_simp; go_big_quiet_on
              go_big_quiet_want; refine l_val (.int .i64 i) (fun w' hw' => by go_simp) ?_; go_simp; go_big_quiet_on
              go_big_quiet_want; refine l_val (.int .i64 j) (fun w' hw' => by go_simp) ?_; go_simp; go_big_quiet_on
              go_big_quiet_want; refine l_val (.pointer (some ⟨b, off + j * 5, none⟩)) (fun w' hw' => by go_simp) ?_; go_simp; go_big_quiet_on
              go_big_quiet_want; refine l_val (.agg #[.int .i64 y0, .int .i64 y1, .int .i64 y2, .int .i64 y3, .int .i64 y4]) (fun w' hw' => by obtain ⟨q0, q1, q2, q3, q4, q5, q6, q7, q8, q9, q10, q11⟩ := HK.out w' hw'; go_simp) ?_; go_simp; go_big_quiet_on
              go_big_quiet_want; refine l_val (.agg #[.int .i64 x0, .int .i64 x1, .int .i64 x2, .int .i64 x3, .int .i64 x4]) (fun w' hw' => by obtain ⟨q0, q1, q2, q3, q4, q5, q6, q7, q8, q9, q10, q11⟩ := HK.out w' hw'; go_simp) ?_; go_simp; go_big_quiet_on
              go_big_quiet_want; refine l_call (.int .i64 o) _ #[.agg #[.int .i64 y0, .int .i64 y1, .int .i64 y2, .int .i64 y3, .int .i64 y4], .agg #[.int .i64 x0, .int .i64 x1, .int .i64 x2, .int .i64 x3, .int .i64 x4]] (fun w' => by go_simp) (fun w' hw' => PL.out w' hw') ?_; go_simp; go_big_quiet_on
              go_big_quiet_want; refine l_val (.bool true) (fun w' hw' => by go_simp) ?_; go_simp; go_big_quiet_on
              go_big_quiet_want; refine l_val (.bool true) (fun w' hw' => by go_simp) ?_; go_simp; go_big_quiet_on
              go_big_quiet_want; refine l_val (.bool true) (fun w' hw' => by go_simp) ?_; go_simp; go_big_quiet_on
              go_big_quiet_skip
              go_big_quiet_skip
              go_big_quiet_skip
              go_big_quiet_skip
              go_big_quiet_skip
              go_big_quiet_want; refine l_val (.bool true) (fun w' hw' => by go_simp) ?_; go_simp; go_big_quiet_on
              refine wpQuiet_nil ?_
              intro w' hw'
              have hw2 := Lib.hid hw'
              clear hw'
              go_wp2_with fail
              go_ret
              exact ⟨by rw [fcode_no hno.out]; rfl, hF'.out.then (hfwa.out.then hw2.out)⟩
            | true =>
              rw [hq] at hod
              have d1 : decide (o ≥ 0) = false := hod
              have d2 : decide (0 ≤ o) = false := hod
              have hq' := Lib.hid hq
              clear hod hq
              cases hg : goesB F x0 x1 x2 x3 x4 with
              | false =>
                rw [hg] at GO0
                have GO := Lib.hid GO0
                have hno := Lib.hid (show ¬ CkOK F P from fun hc => by
                  have := (hc.2.1 i hlt).1
                  rw [hx'.out] at this
                  exact absurd (hg.symm.trans this) (by decide))
                clear GO0 hg
                have HK := Lib.hid (show ∀ w2, Far (fun _ => False) wa w2 → w2.cell? ⟨h, 0, none⟩ = some (.slice fo F.length ac) ∧ w2.cell? ⟨h, 1, none⟩ = some (.slice (some ⟨b, off, none⟩) P.length pc) ∧ w2.cell? ⟨ax, 0, none⟩ = some (.int .i64 x0) ∧ w2.cell? ⟨ax, 1, none⟩ = some (.int .i64 x1) ∧ w2.cell? ⟨ax, 2, none⟩ = some (.int .i64 x2) ∧ w2.cell? ⟨ax, 3, none⟩ = some (.int .i64 x3) ∧ w2.cell? ⟨ax, 4, none⟩ = some (.int .i64 x4) ∧ w2.cell? ⟨b, off + j * 5, none⟩ = some (.int .i64 y0) ∧ w2.cell? ⟨b, off + j * 5 + 1, none⟩ = some (.int .i64 y1) ∧ w2.cell? ⟨b, off + j * 5 + 2, none⟩ = some (.int .i64 y2) ∧ w2.cell? ⟨b, off + j * 5 + 3, none⟩ = some (.int .i64 y3) ∧ w2.cell? ⟨b, off + j * 5 + 4, none⟩ = some (.int .i64 y4) from fun w2 h => ⟨(h.cell hlh).trans a0, (h.cell hlh).trans a1, (h.cell hlx).trans c0, (h.cell hlx).trans c1, (h.cell hlx).trans c2, (h.cell hlx).trans c3, (h.cell hlx).trans c4, (h.cell hbl).trans e0, (h.cell hbl).trans ey1, (h.cell hbl).trans e2, (h.cell hbl).trans e3, (h.cell hbl).trans e4⟩)
                refine quiet_far (by kernel_rfl) (by kernel_rfl) ?_
                go_big_quiet_want; refine l_val (.int .i64 i) (fun w' hw' => by go_simp) ?_; go_simp; go_big_quiet_on
                go_big_quiet_want; refine l_val (.bool true) (fun w' hw' => by go_simp) ?_; go_simp; go_big_quiet_on
                go_big_quiet_want; refine l_val (.bool true) (fun w' hw' => by go_simp) ?_; go_simp; go_big_quiet_on
                go_big_quiet_want; refine l_val (.pointer (some ⟨h, 1, none⟩)) (fun w' hw' => by go_simp) ?_; go_simp; go_big_quiet_on
                go_big_quiet_want; refine l_val (.slice (some ⟨b, off, none⟩) P.length pc) (fun w' hw' => by obtain ⟨q0, q1, q2, q3, q4, q5, q6, q7, q8, q9, q10, q11⟩ := HK.out w' hw'; go_simp) ?_; go_simp; go_big_quiet_on
                go_big_quiet_want; refine l_val (.int .i64 i) (fun w' hw' => by go_simp) ?_; go_simp; go_big_quiet_on
                go_big_quiet_want; refine l_val (.int .i64 j) (fun w' hw' => by go_simp) ?_; go_simp; go_big_quiet_on
                go_big_quiet_want; refine l_val (.pointer (some ⟨b, off + j * 5, none⟩)) (fun w' hw' => by go_simp) ?_; go_simp; go_big_quiet_on
                go_big_quiet_want; refine l_val (.agg #[.int .i64 y0, .int .i64 y1, .int .i64 y2, .int .i64 y3, .int .i64 y4]) (fun w' hw' => by obtain ⟨q0, q1, q2, q3, q4, q5, q6, q7, q8, q9, q10, q11⟩ := HK.out w' hw'; go_simp) ?_; go_simp; go_big_quiet_on
                go_big_quiet_want; refine l_val (.agg #[.int .i64 x0, .int .i64 x1, .int .i64 x2, .int .i64 x3, .int .i64 x4]) (fun w' hw' => by obtain ⟨q0, q1, q2, q3, q4, q5, q6, q7, q8, q9, q10, q11⟩ := HK.out w' hw'; go_simp) ?_; go_simp; go_big_quiet_on
                go_big_quiet_want; refine l_call (.int .i64 o) _ #[.agg #[.int .i64 y0, .int .i64 y1, .int .i64 y2, .int .i64 y3, .int .i64 y4], .agg #[.int .i64 x0, .int .i64 x1, .int .i64 x2, .int .i64 x3, .int .i64 x4]] (fun w' => by go_simp) (fun w' hw' => PL.out w' hw') ?_; go_simp; go_big_quiet_on
                go_big_quiet_want; refine l_val (.bool false) (fun w' hw' => by go_simp) ?_; go_simp; go_big_quiet_on
                go_big_quiet_want; refine l_val (.bool false) (fun w' hw' => by go_simp) ?_; go_simp; go_big_quiet_on
                go_big_quiet_want; refine l_val (.bool false) (fun w' hw' => by go_simp) ?_; go_simp; go_big_quiet_on
                go_big_quiet_want; refine l_val (.pointer (some ⟨h, 0, none⟩)) (fun w' hw' => by go_simp) ?_; go_simp; go_big_quiet_on
                go_big_quiet_want; refine l_val (.slice fo F.length ac) (fun w' hw' => by obtain ⟨q0, q1, q2, q3, q4, q5, q6, q7, q8, q9, q10, q11⟩ := HK.out w' hw'; go_simp) ?_; go_simp; go_big_quiet_on
                go_big_quiet_want; refine l_val (.agg #[.int .i64 x0, .int .i64 x1, .int .i64 x2, .int .i64 x3, .int .i64 x4]) (fun w' hw' => by obtain ⟨q0, q1, q2, q3, q4, q5, q6, q7, q8, q9, q10, q11⟩ := HK.out w' hw'; go_simp) ?_; go_simp; go_big_quiet_on
                go_big_quiet_want; refine l_call (.bool false) _ #[.slice fo F.length ac, .agg #[.int .i64 x0, .int .i64 x1, .int .i64 x2, .int .i64 x3, .int .i64 x4]] (fun w' => by go_simp) (fun w' hw' => GO.out w' hw') ?_; go_simp; go_big_quiet_on
                go_big_quiet_want; refine l_val (.bool true) (fun w' hw' => by go_simp) ?_; go_simp; go_big_quiet_on
                go_big_quiet_want; refine l_val (.bool true) (fun w' hw' => by go_simp) ?_; go_simp; go_big_quiet_on
                refine wpQuiet_nil ?_
                intro w' hw'
                have hw2 := Lib.hid hw'
                clear hw'
                go_wp2_with fail
                go_ret
                exact ⟨by rw [fcode_no hno.out]; rfl, hF'.out.then (hfwa.out.then hw2.out)⟩
              | true =>
                rw [hg] at GO0
                have GO := Lib.hid GO0
                have hgood2 := Lib.hid (show GoodP F P (i + 1) from fun k hk => by
                  by_cases hk2 : k < i
                  · exact hgood'.out k hk2
                  · have hk0 : k = i := by omega
                    subst hk0
                    refine ⟨by rw [hx'.out]; exact hg, fun j2 hj2 => ?_⟩
                    have : j2 = j := by have := hj'.out; omega
                    subst this
                    rw [hx'.out, hy'.out]
                    exact hq'.out)
                have hpl := gw_place hg
                clear GO0 hg
                have HK := Lib.hid (show ∀ w2, Far (fun _ => False) wa w2 → w2.cell? ⟨h, 0, none⟩ = some (.slice fo F.length ac) ∧ w2.cell? ⟨h, 1, none⟩ = some (.slice (some ⟨b, off, none⟩) P.length pc) ∧ w2.cell? ⟨ax, 0, none⟩ = some (.int .i64 x0) ∧ w2.cell? ⟨ax, 1, none⟩ = some (.int .i64 x1) ∧ w2.cell? ⟨ax, 2, none⟩ = some (.int .i64 x2) ∧ w2.cell? ⟨ax, 3, none⟩ = some (.int .i64 x3) ∧ w2.cell? ⟨ax, 4, none⟩ = some (.int .i64 x4) ∧ w2.cell? ⟨b, off + j * 5, none⟩ = some (.int .i64 y0) ∧ w2.cell? ⟨b, off + j * 5 + 1, none⟩ = some (.int .i64 y1) ∧ w2.cell? ⟨b, off + j * 5 + 2, none⟩ = some (.int .i64 y2) ∧ w2.cell? ⟨b, off + j * 5 + 3, none⟩ = some (.int .i64 y3) ∧ w2.cell? ⟨b, off + j * 5 + 4, none⟩ = some (.int .i64 y4) from fun w2 h => ⟨(h.cell hlh).trans a0, (h.cell hlh).trans a1, (h.cell hlx).trans c0, (h.cell hlx).trans c1, (h.cell hlx).trans c2, (h.cell hlx).trans c3, (h.cell hlx).trans c4, (h.cell hbl).trans e0, (h.cell hbl).trans ey1, (h.cell hbl).trans e2, (h.cell hbl).trans e3, (h.cell hbl).trans e4⟩)
                refine quiet_far (by kernel_rfl) (by kernel_rfl) ?_
                go_big_quiet_want; refine l_val (.int .i64 i) (fun w' hw' => by go_simp) ?_; go_simp; go_big_quiet_on
                go_big_quiet_want; refine l_val (.bool true) (fun w' hw' => by go_simp) ?_; go_simp; go_big_quiet_on
                go_big_quiet_want; refine l_val (.bool true) (fun w' hw' => by go_simp) ?_; go_simp; go_big_quiet_on
                go_big_quiet_want; refine l_val (.pointer (some ⟨h, 1, none⟩)) (fun w' hw' => by go_simp) ?_; go_simp; go_big_quiet_on
                go_big_quiet_want; refine l_val (.slice (some ⟨b, off, none⟩) P.length pc) (fun w' hw' => by obtain ⟨q0, q1, q2, q3, q4, q5, q6, q7, q8, q9, q10, q11⟩ := HK.out w' hw'; go_simp) ?_; go_simp; go_big_quiet_on
                go_big_quiet_want; refine l_val (.int .i64 i) (fun w' hw' => by go_simp) ?_; go_simp; go_big_quiet_on
                go_big_quiet_want; refine l_val (.int .i64 j) (fun w' hw' => by go_simp) ?_; go_simp; go_big_quiet_on
                go_big_quiet_want; refine l_val (.pointer (some ⟨b, off + j * 5, none⟩)) (fun w' hw' => by go_simp) ?_; go_simp; go_big_quiet_on
                go_big_quiet_want; refine l_val (.agg #[.int .i64 y0, .int .i64 y1, .int .i64 y2, .int .i64 y3, .int .i64 y4]) (fun w' hw' => by obtain ⟨q0, q1, q2, q3, q4, q5, q6, q7, q8, q9, q10, q11⟩ := HK.out w' hw'; go_simp) ?_; go_simp; go_big_quiet_on
                go_big_quiet_want; refine l_val (.agg #[.int .i64 x0, .int .i64 x1, .int .i64 x2, .int .i64 x3, .int .i64 x4]) (fun w' hw' => by obtain ⟨q0, q1, q2, q3, q4, q5, q6, q7, q8, q9, q10, q11⟩ := HK.out w' hw'; go_simp) ?_; go_simp; go_big_quiet_on
                go_big_quiet_want; refine l_call (.int .i64 o) _ #[.agg #[.int .i64 y0, .int .i64 y1, .int .i64 y2, .int .i64 y3, .int .i64 y4], .agg #[.int .i64 x0, .int .i64 x1, .int .i64 x2, .int .i64 x3, .int .i64 x4]] (fun w' => by go_simp) (fun w' hw' => PL.out w' hw') ?_; go_simp; go_big_quiet_on
                go_big_quiet_want; refine l_val (.bool false) (fun w' hw' => by go_simp) ?_; go_simp; go_big_quiet_on
                go_big_quiet_want; refine l_val (.bool false) (fun w' hw' => by go_simp) ?_; go_simp; go_big_quiet_on
                go_big_quiet_want; refine l_val (.bool false) (fun w' hw' => by go_simp) ?_; go_simp; go_big_quiet_on
                go_big_quiet_want; refine l_val (.pointer (some ⟨h, 0, none⟩)) (fun w' hw' => by go_simp) ?_; go_simp; go_big_quiet_on
                go_big_quiet_want; refine l_val (.slice fo F.length ac) (fun w' hw' => by obtain ⟨q0, q1, q2, q3, q4, q5, q6, q7, q8, q9, q10, q11⟩ := HK.out w' hw'; go_simp) ?_; go_simp; go_big_quiet_on
                go_big_quiet_want; refine l_val (.agg #[.int .i64 x0, .int .i64 x1, .int .i64 x2, .int .i64 x3, .int .i64 x4]) (fun w' hw' => by obtain ⟨q0, q1, q2, q3, q4, q5, q6, q7, q8, q9, q10, q11⟩ := HK.out w' hw'; go_simp) ?_; go_simp; go_big_quiet_on
                go_big_quiet_want; refine l_call (.bool true) _ #[.slice fo F.length ac, .agg #[.int .i64 x0, .int .i64 x1, .int .i64 x2, .int .i64 x3, .int .i64 x4]] (fun w' => by go_simp) (fun w' hw' => GO.out w' hw') ?_; go_simp; go_big_quiet_on
                go_big_quiet_want; refine l_val (.bool false) (fun w' hw' => by go_simp) ?_; go_simp; go_big_quiet_on
                go_big_quiet_want; refine l_val (.bool false) (fun w' hw' => by go_simp) ?_; go_simp; go_big_quiet_on
                refine wpQuiet_nil ?_
                intro w' hw'
                have hw2 := Lib.hid hw'
                clear hw'
                obtain ⟨k0, hk0⟩ : ∃ k : Nat, x0 = k := ⟨x0.toNat, by omega⟩
                have hk0n : k0 < F.length := by omega
                have i0 : (k0 : Int) < (F.length : Int) := by omega
                have hXw := hX'.out.far' hw2.out id
                have hIw : IRow w' kM F.length (fun s => ((ofSpot (P.take i) (s : Int)).length : Int)) := Bk.far' (Bk.far' hI'.out hfa'.out id) hw2.out id
                have r0 : w'.cell? ⟨ax, 0, none⟩ = some (.int .i64 (k0 : Int)) := by rw [← hk0]; exact hXw.cell 0
                have hcl : (ofSpot (P.take i) (k0 : Int)).length ≤ P.length := Nat.le_trans (ofSpot_len _ _) (by rw [List.length_take]; omega)
                have hIat := hIw.at hk0n
                have hput := IRow.put hIw k0 (((ofSpot (P.take i) (k0 : Int)).length : Int) + 1)
                have hfun : setI (fun s : Nat => ((ofSpot (P.take i) (s : Int)).length : Int)) k0 (((ofSpot (P.take i) (k0 : Int)).length : Int) + 1) = fun s : Nat => ((ofSpot (P.take (i + 1)) (s : Int)).length : Int) := by
                  funext s
                  have hs := hcnt.out (s : Int)
                  dsimp only at hs
                  unfold setI
                  by_cases e : s = k0
                  · subst e
                    rw [if_pos rfl, hs, hk0]
                    simp
                  · rw [if_neg e, hs]
                    have : (x0 == (s : Int)) = false := by simp; omega
                    simp [this]
                rw [hfun] at hput
                generalize (ofSpot (P.take i) (k0 : Int)).length = cn at *
                have fK : w'.frozen? ⟨kM, k0, none⟩ = false := Bk.free hIw k0
                have hwc : IntKind.i64.wrap ((cn : Int) + 1) = (cn : Int) + 1 := wrap_in (by omega)
                have hput' := Lib.hid hput
                have hFs := Lib.hid (((hfv'.out.trans hfa'.out (fun _ _ h => h.elim)).trans hw2.out (fun _ _ h => h.elim)).set ⟨kM, k0, none⟩ (.int .i64 ((cn : Int) + 1)) (fun _ => rfl))
                clear hk0 hXw hIw hput hfun hpl
                go_wp2_with fail
                go_roundw
                case rel => exact ⟨i + 1, by go_num, by omega, hgood2.out, hput'.out, hFs.out⟩
                case measure => simp [intOf]; omega
        · have e1 : decide ((i : Int) < (P.length : Int)) = false := by rw [decide_eq_false_iff_not]; omega
          have hin : i = P.length := by omega
          have hcn : ∀ k, k < F.length → wr.cell? ⟨kM, k, none⟩ = some (.int .i64 ((ofSpot P (k : Int)).length : Int)) := fun k hk => by
            have := hI.at hk
            rw [hin, List.take_length] at this
            exact this
          have CN := contains0_any kM F.length F.length (fun k => ((ofSpot P (k : Int)).length : Int)) wr (by unfold maxLen; omega) hcn
          have hGood := Lib.hid (show GoodP F P P.length from hin ▸ hgood)
          have hfw' := Lib.hid hfw
          clear hgood hi hAr hin hI hfv hfw hcn a0 a1
          go_wp2_with fail
          refine CN.mono ?_
          rintro e w2 ⟨q, rfl, hq, rfl⟩
          clear CN
          cases q with
          | true =>
            have hno := Lib.hid (show ¬ CkOK F P from fun hc => by
              obtain ⟨k, hk, h0⟩ := hq.1 rfl
              exact hc.2.2 k hk (List.eq_nil_of_length_eq_zero (by omega)))
            clear hq
            go_wp2_with fail
            go_ret
            exact ⟨by rw [fcode_no hno.out]; rfl, hF'.out.then hfw'.out⟩
          | false =>
            have hyes := Lib.hid (show CkOK F P from ⟨hRise.out, hGood.out, fun k hk h0 => by
              have := hq.2 ⟨k, hk, by rw [h0]; rfl⟩
              cases this⟩)
            clear hq
            go_wp2_with fail
            go_ret
            exact ⟨by rw [fcode_yes hyes.out]; rfl, hF'.out.then hfw'.out⟩
end
end Go.Proofs.YteoglnbmmgoibaaGreatDoor
