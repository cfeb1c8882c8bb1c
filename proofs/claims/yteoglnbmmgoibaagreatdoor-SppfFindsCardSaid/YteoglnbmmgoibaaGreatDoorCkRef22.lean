/-
  May a forest be: the document's word.
-/
import Derived.Test.YteoglnbmmgoibaaGreatDoorMayBe22
import Derived.Test.YteoglnbmmgoibaaGreatDoorHead22
namespace Go.Proofs.YteoglnbmmgoibaaGreatDoor
open Go.RowKit
set_option linter.unusedVariables false
set_option linter.unusedSimpArgs false
def fa (F : List Fc) (k : Nat) : Fc := F.getD k (0, 0, 0)
def pk (P : List Pk) (k : Nat) : Pk := P.getD k (0, 0, 0, 0, 0)
def fl (x y : Fc) : Bool := less3 x.1 x.2.1 x.2.2 y.1 y.2.1 y.2.2
def plt (x y : Pk) : Bool := less3 x.1 x.2.1 x.2.2.1 y.1 y.2.1 y.2.2.1
def gw (F : List Fc) (x : Pk) : Bool := goesB F x.1 x.2.1 x.2.2.1 x.2.2.2.1 x.2.2.2.2
def RiseF (F : List Fc) (n : Nat) : Prop := ∀ k, k + 1 < n → fl (fa F k) (fa F (k + 1)) = true
def GoodP (F : List Fc) (P : List Pk) (n : Nat) : Prop := ∀ k, k < n → gw F (pk P k) = true ∧ ∀ j, k = j + 1 → plt (pk P j) (pk P k) = true
def FullS (P : List Pk) (n : Nat) : Prop := ∀ k : Nat, k < n → ofSpot P (k : Int) ≠ []
def CkOK (F : List Fc) (P : List Pk) : Prop := RiseF F F.length ∧ GoodP F P P.length ∧ FullS P F.length
noncomputable def fcode (p : Prop) : Int := open Classical in if p then 0 else 320
theorem fcode_yes {p : Prop} (h : p) : fcode p = 0 := if_pos h
theorem fcode_no {p : Prop} (h : ¬ p) : fcode p = 320 := if_neg h
theorem fa_get {F : List Fc} {k : Nat} (h : k < F.length) : F[k]? = some (fa F k) := by simp [fa, List.getD, List.getElem?_eq_getElem h]
theorem pk_get {P : List Pk} {k : Nat} (h : k < P.length) : P[k]? = some (pk P k) := by simp [pk, List.getD, List.getElem?_eq_getElem h]
section
set_option maxHeartbeats 8000000
set_option maxRecDepth 100000
theorem rforest_any (v pv : Value) (F : List Fc) (P : List Pk) (w : World) (hP : Facts w v F) (hQ : Packs w pv P) (hs : F.length * 24 ≤ 140737488351232) (hs2 : P.length * 40 ≤ 140737488351232) :
    Calls Tryz.prog 8 #[.agg #[v, pv]] w fun e w' => e = .returned (.int .i64 (fcode (CkOK F P))) ∧ Far (fun _ => False) w w' := by
  obtain ⟨h, hh⟩ : ∃ h, h = w.heap.size := ⟨_, rfl⟩
  obtain ⟨fo, ac, rfl⟩ := Src.form hP
  obtain ⟨po, pc, rfl⟩ := Src.form hQ
  obtain ⟨W, hW⟩ : ∃ W, W = w.alloc (.cells #[.slice fo F.length ac, .slice po P.length pc] 25) := ⟨_, rfl⟩
  have hA : Bk W h 25 #[.slice fo F.length ac, .slice po P.length pc] := hW ▸ Bk.new hh
  have hF : Far (fun _ => False) w W := hW ▸ (Far.refl _ w).alloc _
  have hPF := Lib.hid (hP.move hF)
  have hPP := Lib.hid (hQ.move hF)
  have hlF : F.length ≤ 5864062014805 := by omega
  have hlP : P.length ≤ 3518437208783 := by omega
  have hs2' := Lib.hid hs2
  have hh' := Lib.hid hh
  have hW' := Lib.hid hW
  have hA' := Lib.hid hA
  have hF' := Lib.hid hF
  clear hP hQ hh hW hA hF hs hs2
  go_enter Tryz.func8, Tryz.ntmps8
  go_upto_region 1 with fail
  rw [← hh'.out, ← hW'.out]
  go_wp2_with fail
  go_loopw [3] (fun iv wr => ∃ i : Nat, iv = .int .i64 i ∧ 1 ≤ i ∧ (F.length = 0 ∨ i ≤ F.length) ∧ RiseF F i ∧ Far (fun _ => False) W wr) (fun iv _ => F.length - (intOf iv).toNat)
  case atStart => exact ⟨1, rfl, Nat.le_refl _, by omega, fun k hk => by omega, Far.refl _ _⟩
  case round =>
    obtain ⟨i, rfl, hi1, hi, hgood, hfw⟩ := hrel
    have hAr := hA'.out.far' hfw id
    have a0 : wr.cell? ⟨h, 0, none⟩ = some (.slice fo F.length ac) := hAr.cell 0
    have a1 : wr.cell? ⟨h, 1, none⟩ = some (.slice po P.length pc) := hAr.cell 1
    have hlh := hAr.lt
    have hfw' := Lib.hid hfw
    have hgood' := Lib.hid hgood
    by_cases hlt : i < F.length
    · have e1 : decide ((i : Int) < (F.length : Int)) = true := by rw [decide_eq_true_eq]; omega
      have hii : (i : Int) < (F.length : Int) := by omega
      obtain ⟨j, hj⟩ : ∃ j, i = j + 1 := ⟨i - 1, by omega⟩
      have hjj : (j : Int) < (F.length : Int) := by omega
      have hwj : IntKind.i64.wrap ((i : Int) - 1) = (j : Int) := by rw [show ((i : Int) - 1) = (j : Int) by omega]; exact wrap_in (by omega)
      have hwj2 : IntKind.i64.wrap (j : Int) = (j : Int) := wrap_in (by omega)
      obtain ⟨b, off, c, he, hbl, c0, c1, c2⟩ := (hPF.out.move hfw).fact (fa_get hlt)
      obtain ⟨b', off', c', he', _, e0, e1', e2⟩ := (hPF.out.move hfw).fact (fa_get (show j < F.length by omega))
      rw [he] at he'
      simp only [Value.slice.injEq, Option.some.injEq, Addr.mk.injEq] at he he'
      obtain ⟨rfl, _, rfl⟩ := he
      obtain ⟨⟨rfl, rfl, _⟩, _, rfl⟩ := he'
      have hfl : ∀ q, fl (fa F j) (fa F i) = q → less3 (fa F j).1 (fa F j).2.1 (fa F j).2.2 (fa F i).1 (fa F i).2.1 (fa F i).2.2 = q := fun q h => h
      generalize hx : fa F i = x at *
      generalize hy : fa F j = y at *
      obtain ⟨x0, x1, x2⟩ := x
      obtain ⟨y0, y1, y2⟩ := y
      dsimp only at c0 c1 c2 e0 e1' e2
      have LE0 := fun w' (hf : Far (fun _ => False) wr w') => (fless_any y0 y1 y2 x0 x1 x2 w').mono fun e w'' (hr : e = .returned (.bool (less3 y0 y1 y2 x0 x1 x2)) ∧ Far (fun _ => False) w' w'') => (⟨hr.1, hf.then hr.2⟩ : e = .returned (.bool (less3 y0 y1 y2 x0 x1 x2)) ∧ Far (fun _ => False) wr w'')
      have hx' := Lib.hid hx
      have hy' := Lib.hid hy
      have hj' := Lib.hid hj
      have e1 := e1
      have ey1 := e1'
      clear hfw hgood hx hy hj hAr e1'
      go_upto_region 4 with fail
      cases hq : fl (y0, y1, y2) (x0, x1, x2) with
      | true =>
        rw [hfl true hq] at LE0
        have LE := Lib.hid LE0
        have hq' := Lib.hid hq
        clear LE0 hq hfl
        have HK := Lib.hid (show ∀ w2, Far (fun _ => False) wr w2 → w2.cell? ⟨h, 0, none⟩ = some (.slice (some ⟨b, off, none⟩) F.length ac) ∧ w2.cell? ⟨b, off + i * 3, none⟩ = some (.int .i64 x0) ∧ w2.cell? ⟨b, off + i * 3 + 1, none⟩ = some (.int .i64 x1) ∧ w2.cell? ⟨b, off + i * 3 + 2, none⟩ = some (.int .i64 x2) ∧ w2.cell? ⟨b, off + j * 3, none⟩ = some (.int .i64 y0) ∧ w2.cell? ⟨b, off + j * 3 + 1, none⟩ = some (.int .i64 y1) ∧ w2.cell? ⟨b, off + j * 3 + 2, none⟩ = some (.int .i64 y2) from fun w2 h => ⟨(h.cell hlh).trans a0, (h.cell hbl).trans c0, (h.cell hbl).trans c1, (h.cell hbl).trans c2, (h.cell hbl).trans e0, (h.cell hbl).trans ey1, (h.cell hbl).trans e2⟩)
        refine quiet_far (by kernel_rfl) (by kernel_rfl) ?_
        go_big_quiet_want; refine l_val (.pointer (some ⟨h, 0, none⟩)) (fun w' hw' => by go_simp) ?_; go_simp; go_big_quiet_on
        go_big_quiet_want; refine l_val (.slice (some ⟨b, off, none⟩) F.length ac) (fun w' hw' => by obtain ⟨q0, q1, q2, q3, q4, q5, q6⟩ := HK.out w' hw'; go_simp) ?_; go_simp; go_big_quiet_on
        go_big_quiet_want; refine l_val (.int .i64 i) (fun w' hw' => by go_simp) ?_; go_simp; go_big_quiet_on
        go_big_quiet_want; refine l_val (.int .i64 j) (fun w' hw' => by go_simp) ?_; go_simp; go_big_quiet_on
        go_big_quiet_want; refine l_val (.pointer (some ⟨b, off + j * 3, none⟩)) (fun w' hw' => by go_simp) ?_; go_simp; go_big_quiet_on
        go_big_quiet_want; refine l_val (.agg #[.int .i64 y0, .int .i64 y1, .int .i64 y2]) (fun w' hw' => by obtain ⟨q0, q1, q2, q3, q4, q5, q6⟩ := HK.out w' hw'; go_simp) ?_; go_simp; go_big_quiet_on
        go_big_quiet_want; refine l_val (.pointer (some ⟨h, 0, none⟩)) (fun w' hw' => by go_simp) ?_; go_simp; go_big_quiet_on
        go_big_quiet_want; refine l_val (.slice (some ⟨b, off, none⟩) F.length ac) (fun w' hw' => by obtain ⟨q0, q1, q2, q3, q4, q5, q6⟩ := HK.out w' hw'; go_simp) ?_; go_simp; go_big_quiet_on
        go_big_quiet_want; refine l_val (.int .i64 i) (fun w' hw' => by go_simp) ?_; go_simp; go_big_quiet_on
        go_big_quiet_want; refine l_val (.pointer (some ⟨b, off + i * 3, none⟩)) (fun w' hw' => by go_simp) ?_; go_simp; go_big_quiet_on
        go_big_quiet_want; refine l_val (.agg #[.int .i64 x0, .int .i64 x1, .int .i64 x2]) (fun w' hw' => by obtain ⟨q0, q1, q2, q3, q4, q5, q6⟩ := HK.out w' hw'; go_simp) ?_; go_simp; go_big_quiet_on
        go_big_quiet_want; refine l_call (.bool true) _ #[.agg #[.int .i64 y0, .int .i64 y1, .int .i64 y2], .agg #[.int .i64 x0, .int .i64 x1, .int .i64 x2]] (fun w' => by go_simp) (fun w' hw' => LE.out w' hw') ?_; go_simp; go_big_quiet_on
        go_big_quiet_want; refine l_val (.bool false) (fun w' hw' => by go_simp) ?_; go_simp; go_big_quiet_on
        refine wpQuiet_nil ?_
        intro w' hw'
        have hw2 := Lib.hid hw'
        clear hw'
        go_wp2_with fail
        go_roundw
        case rel => exact ⟨i + 1, by go_num, by omega, by omega, fun k hk => (by
          by_cases hk2 : k + 1 < i
          · exact hgood'.out k hk2
          · have hkj : k = j := by have := hj'.out; omega
            subst hkj
            rw [← hj'.out, hx'.out, hy'.out]
            exact hq'.out), hfw'.out.then hw2.out⟩
        case measure => simp [intOf]; omega
      | false =>
        rw [hfl false hq] at LE0
        have LE := Lib.hid LE0
        have hno := Lib.hid (show ¬ CkOK F P from fun hc => by
          have := hc.1 j (by have := hj'.out; omega)
          rw [← hj'.out, hx'.out, hy'.out, hq] at this
          cases this)
        clear LE0 hq hfl
        have HK := Lib.hid (show ∀ w2, Far (fun _ => False) wr w2 → w2.cell? ⟨h, 0, none⟩ = some (.slice (some ⟨b, off, none⟩) F.length ac) ∧ w2.cell? ⟨b, off + i * 3, none⟩ = some (.int .i64 x0) ∧ w2.cell? ⟨b, off + i * 3 + 1, none⟩ = some (.int .i64 x1) ∧ w2.cell? ⟨b, off + i * 3 + 2, none⟩ = some (.int .i64 x2) ∧ w2.cell? ⟨b, off + j * 3, none⟩ = some (.int .i64 y0) ∧ w2.cell? ⟨b, off + j * 3 + 1, none⟩ = some (.int .i64 y1) ∧ w2.cell? ⟨b, off + j * 3 + 2, none⟩ = some (.int .i64 y2) from fun w2 h => ⟨(h.cell hlh).trans a0, (h.cell hbl).trans c0, (h.cell hbl).trans c1, (h.cell hbl).trans c2, (h.cell hbl).trans e0, (h.cell hbl).trans ey1, (h.cell hbl).trans e2⟩)
        refine quiet_far (by kernel_rfl) (by kernel_rfl) ?_
        go_big_quiet_want; refine l_val (.pointer (some ⟨h, 0, none⟩)) (fun w' hw' => by go_simp) ?_; go_simp; go_big_quiet_on
        go_big_quiet_want; refine l_val (.slice (some ⟨b, off, none⟩) F.length ac) (fun w' hw' => by obtain ⟨q0, q1, q2, q3, q4, q5, q6⟩ := HK.out w' hw'; go_simp) ?_; go_simp; go_big_quiet_on
        go_big_quiet_want; refine l_val (.int .i64 i) (fun w' hw' => by go_simp) ?_; go_simp; go_big_quiet_on
        go_big_quiet_want; refine l_val (.int .i64 j) (fun w' hw' => by go_simp) ?_; go_simp; go_big_quiet_on
        go_big_quiet_want; refine l_val (.pointer (some ⟨b, off + j * 3, none⟩)) (fun w' hw' => by go_simp) ?_; go_simp; go_big_quiet_on
        go_big_quiet_want; refine l_val (.agg #[.int .i64 y0, .int .i64 y1, .int .i64 y2]) (fun w' hw' => by obtain ⟨q0, q1, q2, q3, q4, q5, q6⟩ := HK.out w' hw'; go_simp) ?_; go_simp; go_big_quiet_on
        go_big_quiet_want; refine l_val (.pointer (some ⟨h, 0, none⟩)) (fun w' hw' => by go_simp) ?_; go_simp; go_big_quiet_on
        go_big_quiet_want; refine l_val (.slice (some ⟨b, off, none⟩) F.length ac) (fun w' hw' => by obtain ⟨q0, q1, q2, q3, q4, q5, q6⟩ := HK.out w' hw'; go_simp) ?_; go_simp; go_big_quiet_on
        go_big_quiet_want; refine l_val (.int .i64 i) (fun w' hw' => by go_simp) ?_; go_simp; go_big_quiet_on
        go_big_quiet_want; refine l_val (.pointer (some ⟨b, off + i * 3, none⟩)) (fun w' hw' => by go_simp) ?_; go_simp; go_big_quiet_on
        go_big_quiet_want; refine l_val (.agg #[.int .i64 x0, .int .i64 x1, .int .i64 x2]) (fun w' hw' => by obtain ⟨q0, q1, q2, q3, q4, q5, q6⟩ := HK.out w' hw'; go_simp) ?_; go_simp; go_big_quiet_on
        go_big_quiet_want; refine l_call (.bool false) _ #[.agg #[.int .i64 y0, .int .i64 y1, .int .i64 y2], .agg #[.int .i64 x0, .int .i64 x1, .int .i64 x2]] (fun w' => by go_simp) (fun w' hw' => LE.out w' hw') ?_; go_simp; go_big_quiet_on
        go_big_quiet_want; refine l_val (.bool true) (fun w' hw' => by go_simp) ?_; go_simp; go_big_quiet_on
        refine wpQuiet_nil ?_
        intro w' hw'
        have hw2 := Lib.hid hw'
        clear hw'
        go_wp2_with fail
        go_ret
        exact ⟨by rw [fcode_no hno.out]; rfl, hF'.out.then (hfw'.out.then hw2.out)⟩
    · have e1 : decide ((i : Int) < (F.length : Int)) = false := by rw [decide_eq_false_iff_not]; omega
      have hRise := Lib.hid (show RiseF F F.length from fun k hk => hgood k (by omega))
      clear hgood hi hi1 hAr
      go_wp2_with fail
      clear a0 a1 hlh e1 hlt
      go_loopw [4] (fun iv wr => ∃ i : Nat, iv = .int .i64 i ∧ i ≤ P.length ∧ GoodP F P i ∧ Far (fun _ => False) W wr) (fun iv _ => P.length - (intOf iv).toNat)
      case atStart => exact ⟨0, rfl, Nat.zero_le _, fun k hk => absurd hk (Nat.not_lt_zero _), hfw⟩
      case round =>
        clear hfw hfw' hgood'
        obtain ⟨i, rfl, hi, hgood, hfw⟩ := hrel
        have hAr := hA'.out.far' hfw id
        have a0 : wr.cell? ⟨h, 0, none⟩ = some (.slice fo F.length ac) := hAr.cell 0
        have a1 : wr.cell? ⟨h, 1, none⟩ = some (.slice po P.length pc) := hAr.cell 1
        have hlh := hAr.lt
        have hfw' := Lib.hid hfw
        have hgood' := Lib.hid hgood
        by_cases hlt : i < P.length
        · have e1 : decide ((i : Int) < (P.length : Int)) = true := by rw [decide_eq_true_eq]; omega
          have hii : (i : Int) < (P.length : Int) := by omega
          obtain ⟨b, off, c, he, hbl, c0, c1, c2, c3, c4⟩ := (hPP.out.move hfw).pack (pk_get hlt)
          have hPy : ∀ j, j < P.length → ∃ b' off' c', Value.slice po P.length pc = .slice (some ⟨b', off', none⟩) P.length c' ∧ b' < wr.heap.size ∧ wr.cell? ⟨b', off' + j * 5, none⟩ = some (.int .i64 (pk P j).1) ∧ wr.cell? ⟨b', off' + j * 5 + 1, none⟩ = some (.int .i64 (pk P j).2.1) ∧ wr.cell? ⟨b', off' + j * 5 + 2, none⟩ = some (.int .i64 (pk P j).2.2.1) ∧ wr.cell? ⟨b', off' + j * 5 + 3, none⟩ = some (.int .i64 (pk P j).2.2.2.1) ∧ wr.cell? ⟨b', off' + j * 5 + 4, none⟩ = some (.int .i64 (pk P j).2.2.2.2) := fun j hj => (hPP.out.move hfw).pack (pk_get hj)
          have hgw : ∀ q, gw F (pk P i) = q → goesB F (pk P i).1 (pk P i).2.1 (pk P i).2.2.1 (pk P i).2.2.2.1 (pk P i).2.2.2.2 = q := fun q h => h
          have hpl : ∀ (y : Pk) q, plt y (pk P i) = q → less3 y.1 y.2.1 y.2.2.1 (pk P i).1 (pk P i).2.1 (pk P i).2.2.1 = q := fun y q h => h
          simp only [Value.slice.injEq] at he
          obtain ⟨rfl, _, rfl⟩ := he
          generalize hx : pk P i = x at *
          obtain ⟨x0, x1, x2, x3, x4⟩ := x
          dsimp only at c0 c1 c2 c3 c4
          have GO0 := fun w' (hf : Far (fun _ => False) wr w') => (goes_any (.slice (some ⟨b, off, none⟩) P.length pc) (.slice fo F.length ac) F x0 x1 x2 x3 x4 w' (hPF.out.move (hfw'.out.then hf)) ⟨_, _, _, rfl⟩ hlF).mono fun e w'' (hr : e = .returned (.bool (goesB F x0 x1 x2 x3 x4)) ∧ Far (fun _ => False) w' w'') => (⟨hr.1, hf.then hr.2⟩ : e = .returned (.bool (goesB F x0 x1 x2 x3 x4)) ∧ Far (fun _ => False) wr w'')
          have hx' := Lib.hid hx
          clear hx hfw hgood hAr
          cases hg : gw F (x0, x1, x2, x3, x4) with
          | false =>
            rw [hgw false hg] at GO0
            have GO := Lib.hid GO0
            have hno := Lib.hid (show ¬ CkOK F P from fun hc => by
              have := (hc.2.1 i hlt).1
              rw [hx'.out, hg] at this
              cases this)
            clear GO0 hg hgw hpl hPy
            go_upto_region 9 with fail
            have HK := Lib.hid (show ∀ w2, Far (fun _ => False) wr w2 → w2.cell? ⟨h, 0, none⟩ = some (.slice fo F.length ac) ∧ w2.cell? ⟨h, 1, none⟩ = some (.slice (some ⟨b, off, none⟩) P.length pc) ∧ w2.cell? ⟨b, off + i * 5, none⟩ = some (.int .i64 x0) ∧ w2.cell? ⟨b, off + i * 5 + 1, none⟩ = some (.int .i64 x1) ∧ w2.cell? ⟨b, off + i * 5 + 2, none⟩ = some (.int .i64 x2) ∧ w2.cell? ⟨b, off + i * 5 + 3, none⟩ = some (.int .i64 x3) ∧ w2.cell? ⟨b, off + i * 5 + 4, none⟩ = some (.int .i64 x4) from fun w2 h => ⟨(h.cell hlh).trans a0, (h.cell hlh).trans a1, (h.cell hbl).trans c0, (h.cell hbl).trans c1, (h.cell hbl).trans c2, (h.cell hbl).trans c3, (h.cell hbl).trans c4⟩)
            refine quiet_far (by kernel_rfl) (by kernel_rfl) ?_
            go_big_quiet_want; refine l_val (.agg #[.slice fo F.length ac, .slice (some ⟨b, off, none⟩) P.length pc]) (fun w' hw' => by obtain ⟨q0, q1, q2, q3, q4, q5, q6⟩ := HK.out w' hw'; go_simp) ?_; go_simp; go_big_quiet_on
            go_big_quiet_want; refine l_val (.pointer (some ⟨h, 1, none⟩)) (fun w' hw' => by go_simp) ?_; go_simp; go_big_quiet_on
            go_big_quiet_want; refine l_val (.slice (some ⟨b, off, none⟩) P.length pc) (fun w' hw' => by obtain ⟨q0, q1, q2, q3, q4, q5, q6⟩ := HK.out w' hw'; go_simp) ?_; go_simp; go_big_quiet_on
            go_big_quiet_want; refine l_val (.int .i64 i) (fun w' hw' => by go_simp) ?_; go_simp; go_big_quiet_on
            go_big_quiet_want; refine l_val (.pointer (some ⟨b, off + i * 5, none⟩)) (fun w' hw' => by go_simp) ?_; go_simp; go_big_quiet_on
            go_big_quiet_want; refine l_val (.agg #[.int .i64 x0, .int .i64 x1, .int .i64 x2, .int .i64 x3, .int .i64 x4]) (fun w' hw' => by obtain ⟨q0, q1, q2, q3, q4, q5, q6⟩ := HK.out w' hw'; go_simp) ?_; go_simp; go_big_quiet_on
            go_big_quiet_want; refine l_call (.bool false) _ #[.agg #[.slice fo F.length ac, .slice (some ⟨b, off, none⟩) P.length pc], .agg #[.int .i64 x0, .int .i64 x1, .int .i64 x2, .int .i64 x3, .int .i64 x4]] (fun w' => by go_simp) (fun w' hw' => GO.out w' hw') ?_; go_simp; go_big_quiet_on
            go_big_quiet_want; refine l_val (.bool true) (fun w' hw' => by go_simp) ?_; go_simp; go_big_quiet_on
            go_big_quiet_want; refine l_val (.bool true) (fun w' hw' => by go_simp) ?_; go_simp; go_big_quiet_on
            go_big_quiet_skip
            go_big_quiet_skip
            go_big_quiet_skip
            go_big_quiet_skip
            go_big_quiet_skip
            go_big_quiet_skip
            go_big_quiet_skip
            go_big_quiet_skip
            go_big_quiet_skip
            go_big_quiet_skip
            go_big_quiet_skip
            go_big_quiet_skip
            go_big_quiet_skip
            go_big_quiet_skip
            go_big_quiet_skip
            go_big_quiet_skip
            go_big_quiet_skip
            go_big_quiet_want; refine l_val (.bool true) (fun w' hw' => by go_simp) ?_; go_simp; go_big_quiet_on
            refine wpQuiet_nil ?_
            intro w' hw'
            have hw2 := Lib.hid hw'
            clear hw'
            go_wp2_with fail
            go_ret
            exact ⟨by rw [fcode_no hno.out]; rfl, hF'.out.then (hfw'.out.then hw2.out)⟩
          | true =>
            rw [hgw true hg] at GO0
            have GO := Lib.hid GO0
            have hg' := Lib.hid hg
            clear GO0 hg hgw
            by_cases hi0 : i = 0
            · have g0 : decide ((i : Int) > 0) = false := decide_eq_false (by omega)
              have g1 : decide ((0 : Int) < (i : Int)) = false := decide_eq_false (by omega)
              have g2 : decide (0 < i) = false := decide_eq_false (by omega)
              have hi0' := Lib.hid hi0
              clear hpl hPy hi0
              go_upto_region 9 with fail
              have HK := Lib.hid (show ∀ w2, Far (fun _ => False) wr w2 → w2.cell? ⟨h, 0, none⟩ = some (.slice fo F.length ac) ∧ w2.cell? ⟨h, 1, none⟩ = some (.slice (some ⟨b, off, none⟩) P.length pc) ∧ w2.cell? ⟨b, off + i * 5, none⟩ = some (.int .i64 x0) ∧ w2.cell? ⟨b, off + i * 5 + 1, none⟩ = some (.int .i64 x1) ∧ w2.cell? ⟨b, off + i * 5 + 2, none⟩ = some (.int .i64 x2) ∧ w2.cell? ⟨b, off + i * 5 + 3, none⟩ = some (.int .i64 x3) ∧ w2.cell? ⟨b, off + i * 5 + 4, none⟩ = some (.int .i64 x4) from fun w2 h => ⟨(h.cell hlh).trans a0, (h.cell hlh).trans a1, (h.cell hbl).trans c0, (h.cell hbl).trans c1, (h.cell hbl).trans c2, (h.cell hbl).trans c3, (h.cell hbl).trans c4⟩)
              refine quiet_far (by kernel_rfl) (by kernel_rfl) ?_
              go_big_quiet_want; refine l_val (.agg #[.slice fo F.length ac, .slice (some ⟨b, off, none⟩) P.length pc]) (fun w' hw' => by obtain ⟨q0, q1, q2, q3, q4, q5, q6⟩ := HK.out w' hw'; go_simp) ?_; go_simp; go_big_quiet_on
              go_big_quiet_want; refine l_val (.pointer (some ⟨h, 1, none⟩)) (fun w' hw' => by go_simp) ?_; go_simp; go_big_quiet_on
              go_big_quiet_want; refine l_val (.slice (some ⟨b, off, none⟩) P.length pc) (fun w' hw' => by obtain ⟨q0, q1, q2, q3, q4, q5, q6⟩ := HK.out w' hw'; go_simp) ?_; go_simp; go_big_quiet_on
              go_big_quiet_want; refine l_val (.int .i64 i) (fun w' hw' => by go_simp) ?_; go_simp; go_big_quiet_on
              go_big_quiet_want; refine l_val (.pointer (some ⟨b, off + i * 5, none⟩)) (fun w' hw' => by go_simp) ?_; go_simp; go_big_quiet_on
              go_big_quiet_want; refine l_val (.agg #[.int .i64 x0, .int .i64 x1, .int .i64 x2, .int .i64 x3, .int .i64 x4]) (fun w' hw' => by obtain ⟨q0, q1, q2, q3, q4, q5, q6⟩ := HK.out w' hw'; go_simp) ?_; go_simp; go_big_quiet_on
              go_big_quiet_want; refine l_call (.bool true) _ #[.agg #[.slice fo F.length ac, .slice (some ⟨b, off, none⟩) P.length pc], .agg #[.int .i64 x0, .int .i64 x1, .int .i64 x2, .int .i64 x3, .int .i64 x4]] (fun w' => by go_simp) (fun w' hw' => GO.out w' hw') ?_; go_simp; go_big_quiet_on
              go_big_quiet_want; refine l_val (.bool false) (fun w' hw' => by go_simp) ?_; go_simp; go_big_quiet_on
              go_big_quiet_want; refine l_val (.bool false) (fun w' hw' => by go_simp) ?_; go_simp; go_big_quiet_on
              go_big_quiet_want; refine l_val (.int .i64 i) (fun w' hw' => by go_simp) ?_; go_simp; go_big_quiet_on
              go_big_quiet_want; refine l_val (.bool false) (fun w' hw' => by go_simp) ?_; go_simp; go_big_quiet_on
              go_big_quiet_want; refine l_val (.bool false) (fun w' hw' => by go_simp) ?_; go_simp; go_big_quiet_on
              go_big_quiet_skip
              go_big_quiet_skip
              go_big_quiet_skip
              go_big_quiet_skip
              go_big_quiet_skip
              go_big_quiet_skip
              go_big_quiet_skip
              go_big_quiet_skip
              go_big_quiet_skip
              go_big_quiet_skip
              go_big_quiet_skip
              go_big_quiet_skip
              go_big_quiet_skip
              go_big_quiet_want; refine l_val (.bool false) (fun w' hw' => by go_simp) ?_; go_simp; go_big_quiet_on
              go_big_quiet_want; refine l_val (.bool false) (fun w' hw' => by go_simp) ?_; go_simp; go_big_quiet_on
              refine wpQuiet_nil ?_
              intro w' hw'
              have hw2 := Lib.hid hw'
              clear hw'
              go_wp2_with fail
              go_roundw
              case rel => exact ⟨i + 1, by go_num, by omega, fun k hk => (by
                have hk0 : k = i := by have := hi0'.out; omega
                subst hk0
                exact ⟨by rw [hx'.out]; exact hg'.out, fun j hj => by have := hi0'.out; omega⟩), hfw'.out.then hw2.out⟩
              case measure => simp [intOf]; omega
            · have g0 : decide ((i : Int) > 0) = true := decide_eq_true (by omega)
              have g1 : decide ((0 : Int) < (i : Int)) = true := decide_eq_true (by omega)
              have g2 : decide (0 < i) = true := decide_eq_true (by omega)
              obtain ⟨j, hj⟩ : ∃ j, i = j + 1 := ⟨i - 1, by omega⟩
              have hjj : (j : Int) < (P.length : Int) := by omega
              have hwj : IntKind.i64.wrap ((i : Int) - 1) = (j : Int) := by rw [show ((i : Int) - 1) = (j : Int) by omega]; exact wrap_in (by omega)
              have hwj2 : IntKind.i64.wrap (j : Int) = (j : Int) := wrap_in (by omega)
              obtain ⟨b', off', c', he', _, e0, ey1, e2, e3, e4⟩ := hPy j (by omega)
              simp only [Value.slice.injEq, Option.some.injEq, Addr.mk.injEq] at he'
              obtain ⟨⟨rfl, rfl, _⟩, _, rfl⟩ := he'
              have hply := hpl (pk P j)
              generalize hy : pk P j = y at *
              obtain ⟨y0, y1, y2, y3, y4⟩ := y
              dsimp only at e0 ey1 e2 e3 e4
              have PL0 := fun w' (hf : Far (fun _ => False) wr w') => (pless_any y0 y1 y2 y3 y4 x0 x1 x2 x3 x4 w').mono fun e w'' (hr : e = .returned (.bool (less3 y0 y1 y2 x0 x1 x2)) ∧ Far (fun _ => False) w' w'') => (⟨hr.1, hf.then hr.2⟩ : e = .returned (.bool (less3 y0 y1 y2 x0 x1 x2)) ∧ Far (fun _ => False) wr w'')
              have hy' := Lib.hid hy
              have hj' := Lib.hid hj
              clear hy hj hpl hPy hi0
              cases hq : plt (y0, y1, y2, y3, y4) (x0, x1, x2, x3, x4) with
              | true =>
                rw [hply true hq] at PL0
                have PL := Lib.hid PL0
                have hq' := Lib.hid hq
                clear PL0 hq hply
                go_upto_region 9 with fail
                have HK := Lib.hid (show ∀ w2, Far (fun _ => False) wr w2 → w2.cell? ⟨h, 0, none⟩ = some (.slice fo F.length ac) ∧ w2.cell? ⟨h, 1, none⟩ = some (.slice (some ⟨b, off, none⟩) P.length pc) ∧ w2.cell? ⟨b, off + i * 5, none⟩ = some (.int .i64 x0) ∧ w2.cell? ⟨b, off + i * 5 + 1, none⟩ = some (.int .i64 x1) ∧ w2.cell? ⟨b, off + i * 5 + 2, none⟩ = some (.int .i64 x2) ∧ w2.cell? ⟨b, off + i * 5 + 3, none⟩ = some (.int .i64 x3) ∧ w2.cell? ⟨b, off + i * 5 + 4, none⟩ = some (.int .i64 x4) ∧ w2.cell? ⟨b, off + j * 5, none⟩ = some (.int .i64 y0) ∧ w2.cell? ⟨b, off + j * 5 + 1, none⟩ = some (.int .i64 y1) ∧ w2.cell? ⟨b, off + j * 5 + 2, none⟩ = some (.int .i64 y2) ∧ w2.cell? ⟨b, off + j * 5 + 3, none⟩ = some (.int .i64 y3) ∧ w2.cell? ⟨b, off + j * 5 + 4, none⟩ = some (.int .i64 y4) from fun w2 h => ⟨(h.cell hlh).trans a0, (h.cell hlh).trans a1, (h.cell hbl).trans c0, (h.cell hbl).trans c1, (h.cell hbl).trans c2, (h.cell hbl).trans c3, (h.cell hbl).trans c4, (h.cell hbl).trans e0, (h.cell hbl).trans ey1, (h.cell hbl).trans e2, (h.cell hbl).trans e3, (h.cell hbl).trans e4⟩)
                refine quiet_far (by kernel_rfl) (by kernel_rfl) ?_
                go_big_quiet_want; refine l_val (.agg #[.slice fo F.length ac, .slice (some ⟨b, off, none⟩) P.length pc]) (fun w' hw' => by obtain ⟨q0, q1, q2, q3, q4, q5, q6, q7, q8, q9, q10, q11⟩ := HK.out w' hw'; go_simp) ?_; go_simp; go_big_quiet_on
                go_big_quiet_want; refine l_val (.pointer (some ⟨h, 1, none⟩)) (fun w' hw' => by go_simp) ?_; go_simp; go_big_quiet_on
                go_big_quiet_want; refine l_val (.slice (some ⟨b, off, none⟩) P.length pc) (fun w' hw' => by obtain ⟨q0, q1, q2, q3, q4, q5, q6, q7, q8, q9, q10, q11⟩ := HK.out w' hw'; go_simp) ?_; go_simp; go_big_quiet_on
                go_big_quiet_want; refine l_val (.int .i64 i) (fun w' hw' => by go_simp) ?_; go_simp; go_big_quiet_on
                go_big_quiet_want; refine l_val (.pointer (some ⟨b, off + i * 5, none⟩)) (fun w' hw' => by go_simp) ?_; go_simp; go_big_quiet_on
                go_big_quiet_want; refine l_val (.agg #[.int .i64 x0, .int .i64 x1, .int .i64 x2, .int .i64 x3, .int .i64 x4]) (fun w' hw' => by obtain ⟨q0, q1, q2, q3, q4, q5, q6, q7, q8, q9, q10, q11⟩ := HK.out w' hw'; go_simp) ?_; go_simp; go_big_quiet_on
                go_big_quiet_want; refine l_call (.bool true) _ #[.agg #[.slice fo F.length ac, .slice (some ⟨b, off, none⟩) P.length pc], .agg #[.int .i64 x0, .int .i64 x1, .int .i64 x2, .int .i64 x3, .int .i64 x4]] (fun w' => by go_simp) (fun w' hw' => GO.out w' hw') ?_; go_simp; go_big_quiet_on
                go_big_quiet_want; refine l_val (.bool false) (fun w' hw' => by go_simp) ?_; go_simp; go_big_quiet_on
                go_big_quiet_want; refine l_val (.bool false) (fun w' hw' => by go_simp) ?_; go_simp; go_big_quiet_on
                go_big_quiet_want; refine l_val (.int .i64 i) (fun w' hw' => by go_simp) ?_; go_simp; go_big_quiet_on
                go_big_quiet_want; refine l_val (.bool true) (fun w' hw' => by go_simp) ?_; go_simp; go_big_quiet_on
                go_big_quiet_want; refine l_val (.bool true) (fun w' hw' => by go_simp) ?_; go_simp; go_big_quiet_on
                go_big_quiet_want; refine l_val (.pointer (some ⟨h, 1, none⟩)) (fun w' hw' => by go_simp) ?_; go_simp; go_big_quiet_on
                go_big_quiet_want; refine l_val (.slice (some ⟨b, off, none⟩) P.length pc) (fun w' hw' => by obtain ⟨q0, q1, q2, q3, q4, q5, q6, q7, q8, q9, q10, q11⟩ := HK.out w' hw'; go_simp) ?_; go_simp; go_big_quiet_on
                go_big_quiet_want; refine l_val (.int .i64 i) (fun w' hw' => by go_simp) ?_; go_simp; go_big_quiet_on
                go_big_quiet_want; refine l_val (.int .i64 j) (fun w' hw' => by go_simp) ?_; go_simp; go_big_quiet_on
                go_big_quiet_want; refine l_val (.pointer (some ⟨b, off + j * 5, none⟩)) (fun w' hw' => by go_simp) ?_; go_simp; go_big_quiet_on
                go_big_quiet_want; refine l_val (.agg #[.int .i64 y0, .int .i64 y1, .int .i64 y2, .int .i64 y3, .int .i64 y4]) (fun w' hw' => by obtain ⟨q0, q1, q2, q3, q4, q5, q6, q7, q8, q9, q10, q11⟩ := HK.out w' hw'; go_simp) ?_; go_simp; go_big_quiet_on
                go_big_quiet_want; refine l_val (.pointer (some ⟨h, 1, none⟩)) (fun w' hw' => by go_simp) ?_; go_simp; go_big_quiet_on
                go_big_quiet_want; refine l_val (.slice (some ⟨b, off, none⟩) P.length pc) (fun w' hw' => by obtain ⟨q0, q1, q2, q3, q4, q5, q6, q7, q8, q9, q10, q11⟩ := HK.out w' hw'; go_simp) ?_; go_simp; go_big_quiet_on
                go_big_quiet_want; refine l_val (.int .i64 i) (fun w' hw' => by go_simp) ?_; go_simp; go_big_quiet_on
                go_big_quiet_want; refine l_val (.pointer (some ⟨b, off + i * 5, none⟩)) (fun w' hw' => by go_simp) ?_; go_simp; go_big_quiet_on
                go_big_quiet_want; refine l_val (.agg #[.int .i64 x0, .int .i64 x1, .int .i64 x2, .int .i64 x3, .int .i64 x4]) (fun w' hw' => by obtain ⟨q0, q1, q2, q3, q4, q5, q6, q7, q8, q9, q10, q11⟩ := HK.out w' hw'; go_simp) ?_; go_simp; go_big_quiet_on
                go_big_quiet_want; refine l_call (.bool true) _ #[.agg #[.int .i64 y0, .int .i64 y1, .int .i64 y2, .int .i64 y3, .int .i64 y4], .agg #[.int .i64 x0, .int .i64 x1, .int .i64 x2, .int .i64 x3, .int .i64 x4]] (fun w' => by go_simp) (fun w' hw' => PL.out w' hw') ?_; go_simp; go_big_quiet_on
                go_big_quiet_want; refine l_val (.bool false) (fun w' hw' => by go_simp) ?_; go_simp; go_big_quiet_on
                go_big_quiet_want; refine l_val (.bool false) (fun w' hw' => by go_simp) ?_; go_simp; go_big_quiet_on
                go_big_quiet_want; refine l_val (.bool false) (fun w' hw' => by go_simp) ?_; go_simp; go_big_quiet_on
                refine wpQuiet_nil ?_
                intro w' hw'
                have hw2 := Lib.hid hw'
                clear hw'
                go_wp2_with fail
                go_roundw
                case rel => exact ⟨i + 1, by go_num, by omega, fun k hk => (by
                  by_cases hk2 : k < i
                  · exact hgood'.out k hk2
                  · have hk0 : k = i := by omega
                    subst hk0
                    refine ⟨by rw [hx'.out]; exact hg'.out, fun j2 hj2 => ?_⟩
                    have : j2 = j := by have := hj'.out; omega
                    subst this
                    rw [hx'.out, hy'.out]
                    exact hq'.out), hfw'.out.then hw2.out⟩
                case measure => simp [intOf]; omega
              | false =>
                rw [hply false hq] at PL0
                have PL := Lib.hid PL0
                have hno := Lib.hid (show ¬ CkOK F P from fun hc => by
                  have := (hc.2.1 i hlt).2 j hj'.out
                  rw [hx'.out, hy'.out, hq] at this
                  cases this)
                clear PL0 hq hply
                go_upto_region 9 with fail
                have HK := Lib.hid (show ∀ w2, Far (fun _ => False) wr w2 → w2.cell? ⟨h, 0, none⟩ = some (.slice fo F.length ac) ∧ w2.cell? ⟨h, 1, none⟩ = some (.slice (some ⟨b, off, none⟩) P.length pc) ∧ w2.cell? ⟨b, off + i * 5, none⟩ = some (.int .i64 x0) ∧ w2.cell? ⟨b, off + i * 5 + 1, none⟩ = some (.int .i64 x1) ∧ w2.cell? ⟨b, off + i * 5 + 2, none⟩ = some (.int .i64 x2) ∧ w2.cell? ⟨b, off + i * 5 + 3, none⟩ = some (.int .i64 x3) ∧ w2.cell? ⟨b, off + i * 5 + 4, none⟩ = some (.int .i64 x4) ∧ w2.cell? ⟨b, off + j * 5, none⟩ = some (.int .i64 y0) ∧ w2.cell? ⟨b, off + j * 5 + 1, none⟩ = some (.int .i64 y1) ∧ w2.cell? ⟨b, off + j * 5 + 2, none⟩ = some (.int .i64 y2) ∧ w2.cell? ⟨b, off + j * 5 + 3, none⟩ = some (.int .i64 y3) ∧ w2.cell? ⟨b, off + j * 5 + 4, none⟩ = some (.int .i64 y4) from fun w2 h => ⟨(h.cell hlh).trans a0, (h.cell hlh).trans a1, (h.cell hbl).trans c0, (h.cell hbl).trans c1, (h.cell hbl).trans c2, (h.cell hbl).trans c3, (h.cell hbl).trans c4, (h.cell hbl).trans e0, (h.cell hbl).trans ey1, (h.cell hbl).trans e2, (h.cell hbl).trans e3, (h.cell hbl).trans e4⟩)
                refine quiet_far (by kernel_rfl) (by kernel_rfl) ?_
                go_big_quiet_want; refine l_val (.agg #[.slice fo F.length ac, .slice (some ⟨b, off, none⟩) P.length pc]) (fun w' hw' => by obtain ⟨q0, q1, q2, q3, q4, q5, q6, q7, q8, q9, q10, q11⟩ := HK.out w' hw'; go_simp) ?_; go_simp; go_big_quiet_on
                go_big_quiet_want; refine l_val (.pointer (some ⟨h, 1, none⟩)) (fun w' hw' => by go_simp) ?_; go_simp; go_big_quiet_on
                go_big_quiet_want; refine l_val (.slice (some ⟨b, off, none⟩) P.length pc) (fun w' hw' => by obtain ⟨q0, q1, q2, q3, q4, q5, q6, q7, q8, q9, q10, q11⟩ := HK.out w' hw'; go_simp) ?_; go_simp; go_big_quiet_on
                go_big_quiet_want; refine l_val (.int .i64 i) (fun w' hw' => by go_simp) ?_; go_simp; go_big_quiet_on
                go_big_quiet_want; refine l_val (.pointer (some ⟨b, off + i * 5, none⟩)) (fun w' hw' => by go_simp) ?_; go_simp; go_big_quiet_on
                go_big_quiet_want; refine l_val (.agg #[.int .i64 x0, .int .i64 x1, .int .i64 x2, .int .i64 x3, .int .i64 x4]) (fun w' hw' => by obtain ⟨q0, q1, q2, q3, q4, q5, q6, q7, q8, q9, q10, q11⟩ := HK.out w' hw'; go_simp) ?_; go_simp; go_big_quiet_on
                go_big_quiet_want; refine l_call (.bool true) _ #[.agg #[.slice fo F.length ac, .slice (some ⟨b, off, none⟩) P.length pc], .agg #[.int .i64 x0, .int .i64 x1, .int .i64 x2, .int .i64 x3, .int .i64 x4]] (fun w' => by go_simp) (fun w' hw' => GO.out w' hw') ?_; go_simp; go_big_quiet_on
                go_big_quiet_want; refine l_val (.bool false) (fun w' hw' => by go_simp) ?_; go_simp; go_big_quiet_on
                go_big_quiet_want; refine l_val (.bool false) (fun w' hw' => by go_simp) ?_; go_simp; go_big_quiet_on
                go_big_quiet_want; refine l_val (.int .i64 i) (fun w' hw' => by go_simp) ?_; go_simp; go_big_quiet_on
                go_big_quiet_want; refine l_val (.bool true) (fun w' hw' => by go_simp) ?_; go_simp; go_big_quiet_on
                go_big_quiet_want; refine l_val (.bool true) (fun w' hw' => by go_simp) ?_; go_simp; go_big_quiet_on
                go_big_quiet_want; refine l_val (.pointer (some ⟨h, 1, none⟩)) (fun w' hw' => by go_simp) ?_; go_simp; go_big_quiet_on
                go_big_quiet_want; refine l_val (.slice (some ⟨b, off, none⟩) P.length pc) (fun w' hw' => by obtain ⟨q0, q1, q2, q3, q4, q5, q6, q7, q8, q9, q10, q11⟩ := HK.out w' hw'; go_simp) ?_; go_simp; go_big_quiet_on
                go_big_quiet_want; refine l_val (.int .i64 i) (fun w' hw' => by go_simp) ?_; go_simp; go_big_quiet_on
                go_big_quiet_want; refine l_val (.int .i64 j) (fun w' hw' => by go_simp) ?_; go_simp; go_big_quiet_on
                go_big_quiet_want; refine l_val (.pointer (some ⟨b, off + j * 5, none⟩)) (fun w' hw' => by go_simp) ?_; go_simp; go_big_quiet_on
                go_big_quiet_want; refine l_val (.agg #[.int .i64 y0, .int .i64 y1, .int .i64 y2, .int .i64 y3, .int .i64 y4]) (fun w' hw' => by obtain ⟨q0, q1, q2, q3, q4, q5, q6, q7, q8, q9, q10, q11⟩ := HK.out w' hw'; go_simp) ?_; go_simp; go_big_quiet_on
                go_big_quiet_want; refine l_val (.pointer (some ⟨h, 1, none⟩)) (fun w' hw' => by go_simp) ?_; go_simp; go_big_quiet_on
                go_big_quiet_want; refine l_val (.slice (some ⟨b, off, none⟩) P.length pc) (fun w' hw' => by obtain ⟨q0, q1, q2, q3, q4, q5, q6, q7, q8, q9, q10, q11⟩ := HK.out w' hw'; go_simp) ?_; go_simp; go_big_quiet_on
                go_big_quiet_want; refine l_val (.int .i64 i) (fun w' hw' => by go_simp) ?_; go_simp; go_big_quiet_on
                go_big_quiet_want; refine l_val (.pointer (some ⟨b, off + i * 5, none⟩)) (fun w' hw' => by go_simp) ?_; go_simp; go_big_quiet_on
                go_big_quiet_want; refine l_val (.agg #[.int .i64 x0, .int .i64 x1, .int .i64 x2, .int .i64 x3, .int .i64 x4]) (fun w' hw' => by obtain ⟨q0, q1, q2, q3, q4, q5, q6, q7, q8, q9, q10, q11⟩ := HK.out w' hw'; go_simp) ?_; go_simp; go_big_quiet_on
                go_big_quiet_want; refine l_call (.bool false) _ #[.agg #[.int .i64 y0, .int .i64 y1, .int .i64 y2, .int .i64 y3, .int .i64 y4], .agg #[.int .i64 x0, .int .i64 x1, .int .i64 x2, .int .i64 x3, .int .i64 x4]] (fun w' => by go_simp) (fun w' hw' => PL.out w' hw') ?_; go_simp; go_big_quiet_on
                go_big_quiet_want; refine l_val (.bool true) (fun w' hw' => by go_simp) ?_; go_simp; go_big_quiet_on
                go_big_quiet_want; refine l_val (.bool true) (fun w' hw' => by go_simp) ?_; go_simp; go_big_quiet_on
                go_big_quiet_want; refine l_val (.bool true) (fun w' hw' => by go_simp) ?_; go_simp; go_big_quiet_on
                refine wpQuiet_nil ?_
                intro w' hw'
                have hw2 := Lib.hid hw'
                clear hw'
                go_wp2_with fail
                go_ret
                exact ⟨by rw [fcode_no hno.out]; rfl, hF'.out.then (hfw'.out.then hw2.out)⟩
        · have e1 : decide ((i : Int) < (P.length : Int)) = false := by rw [decide_eq_false_iff_not]; omega
          have hin : i = P.length := by omega
          have hGood := Lib.hid (show GoodP F P P.length from hin ▸ hgood)
          clear hgood hi hAr hin
          go_wp2_with fail
          clear a0 a1 hlh e1 hlt
          go_loopw [5] (fun iv wr => ∃ i : Nat, iv = .int .i64 i ∧ i ≤ F.length ∧ FullS P i ∧ Far (fun _ => False) W wr) (fun iv _ => F.length - (intOf iv).toNat)
          case atStart => exact ⟨0, rfl, Nat.zero_le _, fun k hk => absurd hk (Nat.not_lt_zero _), hfw⟩
          case round =>
            clear hfw hfw' hgood'
            obtain ⟨i, rfl, hi, hgood, hfw⟩ := hrel
            have hAr := hA'.out.far' hfw id
            have a0 : wr.cell? ⟨h, 0, none⟩ = some (.slice fo F.length ac) := hAr.cell 0
            have a1 : wr.cell? ⟨h, 1, none⟩ = some (.slice po P.length pc) := hAr.cell 1
            have hfw' := Lib.hid hfw
            have hgood' := Lib.hid hgood
            by_cases hlt : i < F.length
            · have e1 : decide ((i : Int) < (F.length : Int)) = true := by rw [decide_eq_true_eq]; omega
              have PO := packsOf_any (.slice fo F.length ac) (.slice po P.length pc) F P (i : Int) wr (hPF.out.move hfw) (hPP.out.move hfw) hs2'.out
              clear hfw hgood hAr
              go_wp2_with fail
              refine PO.mono ?_
              rintro e w2 ⟨⟨zo, zc, rfl, _⟩, hf2⟩
              have hf2' := Lib.hid hf2
              clear PO hf2 a0 a1
              by_cases hz : ofSpot P (i : Int) = []
              · have gz : (((ofSpot P (i : Int)).length : Int) == 0) = true := by simp [hz]
                have hno := Lib.hid (show ¬ CkOK F P from fun hc => hc.2.2 i hlt hz)
                clear hz
                go_wp2_with fail
                go_ret
                exact ⟨by rw [fcode_no hno.out]; rfl, hF'.out.then (hfw'.out.then hf2'.out)⟩
              · have gz : (((ofSpot P (i : Int)).length : Int) == 0) = false := by simpa using hz
                have hz' := Lib.hid hz
                clear hz
                go_wp2_with fail
                go_roundw
                case rel => exact ⟨i + 1, by go_num, by omega, fun k hk => (by
                  by_cases hk2 : k < i
                  · exact hgood'.out k hk2
                  · have hk0 : k = i := by omega
                    subst hk0
                    exact hz'.out), hfw'.out.then hf2'.out⟩
                case measure => simp [intOf]; omega
            · have e1 : decide ((i : Int) < (F.length : Int)) = false := by rw [decide_eq_false_iff_not]; omega
              have hin : i = F.length := by omega
              have hyes := Lib.hid (show CkOK F P from ⟨hRise.out, hGood.out, hin ▸ hgood⟩)
              clear hgood hfw hAr hin
              go_wp2_with fail
              go_ret
              exact ⟨by rw [fcode_yes hyes.out]; rfl, hF'.out.then hfw'.out⟩
end
end Go.Proofs.YteoglnbmmgoibaaGreatDoor
