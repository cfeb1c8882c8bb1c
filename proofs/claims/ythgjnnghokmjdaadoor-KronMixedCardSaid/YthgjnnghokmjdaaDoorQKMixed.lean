/-
  KronMixed walked.
-/
import Derived.Test.YthgjnnghokmjdaaDoorQKAwake
namespace Go.Proofs.YthgjnnghokmjdaaDoor
open Go.RowKit Go.Shelf
set_option linter.unusedVariables false
set_option linter.unusedSimpArgs false
section
set_option maxHeartbeats 4000000
set_option maxRecDepth 100000
theorem kmixed_law (W : World) (xp xq : Int) (aoa : Option Addr) (na ca : Nat) (Ra Ca : Nat → Int) (hna2 : na ≤ 9223372036854775807) (hCa : Cls W aoa na Ra Ca) (aob : Option Addr) (nb cb : Nat) (Rb Cb : Nat → Int) (hnb2 : nb ≤ 9223372036854775807) (hCb : Cls W aob nb Rb Cb) (aoc : Option Addr) (nc cc : Nat) (Rc Cc : Nat → Int) (hnc2 : nc ≤ 9223372036854775807) (hCc : Cls W aoc nc Rc Cc) (aod : Option Addr) (nd cd : Nat) (Rd Cd : Nat → Int) (hnd2 : nd ≤ 9223372036854775807) (hCd : Cls W aod nd Rd Cd) (hT : Tab W) :
    Calls Tryd.prog 11 #[.agg #[.int .i64 xp, .int .i64 xq, .slice aoa na ca, .slice aob nb cb, .slice aoc nc cc, .slice aod nd cd]] W fun e w' => e = .returned (.bool true) ∧ Far (fun _ => False) W w' := by
  obtain ⟨p, hp⟩ : ∃ p, (xp % 16).toNat + 1 = p := ⟨_, rfl⟩
  obtain ⟨q, hq⟩ : ∃ q, (xq % 16).toNat + 1 = q := ⟨_, rfl⟩
  have hp16 : p ≤ 16 := by omega
  have hq16 : q ≤ 16 := by omega
  have hq1 : 0 < q := by omega
  have hpq : p * q ≤ 1024 := by have := Nat.mul_le_mul hp16 hq16; omega
  obtain ⟨h1, hh1⟩ : ∃ h, h = W.heap.size := ⟨_, rfl⟩
  obtain ⟨W0, hW0⟩ : ∃ V, V = W.alloc (.cells #[.int .i64 xp, .int .i64 xq, .slice aoa na ca, .slice aob nb cb, .slice aoc nc cc, .slice aod nd cd] 84) := ⟨_, rfl⟩
  have hF0 : Far (fun _ => False) W W0 := hW0 ▸ (Far.refl _ W).alloc _
  have hB1 : Bk W0 h1 84 #[.int .i64 xp, .int .i64 xq, .slice aoa na ca, .slice aob nb cb, .slice aoc nc cc, .slice aod nd cd] := hW0 ▸ Bk.new hh1
  have FA0 := fun (V : World) (hf : Far (fun _ => False) W V) => fold04_any xp p hp aoa na ca Ra Ca hna2 V (hCa.move hf)
  have FB0 := fun (V : World) (hf : Far (fun _ => False) W V) => fold04_any xq q hq aob nb cb Rb Cb hnb2 V (hCb.move hf)
  have FC0 := fun (V : World) (hf : Far (fun _ => False) W V) => fold04_any xp p hp aoc nc cc Rc Cc hnc2 V (hCc.move hf)
  have FD0 := fun (V : World) (hf : Far (fun _ => False) W V) => fold04_any xq q hq aod nd cd Rd Cd hnd2 V (hCd.move hf)
  obtain ⟨A, hA⟩ : ∃ M, foldR04 p Ra Ca na = M := ⟨_, rfl⟩
  obtain ⟨B, hB⟩ : ∃ M, foldR04 q Rb Cb nb = M := ⟨_, rfl⟩
  obtain ⟨C, hC⟩ : ∃ M, foldR04 p Rc Cc nc = M := ⟨_, rfl⟩
  obtain ⟨D, hD⟩ : ∃ M, foldR04 q Rd Cd nd = M := ⟨_, rfl⟩
  rw [hA] at FA0
  rw [hB] at FB0
  rw [hC] at FC0
  rw [hD] at FD0
  have FA := Lib.hid (fun (V : World) (hf : Far (fun _ => False) W0 V) => FA0 V (hF0.then hf))
  have FB := Lib.hid (fun (V : World) (hf : Far (fun _ => False) W0 V) => FB0 V (hF0.then hf))
  have FC := Lib.hid (fun (V : World) (hf : Far (fun _ => False) W0 V) => FC0 V (hF0.then hf))
  have FD := Lib.hid (fun (V : World) (hf : Far (fun _ => False) W0 V) => FD0 V (hF0.then hf))
  have HK := Lib.hid (show ∀ V, Far (fun _ => False) W0 V → V.cell? ⟨h1, 0, none⟩ = some (.int .i64 xp) ∧ V.cell? ⟨h1, 1, none⟩ = some (.int .i64 xq) ∧ V.cell? ⟨h1, 2, none⟩ = some (.slice aoa na ca) ∧ V.cell? ⟨h1, 3, none⟩ = some (.slice aob nb cb) ∧ V.cell? ⟨h1, 4, none⟩ = some (.slice aoc nc cc) ∧ V.cell? ⟨h1, 5, none⟩ = some (.slice aod nd cd) from fun V hf => ⟨(hB1.far' hf id).cell 0, (hB1.far' hf id).cell 1, (hB1.far' hf id).cell 2, (hB1.far' hf id).cell 3, (hB1.far' hf id).cell 4, (hB1.far' hf id).cell 5⟩)
  obtain ⟨g0, g1, g2, g3, g4, g5⟩ := HK.out W0 (Far.refl _ _)
  have hh1' := Lib.hid hh1
  have hW0' := Lib.hid hW0
  have hF0' := Lib.hid hF0
  clear hp hq hA hB hC hD hCa hCb hCc hCd FA0 FB0 FC0 FD0 hh1 hW0 hF0 hB1
  go_enter Tryd.func11, Tryd.ntmps11
  go_upto_region 1 with fail
  rw [← hW0'.out, ← hh1'.out]
  go_cut [3, 4] (fun v6 v7 wc => ∃ B1 B2, v6 = .pointer (some ⟨B1, 0, none⟩) ∧ v7 = .pointer (some ⟨B2, 0, none⟩) ∧ (∃ F1, Mx wc B1 F1 p A) ∧ (∃ F2, Mx wc B2 F2 p C) ∧ Far (fun _ => False) W0 wc)
  case first =>
    go_region_held3 (fun w' => w'.cell? ⟨h1, 0, none⟩ = some (.int .i64 xp) ∧ w'.cell? ⟨h1, 1, none⟩ = some (.int .i64 xq) ∧ w'.cell? ⟨h1, 2, none⟩ = some (.slice aoa na ca) ∧ w'.cell? ⟨h1, 3, none⟩ = some (.slice aob nb cb) ∧ w'.cell? ⟨h1, 4, none⟩ = some (.slice aoc nc cc) ∧ w'.cell? ⟨h1, 5, none⟩ = some (.slice aod nd cd)) (go_keep)
      (first
        | (go_at_call 59; with_reducible refine (FA.out _ ((Far.refl (fun _ => False) W0).then ((Far.refl (fun _ => False) W0).drew))).mono ?_; rintro e w5 ⟨B1, rfl, FB1, hX5, hl5, hf5⟩; have hfB1 := Lib.hid (((Far.refl (fun _ => False) W0).drew).then hf5); obtain ⟨g0, g1, g2, g3, g4, g5⟩ := HK.out w5 ((Far.refl (fun _ => False) W0).then hfB1.out); have hXB1 := Lib.hid hX5; clear hf5 hX5 hl5)
        | (go_at_call 59; with_reducible refine (FC.out _ ((Far.refl (fun _ => False) W0).then ((Far.refl (fun _ => False) W0).drew))).mono ?_; rintro e w5 ⟨B2, rfl, FB2, hX5, hl5, hf5⟩; have hfB2 := Lib.hid (((Far.refl (fun _ => False) W0).drew).then hf5); obtain ⟨g0, g1, g2, g3, g4, g5⟩ := HK.out w5 ((Far.refl (fun _ => False) W0).then hfB2.out); have hXB2 := Lib.hid hX5; clear hf5 hX5 hl5)
        | (go_at_call 59; with_reducible refine (FC.out _ ((Far.refl (fun _ => False) W0).then hfB1.out)).mono ?_; rintro e w5 ⟨B2, rfl, FB2, hX5, hl5, hf5⟩; have hfB2 := Lib.hid (hfB1.out.then hf5); obtain ⟨g0, g1, g2, g3, g4, g5⟩ := HK.out w5 ((Far.refl (fun _ => False) W0).then hfB2.out); have hXB2 := Lib.hid hX5; have hXs := Lib.hid (hXB1.out.still hf5); clear hf5 hX5 hl5)
        | (go_at_call 59; with_reducible refine (FA.out _ ((Far.refl (fun _ => False) W0).then hfB2.out)).mono ?_; rintro e w5 ⟨B1, rfl, FB1, hX5, hl5, hf5⟩; have hfB1 := Lib.hid (hfB2.out.then hf5); obtain ⟨g0, g1, g2, g3, g4, g5⟩ := HK.out w5 ((Far.refl (fun _ => False) W0).then hfB1.out); have hXB1 := Lib.hid hX5; have hXs := Lib.hid (hXB2.out.still hf5); clear hf5 hX5 hl5))
    all_goals
      go_wp2_with fail
      go_meet
      first
        | exact ⟨B1, B2, rfl, rfl, ⟨_, hXs.out⟩, ⟨_, hXB2.out⟩, hfB2.out⟩
        | exact ⟨B1, B2, rfl, rfl, ⟨_, hXB1.out⟩, ⟨_, hXs.out⟩, hfB1.out⟩
  case rest =>
    obtain ⟨Ba, Bc, rfl, rfl, ⟨Fa, hXa⟩, ⟨Fc, hXc⟩, hfc⟩ := hcut
    obtain ⟨V1, hV⟩ : ∃ V, V = wc := ⟨_, rfl⟩
    rw [← hV] at hXa hXc hfc ⊢
    clear hV
    have ha1 := Lib.hid hXa
    have hc1 := Lib.hid hXc
    have hf1 := Lib.hid hfc
    obtain ⟨g0, g1, g2, g3, g4, g5⟩ := HK.out V1 hfc
    clear hXa hXc hfc
    go_upto_region 2 with fail
    go_cut [5, 6] (fun v6 v7 wc => ∃ B1 B2, v6 = .pointer (some ⟨B1, 0, none⟩) ∧ v7 = .pointer (some ⟨B2, 0, none⟩) ∧ (∃ F1, Mx wc B1 F1 q B) ∧ (∃ F2, Mx wc B2 F2 q D) ∧ Far (fun _ => False) V1 wc)
    case first =>
      go_region_held3 (fun w' => w'.cell? ⟨h1, 0, none⟩ = some (.int .i64 xp) ∧ w'.cell? ⟨h1, 1, none⟩ = some (.int .i64 xq) ∧ w'.cell? ⟨h1, 2, none⟩ = some (.slice aoa na ca) ∧ w'.cell? ⟨h1, 3, none⟩ = some (.slice aob nb cb) ∧ w'.cell? ⟨h1, 4, none⟩ = some (.slice aoc nc cc) ∧ w'.cell? ⟨h1, 5, none⟩ = some (.slice aod nd cd)) (go_keep)
        (first
          | (go_at_call 59; with_reducible refine (FB.out _ ((hf1.out).then ((Far.refl (fun _ => False) V1).drew))).mono ?_; rintro e w5 ⟨B1, rfl, FB1, hX5, hl5, hf5⟩; have hfB1 := Lib.hid (((Far.refl (fun _ => False) V1).drew).then hf5); obtain ⟨g0, g1, g2, g3, g4, g5⟩ := HK.out w5 ((hf1.out).then hfB1.out); have hXB1 := Lib.hid hX5; clear hf5 hX5 hl5)
          | (go_at_call 59; with_reducible refine (FD.out _ ((hf1.out).then ((Far.refl (fun _ => False) V1).drew))).mono ?_; rintro e w5 ⟨B2, rfl, FB2, hX5, hl5, hf5⟩; have hfB2 := Lib.hid (((Far.refl (fun _ => False) V1).drew).then hf5); obtain ⟨g0, g1, g2, g3, g4, g5⟩ := HK.out w5 ((hf1.out).then hfB2.out); have hXB2 := Lib.hid hX5; clear hf5 hX5 hl5)
          | (go_at_call 59; with_reducible refine (FD.out _ ((hf1.out).then hfB1.out)).mono ?_; rintro e w5 ⟨B2, rfl, FB2, hX5, hl5, hf5⟩; have hfB2 := Lib.hid (hfB1.out.then hf5); obtain ⟨g0, g1, g2, g3, g4, g5⟩ := HK.out w5 ((hf1.out).then hfB2.out); have hXB2 := Lib.hid hX5; have hXs := Lib.hid (hXB1.out.still hf5); clear hf5 hX5 hl5)
          | (go_at_call 59; with_reducible refine (FB.out _ ((hf1.out).then hfB2.out)).mono ?_; rintro e w5 ⟨B1, rfl, FB1, hX5, hl5, hf5⟩; have hfB1 := Lib.hid (hfB2.out.then hf5); obtain ⟨g0, g1, g2, g3, g4, g5⟩ := HK.out w5 ((hf1.out).then hfB1.out); have hXB1 := Lib.hid hX5; have hXs := Lib.hid (hXB2.out.still hf5); clear hf5 hX5 hl5))
      all_goals
        go_wp2_with fail
        go_meet
        first
          | exact ⟨B1, B2, rfl, rfl, ⟨_, hXs.out⟩, ⟨_, hXB2.out⟩, hfB2.out⟩
          | exact ⟨B1, B2, rfl, rfl, ⟨_, hXB1.out⟩, ⟨_, hXs.out⟩, hfB1.out⟩
    case rest =>
      obtain ⟨Bb, Bd, rfl, rfl, ⟨Fb, hXb⟩, ⟨Fd, hXd⟩, hfc⟩ := hcut
      obtain ⟨V2, hV⟩ : ∃ V, V = wc := ⟨_, rfl⟩
      rw [← hV] at hXb hXd hfc ⊢
      clear hV
      have ha2 := Lib.hid (ha1.out.still hfc)
      have hc2 := Lib.hid (hc1.out.still hfc)
      have hb2 := Lib.hid hXb
      have hd2 := Lib.hid hXd
      have hf2 := Lib.hid (hF0'.out.then (hf1.out.then hfc))
      have wa := Lib.hid ha2.out.within
      have wb := Lib.hid hb2.out.within
      have wc' := Lib.hid hc2.out.within
      have wd := Lib.hid hd2.out.within
      clear hXb hXd hfc ha1 hc1 hf1 HK FA FB FC FD g0 g1 g2 g3 g4 g5
      have K_1 := kproduct_yes ha2.out hb2.out hpq (hT.still hf2.out)
      go_wp2_with fail
      refine K_1.mono ?_
      rintro e w_1 ⟨Bab, rfl, Fab, hX_1, hlo_1, hf_1⟩
      have hab_1 := Lib.hid (show Mx w_1 Bab Fab (p * q) (kronM (A) (B) q) from hX_1)
      have upab := Lib.hid (hX_1.lt)
      have loab := Lib.hid hlo_1
      have sz_1 := Lib.hid (hf_1.size)
      have ha_2 := Lib.hid (ha2.out.still hf_1)
      clear ha2
      have hb_3 := Lib.hid (hb2.out.still hf_1)
      clear hb2
      have hc_4 := Lib.hid (hc2.out.still hf_1)
      clear hc2
      have hd_5 := Lib.hid (hd2.out.still hf_1)
      clear hd2
      have hfw_6 := Lib.hid (hf2.out.then hf_1)
      clear hf2
      clear K_1 hX_1 hlo_1 hf_1
      have K_7 := kproduct_yes hc_4.out hd_5.out hpq (hT.still hfw_6.out)
      go_wp2_with fail
      refine K_7.mono ?_
      rintro e w_7 ⟨Bcd, rfl, Fcd, hX_7, hlo_7, hf_7⟩
      have hcd_7 := Lib.hid (show Mx w_7 Bcd Fcd (p * q) (kronM (C) (D) q) from hX_7)
      have upcd := Lib.hid (hX_7.lt)
      have locd := Lib.hid hlo_7
      have sz_7 := Lib.hid (hf_7.size)
      have ha_8 := Lib.hid (ha_2.out.still hf_7)
      clear ha_2
      have hb_9 := Lib.hid (hb_3.out.still hf_7)
      clear hb_3
      have hc_10 := Lib.hid (hc_4.out.still hf_7)
      clear hc_4
      have hd_11 := Lib.hid (hd_5.out.still hf_7)
      clear hd_5
      have hab_12 := Lib.hid (hab_1.out.still hf_7)
      clear hab_1
      have hfw_13 := Lib.hid (hfw_6.out.then hf_7)
      clear hfw_6
      clear K_7 hX_7 hlo_7 hf_7
      have K_14 := pMul_yes ha_8.out hc_10.out (hT.still hfw_13.out)
      go_wp2_with fail
      refine K_14.mono ?_
      rintro e w_14 ⟨Bac, rfl, Fac, hX_14, hlo_14, hf_14⟩
      have hac_14 := Lib.hid (show Mx w_14 Bac Fac p (mulM (A) (C)) from hX_14)
      have upac := Lib.hid (hX_14.lt)
      have loac := Lib.hid hlo_14
      have sz_14 := Lib.hid (hf_14.size)
      have ha_15 := Lib.hid (ha_8.out.still hf_14)
      clear ha_8
      have hb_16 := Lib.hid (hb_9.out.still hf_14)
      clear hb_9
      have hc_17 := Lib.hid (hc_10.out.still hf_14)
      clear hc_10
      have hd_18 := Lib.hid (hd_11.out.still hf_14)
      clear hd_11
      have hab_19 := Lib.hid (hab_12.out.still hf_14)
      clear hab_12
      have hcd_20 := Lib.hid (hcd_7.out.still hf_14)
      clear hcd_7
      have hfw_21 := Lib.hid (hfw_13.out.then hf_14)
      clear hfw_13
      clear K_14 hX_14 hlo_14 hf_14
      have K_22 := pMul_yes hb_16.out hd_18.out (hT.still hfw_21.out)
      go_wp2_with fail
      refine K_22.mono ?_
      rintro e w_22 ⟨Bbd, rfl, Fbd, hX_22, hlo_22, hf_22⟩
      have hbd_22 := Lib.hid (show Mx w_22 Bbd Fbd q (mulM (B) (D)) from hX_22)
      have upbd := Lib.hid (hX_22.lt)
      have lobd := Lib.hid hlo_22
      have sz_22 := Lib.hid (hf_22.size)
      have ha_23 := Lib.hid (ha_15.out.still hf_22)
      clear ha_15
      have hb_24 := Lib.hid (hb_16.out.still hf_22)
      clear hb_16
      have hc_25 := Lib.hid (hc_17.out.still hf_22)
      clear hc_17
      have hd_26 := Lib.hid (hd_18.out.still hf_22)
      clear hd_18
      have hab_27 := Lib.hid (hab_19.out.still hf_22)
      clear hab_19
      have hcd_28 := Lib.hid (hcd_20.out.still hf_22)
      clear hcd_20
      have hac_29 := Lib.hid (hac_14.out.still hf_22)
      clear hac_14
      have hfw_30 := Lib.hid (hfw_21.out.then hf_22)
      clear hfw_21
      clear K_22 hX_22 hlo_22 hf_22
      clear ha_23
      clear hb_24
      clear hc_25
      clear hd_26
      have K_31 := pMul_yes hab_27.out hcd_28.out (hT.still hfw_30.out)
      go_wp2_with fail
      refine K_31.mono ?_
      rintro e w_31 ⟨Bleft, rfl, Fleft, hX_31, hlo_31, hf_31⟩
      have hleft_31 := Lib.hid (show Mx w_31 Bleft Fleft (p * q) (mulM (kronM (A) (B) q) (kronM (C) (D) q)) from hX_31)
      have upleft := Lib.hid (hX_31.lt)
      have loleft := Lib.hid hlo_31
      have sz_31 := Lib.hid (hf_31.size)
      have hab_32 := Lib.hid (hab_27.out.still hf_31)
      clear hab_27
      have hcd_33 := Lib.hid (hcd_28.out.still hf_31)
      clear hcd_28
      have hac_34 := Lib.hid (hac_29.out.still hf_31)
      clear hac_29
      have hbd_35 := Lib.hid (hbd_22.out.still hf_31)
      clear hbd_22
      have hfw_36 := Lib.hid (hfw_30.out.then hf_31)
      clear hfw_30
      clear K_31 hX_31 hlo_31 hf_31
      have K_37 := kproduct_yes hac_34.out hbd_35.out hpq (hT.still hfw_36.out)
      go_wp2_with fail
      refine K_37.mono ?_
      rintro e w_37 ⟨Bright, rfl, Fright, hX_37, hlo_37, hf_37⟩
      have hright_37 := Lib.hid (show Mx w_37 Bright Fright (p * q) (kronM (mulM (A) (C)) (mulM (B) (D)) q) from hX_37)
      have upright := Lib.hid (hX_37.lt)
      have loright := Lib.hid hlo_37
      have sz_37 := Lib.hid (hf_37.size)
      have hab_38 := Lib.hid (hab_32.out.still hf_37)
      clear hab_32
      have hcd_39 := Lib.hid (hcd_33.out.still hf_37)
      clear hcd_33
      have hac_40 := Lib.hid (hac_34.out.still hf_37)
      clear hac_34
      have hbd_41 := Lib.hid (hbd_35.out.still hf_37)
      clear hbd_35
      have hleft_42 := Lib.hid (hleft_31.out.still hf_37)
      clear hleft_31
      have hfw_43 := Lib.hid (hfw_36.out.then hf_37)
      clear hfw_36
      clear K_37 hX_37 hlo_37 hf_37
      clear hab_38
      clear hcd_39
      clear hac_40
      clear hbd_41
      have K_44 := qsame_any hleft_42.out hright_37.out
      go_wp2_with fail
      refine K_44.mono ?_
      rintro e w_44 ⟨v_44, rfl, hv_44, hf_44⟩
      have hvt_44 : v_44 = true := hv_44.2 (by refine ⟨by trivial, ?_⟩; exact kron_mul hp16 hq1 hq16 wa.out wb.out wc'.out wd.out)
      subst hvt_44
      have sz_44 := Lib.hid (hf_44.size)
      have hleft_45 := Lib.hid (hleft_42.out.still hf_44)
      clear hleft_42
      have hright_46 := Lib.hid (hright_37.out.still hf_44)
      clear hright_37
      have hfw_47 := Lib.hid (hfw_43.out.then hf_44)
      clear hfw_43
      clear K_44 hv_44 hf_44
      clear hleft_45
      clear hright_46
      have AW := awake04_any w_44 (hT.still hfw_47.out)
      go_wp2_with fail
      refine AW.mono ?_
      rintro e wz ⟨rfl, hfz⟩
      have hfz' := Lib.hid (hfw_47.out.then hfz)
      clear AW hfz
      go_wp2_with fail
      go_ret
      exact ⟨rfl, hfz'.out⟩
end
end Go.Proofs.YthgjnnghokmjdaaDoor
