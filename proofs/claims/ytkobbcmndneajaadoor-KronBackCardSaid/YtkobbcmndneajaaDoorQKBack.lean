/-
  KronBack walked.
-/
import Derived.Test.YtkobbcmndneajaaDoorQKBMath
import Derived.Test.YtkobbcmndneajaaDoorQKAwake
namespace Go.Proofs.YtkobbcmndneajaaDoor
open Go.RowKit Go.Shelf
set_option linter.unusedVariables false
set_option linter.unusedSimpArgs false
section
set_option maxHeartbeats 4000000
set_option maxRecDepth 100000
theorem kback_law (W : World) (xp xq : Int) (aoa : Option Addr) (na ca : Nat) (Ra Ca : Nat → Int) (hna2 : na ≤ 9223372036854775807) (hCa : Cls W aoa na Ra Ca) (aob : Option Addr) (nb cb : Nat) (Rb Cb : Nat → Int) (hnb2 : nb ≤ 9223372036854775807) (hCb : Cls W aob nb Rb Cb) (aoc : Option Addr) (nc cc : Nat) (Rc Cc : Nat → Int) (hnc2 : nc ≤ 9223372036854775807) (hCc : Cls W aoc nc Rc Cc) (aod : Option Addr) (nd cd : Nat) (Rd Cd : Nat → Int) (hnd2 : nd ≤ 9223372036854775807) (hCd : Cls W aod nd Rd Cd) (hT : Tab W) :
    Calls Tryd.prog 9 #[.agg #[.int .i64 xp, .int .i64 xq, .slice aoa na ca, .slice aob nb cb, .slice aoc nc cc, .slice aod nd cd]] W fun e w' => e = .returned (.bool true) ∧ Far (fun _ => False) W w' := by
  obtain ⟨p, hp⟩ : ∃ p, (xp % 16).toNat + 1 = p := ⟨_, rfl⟩
  obtain ⟨q, hq⟩ : ∃ q, (xq % 16).toNat + 1 = q := ⟨_, rfl⟩
  have hp16 : p ≤ 16 := by omega
  have hq16 : q ≤ 16 := by omega
  have hq1 : 0 < q := by omega
  have hpq : p * q ≤ 1024 := by have := Nat.mul_le_mul hp16 hq16; omega
  obtain ⟨h1, hh1⟩ : ∃ h, h = W.heap.size := ⟨_, rfl⟩
  obtain ⟨W0, hW0⟩ : ∃ V, V = W.alloc (.cells #[.int .i64 xp, .int .i64 xq, .slice aoa na ca, .slice aob nb cb, .slice aoc nc cc, .slice aod nd cd] 77) := ⟨_, rfl⟩
  have hF0 : Far (fun _ => False) W W0 := hW0 ▸ (Far.refl _ W).alloc _
  have hB1 : Bk W0 h1 77 #[.int .i64 xp, .int .i64 xq, .slice aoa na ca, .slice aob nb cb, .slice aoc nc cc, .slice aod nd cd] := hW0 ▸ Bk.new hh1
  have FA0 := fun (V : World) (hf : Far (fun _ => False) W V) => fold04_any xp p hp aoa na ca Ra Ca hna2 V (hCa.move hf)
  have FB0 := fun (V : World) (hf : Far (fun _ => False) W V) => fold04_any xq q hq aob nb cb Rb Cb hnb2 V (hCb.move hf)
  have FC0 := fun (V : World) (hf : Far (fun _ => False) W V) => fold04_any xp p hp aoc nc cc Rc Cc hnc2 V (hCc.move hf)
  have FD0 := fun (V : World) (hf : Far (fun _ => False) W V) => fold04_any xq q hq aod nd cd Rd Cd hnd2 V (hCd.move hf)
  obtain ⟨A, hA⟩ : ∃ M, foldR04 p Ra Ca na = M := ⟨_, rfl⟩
  obtain ⟨B, hB⟩ : ∃ M, foldR04 q Rb Cb nb = M := ⟨_, rfl⟩
  obtain ⟨C, hC⟩ : ∃ M, foldR04 p Rc Cc nc = M := ⟨_, rfl⟩
  obtain ⟨D, hD⟩ : ∃ M, foldR04 q Rd Cd nd = M := ⟨_, rfl⟩
  rw [hA] at FA0
  rw [hB] at FB0
  rw [hC] at FC0
  rw [hD] at FD0
  have FA := Lib.hid (fun (V : World) (hf : Far (fun _ => False) W0 V) => FA0 V (hF0.then hf))
  have FB := Lib.hid (fun (V : World) (hf : Far (fun _ => False) W0 V) => FB0 V (hF0.then hf))
  have FC := Lib.hid (fun (V : World) (hf : Far (fun _ => False) W0 V) => FC0 V (hF0.then hf))
  have FD := Lib.hid (fun (V : World) (hf : Far (fun _ => False) W0 V) => FD0 V (hF0.then hf))
  have HK := Lib.hid (show ∀ V, Far (fun _ => False) W0 V → V.cell? ⟨h1, 0, none⟩ = some (.int .i64 xp) ∧ V.cell? ⟨h1, 1, none⟩ = some (.int .i64 xq) ∧ V.cell? ⟨h1, 2, none⟩ = some (.slice aoa na ca) ∧ V.cell? ⟨h1, 3, none⟩ = some (.slice aob nb cb) ∧ V.cell? ⟨h1, 4, none⟩ = some (.slice aoc nc cc) ∧ V.cell? ⟨h1, 5, none⟩ = some (.slice aod nd cd) from fun V hf => ⟨(hB1.far' hf id).cell 0, (hB1.far' hf id).cell 1, (hB1.far' hf id).cell 2, (hB1.far' hf id).cell 3, (hB1.far' hf id).cell 4, (hB1.far' hf id).cell 5⟩)
  obtain ⟨g0, g1, g2, g3, g4, g5⟩ := HK.out W0 (Far.refl _ _)
  have hh1' := Lib.hid hh1
  have hW0' := Lib.hid hW0
  have hF0' := Lib.hid hF0
  clear hp hq hA hB hC hD hCa hCb hCc hCd FA0 FB0 FC0 FD0 hh1 hW0 hF0 hB1
  go_enter Tryd.func9, Tryd.ntmps9
  go_upto_region 1 with fail
  rw [← hW0'.out, ← hh1'.out]
  go_cut [3, 4] (fun v6 v7 wc => ∃ B1 B2, v6 = .pointer (some ⟨B1, 0, none⟩) ∧ v7 = .pointer (some ⟨B2, 0, none⟩) ∧ (∃ F1, Mx wc B1 F1 p A) ∧ (∃ F2, Mx wc B2 F2 q B) ∧ Far (fun _ => False) W0 wc)
  case first =>
    go_region_held3 (fun w' => w'.cell? ⟨h1, 0, none⟩ = some (.int .i64 xp) ∧ w'.cell? ⟨h1, 1, none⟩ = some (.int .i64 xq) ∧ w'.cell? ⟨h1, 2, none⟩ = some (.slice aoa na ca) ∧ w'.cell? ⟨h1, 3, none⟩ = some (.slice aob nb cb) ∧ w'.cell? ⟨h1, 4, none⟩ = some (.slice aoc nc cc) ∧ w'.cell? ⟨h1, 5, none⟩ = some (.slice aod nd cd)) (go_keep)
      (first
        | (go_at_call 46; with_reducible refine (FA.out _ ((Far.refl (fun _ => False) W0).then ((Far.refl (fun _ => False) W0).drew))).mono ?_; rintro e w5 ⟨B1, rfl, FB1, hX5, hl5, hf5⟩; have hfB1 := Lib.hid (((Far.refl (fun _ => False) W0).drew).then hf5); obtain ⟨g0, g1, g2, g3, g4, g5⟩ := HK.out w5 ((Far.refl (fun _ => False) W0).then hfB1.out); have hXB1 := Lib.hid hX5; clear hf5 hX5 hl5)
        | (go_at_call 46; with_reducible refine (FB.out _ ((Far.refl (fun _ => False) W0).then ((Far.refl (fun _ => False) W0).drew))).mono ?_; rintro e w5 ⟨B2, rfl, FB2, hX5, hl5, hf5⟩; have hfB2 := Lib.hid (((Far.refl (fun _ => False) W0).drew).then hf5); obtain ⟨g0, g1, g2, g3, g4, g5⟩ := HK.out w5 ((Far.refl (fun _ => False) W0).then hfB2.out); have hXB2 := Lib.hid hX5; clear hf5 hX5 hl5)
        | (go_at_call 46; with_reducible refine (FB.out _ ((Far.refl (fun _ => False) W0).then hfB1.out)).mono ?_; rintro e w5 ⟨B2, rfl, FB2, hX5, hl5, hf5⟩; have hfB2 := Lib.hid (hfB1.out.then hf5); obtain ⟨g0, g1, g2, g3, g4, g5⟩ := HK.out w5 ((Far.refl (fun _ => False) W0).then hfB2.out); have hXB2 := Lib.hid hX5; have hXs := Lib.hid (hXB1.out.still hf5); clear hf5 hX5 hl5)
        | (go_at_call 46; with_reducible refine (FA.out _ ((Far.refl (fun _ => False) W0).then hfB2.out)).mono ?_; rintro e w5 ⟨B1, rfl, FB1, hX5, hl5, hf5⟩; have hfB1 := Lib.hid (hfB2.out.then hf5); obtain ⟨g0, g1, g2, g3, g4, g5⟩ := HK.out w5 ((Far.refl (fun _ => False) W0).then hfB1.out); have hXB1 := Lib.hid hX5; have hXs := Lib.hid (hXB2.out.still hf5); clear hf5 hX5 hl5))
    all_goals
      go_wp2_with fail
      go_meet
      first
        | exact ⟨B1, B2, rfl, rfl, ⟨_, hXs.out⟩, ⟨_, hXB2.out⟩, hfB2.out⟩
        | exact ⟨B1, B2, rfl, rfl, ⟨_, hXB1.out⟩, ⟨_, hXs.out⟩, hfB1.out⟩
  case rest =>
    obtain ⟨Ba, Bb, rfl, rfl, ⟨Fa, hXa⟩, ⟨Fb, hXb⟩, hfc⟩ := hcut
    obtain ⟨V1, hV⟩ : ∃ V, V = wc := ⟨_, rfl⟩
    rw [← hV] at hXa hXb hfc ⊢
    clear hV
    have wa := Lib.hid hXa.within
    have wb := Lib.hid hXb.within
    obtain ⟨p1, p2⟩ := hXa.sides
    have ha1 := Lib.hid hXa
    have hb1 := Lib.hid hXb
    have hfV := Lib.hid (hF0'.out.then hfc)
    clear hXa hXb hfc HK FA FB FC FD g0 g1 g2 g3 g4 g5
    obtain ⟨s, hs⟩ : ∃ s, p * q = s := ⟨_, rfl⟩
    have hmu : (p : Int) * (q : Int) = (s : Int) := by rw [← hs, Int.natCast_mul]
    have hs1 : s ≤ 1024 := by omega
    have hws := wrap_n (m := s) (by omega)
    have hnum := kron_num (A := A) (B := B) (by omega) hq1 (by omega) hpq wa.out wb.out
    obtain ⟨na9, hna9⟩ : ∃ n, numM A = n := ⟨_, rfl⟩
    obtain ⟨nb9, hnb9⟩ : ∃ n, numM B = n := ⟨_, rfl⟩
    obtain ⟨nc9, hnc9⟩ : ∃ n, numM (kronM A B q) = n := ⟨_, rfl⟩
    have hnle : nc9 ≤ 1048576 := by rw [← hnc9]; exact numM_le _
    rw [hna9, hnb9, hnc9] at hnum
    have hmu2 : (na9 : Int) * (nb9 : Int) = (nc9 : Int) := by rw [hnum, Int.natCast_mul]
    have hws2 := wrap_n (m := nc9) (by omega)
    have hna' := Lib.hid hna9
    have hnb' := Lib.hid hnb9
    have hnc' := Lib.hid hnc9
    have hs' := Lib.hid hs
    clear hs hna9 hnb9 hnc9 hnum
    have hpq' := Lib.hid hpq
    have KP_1 := kproduct_yes ha1.out hb1.out hpq'.out (hT.still hfV.out)
    rw [hs'.out] at KP_1
    have K_2 := KP_1
    go_wp2_with fail
    refine K_2.mono ?_
    rintro e w_2 ⟨Bc, rfl, Fc, hX_2, hlo_2, hf_2⟩
    have hc_2 := Lib.hid (show Mx w_2 Bc Fc s (kronM (A) (B) q) from hX_2)
    have upc := Lib.hid (hX_2.lt)
    have loc := Lib.hid hlo_2
    have sz_2 := Lib.hid (hf_2.size)
    have ha_3 := Lib.hid (ha1.out.still hf_2)
    clear ha1
    have hb_4 := Lib.hid (hb1.out.still hf_2)
    clear hb1
    have hfw_5 := Lib.hid (hfV.out.then hf_2)
    clear hfV
    clear K_2 hX_2 hlo_2 hf_2
    clear KP_1
    have K_6 := qturn_any ha_3.out
    go_wp2_with fail
    refine K_6.mono ?_
    rintro e w_6 ⟨Bta, rfl, Fta, hX_6, hlo_6, hf_6⟩
    have hta_6 := Lib.hid (show Mx w_6 Bta Fta p (tnM (A)) from hX_6)
    have upta := Lib.hid (hX_6.lt)
    have lota := Lib.hid hlo_6
    have sz_6 := Lib.hid (hf_6.size)
    have ha_7 := Lib.hid (ha_3.out.still hf_6)
    clear ha_3
    have hb_8 := Lib.hid (hb_4.out.still hf_6)
    clear hb_4
    have hc_9 := Lib.hid (hc_2.out.still hf_6)
    clear hc_2
    have hfw_10 := Lib.hid (hfw_5.out.then hf_6)
    clear hfw_5
    clear K_6 hX_6 hlo_6 hf_6
    have K_11 := qturn_any hb_8.out
    go_wp2_with fail
    refine K_11.mono ?_
    rintro e w_11 ⟨Btb, rfl, Ftb, hX_11, hlo_11, hf_11⟩
    have htb_11 := Lib.hid (show Mx w_11 Btb Ftb q (tnM (B)) from hX_11)
    have uptb := Lib.hid (hX_11.lt)
    have lotb := Lib.hid hlo_11
    have sz_11 := Lib.hid (hf_11.size)
    have ha_12 := Lib.hid (ha_7.out.still hf_11)
    clear ha_7
    have hb_13 := Lib.hid (hb_8.out.still hf_11)
    clear hb_8
    have hc_14 := Lib.hid (hc_9.out.still hf_11)
    clear hc_9
    have hta_15 := Lib.hid (hta_6.out.still hf_11)
    clear hta_6
    have hfw_16 := Lib.hid (hfw_10.out.then hf_11)
    clear hfw_10
    clear K_11 hX_11 hlo_11 hf_11
    have KP_17 := kproduct_yes hta_15.out htb_11.out hpq'.out (hT.still hfw_16.out)
    rw [hs'.out] at KP_17
    have K_18 := KP_17
    go_wp2_with fail
    refine K_18.mono ?_
    rintro e w_18 ⟨Bt, rfl, Ft, hX_18, hlo_18, hf_18⟩
    have ht_18 := Lib.hid (show Mx w_18 Bt Ft s (kronM (tnM (A)) (tnM (B)) q) from hX_18)
    have upt := Lib.hid (hX_18.lt)
    have lot := Lib.hid hlo_18
    have sz_18 := Lib.hid (hf_18.size)
    have ha_19 := Lib.hid (ha_12.out.still hf_18)
    clear ha_12
    have hb_20 := Lib.hid (hb_13.out.still hf_18)
    clear hb_13
    have hc_21 := Lib.hid (hc_14.out.still hf_18)
    clear hc_14
    have hta_22 := Lib.hid (hta_15.out.still hf_18)
    clear hta_15
    have htb_23 := Lib.hid (htb_11.out.still hf_18)
    clear htb_11
    have hfw_24 := Lib.hid (hfw_16.out.then hf_18)
    clear hfw_16
    clear K_18 hX_18 hlo_18 hf_18
    clear KP_17
    clear hta_22
    clear htb_23
    have K_25 := Mx.side hb_20.out
    go_wp2_with fail
    refine K_25.mono ?_
    rintro e w9 ⟨rfl, e9⟩
    replace e9 := e9.symm
    subst e9
    clear K_25
    have K_26 := Mx.side hc_21.out
    go_wp2_with fail
    refine K_26.mono ?_
    rintro e w9 ⟨rfl, e9⟩
    replace e9 := e9.symm
    subst e9
    clear K_26
    have K_27 := Mx.side ha_19.out
    go_wp2_with fail
    refine K_27.mono ?_
    rintro e w9 ⟨rfl, e9⟩
    replace e9 := e9.symm
    subst e9
    clear K_27
    have K_28 := qlen_any hc_21.out
    rw [hnc'.out] at K_28
    go_wp2_with fail
    refine K_28.mono ?_
    rintro e w_28 ⟨rfl, hf_28⟩
    have sz_28 := Lib.hid (hf_28.size)
    have ha_29 := Lib.hid (ha_19.out.still hf_28)
    clear ha_19
    have hb_30 := Lib.hid (hb_20.out.still hf_28)
    clear hb_20
    have hc_31 := Lib.hid (hc_21.out.still hf_28)
    clear hc_21
    have ht_32 := Lib.hid (ht_18.out.still hf_28)
    clear ht_18
    have hfw_33 := Lib.hid (hfw_24.out.then hf_28)
    clear hfw_24
    clear K_28 hf_28
    have K_34 := qlen_any ha_29.out
    rw [hna'.out] at K_34
    go_wp2_with fail
    refine K_34.mono ?_
    rintro e w_34 ⟨rfl, hf_34⟩
    have sz_34 := Lib.hid (hf_34.size)
    have ha_35 := Lib.hid (ha_29.out.still hf_34)
    clear ha_29
    have hb_36 := Lib.hid (hb_30.out.still hf_34)
    clear hb_30
    have hc_37 := Lib.hid (hc_31.out.still hf_34)
    clear hc_31
    have ht_38 := Lib.hid (ht_32.out.still hf_34)
    clear ht_32
    have hfw_39 := Lib.hid (hfw_33.out.then hf_34)
    clear hfw_33
    clear K_34 hf_34
    have K_40 := qlen_any hb_36.out
    rw [hnb'.out] at K_40
    go_wp2_with fail
    refine K_40.mono ?_
    rintro e w_40 ⟨rfl, hf_40⟩
    have sz_40 := Lib.hid (hf_40.size)
    have ha_41 := Lib.hid (ha_35.out.still hf_40)
    clear ha_35
    have hb_42 := Lib.hid (hb_36.out.still hf_40)
    clear hb_36
    have hc_43 := Lib.hid (hc_37.out.still hf_40)
    clear hc_37
    have ht_44 := Lib.hid (ht_38.out.still hf_40)
    clear ht_38
    have hfw_45 := Lib.hid (hfw_39.out.then hf_40)
    clear hfw_39
    clear K_40 hf_40
    have K_46 := qturn_any hc_43.out
    go_wp2_with fail
    refine K_46.mono ?_
    rintro e w_46 ⟨Btc, rfl, Ftc, hX_46, hlo_46, hf_46⟩
    have htc_46 := Lib.hid (show Mx w_46 Btc Ftc s (tnM (kronM (A) (B) q)) from hX_46)
    have uptc := Lib.hid (hX_46.lt)
    have lotc := Lib.hid hlo_46
    have sz_46 := Lib.hid (hf_46.size)
    have ha_47 := Lib.hid (ha_41.out.still hf_46)
    clear ha_41
    have hb_48 := Lib.hid (hb_42.out.still hf_46)
    clear hb_42
    have hc_49 := Lib.hid (hc_43.out.still hf_46)
    clear hc_43
    have ht_50 := Lib.hid (ht_44.out.still hf_46)
    clear ht_44
    have hfw_51 := Lib.hid (hfw_45.out.then hf_46)
    clear hfw_45
    clear K_46 hX_46 hlo_46 hf_46
    have K_52 := qsame_any htc_46.out ht_50.out
    go_wp2_with fail
    refine K_52.mono ?_
    rintro e w_52 ⟨v_52, rfl, hv_52, hf_52⟩
    have hvt_52 : v_52 = true := hv_52.2 (by refine ⟨by trivial, ?_⟩; exact fun r c => kron_turn A B q r c)
    subst hvt_52
    have sz_52 := Lib.hid (hf_52.size)
    have ha_53 := Lib.hid (ha_47.out.still hf_52)
    clear ha_47
    have hb_54 := Lib.hid (hb_48.out.still hf_52)
    clear hb_48
    have hc_55 := Lib.hid (hc_49.out.still hf_52)
    clear hc_49
    have ht_56 := Lib.hid (ht_50.out.still hf_52)
    clear ht_50
    have htc_57 := Lib.hid (htc_46.out.still hf_52)
    clear htc_46
    have hfw_58 := Lib.hid (hfw_51.out.then hf_52)
    clear hfw_51
    clear K_52 hv_52 hf_52
    clear htc_57
    clear ht_56
    have K_59 := qnew_yes q hq1 (by omega) w_52
    go_wp2_with fail
    refine K_59.mono ?_
    rintro e w_59 ⟨rfl, lv, hlv, hwd, hBe, hf_59⟩
    obtain ⟨Be, hBe9⟩ : ∃ b, b = w_52.heap.size := ⟨_, rfl⟩
    rw [← hBe9] at hBe ⊢
    have he1 := Lib.hid (Mx.new (w := w_52) hq1 (by omega) hlv hwd hBe)
    have ha_60 := Lib.hid (ha_53.out.still hf_59)
    clear ha_53
    have hb_61 := Lib.hid (hb_54.out.still hf_59)
    clear hb_54
    have hc_62 := Lib.hid (hc_55.out.still hf_59)
    clear hc_55
    have hfw_63 := Lib.hid (hfw_58.out.then hf_59)
    clear hfw_58
    clear K_59 hf_59 hBe hBe9 hlv hwd
    have hTV := Lib.hid (hT.still hfw_63.out)
    go_wp2_with fail
    go_loopw [11] (fun iv wr => ∃ i : Nat, i ≤ p ∧ iv = .int .i64 (i : Nat) ∧ Far (fun _ => False) w_59 wr) (fun iv _ => p - (intOf iv).toNat)
    case atStart => exact ⟨0, Nat.zero_le _, rfl, Far.refl _ _⟩
    case round =>
      obtain ⟨i, hi, rfl, hf⟩ := hrel
      obtain ⟨wi, hwi⟩ : ∃ wi, wi = wr := ⟨_, rfl⟩
      rw [← hwi] at hf ⊢
      clear hwi
      have hfi := Lib.hid hf
      have ga_114 := Lib.hid (ha_60.out.still hf)
      have gb_115 := Lib.hid (hb_61.out.still hf)
      have gc_116 := Lib.hid (hc_62.out.still hf)
      have ge_117 := Lib.hid (he1.out.still hf)
      clear hf
      by_cases hlt : i < p
      · have hii : (i : Int) < (p : Int) := by omega
        have hib : (i : Int) + 1 ≤ 9223372036854775807 := by omega
        have K_118 := Mx.side ga_114.out
        go_wp2_with fail
        refine K_118.mono ?_
        rintro e w9 ⟨rfl, e9⟩
        replace e9 := e9.symm
        subst e9
        clear K_118
        go_wp2_with fail
        go_loopw [12] (fun jv wr => ∃ j : Nat, j ≤ p ∧ jv = .int .i64 (j : Nat) ∧ Far (fun _ => False) w_59 wr) (fun jv _ => p - (intOf jv).toNat)
        case atStart => exact ⟨0, Nat.zero_le _, rfl, hfi.out⟩
        case round =>
          obtain ⟨j, hj, rfl, hf⟩ := hrel
          obtain ⟨wj, hwj⟩ : ∃ wj, wj = wr := ⟨_, rfl⟩
          rw [← hwj] at hf ⊢
          clear hwj
          have hfj := Lib.hid hf
          have ga_169 := Lib.hid (ha_60.out.still hf)
          have gb_170 := Lib.hid (hb_61.out.still hf)
          have gc_171 := Lib.hid (hc_62.out.still hf)
          have ge_172 := Lib.hid (he1.out.still hf)
          clear hf
          by_cases hjt : j < p
          · have hji : (j : Int) < (p : Int) := by omega
            have hjb : (j : Int) + 1 ≤ 9223372036854775807 := by omega
            have K_173 := Mx.side ga_169.out
            go_wp2_with fail
            refine K_173.mono ?_
            rintro e w9 ⟨rfl, e9⟩
            replace e9 := e9.symm
            subst e9
            clear K_173
            have K_174 := kSquare_yes gc_171.out q p i j hq1 hs'.out.symm hlt hjt (hTV.out.still hfj.out)
            go_wp2_with fail
            refine K_174.mono ?_
            rintro e w_174 ⟨Bs, rfl, Fs, hX_174, hlo_174, hf_174⟩
            have hs_174 := Lib.hid (show Mx w_174 Bs Fs q (sqM (kronM A B q) q i j) from hX_174)
            have ups := Lib.hid (hX_174.lt)
            have los := Lib.hid hlo_174
            have sz_174 := Lib.hid (hf_174.size)
            have ha_175 := Lib.hid (ga_169.out.still hf_174)
            clear ga_169
            have hb_176 := Lib.hid (gb_170.out.still hf_174)
            clear gb_170
            have hc_177 := Lib.hid (gc_171.out.still hf_174)
            clear gc_171
            have he_178 := Lib.hid (ge_172.out.still hf_174)
            clear ge_172
            have hfw_179 := Lib.hid (hfj.out.then hf_174)
            clear hfj
            clear K_174 hX_174 hlo_174 hf_174
            have K_180 := Mx.get ha_175.out i j hlt hjt
            obtain ⟨g, hg⟩ : ∃ g, A i j = g := ⟨_, rfl⟩
            rw [hg] at K_180
            have hg' := Lib.hid hg
            clear hg
            go_wp2_with fail
            refine K_180.mono ?_
            rintro e w_180 ⟨rfl, hf_180⟩
            have sz_180 := Lib.hid (hf_180.size)
            have ha_181 := Lib.hid (ha_175.out.still hf_180)
            clear ha_175
            have hb_182 := Lib.hid (hb_176.out.still hf_180)
            clear hb_176
            have hc_183 := Lib.hid (hc_177.out.still hf_180)
            clear hc_177
            have he_184 := Lib.hid (he_178.out.still hf_180)
            clear he_178
            have hs_185 := Lib.hid (hs_174.out.still hf_180)
            clear hs_174
            have hfw_186 := Lib.hid (hfw_179.out.then hf_180)
            clear hfw_179
            clear K_180 hf_180
            cases g with
            | true =>
              have K_207 := qsame_any hs_185.out hb_182.out
              go_wp2_with fail
              refine K_207.mono ?_
              rintro e w_207 ⟨v_207, rfl, hv_207, hf_207⟩
              have hvt_207 : v_207 = true := hv_207.2 (by refine ⟨by trivial, ?_⟩; exact fun r s => by rw [sq_kron wb.out, hg'.out, Bool.true_and])
              subst hvt_207
              have sz_207 := Lib.hid (hf_207.size)
              have ha_208 := Lib.hid (ha_181.out.still hf_207)
              clear ha_181
              have hb_209 := Lib.hid (hb_182.out.still hf_207)
              clear hb_182
              have hc_210 := Lib.hid (hc_183.out.still hf_207)
              clear hc_183
              have he_211 := Lib.hid (he_184.out.still hf_207)
              clear he_184
              have hs_212 := Lib.hid (hs_185.out.still hf_207)
              clear hs_185
              have hfw_213 := Lib.hid (hfw_186.out.then hf_207)
              clear hfw_186
              clear K_207 hv_207 hf_207
              go_wp2_with fail
              go_roundw
              case rel => exact ⟨j + 1, by omega, by go_num, hfw_213.out⟩
              case measure => simp only [intOf]; omega
            | false =>
              have K_207 := qsame_any hs_185.out he_184.out
              go_wp2_with fail
              refine K_207.mono ?_
              rintro e w_207 ⟨v_207, rfl, hv_207, hf_207⟩
              have hvt_207 : v_207 = true := hv_207.2 (by refine ⟨by trivial, ?_⟩; exact fun r s => by rw [sq_kron wb.out, hg'.out, Bool.false_and])
              subst hvt_207
              have sz_207 := Lib.hid (hf_207.size)
              have ha_208 := Lib.hid (ha_181.out.still hf_207)
              clear ha_181
              have hb_209 := Lib.hid (hb_182.out.still hf_207)
              clear hb_182
              have hc_210 := Lib.hid (hc_183.out.still hf_207)
              clear hc_183
              have he_211 := Lib.hid (he_184.out.still hf_207)
              clear he_184
              have hs_212 := Lib.hid (hs_185.out.still hf_207)
              clear hs_185
              have hfw_213 := Lib.hid (hfw_186.out.then hf_207)
              clear hfw_186
              clear K_207 hv_207 hf_207
              go_wp2_with fail
              go_roundw
              case rel => exact ⟨j + 1, by omega, by go_num, hfw_213.out⟩
              case measure => simp only [intOf]; omega
          · have hji : ¬ (j : Int) < (p : Int) := by omega
            have K_387 := Mx.side ga_169.out
            go_wp2_with fail
            refine K_387.mono ?_
            rintro e w9 ⟨rfl, e9⟩
            replace e9 := e9.symm
            subst e9
            clear K_387
            go_wp2_with fail
            go_roundw
            case rel => exact ⟨i + 1, by omega, by go_num, hfj.out⟩
            case measure => simp only [intOf]; omega
      · have hii : ¬ (i : Int) < (p : Int) := by omega
        have K_587 := Mx.side ga_114.out
        go_wp2_with fail
        refine K_587.mono ?_
        rintro e w9 ⟨rfl, e9⟩
        replace e9 := e9.symm
        subst e9
        clear K_587
        have K_588 := kOuter_yes gc_116.out q p hq1 p1 hs'.out.symm (hTV.out.still hfi.out)
        go_wp2_with fail
        refine K_588.mono ?_
        rintro e w_588 ⟨Bo, rfl, Fo, hX_588, hlo_588, hf_588⟩
        have ho_588 := Lib.hid (show Mx w_588 Bo Fo p (outM (kronM A B q) s q) from hX_588)
        have upo := Lib.hid (hX_588.lt)
        have loo := Lib.hid hlo_588
        have sz_588 := Lib.hid (hf_588.size)
        have ha_589 := Lib.hid (ga_114.out.still hf_588)
        clear ga_114
        have hb_590 := Lib.hid (gb_115.out.still hf_588)
        clear gb_115
        have hc_591 := Lib.hid (gc_116.out.still hf_588)
        clear gc_116
        have he_592 := Lib.hid (ge_117.out.still hf_588)
        clear ge_117
        have hfw_593 := Lib.hid (hfi.out.then hf_588)
        clear hfi
        clear K_588 hX_588 hlo_588 hf_588
        have K_594 := kInner_yes hc_591.out q p hq1 p1 hs'.out.symm (hTV.out.still hfw_593.out)
        go_wp2_with fail
        refine K_594.mono ?_
        rintro e w_594 ⟨Bn, rfl, Fn, hX_594, hlo_594, hf_594⟩
        have hn_594 := Lib.hid (show Mx w_594 Bn Fn q (innM (kronM A B q) s q) from hX_594)
        have upn := Lib.hid (hX_594.lt)
        have lon := Lib.hid hlo_594
        have sz_594 := Lib.hid (hf_594.size)
        have ha_595 := Lib.hid (ha_589.out.still hf_594)
        clear ha_589
        have hb_596 := Lib.hid (hb_590.out.still hf_594)
        clear hb_590
        have hc_597 := Lib.hid (hc_591.out.still hf_594)
        clear hc_591
        have he_598 := Lib.hid (he_592.out.still hf_594)
        clear he_592
        have ho_599 := Lib.hid (ho_588.out.still hf_594)
        clear ho_588
        have hfw_600 := Lib.hid (hfw_593.out.then hf_594)
        clear hfw_593
        clear K_594 hX_594 hlo_594 hf_594
        have K_601 := qlen_any hb_596.out
        rw [hnb'.out] at K_601
        go_wp2_with fail
        refine K_601.mono ?_
        rintro e w_601 ⟨rfl, hf_601⟩
        have sz_601 := Lib.hid (hf_601.size)
        have ha_602 := Lib.hid (ha_595.out.still hf_601)
        clear ha_595
        have hb_603 := Lib.hid (hb_596.out.still hf_601)
        clear hb_596
        have hc_604 := Lib.hid (hc_597.out.still hf_601)
        clear hc_597
        have he_605 := Lib.hid (he_598.out.still hf_601)
        clear he_598
        have ho_606 := Lib.hid (ho_599.out.still hf_601)
        clear ho_599
        have hn_607 := Lib.hid (hn_594.out.still hf_601)
        clear hn_594
        have hfw_608 := Lib.hid (hfw_600.out.then hf_601)
        clear hfw_600
        clear K_601 hf_601
        by_cases hnb0 : nb9 = 0
        · have nb0 : ((nb9 : Int) == 0) = true := by simp; omega
          have K_709 := qlen_any ha_602.out
          rw [hna'.out] at K_709
          go_wp2_with fail
          refine K_709.mono ?_
          rintro e w_709 ⟨rfl, hf_709⟩
          have sz_709 := Lib.hid (hf_709.size)
          have ha_710 := Lib.hid (ha_602.out.still hf_709)
          clear ha_602
          have hb_711 := Lib.hid (hb_603.out.still hf_709)
          clear hb_603
          have hc_712 := Lib.hid (hc_604.out.still hf_709)
          clear hc_604
          have he_713 := Lib.hid (he_605.out.still hf_709)
          clear he_605
          have ho_714 := Lib.hid (ho_606.out.still hf_709)
          clear ho_606
          have hn_715 := Lib.hid (hn_607.out.still hf_709)
          clear hn_607
          have hfw_716 := Lib.hid (hfw_608.out.then hf_709)
          clear hfw_608
          clear K_709 hf_709
          by_cases hna0 : na9 = 0
          · have na0 : ((na9 : Int) == 0) = true := by simp; omega
            have AW := awake04_any w_709 (hTV.out.still hfw_716.out)
            go_wp2_with fail
            refine AW.mono ?_
            rintro e wz ⟨rfl, hfz⟩
            have hfz' := Lib.hid (hfw_63.out.then (hfw_716.out.then hfz))
            clear AW hfz
            go_wp2_with fail
            go_ret
            exact ⟨rfl, hfz'.out⟩
          · have na0 := nat_beq0 hna0
            have K_777 := qsame_any hn_715.out hb_711.out
            go_wp2_with fail
            refine K_777.mono ?_
            rintro e w_777 ⟨v_777, rfl, hv_777, hf_777⟩
            have hvt_777 : v_777 = true := hv_777.2 (by refine ⟨by trivial, ?_⟩; exact fun r c => by have h := inn_kron hq1 wa.out wb.out (by rw [hna'.out]; exact hna0) r c; rw [hs'.out] at h; exact h)
            subst hvt_777
            have sz_777 := Lib.hid (hf_777.size)
            have ha_778 := Lib.hid (ha_710.out.still hf_777)
            clear ha_710
            have hb_779 := Lib.hid (hb_711.out.still hf_777)
            clear hb_711
            have hc_780 := Lib.hid (hc_712.out.still hf_777)
            clear hc_712
            have he_781 := Lib.hid (he_713.out.still hf_777)
            clear he_713
            have ho_782 := Lib.hid (ho_714.out.still hf_777)
            clear ho_714
            have hn_783 := Lib.hid (hn_715.out.still hf_777)
            clear hn_715
            have hfw_784 := Lib.hid (hfw_716.out.then hf_777)
            clear hfw_716
            clear K_777 hv_777 hf_777
            have AW := awake04_any w_777 (hTV.out.still hfw_784.out)
            go_wp2_with fail
            refine AW.mono ?_
            rintro e wz ⟨rfl, hfz⟩
            have hfz' := Lib.hid (hfw_63.out.then (hfw_784.out.then hfz))
            clear AW hfz
            go_wp2_with fail
            go_ret
            exact ⟨rfl, hfz'.out⟩
        · have nb0 := nat_beq0 hnb0
          have K_809 := qsame_any ho_606.out ha_602.out
          go_wp2_with fail
          refine K_809.mono ?_
          rintro e w_809 ⟨v_809, rfl, hv_809, hf_809⟩
          have hvt_809 : v_809 = true := hv_809.2 (by refine ⟨by trivial, ?_⟩; exact fun r c => by have h := out_kron hq1 wa.out wb.out (by rw [hnb'.out]; exact hnb0) r c; rw [hs'.out] at h; exact h)
          subst hvt_809
          have sz_809 := Lib.hid (hf_809.size)
          have ha_810 := Lib.hid (ha_602.out.still hf_809)
          clear ha_602
          have hb_811 := Lib.hid (hb_603.out.still hf_809)
          clear hb_603
          have hc_812 := Lib.hid (hc_604.out.still hf_809)
          clear hc_604
          have he_813 := Lib.hid (he_605.out.still hf_809)
          clear he_605
          have ho_814 := Lib.hid (ho_606.out.still hf_809)
          clear ho_606
          have hn_815 := Lib.hid (hn_607.out.still hf_809)
          clear hn_607
          have hfw_816 := Lib.hid (hfw_608.out.then hf_809)
          clear hfw_608
          clear K_809 hv_809 hf_809
          have K_817 := qlen_any ha_810.out
          rw [hna'.out] at K_817
          go_wp2_with fail
          refine K_817.mono ?_
          rintro e w_817 ⟨rfl, hf_817⟩
          have sz_817 := Lib.hid (hf_817.size)
          have ha_818 := Lib.hid (ha_810.out.still hf_817)
          clear ha_810
          have hb_819 := Lib.hid (hb_811.out.still hf_817)
          clear hb_811
          have hc_820 := Lib.hid (hc_812.out.still hf_817)
          clear hc_812
          have he_821 := Lib.hid (he_813.out.still hf_817)
          clear he_813
          have ho_822 := Lib.hid (ho_814.out.still hf_817)
          clear ho_814
          have hn_823 := Lib.hid (hn_815.out.still hf_817)
          clear hn_815
          have hfw_824 := Lib.hid (hfw_816.out.then hf_817)
          clear hfw_816
          clear K_817 hf_817
          by_cases hna0 : na9 = 0
          · have na0 : ((na9 : Int) == 0) = true := by simp; omega
            have AW := awake04_any w_817 (hTV.out.still hfw_824.out)
            go_wp2_with fail
            refine AW.mono ?_
            rintro e wz ⟨rfl, hfz⟩
            have hfz' := Lib.hid (hfw_63.out.then (hfw_824.out.then hfz))
            clear AW hfz
            go_wp2_with fail
            go_ret
            exact ⟨rfl, hfz'.out⟩
          · have na0 := nat_beq0 hna0
            have K_885 := qsame_any hn_823.out hb_819.out
            go_wp2_with fail
            refine K_885.mono ?_
            rintro e w_885 ⟨v_885, rfl, hv_885, hf_885⟩
            have hvt_885 : v_885 = true := hv_885.2 (by refine ⟨by trivial, ?_⟩; exact fun r c => by have h := inn_kron hq1 wa.out wb.out (by rw [hna'.out]; exact hna0) r c; rw [hs'.out] at h; exact h)
            subst hvt_885
            have sz_885 := Lib.hid (hf_885.size)
            have ha_886 := Lib.hid (ha_818.out.still hf_885)
            clear ha_818
            have hb_887 := Lib.hid (hb_819.out.still hf_885)
            clear hb_819
            have hc_888 := Lib.hid (hc_820.out.still hf_885)
            clear hc_820
            have he_889 := Lib.hid (he_821.out.still hf_885)
            clear he_821
            have ho_890 := Lib.hid (ho_822.out.still hf_885)
            clear ho_822
            have hn_891 := Lib.hid (hn_823.out.still hf_885)
            clear hn_823
            have hfw_892 := Lib.hid (hfw_824.out.then hf_885)
            clear hfw_824
            clear K_885 hv_885 hf_885
            have AW := awake04_any w_885 (hTV.out.still hfw_892.out)
            go_wp2_with fail
            refine AW.mono ?_
            rintro e wz ⟨rfl, hfz⟩
            have hfz' := Lib.hid (hfw_63.out.then (hfw_892.out.then hfz))
            clear AW hfz
            go_wp2_with fail
            go_ret
            exact ⟨rfl, hfz'.out⟩
end
end Go.Proofs.YtkobbcmndneajaaDoor
