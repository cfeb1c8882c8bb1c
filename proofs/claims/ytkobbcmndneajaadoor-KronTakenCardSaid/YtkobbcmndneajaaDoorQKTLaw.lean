/-
  KronTaken walked.
-/
import Derived.Test.YtkobbcmndneajaaDoorQKTaken
import Derived.Test.YtkobbcmndneajaaDoorQKAwake
namespace Go.Proofs.YtkobbcmndneajaaDoor
open Go.RowKit Go.Shelf
set_option linter.unusedVariables false
set_option linter.unusedSimpArgs false
section
set_option maxHeartbeats 8000000
set_option maxRecDepth 100000
theorem ktaken_law (W : World) (sci : Int) (aoc : Option Addr) (nc kc : Nat) (Rc Cc : Nat → Int) (hnc : nc ≤ kc) (hmc : nc ≤ 9223372036854775807) (hCc : Cls W aoc nc Rc Cc) (x1 x2 x3 : Int) (hT : Tab W) :
    Calls Tryd.prog 8 #[.agg #[.int .i64 sci, .slice aoc nc kc], .int .i64 x1, .int .i64 x2, .int .i64 x3] W fun e w' => e = .returned (.bool true) ∧ Far (fun _ => False) W w' := by
  obtain ⟨h4, hh4⟩ : ∃ h, h = W.heap.size := ⟨_, rfl⟩
  obtain ⟨Wz, hWz⟩ : ∃ V, V = W.alloc (.cells #[.int .i64 sci, .slice aoc nc kc] 65) := ⟨_, rfl⟩
  have hFz : Far (fun _ => False) W Wz := hWz ▸ (Far.refl _ W).alloc _
  have hz4 : Bk Wz h4 65 #[.int .i64 sci, .slice aoc nc kc] := hWz ▸ Bk.new hh4
  have z40 : Wz.cell? ⟨h4, 0, none⟩ = some (.int .i64 sci) := hz4.cell 0
  have z41 : Wz.cell? ⟨h4, 1, none⟩ = some (.slice aoc nc kc) := hz4.cell 1
  have kB4 := Lib.hid hz4
  have kT := Lib.hid (hT.still hFz)
  have kCc := Lib.hid (hCc.move hFz)
  have hfS := Lib.hid hFz
  have hh4' := Lib.hid hh4
  have hWz' := Lib.hid hWz
  clear hh4 hWz hFz hz4 hCc hT
  by_cases h400 : 400 < nc
  · have h4i : (400 : Int) < (nc : Int) := by omega
    have AW := awake04_any Wz kT.out
    clear h400
    go_enter Tryd.func8, Tryd.ntmps8
    go_upto_region 1 with fail
    rw [← hh4'.out, ← hWz'.out]
    go_wp2_with fail
    refine AW.mono ?_
    rintro e wz ⟨rfl, hfz⟩
    have hfz' := Lib.hid (hfS.out.then hfz)
    clear AW hfz
    go_wp2_with fail
    go_ret
    exact ⟨rfl, hfz'.out⟩
  · have h4i : ¬ (400 : Int) < (nc : Int) := by omega
    clear h400
    go_enter Tryd.func8, Tryd.ntmps8
    go_upto_region 1 with fail
    rw [← hh4'.out, ← hWz'.out]
    go_upto_region 3 with fail
    clear z41 z40
    have c0B4 : Wz.cell? ⟨h4, 0, none⟩ = some (.int .i64 sci) := (kB4.out).cell 0
    have c1B4 : Wz.cell? ⟨h4, 1, none⟩ = some (.slice aoc nc kc) := (kB4.out).cell 1
    have MD := made04_any sci aoc nc kc Rc Cc hnc hmc Wz kCc.out
    obtain ⟨Sc, hSc⟩ : ∃ S, ofS sci nc Rc Cc = S := ⟨_, rfl⟩
    obtain ⟨Mc, hMc⟩ : ∃ M, ofM sci nc Rc Cc = M := ⟨_, rfl⟩
    rw [hSc, hMc] at MD
    clear hSc hMc
    have K_1 := MD
    go_wp2_with fail
    refine K_1.mono ?_
    rintro e w_2 ⟨vc, dc, rfl, Fc, hXc, hDc, hDnc, hloc, hfc⟩
    clear K_1
    have kB4_3 := Lib.hid (kB4.out.far' hfc id)
    clear kB4
    have kT_4 := Lib.hid (kT.out.still hfc)
    clear kT
    have kCc_5 := Lib.hid (kCc.out.move hfc)
    clear kCc
    have hfw_6 := Lib.hid (hfS.out.then hfc)
    clear hfS
    clear MD hDnc hloc hfc
    have kXc := Lib.hid hXc
    clear hXc
    clear c0B4 c1B4
    have kDc := Lib.hid hDc
    obtain ⟨aocd, cpc, rfl, _⟩ := hDc
    obtain ⟨mc, hmmc⟩ : ∃ m, (cellsL Mc Sc).length = m := ⟨_, rfl⟩
    rw [hmmc] at kDc ⊢
    clear hmmc
    obtain ⟨h10, eh10⟩ : ∃ h, h = w_2.heap.size := ⟨_, rfl⟩
    obtain ⟨Wc, eWc⟩ : ∃ V, V = w_2.alloc (.cells #[.int .i64 (Sc : Nat), .slice aocd mc cpc] 28) := ⟨_, rfl⟩
    have fWc : Far (fun _ => False) w_2 Wc := eWc ▸ (Far.refl _ w_2).alloc _
    have bh10 : Bk Wc h10 28 #[.int .i64 (Sc : Nat), .slice aocd mc cpc] := eWc ▸ Bk.new eh10
    have eh10' := Lib.hid eh10
    have eWc' := Lib.hid eWc
    have bh10' := Lib.hid bh10
    clear eh10 eWc bh10
    have kB4_7 := Lib.hid (kB4_3.out.far' fWc id)
    clear kB4_3
    have kT_8 := Lib.hid (kT_4.out.still fWc)
    clear kT_4
    have kCc_9 := Lib.hid (kCc_5.out.move fWc)
    clear kCc_5
    have kXc_10 := Lib.hid (kXc.out.still fWc)
    clear kXc
    have kDc_11 := Lib.hid (kDc.out.move fWc)
    clear kDc
    have hfw_12 := Lib.hid (hfw_6.out.then fWc)
    clear hfw_6
    clear fWc
    go_upto_region 4 with fail
    rw [← eWc'.out, ← eh10'.out]
    have SL := fun (V : World) (h1 : HasF V vc Fc Sc Mc) (h2 : Tab V) => kSquare_any h1 x1 x2 x3 h2
    have SR := fun (V : World) (h1 : Dm V (.agg #[.int .i64 (Sc : Nat), .slice aocd mc cpc]) Sc Mc) => rSquare_any h1 x1 x2 x3
    have OL := fun (V : World) (h1 : HasF V vc Fc Sc Mc) (h2 : Tab V) => kOuter_any h1 x1 h2
    have IL := fun (V : World) (h1 : HasF V vc Fc Sc Mc) (h2 : Tab V) => kInner_any h1 x1 h2
    have DR := fun (V : World) (h1 : Dm V (.agg #[.int .i64 (Sc : Nat), .slice aocd mc cpc]) Sc Mc) => rSides_any h1 x1
    obtain ⟨Ss, hSs⟩ : ∃ S, (if sq4E Sc x1 x2 x3 = 0 then x1.toNat else 0) = S := ⟨_, rfl⟩
    rw [hSs] at SL SR
    obtain ⟨Ms, hMs⟩ : ∃ S, (if sq4E Sc x1 x2 x3 = 0 then sqM Mc x1.toNat x2.toNat x3.toNat else zeroM) = S := ⟨_, rfl⟩
    rw [hMs] at SL SR
    obtain ⟨Es, hEs⟩ : ∃ S, sq4E Sc x1 x2 x3 = S := ⟨_, rfl⟩
    rw [hEs] at SL SR
    obtain ⟨So, hSo⟩ : ∃ S, (if sqE Sc x1 = 0 then Sc / x1.toNat else 0) = S := ⟨_, rfl⟩
    rw [hSo] at OL DR
    obtain ⟨Mo, hMo⟩ : ∃ S, (if sqE Sc x1 = 0 then outM Mc Sc x1.toNat else zeroM) = S := ⟨_, rfl⟩
    rw [hMo] at OL DR
    obtain ⟨Si, hSi⟩ : ∃ S, (if sqE Sc x1 = 0 then x1.toNat else 0) = S := ⟨_, rfl⟩
    rw [hSi] at IL DR
    obtain ⟨Mi, hMi⟩ : ∃ S, (if sqE Sc x1 = 0 then innM Mc Sc x1.toNat else zeroM) = S := ⟨_, rfl⟩
    rw [hMi] at IL DR
    obtain ⟨Ee, hEe⟩ : ∃ S, sqE Sc x1 = S := ⟨_, rfl⟩
    rw [hEe] at OL IL DR
    have SL' := Lib.hid SL
    have SR' := Lib.hid SR
    have OL' := Lib.hid OL
    have IL' := Lib.hid IL
    have DR' := Lib.hid DR
    clear SL SR OL IL DR hSs hMs hEs hSo hMo hSi hMi hEe
    have K_13 := SL'.out _ (kXc_10.out) (kT_8.out)
    go_wp2_with fail
    refine K_13.mono ?_
    rintro e w_14 ⟨vs, rfl, Fs, hXs, hlo, hfx⟩
    clear K_13
    have kB4_15 := Lib.hid (kB4_7.out.far' hfx id)
    clear kB4_7
    have kT_16 := Lib.hid (kT_8.out.still hfx)
    clear kT_8
    have kCc_17 := Lib.hid (kCc_9.out.move hfx)
    clear kCc_9
    have kXc_18 := Lib.hid (kXc_10.out.still hfx)
    clear kXc_10
    have kDc_19 := Lib.hid (kDc_11.out.move hfx)
    clear kDc_11
    have kDcb_20 := Lib.hid (bh10'.out.far' hfx id)
    clear bh10'
    have hfw_21 := Lib.hid (hfw_12.out.then hfx)
    clear hfw_12
    have kXs := Lib.hid hXs
    clear hXs hlo hfx SL'
    have K_22 := OL'.out _ (kXc_18.out) (kT_16.out)
    go_wp2_with fail
    refine K_22.mono ?_
    rintro e w_23 ⟨vo, rfl, Fo, hXo, hlo, hfx⟩
    clear K_22
    have kB4_24 := Lib.hid (kB4_15.out.far' hfx id)
    clear kB4_15
    have kT_25 := Lib.hid (kT_16.out.still hfx)
    clear kT_16
    have kCc_26 := Lib.hid (kCc_17.out.move hfx)
    clear kCc_17
    have kXc_27 := Lib.hid (kXc_18.out.still hfx)
    clear kXc_18
    have kDc_28 := Lib.hid (kDc_19.out.move hfx)
    clear kDc_19
    have kDcb_29 := Lib.hid (kDcb_20.out.far' hfx id)
    clear kDcb_20
    have kXs_30 := Lib.hid (kXs.out.still hfx)
    clear kXs
    have hfw_31 := Lib.hid (hfw_21.out.then hfx)
    clear hfw_21
    have kXo := Lib.hid hXo
    clear hXo hlo hfx OL'
    have K_32 := IL'.out _ (kXc_27.out) (kT_25.out)
    go_wp2_with fail
    refine K_32.mono ?_
    rintro e w_33 ⟨vi, rfl, Fi, hXi, hlo, hfx⟩
    clear K_32
    have kB4_34 := Lib.hid (kB4_24.out.far' hfx id)
    clear kB4_24
    have kT_35 := Lib.hid (kT_25.out.still hfx)
    clear kT_25
    have kCc_36 := Lib.hid (kCc_26.out.move hfx)
    clear kCc_26
    have kXc_37 := Lib.hid (kXc_27.out.still hfx)
    clear kXc_27
    have kDc_38 := Lib.hid (kDc_28.out.move hfx)
    clear kDc_28
    have kDcb_39 := Lib.hid (kDcb_29.out.far' hfx id)
    clear kDcb_29
    have kXs_40 := Lib.hid (kXs_30.out.still hfx)
    clear kXs_30
    have kXo_41 := Lib.hid (kXo.out.still hfx)
    clear kXo
    have hfw_42 := Lib.hid (hfw_31.out.then hfx)
    clear hfw_31
    have kXi := Lib.hid hXi
    clear hXi hlo hfx IL'
    have c0Dcb : w_33.cell? ⟨h10, 0, none⟩ = some (.int .i64 (Sc : Nat)) := (kDcb_39.out).cell 0
    have c1Dcb : w_33.cell? ⟨h10, 1, none⟩ = some (.slice aocd mc cpc) := (kDcb_39.out).cell 1
    have K_43 := SR'.out _ (kDc_38.out)
    go_wp2_with fail
    refine K_43.mono ?_
    rintro e w_44 ⟨ds, rfl, hDs, hfx⟩
    clear K_43
    have kB4_45 := Lib.hid (kB4_34.out.far' hfx id)
    clear kB4_34
    have kT_46 := Lib.hid (kT_35.out.still hfx)
    clear kT_35
    have kCc_47 := Lib.hid (kCc_36.out.move hfx)
    clear kCc_36
    have kXc_48 := Lib.hid (kXc_37.out.still hfx)
    clear kXc_37
    have kDc_49 := Lib.hid (kDc_38.out.move hfx)
    clear kDc_38
    have kDcb_50 := Lib.hid (kDcb_39.out.far' hfx id)
    clear kDcb_39
    have kXs_51 := Lib.hid (kXs_40.out.still hfx)
    clear kXs_40
    have kXo_52 := Lib.hid (kXo_41.out.still hfx)
    clear kXo_41
    have kXi_53 := Lib.hid (kXi.out.still hfx)
    clear kXi
    have hfw_54 := Lib.hid (hfw_42.out.then hfx)
    clear hfw_42
    clear SR' hfx
    clear c0Dcb c1Dcb
    have kDs := Lib.hid hDs
    obtain ⟨aosd, cps, rfl, _⟩ := hDs
    obtain ⟨ms, hmms⟩ : ∃ m, (cellsL Ms Ss).length = m := ⟨_, rfl⟩
    rw [hmms] at kDs ⊢
    clear hmms
    obtain ⟨h17, eh17⟩ : ∃ h, h = w_44.heap.size := ⟨_, rfl⟩
    obtain ⟨Ws, eWs⟩ : ∃ V, V = w_44.alloc (.cells #[.int .i64 (Ss : Nat), .slice aosd ms cps] 28) := ⟨_, rfl⟩
    have fWs : Far (fun _ => False) w_44 Ws := eWs ▸ (Far.refl _ w_44).alloc _
    have bh17 : Bk Ws h17 28 #[.int .i64 (Ss : Nat), .slice aosd ms cps] := eWs ▸ Bk.new eh17
    have eh17' := Lib.hid eh17
    have eWs' := Lib.hid eWs
    have bh17' := Lib.hid bh17
    clear eh17 eWs bh17
    have kB4_55 := Lib.hid (kB4_45.out.far' fWs id)
    clear kB4_45
    have kT_56 := Lib.hid (kT_46.out.still fWs)
    clear kT_46
    have kCc_57 := Lib.hid (kCc_47.out.move fWs)
    clear kCc_47
    have kXc_58 := Lib.hid (kXc_48.out.still fWs)
    clear kXc_48
    have kDc_59 := Lib.hid (kDc_49.out.move fWs)
    clear kDc_49
    have kDcb_60 := Lib.hid (kDcb_50.out.far' fWs id)
    clear kDcb_50
    have kXs_61 := Lib.hid (kXs_51.out.still fWs)
    clear kXs_51
    have kXo_62 := Lib.hid (kXo_52.out.still fWs)
    clear kXo_52
    have kXi_63 := Lib.hid (kXi_53.out.still fWs)
    clear kXi_53
    have kDs_64 := Lib.hid (kDs.out.move fWs)
    clear kDs
    have hfw_65 := Lib.hid (hfw_54.out.then fWs)
    clear hfw_54
    clear fWs
    go_upto_region 8 with fail
    rw [← eWs'.out, ← eh17'.out]
    have c0Dcb : Ws.cell? ⟨h10, 0, none⟩ = some (.int .i64 (Sc : Nat)) := (kDcb_60.out).cell 0
    have c1Dcb : Ws.cell? ⟨h10, 1, none⟩ = some (.slice aocd mc cpc) := (kDcb_60.out).cell 1
    have K_66 := DR'.out _ (kDc_59.out)
    go_wp2_with fail
    refine K_66.mono ?_
    rintro e w_67 ⟨do9, di9, rfl, hDo, hDi, hfx⟩
    clear K_66
    have kB4_68 := Lib.hid (kB4_55.out.far' hfx id)
    clear kB4_55
    have kT_69 := Lib.hid (kT_56.out.still hfx)
    clear kT_56
    have kCc_70 := Lib.hid (kCc_57.out.move hfx)
    clear kCc_57
    have kXc_71 := Lib.hid (kXc_58.out.still hfx)
    clear kXc_58
    have kDc_72 := Lib.hid (kDc_59.out.move hfx)
    clear kDc_59
    have kDcb_73 := Lib.hid (kDcb_60.out.far' hfx id)
    clear kDcb_60
    have kXs_74 := Lib.hid (kXs_61.out.still hfx)
    clear kXs_61
    have kXo_75 := Lib.hid (kXo_62.out.still hfx)
    clear kXo_62
    have kXi_76 := Lib.hid (kXi_63.out.still hfx)
    clear kXi_63
    have kDs_77 := Lib.hid (kDs_64.out.move hfx)
    clear kDs_64
    have kDsb_78 := Lib.hid (bh17'.out.far' hfx id)
    clear bh17'
    have hfw_79 := Lib.hid (hfw_65.out.then hfx)
    clear hfw_65
    clear DR' hfx
    clear c0Dcb c1Dcb
    have kDo := Lib.hid hDo
    obtain ⟨aood, cpo, rfl, _⟩ := hDo
    obtain ⟨mo, hmmo⟩ : ∃ m, (cellsL Mo So).length = m := ⟨_, rfl⟩
    rw [hmmo] at kDo ⊢
    clear hmmo
    have kDi := Lib.hid hDi
    obtain ⟨aoid, cpi, rfl, _⟩ := hDi
    obtain ⟨mi, hmmi⟩ : ∃ m, (cellsL Mi Si).length = m := ⟨_, rfl⟩
    rw [hmmi] at kDi ⊢
    clear hmmi
    obtain ⟨h19, eh19⟩ : ∃ h, h = w_67.heap.size := ⟨_, rfl⟩
    obtain ⟨h20, eh20⟩ : ∃ h, h = h19 + 1 := ⟨_, rfl⟩
    obtain ⟨Wo, eWo⟩ : ∃ V, V = (w_67.alloc (.cells #[.int .i64 (So : Nat), .slice aood mo cpo] 28)).alloc (.cells #[.int .i64 (Si : Nat), .slice aoid mi cpi] 28) := ⟨_, rfl⟩
    have fWo : Far (fun _ => False) w_67 Wo := eWo ▸ ((Far.refl _ w_67).alloc _).alloc _
    have bh19 : Bk Wo h19 28 #[.int .i64 (So : Nat), .slice aood mo cpo] := eWo ▸ (Bk.new eh19).alloc _
    have bh20 : Bk Wo h20 28 #[.int .i64 (Si : Nat), .slice aoid mi cpi] := eWo ▸ Bk.new (by simp [eh20, eh19])
    have eh19' := Lib.hid eh19
    have eh20' := Lib.hid eh20
    have eWo' := Lib.hid eWo
    have bh19' := Lib.hid bh19
    have bh20' := Lib.hid bh20
    clear eh19 eh20 eWo bh19 bh20
    have kB4_80 := Lib.hid (kB4_68.out.far' fWo id)
    clear kB4_68
    have kT_81 := Lib.hid (kT_69.out.still fWo)
    clear kT_69
    have kCc_82 := Lib.hid (kCc_70.out.move fWo)
    clear kCc_70
    have kXc_83 := Lib.hid (kXc_71.out.still fWo)
    clear kXc_71
    have kDc_84 := Lib.hid (kDc_72.out.move fWo)
    clear kDc_72
    have kDcb_85 := Lib.hid (kDcb_73.out.far' fWo id)
    clear kDcb_73
    have kXs_86 := Lib.hid (kXs_74.out.still fWo)
    clear kXs_74
    have kXo_87 := Lib.hid (kXo_75.out.still fWo)
    clear kXo_75
    have kXi_88 := Lib.hid (kXi_76.out.still fWo)
    clear kXi_76
    have kDs_89 := Lib.hid (kDs_77.out.move fWo)
    clear kDs_77
    have kDsb_90 := Lib.hid (kDsb_78.out.far' fWo id)
    clear kDsb_78
    have kDo_91 := Lib.hid (kDo.out.move fWo)
    clear kDo
    have kDi_92 := Lib.hid (kDi.out.move fWo)
    clear kDi
    have hfw_93 := Lib.hid (hfw_79.out.then fWo)
    clear hfw_79
    clear fWo
    go_upto_region 9 with fail
    rw [← eh19'.out, ← eh20'.out, ← eWo'.out]
    have c0Dsb : Wo.cell? ⟨h17, 0, none⟩ = some (.int .i64 (Ss : Nat)) := (kDsb_90.out).cell 0
    have c1Dsb : Wo.cell? ⟨h17, 1, none⟩ = some (.slice aosd ms cps) := (kDsb_90.out).cell 1
    have K_94 := same04_any (kXs_86.out) (kDs_89.out) (kT_81.out)
    go_wp2_with fail
    refine K_94.mono ?_
    rintro e w_95 ⟨rfl, hfq⟩
    clear K_94
    have kB4_96 := Lib.hid (kB4_80.out.far' hfq id)
    clear kB4_80
    have kT_97 := Lib.hid (kT_81.out.still hfq)
    clear kT_81
    have kCc_98 := Lib.hid (kCc_82.out.move hfq)
    clear kCc_82
    have kXc_99 := Lib.hid (kXc_83.out.still hfq)
    clear kXc_83
    have kDc_100 := Lib.hid (kDc_84.out.move hfq)
    clear kDc_84
    have kDcb_101 := Lib.hid (kDcb_85.out.far' hfq id)
    clear kDcb_85
    have kXs_102 := Lib.hid (kXs_86.out.still hfq)
    clear kXs_86
    have kXo_103 := Lib.hid (kXo_87.out.still hfq)
    clear kXo_87
    have kXi_104 := Lib.hid (kXi_88.out.still hfq)
    clear kXi_88
    have kDs_105 := Lib.hid (kDs_89.out.move hfq)
    clear kDs_89
    have kDsb_106 := Lib.hid (kDsb_90.out.far' hfq id)
    clear kDsb_90
    have kDo_107 := Lib.hid (kDo_91.out.move hfq)
    clear kDo_91
    have kDi_108 := Lib.hid (kDi_92.out.move hfq)
    clear kDi_92
    have kDob_109 := Lib.hid (bh19'.out.far' hfq id)
    clear bh19'
    have kDib_110 := Lib.hid (bh20'.out.far' hfq id)
    clear bh20'
    have hfw_111 := Lib.hid (hfw_93.out.then hfq)
    clear hfw_93
    clear hfq
    clear c0Dsb c1Dsb
    have c0Dob : w_95.cell? ⟨h19, 0, none⟩ = some (.int .i64 (So : Nat)) := (kDob_109.out).cell 0
    have c1Dob : w_95.cell? ⟨h19, 1, none⟩ = some (.slice aood mo cpo) := (kDob_109.out).cell 1
    have K_112 := same04_any (kXo_103.out) (kDo_107.out) (kT_97.out)
    go_wp2_with fail
    refine K_112.mono ?_
    rintro e w_113 ⟨rfl, hfq⟩
    clear K_112
    have kB4_114 := Lib.hid (kB4_96.out.far' hfq id)
    clear kB4_96
    have kT_115 := Lib.hid (kT_97.out.still hfq)
    clear kT_97
    have kCc_116 := Lib.hid (kCc_98.out.move hfq)
    clear kCc_98
    have kXc_117 := Lib.hid (kXc_99.out.still hfq)
    clear kXc_99
    have kDc_118 := Lib.hid (kDc_100.out.move hfq)
    clear kDc_100
    have kDcb_119 := Lib.hid (kDcb_101.out.far' hfq id)
    clear kDcb_101
    have kXs_120 := Lib.hid (kXs_102.out.still hfq)
    clear kXs_102
    have kXo_121 := Lib.hid (kXo_103.out.still hfq)
    clear kXo_103
    have kXi_122 := Lib.hid (kXi_104.out.still hfq)
    clear kXi_104
    have kDs_123 := Lib.hid (kDs_105.out.move hfq)
    clear kDs_105
    have kDsb_124 := Lib.hid (kDsb_106.out.far' hfq id)
    clear kDsb_106
    have kDo_125 := Lib.hid (kDo_107.out.move hfq)
    clear kDo_107
    have kDi_126 := Lib.hid (kDi_108.out.move hfq)
    clear kDi_108
    have kDob_127 := Lib.hid (kDob_109.out.far' hfq id)
    clear kDob_109
    have kDib_128 := Lib.hid (kDib_110.out.far' hfq id)
    clear kDib_110
    have hfw_129 := Lib.hid (hfw_111.out.then hfq)
    clear hfw_111
    clear hfq
    clear c0Dob c1Dob
    have c0Dib : w_113.cell? ⟨h20, 0, none⟩ = some (.int .i64 (Si : Nat)) := (kDib_128.out).cell 0
    have c1Dib : w_113.cell? ⟨h20, 1, none⟩ = some (.slice aoid mi cpi) := (kDib_128.out).cell 1
    have K_130 := same04_any (kXi_122.out) (kDi_126.out) (kT_115.out)
    go_wp2_with fail
    refine K_130.mono ?_
    rintro e w_131 ⟨rfl, hfq⟩
    clear K_130
    have kB4_132 := Lib.hid (kB4_114.out.far' hfq id)
    clear kB4_114
    have kT_133 := Lib.hid (kT_115.out.still hfq)
    clear kT_115
    have kCc_134 := Lib.hid (kCc_116.out.move hfq)
    clear kCc_116
    have kXc_135 := Lib.hid (kXc_117.out.still hfq)
    clear kXc_117
    have kDc_136 := Lib.hid (kDc_118.out.move hfq)
    clear kDc_118
    have kDcb_137 := Lib.hid (kDcb_119.out.far' hfq id)
    clear kDcb_119
    have kXs_138 := Lib.hid (kXs_120.out.still hfq)
    clear kXs_120
    have kXo_139 := Lib.hid (kXo_121.out.still hfq)
    clear kXo_121
    have kXi_140 := Lib.hid (kXi_122.out.still hfq)
    clear kXi_122
    have kDs_141 := Lib.hid (kDs_123.out.move hfq)
    clear kDs_123
    have kDsb_142 := Lib.hid (kDsb_124.out.far' hfq id)
    clear kDsb_124
    have kDo_143 := Lib.hid (kDo_125.out.move hfq)
    clear kDo_125
    have kDi_144 := Lib.hid (kDi_126.out.move hfq)
    clear kDi_126
    have kDob_145 := Lib.hid (kDob_127.out.far' hfq id)
    clear kDob_127
    have kDib_146 := Lib.hid (kDib_128.out.far' hfq id)
    clear kDib_128
    have hfw_147 := Lib.hid (hfw_129.out.then hfq)
    clear hfw_129
    clear hfq
    clear c0Dib c1Dib
    have c0Dcb : w_131.cell? ⟨h10, 0, none⟩ = some (.int .i64 (Sc : Nat)) := (kDcb_137.out).cell 0
    have c1Dcb : w_131.cell? ⟨h10, 1, none⟩ = some (.slice aocd mc cpc) := (kDcb_137.out).cell 1
    have K_148 := same04_any (kXc_135.out) (kDc_136.out) (kT_133.out)
    go_wp2_with fail
    refine K_148.mono ?_
    rintro e w_149 ⟨rfl, hfq⟩
    clear K_148
    have kB4_150 := Lib.hid (kB4_132.out.far' hfq id)
    clear kB4_132
    have kT_151 := Lib.hid (kT_133.out.still hfq)
    clear kT_133
    have kCc_152 := Lib.hid (kCc_134.out.move hfq)
    clear kCc_134
    have kXc_153 := Lib.hid (kXc_135.out.still hfq)
    clear kXc_135
    have kDc_154 := Lib.hid (kDc_136.out.move hfq)
    clear kDc_136
    have kDcb_155 := Lib.hid (kDcb_137.out.far' hfq id)
    clear kDcb_137
    have kXs_156 := Lib.hid (kXs_138.out.still hfq)
    clear kXs_138
    have kXo_157 := Lib.hid (kXo_139.out.still hfq)
    clear kXo_139
    have kXi_158 := Lib.hid (kXi_140.out.still hfq)
    clear kXi_140
    have kDs_159 := Lib.hid (kDs_141.out.move hfq)
    clear kDs_141
    have kDsb_160 := Lib.hid (kDsb_142.out.far' hfq id)
    clear kDsb_142
    have kDo_161 := Lib.hid (kDo_143.out.move hfq)
    clear kDo_143
    have kDi_162 := Lib.hid (kDi_144.out.move hfq)
    clear kDi_144
    have kDob_163 := Lib.hid (kDob_145.out.far' hfq id)
    clear kDob_145
    have kDib_164 := Lib.hid (kDib_146.out.far' hfq id)
    clear kDib_146
    have hfw_165 := Lib.hid (hfw_147.out.then hfq)
    clear hfw_147
    clear hfq
    clear c0Dcb c1Dcb
    have K_166 := awake04_any _ (kT_151.out)
    go_wp2_with fail
    refine K_166.mono ?_
    rintro e w_167 ⟨rfl, hfq⟩
    clear K_166
    have kB4_168 := Lib.hid (kB4_150.out.far' hfq id)
    clear kB4_150
    have kT_169 := Lib.hid (kT_151.out.still hfq)
    clear kT_151
    have kCc_170 := Lib.hid (kCc_152.out.move hfq)
    clear kCc_152
    have kXc_171 := Lib.hid (kXc_153.out.still hfq)
    clear kXc_153
    have kDc_172 := Lib.hid (kDc_154.out.move hfq)
    clear kDc_154
    have kDcb_173 := Lib.hid (kDcb_155.out.far' hfq id)
    clear kDcb_155
    have kXs_174 := Lib.hid (kXs_156.out.still hfq)
    clear kXs_156
    have kXo_175 := Lib.hid (kXo_157.out.still hfq)
    clear kXo_157
    have kXi_176 := Lib.hid (kXi_158.out.still hfq)
    clear kXi_158
    have kDs_177 := Lib.hid (kDs_159.out.move hfq)
    clear kDs_159
    have kDsb_178 := Lib.hid (kDsb_160.out.far' hfq id)
    clear kDsb_160
    have kDo_179 := Lib.hid (kDo_161.out.move hfq)
    clear kDo_161
    have kDi_180 := Lib.hid (kDi_162.out.move hfq)
    clear kDi_162
    have kDob_181 := Lib.hid (kDob_163.out.far' hfq id)
    clear kDob_163
    have kDib_182 := Lib.hid (kDib_164.out.far' hfq id)
    clear kDib_164
    have hfw_183 := Lib.hid (hfw_165.out.then hfq)
    clear hfw_165
    clear hfq
    go_wp2_with fail
    go_ret
    exact ⟨rfl, hfw_183.out⟩
end
end Go.Proofs.YtkobbcmndneajaaDoor
