/-
  KronProduct walked.
-/
import Derived.Test.YtkobbcmndneajaaDoorQKRefP
import Derived.Test.YtkobbcmndneajaaDoorQKAwake
namespace Go.Proofs.YtkobbcmndneajaaDoor
open Go.RowKit Go.Shelf
set_option linter.unusedVariables false
set_option linter.unusedSimpArgs false
section
set_option maxHeartbeats 4000000
set_option maxRecDepth 100000
theorem kprod_law (W : World) (sa : Int) (aoa : Option Addr) (na ca : Nat) (Ra Ca : Nat → Int) (hna : na ≤ ca) (hna2 : na ≤ 9223372036854775807) (hCa : Cls W aoa na Ra Ca) (sb : Int) (aob : Option Addr) (nb cb : Nat) (Rb Cb : Nat → Int) (hnb : nb ≤ cb) (hnb2 : nb ≤ 9223372036854775807) (hCb : Cls W aob nb Rb Cb) (hT : Tab W) :
    Calls Tryd.prog 6 #[.agg #[.int .i64 sa, .slice aoa na ca], .agg #[.int .i64 sb, .slice aob nb cb]] W fun e w' => e = .returned (.bool true) ∧ Far (fun _ => False) W w' := by
  obtain ⟨h2, hh2⟩ : ∃ h, h = W.heap.size := ⟨_, rfl⟩
  obtain ⟨h3, hh3⟩ : ∃ h, h = h2 + 1 := ⟨_, rfl⟩
  obtain ⟨Wz, hWz⟩ : ∃ V, V = (W.alloc (.cells #[.int .i64 sa, .slice aoa na ca] 65)).alloc (.cells #[.int .i64 sb, .slice aob nb cb] 65) := ⟨_, rfl⟩
  obtain ⟨W0, hW0⟩ : ∃ V, V = Wz := ⟨_, rfl⟩
  have hFz : Far (fun _ => False) W Wz := hWz ▸ ((Far.refl _ W).alloc _).alloc _
  have hF0 : Far (fun _ => False) W W0 := by rw [hW0]; exact hFz
  have hz2 : Bk Wz h2 65 #[.int .i64 sa, .slice aoa na ca] := hWz ▸ (Bk.new hh2).alloc _
  have hz3 : Bk Wz h3 65 #[.int .i64 sb, .slice aob nb cb] := hWz ▸ Bk.new (by simp [hh3, hh2])
  have hf0z : Far (fun _ => False) Wz W0 := by rw [hW0]; exact Far.refl _ _
  have FW := many_any W0 sa aoa na ca sb aob nb cb
  have z20 : Wz.cell? ⟨h2, 0, none⟩ = some (.int .i64 sa) := hz2.cell 0
  have z21 : Wz.cell? ⟨h2, 1, none⟩ = some (.slice aoa na ca) := hz2.cell 1
  have z30 : Wz.cell? ⟨h3, 0, none⟩ = some (.int .i64 sb) := hz3.cell 0
  have z31 : Wz.cell? ⟨h3, 1, none⟩ = some (.slice aob nb cb) := hz3.cell 1
  obtain ⟨bf, hbf⟩ : ∃ b, (decide (60 < na) || decide (60 < nb)) = b := ⟨_, rfl⟩
  rw [hbf] at FW
  have kB2 := Lib.hid (hz2.far' hf0z id)
  have kB3 := Lib.hid (hz3.far' hf0z id)
  have kT := Lib.hid (hT.still hF0)
  have kCa := Lib.hid (hCa.move hF0)
  have kCb := Lib.hid (hCb.move hF0)
  have hfS := Lib.hid hF0
  have hh2' := Lib.hid hh2
  have hh3' := Lib.hid hh3
  have hWz' := Lib.hid hWz
  have hW0' := Lib.hid hW0
  clear hh2 hh3 hWz hW0 hFz hF0 hz2 hz3 hf0z hCa hCb hT hbf
  go_enter Tryd.func6, Tryd.ntmps6
  go_upto_region 1 with fail
  rw [← hh2'.out, ← hh3'.out, ← hWz'.out, ← hW0'.out]
  rw [← hW0'.out] at z20 z21 z30 z31
  go_wp2_with fail
  refine FW.mono ?_
  rintro e w1 ⟨rfl, hf1⟩
  obtain ⟨W1, hW1⟩ : ∃ V, V = w1 := ⟨_, rfl⟩
  rw [← hW1] at hf1 ⊢
  have jB2 := Lib.hid (kB2.out.far' hf1 id)
  have jB3 := Lib.hid (kB3.out.far' hf1 id)
  have jT := Lib.hid (kT.out.still hf1)
  have jCa := Lib.hid (kCa.out.move hf1)
  have jCb := Lib.hid (kCb.out.move hf1)
  have jfS := Lib.hid (hfS.out.then hf1)
  clear hf1 hW1 kB2 kB3 kT kCa kCb hfS
  clear FW z20 z21 z30 z31
  cases bf with
  | true =>
    have AW := awake04_any W1 jT.out
    go_wp2_with fail
    refine AW.mono ?_
    rintro e wz ⟨rfl, hfz⟩
    have hfz' := Lib.hid (jfS.out.then hfz)
    clear AW hfz
    go_wp2_with fail
    go_ret
    exact ⟨rfl, hfz'.out⟩
  | false =>
    have c0B2 : W1.cell? ⟨h2, 0, none⟩ = some (.int .i64 sa) := (jB2.out).cell 0
    have c1B2 : W1.cell? ⟨h2, 1, none⟩ = some (.slice aoa na ca) := (jB2.out).cell 1
    have MD := made04_any sa aoa na ca Ra Ca hna hna2 W1 jCa.out
    obtain ⟨Sa, hSa⟩ : ∃ S, ofS sa na Ra Ca = S := ⟨_, rfl⟩
    obtain ⟨Ma, hMa⟩ : ∃ M, ofM sa na Ra Ca = M := ⟨_, rfl⟩
    rw [hSa, hMa] at MD
    clear hSa hMa
    have K_1 := MD
    go_wp2_with fail
    refine K_1.mono ?_
    rintro e w_2 ⟨va, da, rfl, Fa, hXa, hDa, hDna, hloa, hfa⟩
    clear K_1
    have kB2_3 := Lib.hid (jB2.out.far' hfa id)
    clear jB2
    have kB3_4 := Lib.hid (jB3.out.far' hfa id)
    clear jB3
    have kT_5 := Lib.hid (jT.out.still hfa)
    clear jT
    have kCa_6 := Lib.hid (jCa.out.move hfa)
    clear jCa
    have kCb_7 := Lib.hid (jCb.out.move hfa)
    clear jCb
    have hfw_8 := Lib.hid (jfS.out.then hfa)
    clear jfS
    clear MD
    clear c0B2 c1B2
    have kXa := Lib.hid hXa
    clear hXa
    have kDa := Lib.hid hDa
    obtain ⟨aoad, cpa, rfl, _⟩ := hDa
    obtain ⟨ma, hma⟩ : ∃ m, (cellsL Ma Sa).length = m := ⟨_, rfl⟩
    rw [hma] at kDa ⊢
    clear hma
    obtain ⟨h6, eh6⟩ : ∃ h, h = w_2.heap.size := ⟨_, rfl⟩
    obtain ⟨Wa, eWa⟩ : ∃ V, V = w_2.alloc (.cells #[.int .i64 (Sa : Nat), .slice aoad ma cpa] 28) := ⟨_, rfl⟩
    have fWa : Far (fun _ => False) w_2 Wa := eWa ▸ (Far.refl _ w_2).alloc _
    have bh6 : Bk Wa h6 28 #[.int .i64 (Sa : Nat), .slice aoad ma cpa] := eWa ▸ Bk.new eh6
    have eh6' := Lib.hid eh6
    have eWa' := Lib.hid eWa
    have bh6' := Lib.hid bh6
    clear eh6 eWa bh6
    have kB2_9 := Lib.hid (kB2_3.out.far' fWa id)
    clear kB2_3
    have kB3_10 := Lib.hid (kB3_4.out.far' fWa id)
    clear kB3_4
    have kT_11 := Lib.hid (kT_5.out.still fWa)
    clear kT_5
    have kCa_12 := Lib.hid (kCa_6.out.move fWa)
    clear kCa_6
    have kCb_13 := Lib.hid (kCb_7.out.move fWa)
    clear kCb_7
    have kXa_14 := Lib.hid (kXa.out.still fWa)
    clear kXa
    have kDa_15 := Lib.hid (kDa.out.move fWa)
    clear kDa
    have hfw_16 := Lib.hid (hfw_8.out.then fWa)
    clear hfw_8
    clear fWa
    go_upto_region 4 with fail
    rw [← eWa'.out, ← eh6'.out]
    clear hDna hloa hfa
    have c0B3 : Wa.cell? ⟨h3, 0, none⟩ = some (.int .i64 sb) := (kB3_10.out).cell 0
    have c1B3 : Wa.cell? ⟨h3, 1, none⟩ = some (.slice aob nb cb) := (kB3_10.out).cell 1
    have MD := made04_any sb aob nb cb Rb Cb hnb hnb2 Wa kCb_13.out
    obtain ⟨Sb, hSb⟩ : ∃ S, ofS sb nb Rb Cb = S := ⟨_, rfl⟩
    obtain ⟨Mb, hMb⟩ : ∃ M, ofM sb nb Rb Cb = M := ⟨_, rfl⟩
    rw [hSb, hMb] at MD
    clear hSb hMb
    have K_17 := MD
    go_wp2_with fail
    refine K_17.mono ?_
    rintro e w_18 ⟨vb, db, rfl, Fb, hXb, hDb, hDnb, hlob, hfb⟩
    clear K_17
    have kB2_19 := Lib.hid (kB2_9.out.far' hfb id)
    clear kB2_9
    have kB3_20 := Lib.hid (kB3_10.out.far' hfb id)
    clear kB3_10
    have kT_21 := Lib.hid (kT_11.out.still hfb)
    clear kT_11
    have kCa_22 := Lib.hid (kCa_12.out.move hfb)
    clear kCa_12
    have kCb_23 := Lib.hid (kCb_13.out.move hfb)
    clear kCb_13
    have kXa_24 := Lib.hid (kXa_14.out.still hfb)
    clear kXa_14
    have kDa_25 := Lib.hid (kDa_15.out.move hfb)
    clear kDa_15
    have kDab_26 := Lib.hid (bh6'.out.far' hfb id)
    clear bh6'
    have hfw_27 := Lib.hid (hfw_16.out.then hfb)
    clear hfw_16
    clear MD
    clear c0B3 c1B3
    have kXb := Lib.hid hXb
    clear hXb
    have kDb := Lib.hid hDb
    obtain ⟨aobd, cpb, rfl, _⟩ := hDb
    obtain ⟨mb, hmb⟩ : ∃ m, (cellsL Mb Sb).length = m := ⟨_, rfl⟩
    rw [hmb] at kDb ⊢
    clear hmb
    obtain ⟨h8, eh8⟩ : ∃ h, h = w_18.heap.size := ⟨_, rfl⟩
    obtain ⟨Wb, eWb⟩ : ∃ V, V = w_18.alloc (.cells #[.int .i64 (Sb : Nat), .slice aobd mb cpb] 28) := ⟨_, rfl⟩
    have fWb : Far (fun _ => False) w_18 Wb := eWb ▸ (Far.refl _ w_18).alloc _
    have bh8 : Bk Wb h8 28 #[.int .i64 (Sb : Nat), .slice aobd mb cpb] := eWb ▸ Bk.new eh8
    have eh8' := Lib.hid eh8
    have eWb' := Lib.hid eWb
    have bh8' := Lib.hid bh8
    clear eh8 eWb bh8
    have kB2_28 := Lib.hid (kB2_19.out.far' fWb id)
    clear kB2_19
    have kB3_29 := Lib.hid (kB3_20.out.far' fWb id)
    clear kB3_20
    have kT_30 := Lib.hid (kT_21.out.still fWb)
    clear kT_21
    have kCa_31 := Lib.hid (kCa_22.out.move fWb)
    clear kCa_22
    have kCb_32 := Lib.hid (kCb_23.out.move fWb)
    clear kCb_23
    have kXa_33 := Lib.hid (kXa_24.out.still fWb)
    clear kXa_24
    have kDa_34 := Lib.hid (kDa_25.out.move fWb)
    clear kDa_25
    have kDab_35 := Lib.hid (kDab_26.out.far' fWb id)
    clear kDab_26
    have kXb_36 := Lib.hid (kXb.out.still fWb)
    clear kXb
    have kDb_37 := Lib.hid (kDb.out.move fWb)
    clear kDb
    have hfw_38 := Lib.hid (hfw_27.out.then fWb)
    clear hfw_27
    clear fWb
    go_upto_region 5 with fail
    rw [← eWb'.out, ← eh8'.out]
    clear hDnb hlob hfb
    have ML := fun (V : World) (h1 : HasF V va Fa Sa Ma) (h2 : HasF V vb Fb Sb Mb) (h3 : Tab V) => kProduct_any h1 h2 h3
    have RL := fun (V : World) (h1 : Dm V (.agg #[.int .i64 (Sa : Nat), .slice aoad ma cpa]) Sa Ma) (h2 : Dm V (.agg #[.int .i64 (Sb : Nat), .slice aobd mb cpb]) Sb Mb) => rkron_any h1 h2
    obtain ⟨E, hE⟩ : ∃ E, kronE Sa Sb = E := ⟨_, rfl⟩
    obtain ⟨Sp, hSp⟩ : ∃ S, kronS Sa Sb = S := ⟨_, rfl⟩
    obtain ⟨Mp, hMp⟩ : ∃ M, kronMM Sa Sb Ma Mb = M := ⟨_, rfl⟩
    rw [hE, hSp, hMp] at ML RL
    clear hE hSp hMp
    have ML' := Lib.hid ML
    have RL' := Lib.hid RL
    clear ML RL
    have K_39 := ML'.out _ (kXa_33.out) (kXb_36.out) (kT_30.out)
    go_wp2_with fail
    refine K_39.mono ?_
    rintro e w_40 ⟨vp, rfl, Fp, hXp, hlop, hfp⟩
    clear K_39
    have kB2_41 := Lib.hid (kB2_28.out.far' hfp id)
    clear kB2_28
    have kB3_42 := Lib.hid (kB3_29.out.far' hfp id)
    clear kB3_29
    have kT_43 := Lib.hid (kT_30.out.still hfp)
    clear kT_30
    have kCa_44 := Lib.hid (kCa_31.out.move hfp)
    clear kCa_31
    have kCb_45 := Lib.hid (kCb_32.out.move hfp)
    clear kCb_32
    have kXa_46 := Lib.hid (kXa_33.out.still hfp)
    clear kXa_33
    have kDa_47 := Lib.hid (kDa_34.out.move hfp)
    clear kDa_34
    have kDab_48 := Lib.hid (kDab_35.out.far' hfp id)
    clear kDab_35
    have kXb_49 := Lib.hid (kXb_36.out.still hfp)
    clear kXb_36
    have kDb_50 := Lib.hid (kDb_37.out.move hfp)
    clear kDb_37
    have kDbb_51 := Lib.hid (bh8'.out.far' hfp id)
    clear bh8'
    have hfw_52 := Lib.hid (hfw_38.out.then hfp)
    clear hfw_38
    have kXp := Lib.hid hXp
    clear hXp hlop ML' hfp
    have c0Dab : w_40.cell? ⟨h6, 0, none⟩ = some (.int .i64 (Sa : Nat)) := (kDab_48.out).cell 0
    have c1Dab : w_40.cell? ⟨h6, 1, none⟩ = some (.slice aoad ma cpa) := (kDab_48.out).cell 1
    have c0Dbb : w_40.cell? ⟨h8, 0, none⟩ = some (.int .i64 (Sb : Nat)) := (kDbb_51.out).cell 0
    have c1Dbb : w_40.cell? ⟨h8, 1, none⟩ = some (.slice aobd mb cpb) := (kDbb_51.out).cell 1
    have K_53 := RL'.out _ (kDa_47.out) (kDb_50.out)
    go_wp2_with fail
    refine K_53.mono ?_
    rintro e w_54 ⟨dp, rfl, hDp, hDnp, hfp⟩
    clear K_53
    have kB2_55 := Lib.hid (kB2_41.out.far' hfp id)
    clear kB2_41
    have kB3_56 := Lib.hid (kB3_42.out.far' hfp id)
    clear kB3_42
    have kT_57 := Lib.hid (kT_43.out.still hfp)
    clear kT_43
    have kCa_58 := Lib.hid (kCa_44.out.move hfp)
    clear kCa_44
    have kCb_59 := Lib.hid (kCb_45.out.move hfp)
    clear kCb_45
    have kXa_60 := Lib.hid (kXa_46.out.still hfp)
    clear kXa_46
    have kDa_61 := Lib.hid (kDa_47.out.move hfp)
    clear kDa_47
    have kDab_62 := Lib.hid (kDab_48.out.far' hfp id)
    clear kDab_48
    have kXb_63 := Lib.hid (kXb_49.out.still hfp)
    clear kXb_49
    have kDb_64 := Lib.hid (kDb_50.out.move hfp)
    clear kDb_50
    have kDbb_65 := Lib.hid (kDbb_51.out.far' hfp id)
    clear kDbb_51
    have kXp_66 := Lib.hid (kXp.out.still hfp)
    clear kXp
    have hfw_67 := Lib.hid (hfw_52.out.then hfp)
    clear hfw_52
    clear RL' hDnp hfp
    clear c0Dab c1Dab c0Dbb c1Dbb
    have kDp := Lib.hid hDp
    obtain ⟨aopd, cpp, rfl, _⟩ := hDp
    obtain ⟨mp, hmp⟩ : ∃ m, (cellsL Mp Sp).length = m := ⟨_, rfl⟩
    rw [hmp] at kDp ⊢
    clear hmp
    obtain ⟨h11, eh11⟩ : ∃ h, h = w_54.heap.size := ⟨_, rfl⟩
    obtain ⟨Wp, eWp⟩ : ∃ V, V = w_54.alloc (.cells #[.int .i64 (Sp : Nat), .slice aopd mp cpp] 28) := ⟨_, rfl⟩
    have fWp : Far (fun _ => False) w_54 Wp := eWp ▸ (Far.refl _ w_54).alloc _
    have bh11 : Bk Wp h11 28 #[.int .i64 (Sp : Nat), .slice aopd mp cpp] := eWp ▸ Bk.new eh11
    have eh11' := Lib.hid eh11
    have eWp' := Lib.hid eWp
    have bh11' := Lib.hid bh11
    clear eh11 eWp bh11
    have kB2_68 := Lib.hid (kB2_55.out.far' fWp id)
    clear kB2_55
    have kB3_69 := Lib.hid (kB3_56.out.far' fWp id)
    clear kB3_56
    have kT_70 := Lib.hid (kT_57.out.still fWp)
    clear kT_57
    have kCa_71 := Lib.hid (kCa_58.out.move fWp)
    clear kCa_58
    have kCb_72 := Lib.hid (kCb_59.out.move fWp)
    clear kCb_59
    have kXa_73 := Lib.hid (kXa_60.out.still fWp)
    clear kXa_60
    have kDa_74 := Lib.hid (kDa_61.out.move fWp)
    clear kDa_61
    have kDab_75 := Lib.hid (kDab_62.out.far' fWp id)
    clear kDab_62
    have kXb_76 := Lib.hid (kXb_63.out.still fWp)
    clear kXb_63
    have kDb_77 := Lib.hid (kDb_64.out.move fWp)
    clear kDb_64
    have kDbb_78 := Lib.hid (kDbb_65.out.far' fWp id)
    clear kDbb_65
    have kXp_79 := Lib.hid (kXp_66.out.still fWp)
    clear kXp_66
    have kDp_80 := Lib.hid (kDp.out.move fWp)
    clear kDp
    have hfw_81 := Lib.hid (hfw_67.out.then fWp)
    clear hfw_67
    clear fWp
    go_upto_region 7 with fail
    rw [← eWp'.out, ← eh11'.out]
    have c0Dpb : Wp.cell? ⟨h11, 0, none⟩ = some (.int .i64 (Sp : Nat)) := (bh11'.out).cell 0
    have c1Dpb : Wp.cell? ⟨h11, 1, none⟩ = some (.slice aopd mp cpp) := (bh11'.out).cell 1
    have K_82 := same04_any (kXp_79.out) (kDp_80.out) (kT_70.out)
    go_wp2_with fail
    refine K_82.mono ?_
    rintro e w_83 ⟨rfl, hfq⟩
    clear K_82
    have kB2_84 := Lib.hid (kB2_68.out.far' hfq id)
    clear kB2_68
    have kB3_85 := Lib.hid (kB3_69.out.far' hfq id)
    clear kB3_69
    have kT_86 := Lib.hid (kT_70.out.still hfq)
    clear kT_70
    have kCa_87 := Lib.hid (kCa_71.out.move hfq)
    clear kCa_71
    have kCb_88 := Lib.hid (kCb_72.out.move hfq)
    clear kCb_72
    have kXa_89 := Lib.hid (kXa_73.out.still hfq)
    clear kXa_73
    have kDa_90 := Lib.hid (kDa_74.out.move hfq)
    clear kDa_74
    have kDab_91 := Lib.hid (kDab_75.out.far' hfq id)
    clear kDab_75
    have kXb_92 := Lib.hid (kXb_76.out.still hfq)
    clear kXb_76
    have kDb_93 := Lib.hid (kDb_77.out.move hfq)
    clear kDb_77
    have kDbb_94 := Lib.hid (kDbb_78.out.far' hfq id)
    clear kDbb_78
    have kXp_95 := Lib.hid (kXp_79.out.still hfq)
    clear kXp_79
    have kDp_96 := Lib.hid (kDp_80.out.move hfq)
    clear kDp_80
    have kDpb_97 := Lib.hid (bh11'.out.far' hfq id)
    clear bh11'
    have hfw_98 := Lib.hid (hfw_81.out.then hfq)
    clear hfw_81
    clear hfq
    clear c0Dpb c1Dpb
    have c0Dab : w_83.cell? ⟨h6, 0, none⟩ = some (.int .i64 (Sa : Nat)) := (kDab_91.out).cell 0
    have c1Dab : w_83.cell? ⟨h6, 1, none⟩ = some (.slice aoad ma cpa) := (kDab_91.out).cell 1
    have K_99 := same04_any (kXa_89.out) (kDa_90.out) (kT_86.out)
    go_wp2_with fail
    refine K_99.mono ?_
    rintro e w_100 ⟨rfl, hfq⟩
    clear K_99
    have kB2_101 := Lib.hid (kB2_84.out.far' hfq id)
    clear kB2_84
    have kB3_102 := Lib.hid (kB3_85.out.far' hfq id)
    clear kB3_85
    have kT_103 := Lib.hid (kT_86.out.still hfq)
    clear kT_86
    have kCa_104 := Lib.hid (kCa_87.out.move hfq)
    clear kCa_87
    have kCb_105 := Lib.hid (kCb_88.out.move hfq)
    clear kCb_88
    have kXa_106 := Lib.hid (kXa_89.out.still hfq)
    clear kXa_89
    have kDa_107 := Lib.hid (kDa_90.out.move hfq)
    clear kDa_90
    have kDab_108 := Lib.hid (kDab_91.out.far' hfq id)
    clear kDab_91
    have kXb_109 := Lib.hid (kXb_92.out.still hfq)
    clear kXb_92
    have kDb_110 := Lib.hid (kDb_93.out.move hfq)
    clear kDb_93
    have kDbb_111 := Lib.hid (kDbb_94.out.far' hfq id)
    clear kDbb_94
    have kXp_112 := Lib.hid (kXp_95.out.still hfq)
    clear kXp_95
    have kDp_113 := Lib.hid (kDp_96.out.move hfq)
    clear kDp_96
    have kDpb_114 := Lib.hid (kDpb_97.out.far' hfq id)
    clear kDpb_97
    have hfw_115 := Lib.hid (hfw_98.out.then hfq)
    clear hfw_98
    clear hfq
    clear c0Dab c1Dab
    have c0Dbb : w_100.cell? ⟨h8, 0, none⟩ = some (.int .i64 (Sb : Nat)) := (kDbb_111.out).cell 0
    have c1Dbb : w_100.cell? ⟨h8, 1, none⟩ = some (.slice aobd mb cpb) := (kDbb_111.out).cell 1
    have K_116 := same04_any (kXb_109.out) (kDb_110.out) (kT_103.out)
    go_wp2_with fail
    refine K_116.mono ?_
    rintro e w_117 ⟨rfl, hfq⟩
    clear K_116
    have kB2_118 := Lib.hid (kB2_101.out.far' hfq id)
    clear kB2_101
    have kB3_119 := Lib.hid (kB3_102.out.far' hfq id)
    clear kB3_102
    have kT_120 := Lib.hid (kT_103.out.still hfq)
    clear kT_103
    have kCa_121 := Lib.hid (kCa_104.out.move hfq)
    clear kCa_104
    have kCb_122 := Lib.hid (kCb_105.out.move hfq)
    clear kCb_105
    have kXa_123 := Lib.hid (kXa_106.out.still hfq)
    clear kXa_106
    have kDa_124 := Lib.hid (kDa_107.out.move hfq)
    clear kDa_107
    have kDab_125 := Lib.hid (kDab_108.out.far' hfq id)
    clear kDab_108
    have kXb_126 := Lib.hid (kXb_109.out.still hfq)
    clear kXb_109
    have kDb_127 := Lib.hid (kDb_110.out.move hfq)
    clear kDb_110
    have kDbb_128 := Lib.hid (kDbb_111.out.far' hfq id)
    clear kDbb_111
    have kXp_129 := Lib.hid (kXp_112.out.still hfq)
    clear kXp_112
    have kDp_130 := Lib.hid (kDp_113.out.move hfq)
    clear kDp_113
    have kDpb_131 := Lib.hid (kDpb_114.out.far' hfq id)
    clear kDpb_114
    have hfw_132 := Lib.hid (hfw_115.out.then hfq)
    clear hfw_115
    clear hfq
    clear c0Dbb c1Dbb
    have K_133 := awake04_any _ (kT_120.out)
    go_wp2_with fail
    refine K_133.mono ?_
    rintro e w_134 ⟨rfl, hfq⟩
    clear K_133
    have kB2_135 := Lib.hid (kB2_118.out.far' hfq id)
    clear kB2_118
    have kB3_136 := Lib.hid (kB3_119.out.far' hfq id)
    clear kB3_119
    have kT_137 := Lib.hid (kT_120.out.still hfq)
    clear kT_120
    have kCa_138 := Lib.hid (kCa_121.out.move hfq)
    clear kCa_121
    have kCb_139 := Lib.hid (kCb_122.out.move hfq)
    clear kCb_122
    have kXa_140 := Lib.hid (kXa_123.out.still hfq)
    clear kXa_123
    have kDa_141 := Lib.hid (kDa_124.out.move hfq)
    clear kDa_124
    have kDab_142 := Lib.hid (kDab_125.out.far' hfq id)
    clear kDab_125
    have kXb_143 := Lib.hid (kXb_126.out.still hfq)
    clear kXb_126
    have kDb_144 := Lib.hid (kDb_127.out.move hfq)
    clear kDb_127
    have kDbb_145 := Lib.hid (kDbb_128.out.far' hfq id)
    clear kDbb_128
    have kXp_146 := Lib.hid (kXp_129.out.still hfq)
    clear kXp_129
    have kDp_147 := Lib.hid (kDp_130.out.move hfq)
    clear kDp_130
    have kDpb_148 := Lib.hid (kDpb_131.out.far' hfq id)
    clear kDpb_131
    have hfw_149 := Lib.hid (hfw_132.out.then hfq)
    clear hfw_132
    clear hfq
    go_wp2_with fail
    go_ret
    exact ⟨rfl, hfw_149.out⟩
end
end Go.Proofs.YtkobbcmndneajaaDoor
