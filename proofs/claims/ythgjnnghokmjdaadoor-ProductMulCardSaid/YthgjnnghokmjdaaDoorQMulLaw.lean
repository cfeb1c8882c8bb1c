/-
  ProductMul walked.
-/
import Derived.Test.YthgjnnghokmjdaaDoorQRefO
import Derived.Test.YthgjnnghokmjdaaDoorQMd03
import Derived.Test.YthgjnnghokmjdaaDoorQPAwake
namespace Go.Proofs.YthgjnnghokmjdaaDoor
open Go.RowKit Go.Shelf
set_option linter.unusedVariables false
set_option linter.unusedSimpArgs false
section
set_option maxHeartbeats 4000000
set_option maxRecDepth 100000
theorem pmul_law (W : World) (sa : Int) (aoa : Option Addr) (na ca : Nat) (Ra Ca : Nat → Int) (hna : na ≤ ca) (hna2 : na ≤ 9223372036854775807) (hCa : Cls W aoa na Ra Ca) (sb : Int) (aob : Option Addr) (nb cb : Nat) (Rb Cb : Nat → Int) (hnb : nb ≤ cb) (hnb2 : nb ≤ 9223372036854775807) (hCb : Cls W aob nb Rb Cb) (hT : Tab W) :
    Calls Tryd.prog 4 #[.agg #[.int .i64 sa, .slice aoa na ca], .agg #[.int .i64 sb, .slice aob nb cb]] W fun e w' => e = .returned (.bool true) ∧ Far (fun _ => False) W w' := by
  obtain ⟨h2, hh2⟩ : ∃ h, h = W.heap.size := ⟨_, rfl⟩
  obtain ⟨h3, hh3⟩ : ∃ h, h = h2 + 1 := ⟨_, rfl⟩
  obtain ⟨h19, hh19⟩ : ∃ h, h = h3 + 1 := ⟨_, rfl⟩
  obtain ⟨Wz, hWz⟩ : ∃ V, V = (W.alloc (.cells #[.int .i64 sa, .slice aoa na ca] 49)).alloc (.cells #[.int .i64 sb, .slice aob nb cb] 49) := ⟨_, rfl⟩
  obtain ⟨W0, hW0⟩ : ∃ V, V = Wz.alloc (.cells #[.int .i64 sa, .slice aoa na ca, .int .i64 sb, .slice aob nb cb] 49) := ⟨_, rfl⟩
  have hzz : Wz.heap.size = h19 := by rw [hWz]; simp [hh19, hh3, hh2]
  have hFz : Far (fun _ => False) W Wz := hWz ▸ ((Far.refl _ W).alloc _).alloc _
  have hF0 : Far (fun _ => False) W W0 := hW0 ▸ hFz.alloc _
  have hz2 : Bk Wz h2 49 #[.int .i64 sa, .slice aoa na ca] := hWz ▸ (Bk.new hh2).alloc _
  have hz3 : Bk Wz h3 49 #[.int .i64 sb, .slice aob nb cb] := hWz ▸ Bk.new (by simp [hh3, hh2])
  have hf0z : Far (fun _ => False) Wz W0 := hW0 ▸ (Far.refl _ Wz).alloc _
  have hB19 : Bk W0 h19 49 #[.int .i64 sa, .slice aoa na ca, .int .i64 sb, .slice aob nb cb] := hW0 ▸ Bk.new hzz.symm
  have FW := rfew_any W0 h19 0 2 2 (by omega) (fun _ => undef) (fun k => if k = 0 then aoa else aob) (fun k => if k = 0 then na else nb) (fun k => if k = 0 then ca else cb) (fun k hk => by
    rw [Nat.zero_add, hB19.cell (k * 2 + 1)]
    rcases (show k = 0 ∨ k = 1 by omega) with rfl | rfl <;> rfl)
  have z20 : Wz.cell? ⟨h2, 0, none⟩ = some (.int .i64 sa) := hz2.cell 0
  have z21 : Wz.cell? ⟨h2, 1, none⟩ = some (.slice aoa na ca) := hz2.cell 1
  have z30 : Wz.cell? ⟨h3, 0, none⟩ = some (.int .i64 sb) := hz3.cell 0
  have z31 : Wz.cell? ⟨h3, 1, none⟩ = some (.slice aob nb cb) := hz3.cell 1
  obtain ⟨bf, hbf⟩ : ∃ b, ((List.range 2).all fun k => decide ((if k = 0 then na else nb) ≤ 400)) = b := ⟨_, rfl⟩
  rw [hbf] at FW
  have kB2 := Lib.hid (hz2.far' hf0z id)
  have kB3 := Lib.hid (hz3.far' hf0z id)
  have kT := Lib.hid (hT.still hF0)
  have kCa := Lib.hid (hCa.move hF0)
  have kCb := Lib.hid (hCb.move hF0)
  have hfS := Lib.hid hF0
  have hh2' := Lib.hid hh2
  have hh3' := Lib.hid hh3
  have hWz' := Lib.hid hWz
  have hW0' := Lib.hid hW0
  have hzz' := Lib.hid hzz
  clear hh2 hh3 hh19 hWz hW0 hzz hFz hF0 hz2 hz3 hf0z hB19 hCa hCb hT hbf
  go_enter Tryd.func4, Tryd.ntmps4
  go_upto_region 1 with fail
  rw [← hh2'.out, ← hh3'.out, ← hWz'.out]
  go_wp2_with fail
  rw [hzz'.out, ← hW0'.out]
  refine FW.mono ?_
  rintro e w' ⟨rfl, rfl⟩
  clear FW z20 z21 z30 z31
  cases bf with
  | false =>
    have AW := awake03_any W0 kT.out
    go_wp2_with fail
    refine AW.mono ?_
    rintro e wz ⟨rfl, hfz⟩
    have hfz' := Lib.hid (hfS.out.then hfz)
    clear AW hfz
    go_wp2_with fail
    go_ret
    exact ⟨rfl, hfz'.out⟩
  | true =>
    have c0B2 : W0.cell? ⟨h2, 0, none⟩ = some (.int .i64 sa) := (kB2.out).cell 0
    have c1B2 : W0.cell? ⟨h2, 1, none⟩ = some (.slice aoa na ca) := (kB2.out).cell 1
    have MD := made03_any sa aoa na ca Ra Ca hna hna2 W0 kCa.out
    obtain ⟨Sa, hSa⟩ : ∃ S, ofS sa na Ra Ca = S := ⟨_, rfl⟩
    obtain ⟨Ma, hMa⟩ : ∃ M, ofM sa na Ra Ca = M := ⟨_, rfl⟩
    rw [hSa, hMa] at MD
    clear hSa hMa
    have K_1 := MD
    go_wp2_with fail
    refine K_1.mono ?_
    rintro e w_2 ⟨va, da, rfl, Fa, hXa, hDa, hDna, hloa, hfa⟩
    clear K_1
    have kB2_3 := Lib.hid (kB2.out.far' hfa id)
    clear kB2
    have kB3_4 := Lib.hid (kB3.out.far' hfa id)
    clear kB3
    have kT_5 := Lib.hid (kT.out.still hfa)
    clear kT
    have kCa_6 := Lib.hid (kCa.out.move hfa)
    clear kCa
    have kCb_7 := Lib.hid (kCb.out.move hfa)
    clear kCb
    have hfw_8 := Lib.hid (hfS.out.then hfa)
    clear hfS
    clear MD
    clear c0B2 c1B2
    have kXa := Lib.hid hXa
    clear hXa
    have kDa := Lib.hid hDa
    obtain ⟨aoad, cpa, rfl, _⟩ := hDa
    obtain ⟨ma, hma⟩ : ∃ m, (cellsL Ma Sa).length = m := ⟨_, rfl⟩
    rw [hma] at kDa ⊢
    clear hma
    obtain ⟨h6, eh6⟩ : ∃ h, h = w_2.heap.size := ⟨_, rfl⟩
    obtain ⟨Wa, eWa⟩ : ∃ V, V = w_2.alloc (.cells #[.int .i64 (Sa : Nat), .slice aoad ma cpa] 28) := ⟨_, rfl⟩
    have fWa : Far (fun _ => False) w_2 Wa := eWa ▸ (Far.refl _ w_2).alloc _
    have bh6 : Bk Wa h6 28 #[.int .i64 (Sa : Nat), .slice aoad ma cpa] := eWa ▸ Bk.new eh6
    have eh6' := Lib.hid eh6
    have eWa' := Lib.hid eWa
    have bh6' := Lib.hid bh6
    clear eh6 eWa bh6
    have kB2_9 := Lib.hid (kB2_3.out.far' fWa id)
    clear kB2_3
    have kB3_10 := Lib.hid (kB3_4.out.far' fWa id)
    clear kB3_4
    have kT_11 := Lib.hid (kT_5.out.still fWa)
    clear kT_5
    have kCa_12 := Lib.hid (kCa_6.out.move fWa)
    clear kCa_6
    have kCb_13 := Lib.hid (kCb_7.out.move fWa)
    clear kCb_7
    have kXa_14 := Lib.hid (kXa.out.still fWa)
    clear kXa
    have kDa_15 := Lib.hid (kDa.out.move fWa)
    clear kDa
    have hfw_16 := Lib.hid (hfw_8.out.then fWa)
    clear hfw_8
    clear fWa
    go_upto_region 4 with fail
    rw [← eWa'.out, ← eh6'.out]
    clear hDna hloa hfa
    have c0B3 : Wa.cell? ⟨h3, 0, none⟩ = some (.int .i64 sb) := (kB3_10.out).cell 0
    have c1B3 : Wa.cell? ⟨h3, 1, none⟩ = some (.slice aob nb cb) := (kB3_10.out).cell 1
    have MD := made03_any sb aob nb cb Rb Cb hnb hnb2 Wa kCb_13.out
    obtain ⟨Sb, hSb⟩ : ∃ S, ofS sb nb Rb Cb = S := ⟨_, rfl⟩
    obtain ⟨Mb, hMb⟩ : ∃ M, ofM sb nb Rb Cb = M := ⟨_, rfl⟩
    rw [hSb, hMb] at MD
    clear hSb hMb
    have K_17 := MD
    go_wp2_with fail
    refine K_17.mono ?_
    rintro e w_18 ⟨vb, db, rfl, Fb, hXb, hDb, hDnb, hlob, hfb⟩
    clear K_17
    have kB2_19 := Lib.hid (kB2_9.out.far' hfb id)
    clear kB2_9
    have kB3_20 := Lib.hid (kB3_10.out.far' hfb id)
    clear kB3_10
    have kT_21 := Lib.hid (kT_11.out.still hfb)
    clear kT_11
    have kCa_22 := Lib.hid (kCa_12.out.move hfb)
    clear kCa_12
    have kCb_23 := Lib.hid (kCb_13.out.move hfb)
    clear kCb_13
    have kXa_24 := Lib.hid (kXa_14.out.still hfb)
    clear kXa_14
    have kDa_25 := Lib.hid (kDa_15.out.move hfb)
    clear kDa_15
    have kDab_26 := Lib.hid (bh6'.out.far' hfb id)
    clear bh6'
    have hfw_27 := Lib.hid (hfw_16.out.then hfb)
    clear hfw_16
    clear MD
    clear c0B3 c1B3
    have kXb := Lib.hid hXb
    clear hXb
    have kDb := Lib.hid hDb
    obtain ⟨aobd, cpb, rfl, _⟩ := hDb
    obtain ⟨mb, hmb⟩ : ∃ m, (cellsL Mb Sb).length = m := ⟨_, rfl⟩
    rw [hmb] at kDb ⊢
    clear hmb
    obtain ⟨h8, eh8⟩ : ∃ h, h = w_18.heap.size := ⟨_, rfl⟩
    obtain ⟨Wb, eWb⟩ : ∃ V, V = w_18.alloc (.cells #[.int .i64 (Sb : Nat), .slice aobd mb cpb] 28) := ⟨_, rfl⟩
    have fWb : Far (fun _ => False) w_18 Wb := eWb ▸ (Far.refl _ w_18).alloc _
    have bh8 : Bk Wb h8 28 #[.int .i64 (Sb : Nat), .slice aobd mb cpb] := eWb ▸ Bk.new eh8
    have eh8' := Lib.hid eh8
    have eWb' := Lib.hid eWb
    have bh8' := Lib.hid bh8
    clear eh8 eWb bh8
    have kB2_28 := Lib.hid (kB2_19.out.far' fWb id)
    clear kB2_19
    have kB3_29 := Lib.hid (kB3_20.out.far' fWb id)
    clear kB3_20
    have kT_30 := Lib.hid (kT_21.out.still fWb)
    clear kT_21
    have kCa_31 := Lib.hid (kCa_22.out.move fWb)
    clear kCa_22
    have kCb_32 := Lib.hid (kCb_23.out.move fWb)
    clear kCb_23
    have kXa_33 := Lib.hid (kXa_24.out.still fWb)
    clear kXa_24
    have kDa_34 := Lib.hid (kDa_25.out.move fWb)
    clear kDa_25
    have kDab_35 := Lib.hid (kDab_26.out.far' fWb id)
    clear kDab_26
    have kXb_36 := Lib.hid (kXb.out.still fWb)
    clear kXb
    have kDb_37 := Lib.hid (kDb.out.move fWb)
    clear kDb
    have hfw_38 := Lib.hid (hfw_27.out.then fWb)
    clear hfw_27
    clear fWb
    go_upto_region 5 with fail
    rw [← eWb'.out, ← eh8'.out]
    clear hDnb hlob hfb
    have ML := fun (V : World) (h1 : HasF V va Fa Sa Ma) (h2 : HasF V vb Fb Sb Mb) (h3 : Tab V) => pMul_any h1 h2 h3
    have RL := fun (V : World) (h1 : Dm V (.agg #[.int .i64 (Sa : Nat), .slice aoad ma cpa]) Sa Ma) (h2 : Dm V (.agg #[.int .i64 (Sb : Nat), .slice aobd mb cpb]) Sb Mb) => rMul_any h1 h2
    obtain ⟨E, hE⟩ : ∃ E, mulE Sa Sb = E := ⟨_, rfl⟩
    obtain ⟨Sp, hSp⟩ : ∃ S, mulSd Sa Sb = S := ⟨_, rfl⟩
    obtain ⟨Mp, hMp⟩ : ∃ M, mulMM Sa Sb Ma Mb = M := ⟨_, rfl⟩
    rw [hE, hSp, hMp] at ML RL
    clear hE hSp hMp
    have ML' := Lib.hid ML
    have RL' := Lib.hid RL
    clear ML RL
    have K_39 := ML'.out _ (kXa_33.out) (kXb_36.out) (kT_30.out)
    go_wp2_with fail
    refine K_39.mono ?_
    rintro e w_40 ⟨vp, rfl, Fp, hXp, hlop, hfp⟩
    clear K_39
    have kB2_41 := Lib.hid (kB2_28.out.far' hfp id)
    clear kB2_28
    have kB3_42 := Lib.hid (kB3_29.out.far' hfp id)
    clear kB3_29
    have kT_43 := Lib.hid (kT_30.out.still hfp)
    clear kT_30
    have kCa_44 := Lib.hid (kCa_31.out.move hfp)
    clear kCa_31
    have kCb_45 := Lib.hid (kCb_32.out.move hfp)
    clear kCb_32
    have kXa_46 := Lib.hid (kXa_33.out.still hfp)
    clear kXa_33
    have kDa_47 := Lib.hid (kDa_34.out.move hfp)
    clear kDa_34
    have kDab_48 := Lib.hid (kDab_35.out.far' hfp id)
    clear kDab_35
    have kXb_49 := Lib.hid (kXb_36.out.still hfp)
    clear kXb_36
    have kDb_50 := Lib.hid (kDb_37.out.move hfp)
    clear kDb_37
    have kDbb_51 := Lib.hid (bh8'.out.far' hfp id)
    clear bh8'
    have hfw_52 := Lib.hid (hfw_38.out.then hfp)
    clear hfw_38
    have kXp := Lib.hid hXp
    clear hXp hlop ML' hfp
    have c0Dab : w_40.cell? ⟨h6, 0, none⟩ = some (.int .i64 (Sa : Nat)) := (kDab_48.out).cell 0
    have c1Dab : w_40.cell? ⟨h6, 1, none⟩ = some (.slice aoad ma cpa) := (kDab_48.out).cell 1
    have c0Dbb : w_40.cell? ⟨h8, 0, none⟩ = some (.int .i64 (Sb : Nat)) := (kDbb_51.out).cell 0
    have c1Dbb : w_40.cell? ⟨h8, 1, none⟩ = some (.slice aobd mb cpb) := (kDbb_51.out).cell 1
    have K_53 := RL'.out _ (kDa_47.out) (kDb_50.out)
    go_wp2_with fail
    refine K_53.mono ?_
    rintro e w_54 ⟨dp, rfl, hDp, hDnp, hfp⟩
    clear K_53
    have kB2_55 := Lib.hid (kB2_41.out.far' hfp id)
    clear kB2_41
    have kB3_56 := Lib.hid (kB3_42.out.far' hfp id)
    clear kB3_42
    have kT_57 := Lib.hid (kT_43.out.still hfp)
    clear kT_43
    have kCa_58 := Lib.hid (kCa_44.out.move hfp)
    clear kCa_44
    have kCb_59 := Lib.hid (kCb_45.out.move hfp)
    clear kCb_45
    have kXa_60 := Lib.hid (kXa_46.out.still hfp)
    clear kXa_46
    have kDa_61 := Lib.hid (kDa_47.out.move hfp)
    clear kDa_47
    have kDab_62 := Lib.hid (kDab_48.out.far' hfp id)
    clear kDab_48
    have kXb_63 := Lib.hid (kXb_49.out.still hfp)
    clear kXb_49
    have kDb_64 := Lib.hid (kDb_50.out.move hfp)
    clear kDb_50
    have kDbb_65 := Lib.hid (kDbb_51.out.far' hfp id)
    clear kDbb_51
    have kXp_66 := Lib.hid (kXp.out.still hfp)
    clear kXp
    have hfw_67 := Lib.hid (hfw_52.out.then hfp)
    clear hfw_52
    clear RL' hDnp hfp
    clear c0Dab c1Dab c0Dbb c1Dbb
    have kDp := Lib.hid hDp
    obtain ⟨aopd, cpp, rfl, _⟩ := hDp
    obtain ⟨mp, hmp⟩ : ∃ m, (cellsL Mp Sp).length = m := ⟨_, rfl⟩
    rw [hmp] at kDp ⊢
    clear hmp
    obtain ⟨h11, eh11⟩ : ∃ h, h = w_54.heap.size := ⟨_, rfl⟩
    obtain ⟨Wp, eWp⟩ : ∃ V, V = w_54.alloc (.cells #[.int .i64 (Sp : Nat), .slice aopd mp cpp] 28) := ⟨_, rfl⟩
    have fWp : Far (fun _ => False) w_54 Wp := eWp ▸ (Far.refl _ w_54).alloc _
    have bh11 : Bk Wp h11 28 #[.int .i64 (Sp : Nat), .slice aopd mp cpp] := eWp ▸ Bk.new eh11
    have eh11' := Lib.hid eh11
    have eWp' := Lib.hid eWp
    have bh11' := Lib.hid bh11
    clear eh11 eWp bh11
    have kB2_68 := Lib.hid (kB2_55.out.far' fWp id)
    clear kB2_55
    have kB3_69 := Lib.hid (kB3_56.out.far' fWp id)
    clear kB3_56
    have kT_70 := Lib.hid (kT_57.out.still fWp)
    clear kT_57
    have kCa_71 := Lib.hid (kCa_58.out.move fWp)
    clear kCa_58
    have kCb_72 := Lib.hid (kCb_59.out.move fWp)
    clear kCb_59
    have kXa_73 := Lib.hid (kXa_60.out.still fWp)
    clear kXa_60
    have kDa_74 := Lib.hid (kDa_61.out.move fWp)
    clear kDa_61
    have kDab_75 := Lib.hid (kDab_62.out.far' fWp id)
    clear kDab_62
    have kXb_76 := Lib.hid (kXb_63.out.still fWp)
    clear kXb_63
    have kDb_77 := Lib.hid (kDb_64.out.move fWp)
    clear kDb_64
    have kDbb_78 := Lib.hid (kDbb_65.out.far' fWp id)
    clear kDbb_65
    have kXp_79 := Lib.hid (kXp_66.out.still fWp)
    clear kXp_66
    have kDp_80 := Lib.hid (kDp.out.move fWp)
    clear kDp
    have hfw_81 := Lib.hid (hfw_67.out.then fWp)
    clear hfw_67
    clear fWp
    go_upto_region 7 with fail
    rw [← eWp'.out, ← eh11'.out]
    have P1 := fun (V : World) => pOne_any sa V
    have R1 := fun (V : World) => rOne_any sa V
    obtain ⟨E2, hE⟩ : ∃ E, oneE sa = E := ⟨_, rfl⟩
    obtain ⟨Su, hSu⟩ : ∃ S, oneS sa = S := ⟨_, rfl⟩
    obtain ⟨Mu, hMu⟩ : ∃ M, oneMM sa = M := ⟨_, rfl⟩
    rw [hE, hSu, hMu] at P1 R1
    clear hE hSu hMu
    have P1' := Lib.hid P1
    have R1' := Lib.hid R1
    clear P1 R1
    have c0B2 : Wp.cell? ⟨h2, 0, none⟩ = some (.int .i64 sa) := (kB2_68.out).cell 0
    have c1B2 : Wp.cell? ⟨h2, 1, none⟩ = some (.slice aoa na ca) := (kB2_68.out).cell 1
    have K_82 := P1'.out Wp
    go_wp2_with fail
    refine K_82.mono ?_
    rintro e w_83 ⟨vu, rfl, Fu, hXu, hlou, hfu⟩
    clear K_82
    have kB2_84 := Lib.hid (kB2_68.out.far' hfu id)
    clear kB2_68
    have kB3_85 := Lib.hid (kB3_69.out.far' hfu id)
    clear kB3_69
    have kT_86 := Lib.hid (kT_70.out.still hfu)
    clear kT_70
    have kCa_87 := Lib.hid (kCa_71.out.move hfu)
    clear kCa_71
    have kCb_88 := Lib.hid (kCb_72.out.move hfu)
    clear kCb_72
    have kXa_89 := Lib.hid (kXa_73.out.still hfu)
    clear kXa_73
    have kDa_90 := Lib.hid (kDa_74.out.move hfu)
    clear kDa_74
    have kDab_91 := Lib.hid (kDab_75.out.far' hfu id)
    clear kDab_75
    have kXb_92 := Lib.hid (kXb_76.out.still hfu)
    clear kXb_76
    have kDb_93 := Lib.hid (kDb_77.out.move hfu)
    clear kDb_77
    have kDbb_94 := Lib.hid (kDbb_78.out.far' hfu id)
    clear kDbb_78
    have kXp_95 := Lib.hid (kXp_79.out.still hfu)
    clear kXp_79
    have kDp_96 := Lib.hid (kDp_80.out.move hfu)
    clear kDp_80
    have kDpb_97 := Lib.hid (bh11'.out.far' hfu id)
    clear bh11'
    have hfw_98 := Lib.hid (hfw_81.out.then hfu)
    clear hfw_81
    have kXu := Lib.hid hXu
    clear hXu hlou P1' hfu
    clear c0B2 c1B2
    have c0B2 : w_83.cell? ⟨h2, 0, none⟩ = some (.int .i64 sa) := (kB2_84.out).cell 0
    have c1B2 : w_83.cell? ⟨h2, 1, none⟩ = some (.slice aoa na ca) := (kB2_84.out).cell 1
    have K_99 := R1'.out w_83
    go_wp2_with fail
    refine K_99.mono ?_
    rintro e w_100 ⟨du, rfl, hDu, hDnu, hfu⟩
    clear K_99
    have kB2_101 := Lib.hid (kB2_84.out.far' hfu id)
    clear kB2_84
    have kB3_102 := Lib.hid (kB3_85.out.far' hfu id)
    clear kB3_85
    have kT_103 := Lib.hid (kT_86.out.still hfu)
    clear kT_86
    have kCa_104 := Lib.hid (kCa_87.out.move hfu)
    clear kCa_87
    have kCb_105 := Lib.hid (kCb_88.out.move hfu)
    clear kCb_88
    have kXa_106 := Lib.hid (kXa_89.out.still hfu)
    clear kXa_89
    have kDa_107 := Lib.hid (kDa_90.out.move hfu)
    clear kDa_90
    have kDab_108 := Lib.hid (kDab_91.out.far' hfu id)
    clear kDab_91
    have kXb_109 := Lib.hid (kXb_92.out.still hfu)
    clear kXb_92
    have kDb_110 := Lib.hid (kDb_93.out.move hfu)
    clear kDb_93
    have kDbb_111 := Lib.hid (kDbb_94.out.far' hfu id)
    clear kDbb_94
    have kXp_112 := Lib.hid (kXp_95.out.still hfu)
    clear kXp_95
    have kDp_113 := Lib.hid (kDp_96.out.move hfu)
    clear kDp_96
    have kDpb_114 := Lib.hid (kDpb_97.out.far' hfu id)
    clear kDpb_97
    have kXu_115 := Lib.hid (kXu.out.still hfu)
    clear kXu
    have hfw_116 := Lib.hid (hfw_98.out.then hfu)
    clear hfw_98
    clear R1' hDnu hfu
    clear c0B2 c1B2
    have kDu := Lib.hid hDu
    obtain ⟨aoud, cpu, rfl, _⟩ := hDu
    obtain ⟨mu, hmu⟩ : ∃ m, (cellsL Mu Su).length = m := ⟨_, rfl⟩
    rw [hmu] at kDu ⊢
    clear hmu
    obtain ⟨h15, eh15⟩ : ∃ h, h = w_100.heap.size := ⟨_, rfl⟩
    obtain ⟨Wu, eWu⟩ : ∃ V, V = w_100.alloc (.cells #[.int .i64 (Su : Nat), .slice aoud mu cpu] 28) := ⟨_, rfl⟩
    have fWu : Far (fun _ => False) w_100 Wu := eWu ▸ (Far.refl _ w_100).alloc _
    have bh15 : Bk Wu h15 28 #[.int .i64 (Su : Nat), .slice aoud mu cpu] := eWu ▸ Bk.new eh15
    have eh15' := Lib.hid eh15
    have eWu' := Lib.hid eWu
    have bh15' := Lib.hid bh15
    clear eh15 eWu bh15
    have kB2_117 := Lib.hid (kB2_101.out.far' fWu id)
    clear kB2_101
    have kB3_118 := Lib.hid (kB3_102.out.far' fWu id)
    clear kB3_102
    have kT_119 := Lib.hid (kT_103.out.still fWu)
    clear kT_103
    have kCa_120 := Lib.hid (kCa_104.out.move fWu)
    clear kCa_104
    have kCb_121 := Lib.hid (kCb_105.out.move fWu)
    clear kCb_105
    have kXa_122 := Lib.hid (kXa_106.out.still fWu)
    clear kXa_106
    have kDa_123 := Lib.hid (kDa_107.out.move fWu)
    clear kDa_107
    have kDab_124 := Lib.hid (kDab_108.out.far' fWu id)
    clear kDab_108
    have kXb_125 := Lib.hid (kXb_109.out.still fWu)
    clear kXb_109
    have kDb_126 := Lib.hid (kDb_110.out.move fWu)
    clear kDb_110
    have kDbb_127 := Lib.hid (kDbb_111.out.far' fWu id)
    clear kDbb_111
    have kXp_128 := Lib.hid (kXp_112.out.still fWu)
    clear kXp_112
    have kDp_129 := Lib.hid (kDp_113.out.move fWu)
    clear kDp_113
    have kDpb_130 := Lib.hid (kDpb_114.out.far' fWu id)
    clear kDpb_114
    have kXu_131 := Lib.hid (kXu_115.out.still fWu)
    clear kXu_115
    have kDu_132 := Lib.hid (kDu.out.move fWu)
    clear kDu
    have hfw_133 := Lib.hid (hfw_116.out.then fWu)
    clear hfw_116
    clear fWu
    go_upto_region 9 with fail
    rw [← eWu'.out, ← eh15'.out]
    have c0Dpb : Wu.cell? ⟨h11, 0, none⟩ = some (.int .i64 (Sp : Nat)) := (kDpb_130.out).cell 0
    have c1Dpb : Wu.cell? ⟨h11, 1, none⟩ = some (.slice aopd mp cpp) := (kDpb_130.out).cell 1
    have K_134 := same03_any (kXp_128.out) (kDp_129.out) (kT_119.out)
    go_wp2_with fail
    refine K_134.mono ?_
    rintro e w_135 ⟨rfl, hfq⟩
    clear K_134
    have kB2_136 := Lib.hid (kB2_117.out.far' hfq id)
    clear kB2_117
    have kB3_137 := Lib.hid (kB3_118.out.far' hfq id)
    clear kB3_118
    have kT_138 := Lib.hid (kT_119.out.still hfq)
    clear kT_119
    have kCa_139 := Lib.hid (kCa_120.out.move hfq)
    clear kCa_120
    have kCb_140 := Lib.hid (kCb_121.out.move hfq)
    clear kCb_121
    have kXa_141 := Lib.hid (kXa_122.out.still hfq)
    clear kXa_122
    have kDa_142 := Lib.hid (kDa_123.out.move hfq)
    clear kDa_123
    have kDab_143 := Lib.hid (kDab_124.out.far' hfq id)
    clear kDab_124
    have kXb_144 := Lib.hid (kXb_125.out.still hfq)
    clear kXb_125
    have kDb_145 := Lib.hid (kDb_126.out.move hfq)
    clear kDb_126
    have kDbb_146 := Lib.hid (kDbb_127.out.far' hfq id)
    clear kDbb_127
    have kXp_147 := Lib.hid (kXp_128.out.still hfq)
    clear kXp_128
    have kDp_148 := Lib.hid (kDp_129.out.move hfq)
    clear kDp_129
    have kDpb_149 := Lib.hid (kDpb_130.out.far' hfq id)
    clear kDpb_130
    have kXu_150 := Lib.hid (kXu_131.out.still hfq)
    clear kXu_131
    have kDu_151 := Lib.hid (kDu_132.out.move hfq)
    clear kDu_132
    have kDub_152 := Lib.hid (bh15'.out.far' hfq id)
    clear bh15'
    have hfw_153 := Lib.hid (hfw_133.out.then hfq)
    clear hfw_133
    clear hfq
    clear c0Dpb c1Dpb
    have c0Dub : w_135.cell? ⟨h15, 0, none⟩ = some (.int .i64 (Su : Nat)) := (kDub_152.out).cell 0
    have c1Dub : w_135.cell? ⟨h15, 1, none⟩ = some (.slice aoud mu cpu) := (kDub_152.out).cell 1
    have K_154 := same03_any (kXu_150.out) (kDu_151.out) (kT_138.out)
    go_wp2_with fail
    refine K_154.mono ?_
    rintro e w_155 ⟨rfl, hfq⟩
    clear K_154
    have kB2_156 := Lib.hid (kB2_136.out.far' hfq id)
    clear kB2_136
    have kB3_157 := Lib.hid (kB3_137.out.far' hfq id)
    clear kB3_137
    have kT_158 := Lib.hid (kT_138.out.still hfq)
    clear kT_138
    have kCa_159 := Lib.hid (kCa_139.out.move hfq)
    clear kCa_139
    have kCb_160 := Lib.hid (kCb_140.out.move hfq)
    clear kCb_140
    have kXa_161 := Lib.hid (kXa_141.out.still hfq)
    clear kXa_141
    have kDa_162 := Lib.hid (kDa_142.out.move hfq)
    clear kDa_142
    have kDab_163 := Lib.hid (kDab_143.out.far' hfq id)
    clear kDab_143
    have kXb_164 := Lib.hid (kXb_144.out.still hfq)
    clear kXb_144
    have kDb_165 := Lib.hid (kDb_145.out.move hfq)
    clear kDb_145
    have kDbb_166 := Lib.hid (kDbb_146.out.far' hfq id)
    clear kDbb_146
    have kXp_167 := Lib.hid (kXp_147.out.still hfq)
    clear kXp_147
    have kDp_168 := Lib.hid (kDp_148.out.move hfq)
    clear kDp_148
    have kDpb_169 := Lib.hid (kDpb_149.out.far' hfq id)
    clear kDpb_149
    have kXu_170 := Lib.hid (kXu_150.out.still hfq)
    clear kXu_150
    have kDu_171 := Lib.hid (kDu_151.out.move hfq)
    clear kDu_151
    have kDub_172 := Lib.hid (kDub_152.out.far' hfq id)
    clear kDub_152
    have hfw_173 := Lib.hid (hfw_153.out.then hfq)
    clear hfw_153
    clear hfq
    clear c0Dub c1Dub
    have c0Dab : w_155.cell? ⟨h6, 0, none⟩ = some (.int .i64 (Sa : Nat)) := (kDab_163.out).cell 0
    have c1Dab : w_155.cell? ⟨h6, 1, none⟩ = some (.slice aoad ma cpa) := (kDab_163.out).cell 1
    have K_174 := same03_any (kXa_161.out) (kDa_162.out) (kT_158.out)
    go_wp2_with fail
    refine K_174.mono ?_
    rintro e w_175 ⟨rfl, hfq⟩
    clear K_174
    have kB2_176 := Lib.hid (kB2_156.out.far' hfq id)
    clear kB2_156
    have kB3_177 := Lib.hid (kB3_157.out.far' hfq id)
    clear kB3_157
    have kT_178 := Lib.hid (kT_158.out.still hfq)
    clear kT_158
    have kCa_179 := Lib.hid (kCa_159.out.move hfq)
    clear kCa_159
    have kCb_180 := Lib.hid (kCb_160.out.move hfq)
    clear kCb_160
    have kXa_181 := Lib.hid (kXa_161.out.still hfq)
    clear kXa_161
    have kDa_182 := Lib.hid (kDa_162.out.move hfq)
    clear kDa_162
    have kDab_183 := Lib.hid (kDab_163.out.far' hfq id)
    clear kDab_163
    have kXb_184 := Lib.hid (kXb_164.out.still hfq)
    clear kXb_164
    have kDb_185 := Lib.hid (kDb_165.out.move hfq)
    clear kDb_165
    have kDbb_186 := Lib.hid (kDbb_166.out.far' hfq id)
    clear kDbb_166
    have kXp_187 := Lib.hid (kXp_167.out.still hfq)
    clear kXp_167
    have kDp_188 := Lib.hid (kDp_168.out.move hfq)
    clear kDp_168
    have kDpb_189 := Lib.hid (kDpb_169.out.far' hfq id)
    clear kDpb_169
    have kXu_190 := Lib.hid (kXu_170.out.still hfq)
    clear kXu_170
    have kDu_191 := Lib.hid (kDu_171.out.move hfq)
    clear kDu_171
    have kDub_192 := Lib.hid (kDub_172.out.far' hfq id)
    clear kDub_172
    have hfw_193 := Lib.hid (hfw_173.out.then hfq)
    clear hfw_173
    clear hfq
    clear c0Dab c1Dab
    have c0Dbb : w_175.cell? ⟨h8, 0, none⟩ = some (.int .i64 (Sb : Nat)) := (kDbb_186.out).cell 0
    have c1Dbb : w_175.cell? ⟨h8, 1, none⟩ = some (.slice aobd mb cpb) := (kDbb_186.out).cell 1
    have K_194 := same03_any (kXb_184.out) (kDb_185.out) (kT_178.out)
    go_wp2_with fail
    refine K_194.mono ?_
    rintro e w_195 ⟨rfl, hfq⟩
    clear K_194
    have kB2_196 := Lib.hid (kB2_176.out.far' hfq id)
    clear kB2_176
    have kB3_197 := Lib.hid (kB3_177.out.far' hfq id)
    clear kB3_177
    have kT_198 := Lib.hid (kT_178.out.still hfq)
    clear kT_178
    have kCa_199 := Lib.hid (kCa_179.out.move hfq)
    clear kCa_179
    have kCb_200 := Lib.hid (kCb_180.out.move hfq)
    clear kCb_180
    have kXa_201 := Lib.hid (kXa_181.out.still hfq)
    clear kXa_181
    have kDa_202 := Lib.hid (kDa_182.out.move hfq)
    clear kDa_182
    have kDab_203 := Lib.hid (kDab_183.out.far' hfq id)
    clear kDab_183
    have kXb_204 := Lib.hid (kXb_184.out.still hfq)
    clear kXb_184
    have kDb_205 := Lib.hid (kDb_185.out.move hfq)
    clear kDb_185
    have kDbb_206 := Lib.hid (kDbb_186.out.far' hfq id)
    clear kDbb_186
    have kXp_207 := Lib.hid (kXp_187.out.still hfq)
    clear kXp_187
    have kDp_208 := Lib.hid (kDp_188.out.move hfq)
    clear kDp_188
    have kDpb_209 := Lib.hid (kDpb_189.out.far' hfq id)
    clear kDpb_189
    have kXu_210 := Lib.hid (kXu_190.out.still hfq)
    clear kXu_190
    have kDu_211 := Lib.hid (kDu_191.out.move hfq)
    clear kDu_191
    have kDub_212 := Lib.hid (kDub_192.out.far' hfq id)
    clear kDub_192
    have hfw_213 := Lib.hid (hfw_193.out.then hfq)
    clear hfw_193
    clear hfq
    clear c0Dbb c1Dbb
    have K_214 := awake03_any _ (kT_198.out)
    go_wp2_with fail
    refine K_214.mono ?_
    rintro e w_215 ⟨rfl, hfq⟩
    clear K_214
    have kB2_216 := Lib.hid (kB2_196.out.far' hfq id)
    clear kB2_196
    have kB3_217 := Lib.hid (kB3_197.out.far' hfq id)
    clear kB3_197
    have kT_218 := Lib.hid (kT_198.out.still hfq)
    clear kT_198
    have kCa_219 := Lib.hid (kCa_199.out.move hfq)
    clear kCa_199
    have kCb_220 := Lib.hid (kCb_200.out.move hfq)
    clear kCb_200
    have kXa_221 := Lib.hid (kXa_201.out.still hfq)
    clear kXa_201
    have kDa_222 := Lib.hid (kDa_202.out.move hfq)
    clear kDa_202
    have kDab_223 := Lib.hid (kDab_203.out.far' hfq id)
    clear kDab_203
    have kXb_224 := Lib.hid (kXb_204.out.still hfq)
    clear kXb_204
    have kDb_225 := Lib.hid (kDb_205.out.move hfq)
    clear kDb_205
    have kDbb_226 := Lib.hid (kDbb_206.out.far' hfq id)
    clear kDbb_206
    have kXp_227 := Lib.hid (kXp_207.out.still hfq)
    clear kXp_207
    have kDp_228 := Lib.hid (kDp_208.out.move hfq)
    clear kDp_208
    have kDpb_229 := Lib.hid (kDpb_209.out.far' hfq id)
    clear kDpb_209
    have kXu_230 := Lib.hid (kXu_210.out.still hfq)
    clear kXu_210
    have kDu_231 := Lib.hid (kDu_211.out.move hfq)
    clear kDu_211
    have kDub_232 := Lib.hid (kDub_212.out.far' hfq id)
    clear kDub_212
    have hfw_233 := Lib.hid (hfw_213.out.then hfq)
    clear hfw_213
    clear hfq
    go_wp2_with fail
    go_ret
    exact ⟨rfl, hfw_233.out⟩
end
end Go.Proofs.YthgjnnghokmjdaaDoor
