/-
  KronInto walked.
-/
import Derived.Test.YtkobbcmndneajaaDoorQKIntoR
import Derived.Test.YtkobbcmndneajaaDoorQKAwake
namespace Go.Proofs.YtkobbcmndneajaaDoor
open Go.RowKit Go.Shelf
set_option linter.unusedVariables false
set_option linter.unusedSimpArgs false
section
set_option maxHeartbeats 8000000
set_option maxRecDepth 100000
theorem kinto_law (W : World) (sci : Int) (aoc : Option Addr) (nc kc : Nat) (Rc Cc : Nat → Int) (hnc : nc ≤ kc) (hmc : nc ≤ 9223372036854775807) (hCc : Cls W aoc nc Rc Cc) (sai : Int) (aoa : Option Addr) (na ka : Nat) (Ra Ca : Nat → Int) (hna : na ≤ ka) (hma : na ≤ 9223372036854775807) (hCa : Cls W aoa na Ra Ca) (sbi : Int) (aob : Option Addr) (nb kb : Nat) (Rb Cb : Nat → Int) (hnb : nb ≤ kb) (hmb : nb ≤ 9223372036854775807) (hCb : Cls W aob nb Rb Cb) (x3 : Int) (hT : Tab W) :
    Calls Tryd.prog 7 #[.agg #[.int .i64 sci, .slice aoc nc kc], .agg #[.int .i64 sai, .slice aoa na ka], .agg #[.int .i64 sbi, .slice aob nb kb], .int .i64 x3] W fun e w' => e = .returned (.bool true) ∧ Far (fun _ => False) W w' := by
  obtain ⟨h4, hh4⟩ : ∃ h, h = W.heap.size := ⟨_, rfl⟩
  obtain ⟨h5, hh5⟩ : ∃ h, h = h4 + 1 := ⟨_, rfl⟩
  obtain ⟨h6, hh6⟩ : ∃ h, h = h5 + 1 := ⟨_, rfl⟩
  obtain ⟨Wz, hWz⟩ : ∃ V, V = ((W.alloc (.cells #[.int .i64 sci, .slice aoc nc kc] 65)).alloc (.cells #[.int .i64 sai, .slice aoa na ka] 65)).alloc (.cells #[.int .i64 sbi, .slice aob nb kb] 65) := ⟨_, rfl⟩
  have hFz : Far (fun _ => False) W Wz := hWz ▸ (((Far.refl _ W).alloc _).alloc _).alloc _
  have hz4 : Bk Wz h4 65 #[.int .i64 sci, .slice aoc nc kc] := hWz ▸ ((Bk.new hh4).alloc _).alloc _
  have hz5 : Bk Wz h5 65 #[.int .i64 sai, .slice aoa na ka] := hWz ▸ (Bk.new (by simp [hh5, hh4])).alloc _
  have hz6 : Bk Wz h6 65 #[.int .i64 sbi, .slice aob nb kb] := hWz ▸ Bk.new (by simp [hh6, hh5, hh4])
  have FW := many_any Wz sai aoa na ka sbi aob nb kb
  have z40 : Wz.cell? ⟨h4, 0, none⟩ = some (.int .i64 sci) := hz4.cell 0
  have z41 : Wz.cell? ⟨h4, 1, none⟩ = some (.slice aoc nc kc) := hz4.cell 1
  have z50 : Wz.cell? ⟨h5, 0, none⟩ = some (.int .i64 sai) := hz5.cell 0
  have z51 : Wz.cell? ⟨h5, 1, none⟩ = some (.slice aoa na ka) := hz5.cell 1
  have z60 : Wz.cell? ⟨h6, 0, none⟩ = some (.int .i64 sbi) := hz6.cell 0
  have z61 : Wz.cell? ⟨h6, 1, none⟩ = some (.slice aob nb kb) := hz6.cell 1
  obtain ⟨bf, hbf⟩ : ∃ b, (decide (60 < na) || decide (60 < nb)) = b := ⟨_, rfl⟩
  rw [hbf] at FW
  have hT0 := Lib.hid hT.lt
  have kB4 := Lib.hid hz4
  have kB5 := Lib.hid hz5
  have kB6 := Lib.hid hz6
  have kT := Lib.hid (hT.still hFz)
  have kCc := Lib.hid (hCc.move hFz)
  have kCa := Lib.hid (hCa.move hFz)
  have kCb := Lib.hid (hCb.move hFz)
  have hfS := Lib.hid hFz
  have hh4' := Lib.hid hh4
  have hh5' := Lib.hid hh5
  have hh6' := Lib.hid hh6
  have hWz' := Lib.hid hWz
  clear hh4 hh5 hh6 hWz hFz hz4 hz5 hz6 hCc hCa hCb hT hbf
  go_enter Tryd.func7, Tryd.ntmps7
  go_upto_region 1 with fail
  rw [← hh4'.out, ← hh5'.out, ← hh6'.out, ← hWz'.out]
  go_wp2_with fail
  refine FW.mono ?_
  rintro e w1 ⟨rfl, hf1⟩
  have kB4_1 := Lib.hid (kB4.out.far' hf1 id)
  clear kB4
  have kB5_2 := Lib.hid (kB5.out.far' hf1 id)
  clear kB5
  have kB6_3 := Lib.hid (kB6.out.far' hf1 id)
  clear kB6
  have kT_4 := Lib.hid (kT.out.still hf1)
  clear kT
  have kCc_5 := Lib.hid (kCc.out.move hf1)
  clear kCc
  have kCa_6 := Lib.hid (kCa.out.move hf1)
  clear kCa
  have kCb_7 := Lib.hid (kCb.out.move hf1)
  clear kCb
  have hfw_8 := Lib.hid (hfS.out.then hf1)
  clear hfS
  clear hf1 FW z40 z41 z50 z51 z60 z61
  cases bf with
  | true =>
    have AW := awake04_any _ (kT_4.out)
    go_wp2_with fail
    refine AW.mono ?_
    rintro e wz ⟨rfl, hfz⟩
    have hfz' := Lib.hid (hfw_8.out.then hfz)
    clear AW hfz
    go_wp2_with fail
    go_ret
    exact ⟨rfl, hfz'.out⟩
  | false =>
    have q40 : w1.cell? ⟨h4, 0, none⟩ = some (.int .i64 sci) := (kB4_1.out).cell 0
    have q41 : w1.cell? ⟨h4, 1, none⟩ = some (.slice aoc nc kc) := (kB4_1.out).cell 1
    by_cases h60 : 60 < nc
    · have h60i : (60 : Int) < (nc : Int) := by omega
      clear h60
      have AW := awake04_any _ (kT_4.out)
      go_wp2_with fail
      refine AW.mono ?_
      rintro e wz ⟨rfl, hfz⟩
      have hfz' := Lib.hid (hfw_8.out.then hfz)
      clear AW hfz
      go_wp2_with fail
      go_ret
      exact ⟨rfl, hfz'.out⟩
    · have h60i : ¬ (60 : Int) < (nc : Int) := by omega
      clear h60
      go_upto_region 3 with fail
      clear q40 q41
      by_cases hx1 : x3 = 1
      · subst hx1
        have szMc := Lib.hid (hfw_8.out.size)
        have c0B4 : w1.cell? ⟨h4, 0, none⟩ = some (.int .i64 sci) := (kB4_1.out).cell 0
        have c1B4 : w1.cell? ⟨h4, 1, none⟩ = some (.slice aoc nc kc) := (kB4_1.out).cell 1
        have MD := made04_sep sci aoc nc kc Rc Cc hnc hmc w1 kCc_5.out
        obtain ⟨Sc, hSc⟩ : ∃ S, ofS sci nc Rc Cc = S := ⟨_, rfl⟩
        obtain ⟨Mc, hMc⟩ : ∃ M, ofM sci nc Rc Cc = M := ⟨_, rfl⟩
        rw [hSc, hMc] at MD
        clear hSc hMc
        have K_9 := MD
        go_wp2_with fail
        refine K_9.mono ?_
        rintro e w_10 ⟨vc, dc, rfl, Fc, hXc, hDc, ⟨bc, hbc, hDnc, hFc⟩, hfc⟩
        clear K_9
        have kB4_11 := Lib.hid (kB4_1.out.far' hfc id)
        clear kB4_1
        have kB5_12 := Lib.hid (kB5_2.out.far' hfc id)
        clear kB5_2
        have kB6_13 := Lib.hid (kB6_3.out.far' hfc id)
        clear kB6_3
        have kT_14 := Lib.hid (kT_4.out.still hfc)
        clear kT_4
        have kCc_15 := Lib.hid (kCc_5.out.move hfc)
        clear kCc_5
        have kCa_16 := Lib.hid (kCa_6.out.move hfc)
        clear kCa_6
        have kCb_17 := Lib.hid (kCb_7.out.move hfc)
        clear kCb_7
        have hfw_18 := Lib.hid (hfw_8.out.then hfc)
        clear hfw_8
        clear MD hfc
        have hFc' := Lib.hid hFc
        have hbc' := Lib.hid hbc
        clear hFc hbc
        clear c0B4 c1B4
        have kXc := Lib.hid hXc
        clear hXc
        have kDc := Lib.hid hDc
        obtain ⟨aocd, cpc, rfl, _⟩ := hDc
        obtain ⟨mc, hmmc⟩ : ∃ m, (cellsL Mc Sc).length = m := ⟨_, rfl⟩
        rw [hmmc] at kDc hDnc ⊢
        clear hmmc
        have hDnc' := Lib.hid hDnc
        clear hDnc
        have szBc := Lib.hid (hfw_18.out.size)
        obtain ⟨h10, eh10⟩ : ∃ h, h = w_10.heap.size := ⟨_, rfl⟩
        obtain ⟨Wc, eWc⟩ : ∃ V, V = w_10.alloc (.cells #[.int .i64 (Sc : Nat), .slice aocd mc cpc] 28) := ⟨_, rfl⟩
        have fWc : Far (fun _ => False) w_10 Wc := eWc ▸ (Far.refl _ w_10).alloc _
        have bh10 : Bk Wc h10 28 #[.int .i64 (Sc : Nat), .slice aocd mc cpc] := eWc ▸ Bk.new eh10
        have eh10' := Lib.hid eh10
        have eWc' := Lib.hid eWc
        have bh10' := Lib.hid bh10
        clear eh10 eWc bh10
        have kB4_19 := Lib.hid (kB4_11.out.far' fWc id)
        clear kB4_11
        have kB5_20 := Lib.hid (kB5_12.out.far' fWc id)
        clear kB5_12
        have kB6_21 := Lib.hid (kB6_13.out.far' fWc id)
        clear kB6_13
        have kT_22 := Lib.hid (kT_14.out.still fWc)
        clear kT_14
        have kCc_23 := Lib.hid (kCc_15.out.move fWc)
        clear kCc_15
        have kCa_24 := Lib.hid (kCa_16.out.move fWc)
        clear kCa_16
        have kCb_25 := Lib.hid (kCb_17.out.move fWc)
        clear kCb_17
        have kXc_26 := Lib.hid (kXc.out.still fWc)
        clear kXc
        have kDc_27 := Lib.hid (kDc.out.move fWc)
        clear kDc
        have hfw_28 := Lib.hid (hfw_18.out.then fWc)
        clear hfw_18
        clear fWc
        go_upto_region 4 with fail
        rw [← eWc'.out, ← eh10'.out]
        have ltFc := Lib.hid (kXc_26.out).lt
        have kzC := Lib.hid (Nat.le_refl Wc.heap.size)
        have szCa := Lib.hid (Nat.le_refl Wc.heap.size)
        have szMa := Lib.hid (hfw_28.out.size)
        have c0B5 : Wc.cell? ⟨h5, 0, none⟩ = some (.int .i64 sai) := (kB5_20.out).cell 0
        have c1B5 : Wc.cell? ⟨h5, 1, none⟩ = some (.slice aoa na ka) := (kB5_20.out).cell 1
        have MD := made04_sep sai aoa na ka Ra Ca hna hma Wc kCa_24.out
        obtain ⟨Sa, hSa⟩ : ∃ S, ofS sai na Ra Ca = S := ⟨_, rfl⟩
        obtain ⟨Ma, hMa⟩ : ∃ M, ofM sai na Ra Ca = M := ⟨_, rfl⟩
        rw [hSa, hMa] at MD
        clear hSa hMa
        have K_29 := MD
        go_wp2_with fail
        refine K_29.mono ?_
        rintro e w_30 ⟨va, da, rfl, Fa, hXa, hDa, ⟨ba, hba, hDna, hFa⟩, hfa⟩
        clear K_29
        have kB4_31 := Lib.hid (kB4_19.out.far' hfa id)
        clear kB4_19
        have kB5_32 := Lib.hid (kB5_20.out.far' hfa id)
        clear kB5_20
        have kB6_33 := Lib.hid (kB6_21.out.far' hfa id)
        clear kB6_21
        have kT_34 := Lib.hid (kT_22.out.still hfa)
        clear kT_22
        have kCc_35 := Lib.hid (kCc_23.out.move hfa)
        clear kCc_23
        have kCa_36 := Lib.hid (kCa_24.out.move hfa)
        clear kCa_24
        have kCb_37 := Lib.hid (kCb_25.out.move hfa)
        clear kCb_25
        have kXc_38 := Lib.hid (kXc_26.out.still hfa)
        clear kXc_26
        have kDc_39 := Lib.hid (kDc_27.out.move hfa)
        clear kDc_27
        have kDcb_40 := Lib.hid (bh10'.out.far' hfa id)
        clear bh10'
        have hfw_41 := Lib.hid (hfw_28.out.then hfa)
        clear hfw_28
        have kzC_42 := Lib.hid (Nat.le_trans kzC.out hfa.size)
        clear MD hfa
        have hFa' := Lib.hid hFa
        have hba' := Lib.hid hba
        clear hFa hba
        clear c0B5 c1B5
        have kXa := Lib.hid hXa
        clear hXa
        have kDa := Lib.hid hDa
        obtain ⟨aoad, cpa, rfl, _⟩ := hDa
        obtain ⟨ma, hmma⟩ : ∃ m, (cellsL Ma Sa).length = m := ⟨_, rfl⟩
        rw [hmma] at kDa hDna ⊢
        clear hmma
        have hDna' := Lib.hid hDna
        clear hDna
        have szBa := Lib.hid (hfw_41.out.size)
        have ltac := Lib.hid (kDcb_40.out).lt
        obtain ⟨h12, eh12⟩ : ∃ h, h = w_30.heap.size := ⟨_, rfl⟩
        obtain ⟨Wa, eWa⟩ : ∃ V, V = w_30.alloc (.cells #[.int .i64 (Sa : Nat), .slice aoad ma cpa] 28) := ⟨_, rfl⟩
        have fWa : Far (fun _ => False) w_30 Wa := eWa ▸ (Far.refl _ w_30).alloc _
        have bh12 : Bk Wa h12 28 #[.int .i64 (Sa : Nat), .slice aoad ma cpa] := eWa ▸ Bk.new eh12
        have eh12' := Lib.hid eh12
        have eWa' := Lib.hid eWa
        have bh12' := Lib.hid bh12
        clear eh12 eWa bh12
        have kB4_43 := Lib.hid (kB4_31.out.far' fWa id)
        clear kB4_31
        have kB5_44 := Lib.hid (kB5_32.out.far' fWa id)
        clear kB5_32
        have kB6_45 := Lib.hid (kB6_33.out.far' fWa id)
        clear kB6_33
        have kT_46 := Lib.hid (kT_34.out.still fWa)
        clear kT_34
        have kCc_47 := Lib.hid (kCc_35.out.move fWa)
        clear kCc_35
        have kCa_48 := Lib.hid (kCa_36.out.move fWa)
        clear kCa_36
        have kCb_49 := Lib.hid (kCb_37.out.move fWa)
        clear kCb_37
        have kXc_50 := Lib.hid (kXc_38.out.still fWa)
        clear kXc_38
        have kDc_51 := Lib.hid (kDc_39.out.move fWa)
        clear kDc_39
        have kDcb_52 := Lib.hid (kDcb_40.out.far' fWa id)
        clear kDcb_40
        have kXa_53 := Lib.hid (kXa.out.still fWa)
        clear kXa
        have kDa_54 := Lib.hid (kDa.out.move fWa)
        clear kDa
        have hfw_55 := Lib.hid (hfw_41.out.then fWa)
        clear hfw_41
        have kzC_56 := Lib.hid (Nat.le_trans kzC_42.out fWa.size)
        clear fWa
        go_upto_region 5 with fail
        rw [← eWa'.out, ← eh12'.out]
        have neac : h12 ≠ h10 := by have := ltac.out; have := eh12'.out; omega
        have neac' : h10 ≠ h12 := fun e => neac e.symm
        have ltFa := Lib.hid (kXa_53.out).lt
        have szCb := Lib.hid (kzC_56.out)
        have szMb := Lib.hid (hfw_55.out.size)
        have c0B6 : Wa.cell? ⟨h6, 0, none⟩ = some (.int .i64 sbi) := (kB6_45.out).cell 0
        have c1B6 : Wa.cell? ⟨h6, 1, none⟩ = some (.slice aob nb kb) := (kB6_45.out).cell 1
        have MD := made04_sep sbi aob nb kb Rb Cb hnb hmb Wa kCb_49.out
        obtain ⟨Sb, hSb⟩ : ∃ S, ofS sbi nb Rb Cb = S := ⟨_, rfl⟩
        obtain ⟨Mb, hMb⟩ : ∃ M, ofM sbi nb Rb Cb = M := ⟨_, rfl⟩
        rw [hSb, hMb] at MD
        clear hSb hMb
        have K_57 := MD
        go_wp2_with fail
        refine K_57.mono ?_
        rintro e w_58 ⟨vb, db, rfl, Fb, hXb, hDb, ⟨bb, hbb, hDnb, hFb⟩, hfb⟩
        clear K_57
        have kB4_59 := Lib.hid (kB4_43.out.far' hfb id)
        clear kB4_43
        have kB5_60 := Lib.hid (kB5_44.out.far' hfb id)
        clear kB5_44
        have kB6_61 := Lib.hid (kB6_45.out.far' hfb id)
        clear kB6_45
        have kT_62 := Lib.hid (kT_46.out.still hfb)
        clear kT_46
        have kCc_63 := Lib.hid (kCc_47.out.move hfb)
        clear kCc_47
        have kCa_64 := Lib.hid (kCa_48.out.move hfb)
        clear kCa_48
        have kCb_65 := Lib.hid (kCb_49.out.move hfb)
        clear kCb_49
        have kXc_66 := Lib.hid (kXc_50.out.still hfb)
        clear kXc_50
        have kDc_67 := Lib.hid (kDc_51.out.move hfb)
        clear kDc_51
        have kDcb_68 := Lib.hid (kDcb_52.out.far' hfb id)
        clear kDcb_52
        have kXa_69 := Lib.hid (kXa_53.out.still hfb)
        clear kXa_53
        have kDa_70 := Lib.hid (kDa_54.out.move hfb)
        clear kDa_54
        have kDab_71 := Lib.hid (bh12'.out.far' hfb id)
        clear bh12'
        have hfw_72 := Lib.hid (hfw_55.out.then hfb)
        clear hfw_55
        have kzC_73 := Lib.hid (Nat.le_trans kzC_56.out hfb.size)
        clear MD hfb
        have hFb' := Lib.hid hFb
        have hbb' := Lib.hid hbb
        clear hFb hbb
        clear c0B6 c1B6
        have kXb := Lib.hid hXb
        clear hXb
        have kDb := Lib.hid hDb
        obtain ⟨aobd, cpb, rfl, _⟩ := hDb
        obtain ⟨mb, hmmb⟩ : ∃ m, (cellsL Mb Sb).length = m := ⟨_, rfl⟩
        rw [hmmb] at kDb hDnb ⊢
        clear hmmb
        have hDnb' := Lib.hid hDnb
        clear hDnb
        have szBb := Lib.hid (hfw_72.out.size)
        have ltbc := Lib.hid (kDcb_68.out).lt
        have ltba := Lib.hid (kDab_71.out).lt
        obtain ⟨h14, eh14⟩ : ∃ h, h = w_58.heap.size := ⟨_, rfl⟩
        obtain ⟨Wb, eWb⟩ : ∃ V, V = w_58.alloc (.cells #[.int .i64 (Sb : Nat), .slice aobd mb cpb] 28) := ⟨_, rfl⟩
        have fWb : Far (fun _ => False) w_58 Wb := eWb ▸ (Far.refl _ w_58).alloc _
        have bh14 : Bk Wb h14 28 #[.int .i64 (Sb : Nat), .slice aobd mb cpb] := eWb ▸ Bk.new eh14
        have eh14' := Lib.hid eh14
        have eWb' := Lib.hid eWb
        have bh14' := Lib.hid bh14
        clear eh14 eWb bh14
        have kB4_74 := Lib.hid (kB4_59.out.far' fWb id)
        clear kB4_59
        have kB5_75 := Lib.hid (kB5_60.out.far' fWb id)
        clear kB5_60
        have kB6_76 := Lib.hid (kB6_61.out.far' fWb id)
        clear kB6_61
        have kT_77 := Lib.hid (kT_62.out.still fWb)
        clear kT_62
        have kCc_78 := Lib.hid (kCc_63.out.move fWb)
        clear kCc_63
        have kCa_79 := Lib.hid (kCa_64.out.move fWb)
        clear kCa_64
        have kCb_80 := Lib.hid (kCb_65.out.move fWb)
        clear kCb_65
        have kXc_81 := Lib.hid (kXc_66.out.still fWb)
        clear kXc_66
        have kDc_82 := Lib.hid (kDc_67.out.move fWb)
        clear kDc_67
        have kDcb_83 := Lib.hid (kDcb_68.out.far' fWb id)
        clear kDcb_68
        have kXa_84 := Lib.hid (kXa_69.out.still fWb)
        clear kXa_69
        have kDa_85 := Lib.hid (kDa_70.out.move fWb)
        clear kDa_70
        have kDab_86 := Lib.hid (kDab_71.out.far' fWb id)
        clear kDab_71
        have kXb_87 := Lib.hid (kXb.out.still fWb)
        clear kXb
        have kDb_88 := Lib.hid (kDb.out.move fWb)
        clear kDb
        have hfw_89 := Lib.hid (hfw_72.out.then fWb)
        clear hfw_72
        have kzC_90 := Lib.hid (Nat.le_trans kzC_73.out fWb.size)
        clear fWb
        go_upto_region 6 with fail
        rw [← eWb'.out, ← eh14'.out]
        have nebc : h14 ≠ h10 := by have := ltbc.out; have := eh14'.out; omega
        have nebc' : h10 ≠ h14 := fun e => nebc e.symm
        have neba : h14 ≠ h12 := by have := ltba.out; have := eh14'.out; omega
        have neba' : h12 ≠ h14 := fun e => neba e.symm
        have ltFb := Lib.hid (kXb_87.out).lt
        clear kzC_90
        have szQ := Lib.hid (show W.heap.size ≤ h12 by have h1 := szBa.out; have h2 := eh12'.out; omega)
        have c0Dcb : Wb.cell? ⟨h10, 0, none⟩ = some (.int .i64 (Sc : Nat)) := (kDcb_83.out).cell 0
        have c1Dcb : Wb.cell? ⟨h10, 1, none⟩ = some (.slice aocd mc cpc) := (kDcb_83.out).cell 1
        have c0Dab : Wb.cell? ⟨h12, 0, none⟩ = some (.int .i64 (Sa : Nat)) := (kDab_86.out).cell 0
        have c1Dab : Wb.cell? ⟨h12, 1, none⟩ = some (.slice aoad ma cpa) := (kDab_86.out).cell 1
        have fr0 := (kDab_86.out).free 0
        have fr1 := (kDab_86.out).free 1
        obtain ⟨V2, eV2⟩ : ∃ V, V = ((Wb.setCell ⟨h12, 0, none⟩ (.int .i64 (Sc : Nat))).setCell ⟨h12, 1, none⟩ (.slice aocd mc cpc)).drew := ⟨_, rfl⟩
        have fV2 : Far (fun q => q = h12) Wb V2 := eV2 ▸ (((Far.refl (fun q => q = h12) Wb).set ⟨h12, 0, none⟩ _ fun _ => rfl).set ⟨h12, 1, none⟩ _ fun _ => rfl).drew
        have bV2 : Bk V2 h12 28 #[.int .i64 (Sc : Nat), .slice aocd mc cpc] := eV2 ▸ (((kDab_86.out).set 0 _).set 1 _ : Bk ((Wb.setCell ⟨h12, 0, none⟩ (.int .i64 (Sc : Nat))).setCell ⟨h12, 1, none⟩ (.slice aocd mc cpc)) h12 _ _)
        have eV2' := Lib.hid eV2
        have bV2' := Lib.hid bV2
        have fV2' := Lib.hid fV2
        clear eV2 bV2 fV2
        go_upto_region 7 with fail
        go_region
        rw [← eV2'.out]
        clear c0Dcb c1Dcb c0Dab c1Dab
        clear fr0 fr1
        clear kB4_74
        clear kB5_75
        clear kB6_76
        have kT_94 := Lib.hid (kT_77.out.far fV2'.out (fun (e : _ = h12) => by have := hT0.out; have := szQ.out; omega))
        clear kCc_78
        clear kCa_79
        clear kCb_80
        have kXc_98 := Lib.hid (kXc_81.out.kept fV2'.out fun k hk (e : k = h12) => HasF.notBk kXc_81.out (kDab_86.out) (by decide) (by decide) (by decide) (e ▸ hk))
        have kDc_99 := Lib.hid (kDc_82.out.box (kDab_86.out) fV2'.out)
        have kDcb_100 := Lib.hid (kDcb_83.out.far' fV2'.out (fun e => absurd e neac'))
        have kXa_101 := Lib.hid (kXa_84.out.kept fV2'.out fun k hk (e : k = h12) => HasF.notBk kXa_84.out (kDab_86.out) (by decide) (by decide) (by decide) (e ▸ hk))
        have kDa_102 := Lib.hid (kDa_85.out.box (kDab_86.out) fV2'.out)
        have kXb_103 := Lib.hid (kXb_87.out.kept fV2'.out fun k hk (e : k = h12) => HasF.notBk kXb_87.out (kDab_86.out) (by decide) (by decide) (by decide) (e ▸ hk))
        have kDb_104 := Lib.hid (kDb_88.out.box (kDab_86.out) fV2'.out)
        have kDbb_105 := Lib.hid (bh14'.out.far' fV2'.out (fun e => absurd e neba))
        have hfw_106 := Lib.hid (hfw_89.out.trans fV2'.out fun k hk (e : k = h12) => by have := szQ.out; omega)
        have hFT := Lib.hid (show ¬ Fc 0 from fun h => by have h1 := (hFc'.out _ h).1; have h2 := szMc.out; have h3 := hT0.out; omega)
        have ML := fun (V : World) (h1 : HasF V vc Fc Sc Mc) (h2 : HasF V vc Fc Sc Mc) (h3 : HasF V vb Fb Sb Mb) (h4 : Tab V) => kInto_any h1 h2 h3 h4 hFT.out
        have RL := fun (V : World) (h1 : Dm V (.agg #[.int .i64 (Sc : Nat), .slice aocd mc cpc]) Sc Mc) (h2 : Dm V (.agg #[.int .i64 (Sc : Nat), .slice aocd mc cpc]) Sc Mc) (h3 : Dm V (.agg #[.int .i64 (Sb : Nat), .slice aobd mb cpb]) Sb Mb) => rKInto_any h1 h2 h3
        obtain ⟨P, hP⟩ : ∃ P : Prop, (kinE Sc Sc Sb = 0 ∧ ∃ r c, kronM Mc Mb Sb r c = true ∧ Mc r c = false) = P := ⟨_, rfl⟩
        obtain ⟨Mn, hMn⟩ : ∃ M, (if kinE Sc Sc Sb = 0 then joinM Mc (kronM Mc Mb Sb) else Mc) = M := ⟨_, rfl⟩
        obtain ⟨E, hE⟩ : ∃ E, kinE Sc Sc Sb = E := ⟨_, rfl⟩
        rw [hP, hMn, hE] at ML RL
        clear hP hMn hE
        have ML' := Lib.hid ML
        have RL' := Lib.hid RL
        clear ML RL
        have K_107 := ML'.out _ (kXc_98.out) (kXc_98.out) (kXb_103.out) (kT_94.out)
        go_wp2_with fail
        refine K_107.mono ?_
        rintro e w_108 ⟨mo1, rfl, hmo1, Fn, hXn, hmv⟩
        clear K_107
        have hmo1' := Lib.hid hmo1
        have hmv' := Lib.hid hmv.far
        clear hmo1 hmv
        have kT_109 := Lib.hid (kT_94.out.far hmv'.out hFT.out)
        have kDc_110 := Lib.hid (kDc_99.out.far hDnc'.out hmv'.out (fun k h => (hFc'.out k h).2))
        have kDcb_111 := Lib.hid (kDcb_100.out.far' hmv'.out (HasF.notBk (kXc_98.out) (kDcb_100.out) (by decide) (by decide) (by decide)))
        have kDab_112 := Lib.hid (bV2'.out.far' hmv'.out (HasF.notBk (kXc_98.out) (bV2'.out) (by decide) (by decide) (by decide)))
        have kXb_113 := Lib.hid (kXb_103.out.kept hmv'.out (fun k hk h => by have h1 := ltFc.out k h; have h2 := (hFb'.out k hk).1; have h3 := szCb.out; omega))
        have kDb_114 := Lib.hid (kDb_104.out.far hDnb'.out hmv'.out (fun k h => by have h1 := ltFc.out k h; have h2 := hbb'.out; have h3 := szCb.out; omega))
        have kDbb_115 := Lib.hid (kDbb_105.out.far' hmv'.out (HasF.notBk (kXc_98.out) (kDbb_105.out) (by decide) (by decide) (by decide)))
        have hfw_116 := Lib.hid (hfw_106.out.trans hmv'.out (fun k hk h => by have h1 := (hFc'.out k h).1; have h2 := szMc.out; omega))
        have kXn0 := Lib.hid hXn
        clear hXn ML'
        have c0Dcb : w_108.cell? ⟨h10, 0, none⟩ = some (.int .i64 (Sc : Nat)) := (kDcb_111.out).cell 0
        have c1Dcb : w_108.cell? ⟨h10, 1, none⟩ = some (.slice aocd mc cpc) := (kDcb_111.out).cell 1
        have c0Dab : w_108.cell? ⟨h12, 0, none⟩ = some (.int .i64 (Sc : Nat)) := (kDab_112.out).cell 0
        have c1Dab : w_108.cell? ⟨h12, 1, none⟩ = some (.slice aocd mc cpc) := (kDab_112.out).cell 1
        have c0Dbb : w_108.cell? ⟨h14, 0, none⟩ = some (.int .i64 (Sb : Nat)) := (kDbb_115.out).cell 0
        have c1Dbb : w_108.cell? ⟨h14, 1, none⟩ = some (.slice aobd mb cpb) := (kDbb_115.out).cell 1
        have K_117 := RL'.out _ (kDc_110.out) (kDc_110.out) (kDb_114.out)
        go_wp2_with fail
        refine K_117.mono ?_
        rintro e w_118 ⟨dn, mo2, rfl, hDn, hmo2, hfn⟩
        clear K_117
        have kT_119 := Lib.hid (kT_109.out.still hfn)
        clear kT_109
        have kDc_120 := Lib.hid (kDc_110.out.move hfn)
        clear kDc_110
        have kDcb_121 := Lib.hid (kDcb_111.out.far' hfn id)
        clear kDcb_111
        have kDab_122 := Lib.hid (kDab_112.out.far' hfn id)
        clear kDab_112
        have kXb_123 := Lib.hid (kXb_113.out.still hfn)
        clear kXb_113
        have kDb_124 := Lib.hid (kDb_114.out.move hfn)
        clear kDb_114
        have kDbb_125 := Lib.hid (kDbb_115.out.far' hfn id)
        clear kDbb_115
        have kXc_126 := Lib.hid (kXn0.out.still hfn)
        clear kXn0
        have hfw_127 := Lib.hid (hfw_116.out.then hfn)
        clear hfw_116
        clear RL' hfn
        obtain rfl : mo1 = mo2 := Bool.eq_iff_iff.2 (hmo1'.out.trans hmo2.symm)
        clear hmo2 hmo1'
        clear c0Dcb c1Dcb c0Dab c1Dab c0Dbb c1Dbb
        obtain ⟨Sn, hSn⟩ : ∃ S, S = Sc := ⟨_, rfl⟩
        have kDn := Lib.hid hDn
        obtain ⟨aond, cpn, rfl, _⟩ := hDn
        obtain ⟨mn, hmmn⟩ : ∃ m, (cellsL Mn Sc).length = m := ⟨_, rfl⟩
        rw [hmmn] at kDn ⊢
        clear hmmn hSn
        obtain ⟨h17, eh17⟩ : ∃ h, h = w_118.heap.size := ⟨_, rfl⟩
        obtain ⟨Wn, eWn⟩ : ∃ V, V = w_118.alloc (.cells #[.int .i64 (Sc : Nat), .slice aond mn cpn] 28) := ⟨_, rfl⟩
        have fWn : Far (fun _ => False) w_118 Wn := eWn ▸ (Far.refl _ w_118).alloc _
        have bh17 : Bk Wn h17 28 #[.int .i64 (Sc : Nat), .slice aond mn cpn] := eWn ▸ Bk.new eh17
        have eh17' := Lib.hid eh17
        have eWn' := Lib.hid eWn
        have bh17' := Lib.hid bh17
        clear eh17 eWn bh17
        have kT_128 := Lib.hid (kT_119.out.still fWn)
        clear kT_119
        have kDc_129 := Lib.hid (kDc_120.out.move fWn)
        clear kDc_120
        have kDcb_130 := Lib.hid (kDcb_121.out.far' fWn id)
        clear kDcb_121
        have kDab_131 := Lib.hid (kDab_122.out.far' fWn id)
        clear kDab_122
        have kXb_132 := Lib.hid (kXb_123.out.still fWn)
        clear kXb_123
        have kDb_133 := Lib.hid (kDb_124.out.move fWn)
        clear kDb_124
        have kDbb_134 := Lib.hid (kDbb_125.out.far' fWn id)
        clear kDbb_125
        have kXc_135 := Lib.hid (kXc_126.out.still fWn)
        clear kXc_126
        have kDn_136 := Lib.hid (kDn.out.move fWn)
        clear kDn
        have hfw_137 := Lib.hid (hfw_127.out.then fWn)
        clear hfw_127
        clear fWn
        go_upto_region 12 with fail
        rw [← eWn'.out, ← eh17'.out]
        have hbb : (mo1 == mo1) = true := by cases mo1 <;> rfl
        have c0Dnb : Wn.cell? ⟨h17, 0, none⟩ = some (.int .i64 (Sc : Nat)) := (bh17'.out).cell 0
        have c1Dnb : Wn.cell? ⟨h17, 1, none⟩ = some (.slice aond mn cpn) := (bh17'.out).cell 1
        have K_138 := same04_any (kXc_135.out) (kDn_136.out) (kT_128.out)
        go_wp2_with fail
        refine K_138.mono ?_
        rintro e w_139 ⟨rfl, hfq⟩
        clear K_138
        have kT_140 := Lib.hid (kT_128.out.still hfq)
        clear kT_128
        have kDc_141 := Lib.hid (kDc_129.out.move hfq)
        clear kDc_129
        have kDcb_142 := Lib.hid (kDcb_130.out.far' hfq id)
        clear kDcb_130
        have kDab_143 := Lib.hid (kDab_131.out.far' hfq id)
        clear kDab_131
        have kXb_144 := Lib.hid (kXb_132.out.still hfq)
        clear kXb_132
        have kDb_145 := Lib.hid (kDb_133.out.move hfq)
        clear kDb_133
        have kDbb_146 := Lib.hid (kDbb_134.out.far' hfq id)
        clear kDbb_134
        have kXc_147 := Lib.hid (kXc_135.out.still hfq)
        clear kXc_135
        have kDn_148 := Lib.hid (kDn_136.out.move hfq)
        clear kDn_136
        have kDnb_149 := Lib.hid (bh17'.out.far' hfq id)
        clear bh17'
        have hfw_150 := Lib.hid (hfw_137.out.then hfq)
        clear hfw_137
        clear hfq
        clear c0Dnb c1Dnb
        have c0Dbb : w_139.cell? ⟨h14, 0, none⟩ = some (.int .i64 (Sb : Nat)) := (kDbb_146.out).cell 0
        have c1Dbb : w_139.cell? ⟨h14, 1, none⟩ = some (.slice aobd mb cpb) := (kDbb_146.out).cell 1
        have K_151 := same04_any (kXb_144.out) (kDb_145.out) (kT_140.out)
        go_wp2_with fail
        refine K_151.mono ?_
        rintro e w_152 ⟨rfl, hfq⟩
        clear K_151
        have kT_153 := Lib.hid (kT_140.out.still hfq)
        clear kT_140
        have kDc_154 := Lib.hid (kDc_141.out.move hfq)
        clear kDc_141
        have kDcb_155 := Lib.hid (kDcb_142.out.far' hfq id)
        clear kDcb_142
        have kDab_156 := Lib.hid (kDab_143.out.far' hfq id)
        clear kDab_143
        have kXb_157 := Lib.hid (kXb_144.out.still hfq)
        clear kXb_144
        have kDb_158 := Lib.hid (kDb_145.out.move hfq)
        clear kDb_145
        have kDbb_159 := Lib.hid (kDbb_146.out.far' hfq id)
        clear kDbb_146
        have kXc_160 := Lib.hid (kXc_147.out.still hfq)
        clear kXc_147
        have kDn_161 := Lib.hid (kDn_148.out.move hfq)
        clear kDn_148
        have kDnb_162 := Lib.hid (kDnb_149.out.far' hfq id)
        clear kDnb_149
        have hfw_163 := Lib.hid (hfw_150.out.then hfq)
        clear hfw_150
        clear hfq
        clear c0Dbb c1Dbb
        have K_164 := awake04_any _ (kT_153.out)
        go_wp2_with fail
        refine K_164.mono ?_
        rintro e w_165 ⟨rfl, hfq⟩
        clear K_164
        have kT_166 := Lib.hid (kT_153.out.still hfq)
        clear kT_153
        have kDc_167 := Lib.hid (kDc_154.out.move hfq)
        clear kDc_154
        have kDcb_168 := Lib.hid (kDcb_155.out.far' hfq id)
        clear kDcb_155
        have kDab_169 := Lib.hid (kDab_156.out.far' hfq id)
        clear kDab_156
        have kXb_170 := Lib.hid (kXb_157.out.still hfq)
        clear kXb_157
        have kDb_171 := Lib.hid (kDb_158.out.move hfq)
        clear kDb_158
        have kDbb_172 := Lib.hid (kDbb_159.out.far' hfq id)
        clear kDbb_159
        have kXc_173 := Lib.hid (kXc_160.out.still hfq)
        clear kXc_160
        have kDn_174 := Lib.hid (kDn_161.out.move hfq)
        clear kDn_161
        have kDnb_175 := Lib.hid (kDnb_162.out.far' hfq id)
        clear kDnb_162
        have hfw_176 := Lib.hid (hfw_163.out.then hfq)
        clear hfw_163
        clear hfq
        go_wp2_with fail
        go_ret
        exact ⟨rfl, hfw_176.out⟩
      · have x1b : (x3 == 1) = false := by simpa using hx1
        by_cases hx2 : x3 = 2
        · subst hx2
          clear x1b hx1
          have szMc := Lib.hid (hfw_8.out.size)
          have c0B4 : w1.cell? ⟨h4, 0, none⟩ = some (.int .i64 sci) := (kB4_1.out).cell 0
          have c1B4 : w1.cell? ⟨h4, 1, none⟩ = some (.slice aoc nc kc) := (kB4_1.out).cell 1
          have MD := made04_sep sci aoc nc kc Rc Cc hnc hmc w1 kCc_5.out
          obtain ⟨Sc, hSc⟩ : ∃ S, ofS sci nc Rc Cc = S := ⟨_, rfl⟩
          obtain ⟨Mc, hMc⟩ : ∃ M, ofM sci nc Rc Cc = M := ⟨_, rfl⟩
          rw [hSc, hMc] at MD
          clear hSc hMc
          have K_9 := MD
          go_wp2_with fail
          refine K_9.mono ?_
          rintro e w_10 ⟨vc, dc, rfl, Fc, hXc, hDc, ⟨bc, hbc, hDnc, hFc⟩, hfc⟩
          clear K_9
          have kB4_11 := Lib.hid (kB4_1.out.far' hfc id)
          clear kB4_1
          have kB5_12 := Lib.hid (kB5_2.out.far' hfc id)
          clear kB5_2
          have kB6_13 := Lib.hid (kB6_3.out.far' hfc id)
          clear kB6_3
          have kT_14 := Lib.hid (kT_4.out.still hfc)
          clear kT_4
          have kCc_15 := Lib.hid (kCc_5.out.move hfc)
          clear kCc_5
          have kCa_16 := Lib.hid (kCa_6.out.move hfc)
          clear kCa_6
          have kCb_17 := Lib.hid (kCb_7.out.move hfc)
          clear kCb_7
          have hfw_18 := Lib.hid (hfw_8.out.then hfc)
          clear hfw_8
          clear MD hfc
          have hFc' := Lib.hid hFc
          have hbc' := Lib.hid hbc
          clear hFc hbc
          clear c0B4 c1B4
          have kXc := Lib.hid hXc
          clear hXc
          have kDc := Lib.hid hDc
          obtain ⟨aocd, cpc, rfl, _⟩ := hDc
          obtain ⟨mc, hmmc⟩ : ∃ m, (cellsL Mc Sc).length = m := ⟨_, rfl⟩
          rw [hmmc] at kDc hDnc ⊢
          clear hmmc
          have hDnc' := Lib.hid hDnc
          clear hDnc
          have szBc := Lib.hid (hfw_18.out.size)
          obtain ⟨h10, eh10⟩ : ∃ h, h = w_10.heap.size := ⟨_, rfl⟩
          obtain ⟨Wc, eWc⟩ : ∃ V, V = w_10.alloc (.cells #[.int .i64 (Sc : Nat), .slice aocd mc cpc] 28) := ⟨_, rfl⟩
          have fWc : Far (fun _ => False) w_10 Wc := eWc ▸ (Far.refl _ w_10).alloc _
          have bh10 : Bk Wc h10 28 #[.int .i64 (Sc : Nat), .slice aocd mc cpc] := eWc ▸ Bk.new eh10
          have eh10' := Lib.hid eh10
          have eWc' := Lib.hid eWc
          have bh10' := Lib.hid bh10
          clear eh10 eWc bh10
          have kB4_19 := Lib.hid (kB4_11.out.far' fWc id)
          clear kB4_11
          have kB5_20 := Lib.hid (kB5_12.out.far' fWc id)
          clear kB5_12
          have kB6_21 := Lib.hid (kB6_13.out.far' fWc id)
          clear kB6_13
          have kT_22 := Lib.hid (kT_14.out.still fWc)
          clear kT_14
          have kCc_23 := Lib.hid (kCc_15.out.move fWc)
          clear kCc_15
          have kCa_24 := Lib.hid (kCa_16.out.move fWc)
          clear kCa_16
          have kCb_25 := Lib.hid (kCb_17.out.move fWc)
          clear kCb_17
          have kXc_26 := Lib.hid (kXc.out.still fWc)
          clear kXc
          have kDc_27 := Lib.hid (kDc.out.move fWc)
          clear kDc
          have hfw_28 := Lib.hid (hfw_18.out.then fWc)
          clear hfw_18
          clear fWc
          go_upto_region 4 with fail
          rw [← eWc'.out, ← eh10'.out]
          have ltFc := Lib.hid (kXc_26.out).lt
          have kzC := Lib.hid (Nat.le_refl Wc.heap.size)
          have szCa := Lib.hid (Nat.le_refl Wc.heap.size)
          have szMa := Lib.hid (hfw_28.out.size)
          have c0B5 : Wc.cell? ⟨h5, 0, none⟩ = some (.int .i64 sai) := (kB5_20.out).cell 0
          have c1B5 : Wc.cell? ⟨h5, 1, none⟩ = some (.slice aoa na ka) := (kB5_20.out).cell 1
          have MD := made04_sep sai aoa na ka Ra Ca hna hma Wc kCa_24.out
          obtain ⟨Sa, hSa⟩ : ∃ S, ofS sai na Ra Ca = S := ⟨_, rfl⟩
          obtain ⟨Ma, hMa⟩ : ∃ M, ofM sai na Ra Ca = M := ⟨_, rfl⟩
          rw [hSa, hMa] at MD
          clear hSa hMa
          have K_29 := MD
          go_wp2_with fail
          refine K_29.mono ?_
          rintro e w_30 ⟨va, da, rfl, Fa, hXa, hDa, ⟨ba, hba, hDna, hFa⟩, hfa⟩
          clear K_29
          have kB4_31 := Lib.hid (kB4_19.out.far' hfa id)
          clear kB4_19
          have kB5_32 := Lib.hid (kB5_20.out.far' hfa id)
          clear kB5_20
          have kB6_33 := Lib.hid (kB6_21.out.far' hfa id)
          clear kB6_21
          have kT_34 := Lib.hid (kT_22.out.still hfa)
          clear kT_22
          have kCc_35 := Lib.hid (kCc_23.out.move hfa)
          clear kCc_23
          have kCa_36 := Lib.hid (kCa_24.out.move hfa)
          clear kCa_24
          have kCb_37 := Lib.hid (kCb_25.out.move hfa)
          clear kCb_25
          have kXc_38 := Lib.hid (kXc_26.out.still hfa)
          clear kXc_26
          have kDc_39 := Lib.hid (kDc_27.out.move hfa)
          clear kDc_27
          have kDcb_40 := Lib.hid (bh10'.out.far' hfa id)
          clear bh10'
          have hfw_41 := Lib.hid (hfw_28.out.then hfa)
          clear hfw_28
          have kzC_42 := Lib.hid (Nat.le_trans kzC.out hfa.size)
          clear MD hfa
          have hFa' := Lib.hid hFa
          have hba' := Lib.hid hba
          clear hFa hba
          clear c0B5 c1B5
          have kXa := Lib.hid hXa
          clear hXa
          have kDa := Lib.hid hDa
          obtain ⟨aoad, cpa, rfl, _⟩ := hDa
          obtain ⟨ma, hmma⟩ : ∃ m, (cellsL Ma Sa).length = m := ⟨_, rfl⟩
          rw [hmma] at kDa hDna ⊢
          clear hmma
          have hDna' := Lib.hid hDna
          clear hDna
          have szBa := Lib.hid (hfw_41.out.size)
          have ltac := Lib.hid (kDcb_40.out).lt
          obtain ⟨h12, eh12⟩ : ∃ h, h = w_30.heap.size := ⟨_, rfl⟩
          obtain ⟨Wa, eWa⟩ : ∃ V, V = w_30.alloc (.cells #[.int .i64 (Sa : Nat), .slice aoad ma cpa] 28) := ⟨_, rfl⟩
          have fWa : Far (fun _ => False) w_30 Wa := eWa ▸ (Far.refl _ w_30).alloc _
          have bh12 : Bk Wa h12 28 #[.int .i64 (Sa : Nat), .slice aoad ma cpa] := eWa ▸ Bk.new eh12
          have eh12' := Lib.hid eh12
          have eWa' := Lib.hid eWa
          have bh12' := Lib.hid bh12
          clear eh12 eWa bh12
          have kB4_43 := Lib.hid (kB4_31.out.far' fWa id)
          clear kB4_31
          have kB5_44 := Lib.hid (kB5_32.out.far' fWa id)
          clear kB5_32
          have kB6_45 := Lib.hid (kB6_33.out.far' fWa id)
          clear kB6_33
          have kT_46 := Lib.hid (kT_34.out.still fWa)
          clear kT_34
          have kCc_47 := Lib.hid (kCc_35.out.move fWa)
          clear kCc_35
          have kCa_48 := Lib.hid (kCa_36.out.move fWa)
          clear kCa_36
          have kCb_49 := Lib.hid (kCb_37.out.move fWa)
          clear kCb_37
          have kXc_50 := Lib.hid (kXc_38.out.still fWa)
          clear kXc_38
          have kDc_51 := Lib.hid (kDc_39.out.move fWa)
          clear kDc_39
          have kDcb_52 := Lib.hid (kDcb_40.out.far' fWa id)
          clear kDcb_40
          have kXa_53 := Lib.hid (kXa.out.still fWa)
          clear kXa
          have kDa_54 := Lib.hid (kDa.out.move fWa)
          clear kDa
          have hfw_55 := Lib.hid (hfw_41.out.then fWa)
          clear hfw_41
          have kzC_56 := Lib.hid (Nat.le_trans kzC_42.out fWa.size)
          clear fWa
          go_upto_region 5 with fail
          rw [← eWa'.out, ← eh12'.out]
          have neac : h12 ≠ h10 := by have := ltac.out; have := eh12'.out; omega
          have neac' : h10 ≠ h12 := fun e => neac e.symm
          have ltFa := Lib.hid (kXa_53.out).lt
          have szCb := Lib.hid (kzC_56.out)
          have szMb := Lib.hid (hfw_55.out.size)
          have c0B6 : Wa.cell? ⟨h6, 0, none⟩ = some (.int .i64 sbi) := (kB6_45.out).cell 0
          have c1B6 : Wa.cell? ⟨h6, 1, none⟩ = some (.slice aob nb kb) := (kB6_45.out).cell 1
          have MD := made04_sep sbi aob nb kb Rb Cb hnb hmb Wa kCb_49.out
          obtain ⟨Sb, hSb⟩ : ∃ S, ofS sbi nb Rb Cb = S := ⟨_, rfl⟩
          obtain ⟨Mb, hMb⟩ : ∃ M, ofM sbi nb Rb Cb = M := ⟨_, rfl⟩
          rw [hSb, hMb] at MD
          clear hSb hMb
          have K_57 := MD
          go_wp2_with fail
          refine K_57.mono ?_
          rintro e w_58 ⟨vb, db, rfl, Fb, hXb, hDb, ⟨bb, hbb, hDnb, hFb⟩, hfb⟩
          clear K_57
          have kB4_59 := Lib.hid (kB4_43.out.far' hfb id)
          clear kB4_43
          have kB5_60 := Lib.hid (kB5_44.out.far' hfb id)
          clear kB5_44
          have kB6_61 := Lib.hid (kB6_45.out.far' hfb id)
          clear kB6_45
          have kT_62 := Lib.hid (kT_46.out.still hfb)
          clear kT_46
          have kCc_63 := Lib.hid (kCc_47.out.move hfb)
          clear kCc_47
          have kCa_64 := Lib.hid (kCa_48.out.move hfb)
          clear kCa_48
          have kCb_65 := Lib.hid (kCb_49.out.move hfb)
          clear kCb_49
          have kXc_66 := Lib.hid (kXc_50.out.still hfb)
          clear kXc_50
          have kDc_67 := Lib.hid (kDc_51.out.move hfb)
          clear kDc_51
          have kDcb_68 := Lib.hid (kDcb_52.out.far' hfb id)
          clear kDcb_52
          have kXa_69 := Lib.hid (kXa_53.out.still hfb)
          clear kXa_53
          have kDa_70 := Lib.hid (kDa_54.out.move hfb)
          clear kDa_54
          have kDab_71 := Lib.hid (bh12'.out.far' hfb id)
          clear bh12'
          have hfw_72 := Lib.hid (hfw_55.out.then hfb)
          clear hfw_55
          have kzC_73 := Lib.hid (Nat.le_trans kzC_56.out hfb.size)
          clear MD hfb
          have hFb' := Lib.hid hFb
          have hbb' := Lib.hid hbb
          clear hFb hbb
          clear c0B6 c1B6
          have kXb := Lib.hid hXb
          clear hXb
          have kDb := Lib.hid hDb
          obtain ⟨aobd, cpb, rfl, _⟩ := hDb
          obtain ⟨mb, hmmb⟩ : ∃ m, (cellsL Mb Sb).length = m := ⟨_, rfl⟩
          rw [hmmb] at kDb hDnb ⊢
          clear hmmb
          have hDnb' := Lib.hid hDnb
          clear hDnb
          have szBb := Lib.hid (hfw_72.out.size)
          have ltbc := Lib.hid (kDcb_68.out).lt
          have ltba := Lib.hid (kDab_71.out).lt
          obtain ⟨h14, eh14⟩ : ∃ h, h = w_58.heap.size := ⟨_, rfl⟩
          obtain ⟨Wb, eWb⟩ : ∃ V, V = w_58.alloc (.cells #[.int .i64 (Sb : Nat), .slice aobd mb cpb] 28) := ⟨_, rfl⟩
          have fWb : Far (fun _ => False) w_58 Wb := eWb ▸ (Far.refl _ w_58).alloc _
          have bh14 : Bk Wb h14 28 #[.int .i64 (Sb : Nat), .slice aobd mb cpb] := eWb ▸ Bk.new eh14
          have eh14' := Lib.hid eh14
          have eWb' := Lib.hid eWb
          have bh14' := Lib.hid bh14
          clear eh14 eWb bh14
          have kB4_74 := Lib.hid (kB4_59.out.far' fWb id)
          clear kB4_59
          have kB5_75 := Lib.hid (kB5_60.out.far' fWb id)
          clear kB5_60
          have kB6_76 := Lib.hid (kB6_61.out.far' fWb id)
          clear kB6_61
          have kT_77 := Lib.hid (kT_62.out.still fWb)
          clear kT_62
          have kCc_78 := Lib.hid (kCc_63.out.move fWb)
          clear kCc_63
          have kCa_79 := Lib.hid (kCa_64.out.move fWb)
          clear kCa_64
          have kCb_80 := Lib.hid (kCb_65.out.move fWb)
          clear kCb_65
          have kXc_81 := Lib.hid (kXc_66.out.still fWb)
          clear kXc_66
          have kDc_82 := Lib.hid (kDc_67.out.move fWb)
          clear kDc_67
          have kDcb_83 := Lib.hid (kDcb_68.out.far' fWb id)
          clear kDcb_68
          have kXa_84 := Lib.hid (kXa_69.out.still fWb)
          clear kXa_69
          have kDa_85 := Lib.hid (kDa_70.out.move fWb)
          clear kDa_70
          have kDab_86 := Lib.hid (kDab_71.out.far' fWb id)
          clear kDab_71
          have kXb_87 := Lib.hid (kXb.out.still fWb)
          clear kXb
          have kDb_88 := Lib.hid (kDb.out.move fWb)
          clear kDb
          have hfw_89 := Lib.hid (hfw_72.out.then fWb)
          clear hfw_72
          have kzC_90 := Lib.hid (Nat.le_trans kzC_73.out fWb.size)
          clear fWb
          go_upto_region 6 with fail
          rw [← eWb'.out, ← eh14'.out]
          have nebc : h14 ≠ h10 := by have := ltbc.out; have := eh14'.out; omega
          have nebc' : h10 ≠ h14 := fun e => nebc e.symm
          have neba : h14 ≠ h12 := by have := ltba.out; have := eh14'.out; omega
          have neba' : h12 ≠ h14 := fun e => neba e.symm
          have ltFb := Lib.hid (kXb_87.out).lt
          clear kzC_90
          have szQ := Lib.hid (show W.heap.size ≤ h14 by have h1 := szBb.out; have h2 := eh14'.out; omega)
          have c0Dcb : Wb.cell? ⟨h10, 0, none⟩ = some (.int .i64 (Sc : Nat)) := (kDcb_83.out).cell 0
          have c1Dcb : Wb.cell? ⟨h10, 1, none⟩ = some (.slice aocd mc cpc) := (kDcb_83.out).cell 1
          have c0Dbb : Wb.cell? ⟨h14, 0, none⟩ = some (.int .i64 (Sb : Nat)) := (bh14'.out).cell 0
          have c1Dbb : Wb.cell? ⟨h14, 1, none⟩ = some (.slice aobd mb cpb) := (bh14'.out).cell 1
          have fr0 := (bh14'.out).free 0
          have fr1 := (bh14'.out).free 1
          obtain ⟨V2, eV2⟩ : ∃ V, V = ((Wb.setCell ⟨h14, 0, none⟩ (.int .i64 (Sc : Nat))).setCell ⟨h14, 1, none⟩ (.slice aocd mc cpc)).drew := ⟨_, rfl⟩
          have fV2 : Far (fun q => q = h14) Wb V2 := eV2 ▸ (((Far.refl (fun q => q = h14) Wb).set ⟨h14, 0, none⟩ _ fun _ => rfl).set ⟨h14, 1, none⟩ _ fun _ => rfl).drew
          have bV2 : Bk V2 h14 28 #[.int .i64 (Sc : Nat), .slice aocd mc cpc] := eV2 ▸ (((bh14'.out).set 0 _).set 1 _ : Bk ((Wb.setCell ⟨h14, 0, none⟩ (.int .i64 (Sc : Nat))).setCell ⟨h14, 1, none⟩ (.slice aocd mc cpc)) h14 _ _)
          have eV2' := Lib.hid eV2
          have bV2' := Lib.hid bV2
          have fV2' := Lib.hid fV2
          clear eV2 bV2 fV2
          go_upto_region 9 with fail
          go_region
          rw [← eV2'.out]
          clear c0Dcb c1Dcb c0Dbb c1Dbb
          clear fr0 fr1
          clear kB4_74
          clear kB5_75
          clear kB6_76
          have kT_94 := Lib.hid (kT_77.out.far fV2'.out (fun (e : _ = h14) => by have := hT0.out; have := szQ.out; omega))
          clear kCc_78
          clear kCa_79
          clear kCb_80
          have kXc_98 := Lib.hid (kXc_81.out.kept fV2'.out fun k hk (e : k = h14) => HasF.notBk kXc_81.out (bh14'.out) (by decide) (by decide) (by decide) (e ▸ hk))
          have kDc_99 := Lib.hid (kDc_82.out.box (bh14'.out) fV2'.out)
          have kDcb_100 := Lib.hid (kDcb_83.out.far' fV2'.out (fun e => absurd e nebc'))
          have kXa_101 := Lib.hid (kXa_84.out.kept fV2'.out fun k hk (e : k = h14) => HasF.notBk kXa_84.out (bh14'.out) (by decide) (by decide) (by decide) (e ▸ hk))
          have kDa_102 := Lib.hid (kDa_85.out.box (bh14'.out) fV2'.out)
          have kDab_103 := Lib.hid (kDab_86.out.far' fV2'.out (fun e => absurd e neba'))
          have kXb_104 := Lib.hid (kXb_87.out.kept fV2'.out fun k hk (e : k = h14) => HasF.notBk kXb_87.out (bh14'.out) (by decide) (by decide) (by decide) (e ▸ hk))
          have kDb_105 := Lib.hid (kDb_88.out.box (bh14'.out) fV2'.out)
          have hfw_106 := Lib.hid (hfw_89.out.trans fV2'.out fun k hk (e : k = h14) => by have := szQ.out; omega)
          have hFT := Lib.hid (show ¬ Fc 0 from fun h => by have h1 := (hFc'.out _ h).1; have h2 := szMc.out; have h3 := hT0.out; omega)
          have ML := fun (V : World) (h1 : HasF V vc Fc Sc Mc) (h2 : HasF V va Fa Sa Ma) (h3 : HasF V vc Fc Sc Mc) (h4 : Tab V) => kInto_any h1 h2 h3 h4 hFT.out
          have RL := fun (V : World) (h1 : Dm V (.agg #[.int .i64 (Sc : Nat), .slice aocd mc cpc]) Sc Mc) (h2 : Dm V (.agg #[.int .i64 (Sa : Nat), .slice aoad ma cpa]) Sa Ma) (h3 : Dm V (.agg #[.int .i64 (Sc : Nat), .slice aocd mc cpc]) Sc Mc) => rKInto_any h1 h2 h3
          obtain ⟨P, hP⟩ : ∃ P : Prop, (kinE Sc Sa Sc = 0 ∧ ∃ r c, kronM Ma Mc Sc r c = true ∧ Mc r c = false) = P := ⟨_, rfl⟩
          obtain ⟨Mn, hMn⟩ : ∃ M, (if kinE Sc Sa Sc = 0 then joinM Mc (kronM Ma Mc Sc) else Mc) = M := ⟨_, rfl⟩
          obtain ⟨E, hE⟩ : ∃ E, kinE Sc Sa Sc = E := ⟨_, rfl⟩
          rw [hP, hMn, hE] at ML RL
          clear hP hMn hE
          have ML' := Lib.hid ML
          have RL' := Lib.hid RL
          clear ML RL
          have K_107 := ML'.out _ (kXc_98.out) (kXa_101.out) (kXc_98.out) (kT_94.out)
          go_wp2_with fail
          refine K_107.mono ?_
          rintro e w_108 ⟨mo1, rfl, hmo1, Fn, hXn, hmv⟩
          clear K_107
          have hmo1' := Lib.hid hmo1
          have hmv' := Lib.hid hmv.far
          clear hmo1 hmv
          have kT_109 := Lib.hid (kT_94.out.far hmv'.out hFT.out)
          have kDc_110 := Lib.hid (kDc_99.out.far hDnc'.out hmv'.out (fun k h => (hFc'.out k h).2))
          have kDcb_111 := Lib.hid (kDcb_100.out.far' hmv'.out (HasF.notBk (kXc_98.out) (kDcb_100.out) (by decide) (by decide) (by decide)))
          have kXa_112 := Lib.hid (kXa_101.out.kept hmv'.out (fun k hk h => by have h1 := ltFc.out k h; have h2 := (hFa'.out k hk).1; have h3 := szCa.out; omega))
          have kDa_113 := Lib.hid (kDa_102.out.far hDna'.out hmv'.out (fun k h => by have h1 := ltFc.out k h; have h2 := hba'.out; have h3 := szCa.out; omega))
          have kDab_114 := Lib.hid (kDab_103.out.far' hmv'.out (HasF.notBk (kXc_98.out) (kDab_103.out) (by decide) (by decide) (by decide)))
          have kDbb_115 := Lib.hid (bV2'.out.far' hmv'.out (HasF.notBk (kXc_98.out) (bV2'.out) (by decide) (by decide) (by decide)))
          have hfw_116 := Lib.hid (hfw_106.out.trans hmv'.out (fun k hk h => by have h1 := (hFc'.out k h).1; have h2 := szMc.out; omega))
          have kXn0 := Lib.hid hXn
          clear hXn ML'
          have c0Dcb : w_108.cell? ⟨h10, 0, none⟩ = some (.int .i64 (Sc : Nat)) := (kDcb_111.out).cell 0
          have c1Dcb : w_108.cell? ⟨h10, 1, none⟩ = some (.slice aocd mc cpc) := (kDcb_111.out).cell 1
          have c0Dab : w_108.cell? ⟨h12, 0, none⟩ = some (.int .i64 (Sa : Nat)) := (kDab_114.out).cell 0
          have c1Dab : w_108.cell? ⟨h12, 1, none⟩ = some (.slice aoad ma cpa) := (kDab_114.out).cell 1
          have c0Dbb : w_108.cell? ⟨h14, 0, none⟩ = some (.int .i64 (Sc : Nat)) := (kDbb_115.out).cell 0
          have c1Dbb : w_108.cell? ⟨h14, 1, none⟩ = some (.slice aocd mc cpc) := (kDbb_115.out).cell 1
          have K_117 := RL'.out _ (kDc_110.out) (kDa_113.out) (kDc_110.out)
          go_wp2_with fail
          refine K_117.mono ?_
          rintro e w_118 ⟨dn, mo2, rfl, hDn, hmo2, hfn⟩
          clear K_117
          have kT_119 := Lib.hid (kT_109.out.still hfn)
          clear kT_109
          have kDc_120 := Lib.hid (kDc_110.out.move hfn)
          clear kDc_110
          have kDcb_121 := Lib.hid (kDcb_111.out.far' hfn id)
          clear kDcb_111
          have kXa_122 := Lib.hid (kXa_112.out.still hfn)
          clear kXa_112
          have kDa_123 := Lib.hid (kDa_113.out.move hfn)
          clear kDa_113
          have kDab_124 := Lib.hid (kDab_114.out.far' hfn id)
          clear kDab_114
          have kDbb_125 := Lib.hid (kDbb_115.out.far' hfn id)
          clear kDbb_115
          have kXc_126 := Lib.hid (kXn0.out.still hfn)
          clear kXn0
          have hfw_127 := Lib.hid (hfw_116.out.then hfn)
          clear hfw_116
          clear RL' hfn
          obtain rfl : mo1 = mo2 := Bool.eq_iff_iff.2 (hmo1'.out.trans hmo2.symm)
          clear hmo2 hmo1'
          clear c0Dcb c1Dcb c0Dab c1Dab c0Dbb c1Dbb
          obtain ⟨Sn, hSn⟩ : ∃ S, S = Sc := ⟨_, rfl⟩
          have kDn := Lib.hid hDn
          obtain ⟨aond, cpn, rfl, _⟩ := hDn
          obtain ⟨mn, hmmn⟩ : ∃ m, (cellsL Mn Sc).length = m := ⟨_, rfl⟩
          rw [hmmn] at kDn ⊢
          clear hmmn hSn
          obtain ⟨h17, eh17⟩ : ∃ h, h = w_118.heap.size := ⟨_, rfl⟩
          obtain ⟨Wn, eWn⟩ : ∃ V, V = w_118.alloc (.cells #[.int .i64 (Sc : Nat), .slice aond mn cpn] 28) := ⟨_, rfl⟩
          have fWn : Far (fun _ => False) w_118 Wn := eWn ▸ (Far.refl _ w_118).alloc _
          have bh17 : Bk Wn h17 28 #[.int .i64 (Sc : Nat), .slice aond mn cpn] := eWn ▸ Bk.new eh17
          have eh17' := Lib.hid eh17
          have eWn' := Lib.hid eWn
          have bh17' := Lib.hid bh17
          clear eh17 eWn bh17
          have kT_128 := Lib.hid (kT_119.out.still fWn)
          clear kT_119
          have kDc_129 := Lib.hid (kDc_120.out.move fWn)
          clear kDc_120
          have kDcb_130 := Lib.hid (kDcb_121.out.far' fWn id)
          clear kDcb_121
          have kXa_131 := Lib.hid (kXa_122.out.still fWn)
          clear kXa_122
          have kDa_132 := Lib.hid (kDa_123.out.move fWn)
          clear kDa_123
          have kDab_133 := Lib.hid (kDab_124.out.far' fWn id)
          clear kDab_124
          have kDbb_134 := Lib.hid (kDbb_125.out.far' fWn id)
          clear kDbb_125
          have kXc_135 := Lib.hid (kXc_126.out.still fWn)
          clear kXc_126
          have kDn_136 := Lib.hid (kDn.out.move fWn)
          clear kDn
          have hfw_137 := Lib.hid (hfw_127.out.then fWn)
          clear hfw_127
          clear fWn
          go_upto_region 12 with fail
          rw [← eWn'.out, ← eh17'.out]
          have hbb : (mo1 == mo1) = true := by cases mo1 <;> rfl
          have c0Dnb : Wn.cell? ⟨h17, 0, none⟩ = some (.int .i64 (Sc : Nat)) := (bh17'.out).cell 0
          have c1Dnb : Wn.cell? ⟨h17, 1, none⟩ = some (.slice aond mn cpn) := (bh17'.out).cell 1
          have K_138 := same04_any (kXc_135.out) (kDn_136.out) (kT_128.out)
          go_wp2_with fail
          refine K_138.mono ?_
          rintro e w_139 ⟨rfl, hfq⟩
          clear K_138
          have kT_140 := Lib.hid (kT_128.out.still hfq)
          clear kT_128
          have kDc_141 := Lib.hid (kDc_129.out.move hfq)
          clear kDc_129
          have kDcb_142 := Lib.hid (kDcb_130.out.far' hfq id)
          clear kDcb_130
          have kXa_143 := Lib.hid (kXa_131.out.still hfq)
          clear kXa_131
          have kDa_144 := Lib.hid (kDa_132.out.move hfq)
          clear kDa_132
          have kDab_145 := Lib.hid (kDab_133.out.far' hfq id)
          clear kDab_133
          have kDbb_146 := Lib.hid (kDbb_134.out.far' hfq id)
          clear kDbb_134
          have kXc_147 := Lib.hid (kXc_135.out.still hfq)
          clear kXc_135
          have kDn_148 := Lib.hid (kDn_136.out.move hfq)
          clear kDn_136
          have kDnb_149 := Lib.hid (bh17'.out.far' hfq id)
          clear bh17'
          have hfw_150 := Lib.hid (hfw_137.out.then hfq)
          clear hfw_137
          clear hfq
          clear c0Dnb c1Dnb
          have c0Dab : w_139.cell? ⟨h12, 0, none⟩ = some (.int .i64 (Sa : Nat)) := (kDab_145.out).cell 0
          have c1Dab : w_139.cell? ⟨h12, 1, none⟩ = some (.slice aoad ma cpa) := (kDab_145.out).cell 1
          have K_151 := same04_any (kXa_143.out) (kDa_144.out) (kT_140.out)
          go_wp2_with fail
          refine K_151.mono ?_
          rintro e w_152 ⟨rfl, hfq⟩
          clear K_151
          have kT_153 := Lib.hid (kT_140.out.still hfq)
          clear kT_140
          have kDc_154 := Lib.hid (kDc_141.out.move hfq)
          clear kDc_141
          have kDcb_155 := Lib.hid (kDcb_142.out.far' hfq id)
          clear kDcb_142
          have kXa_156 := Lib.hid (kXa_143.out.still hfq)
          clear kXa_143
          have kDa_157 := Lib.hid (kDa_144.out.move hfq)
          clear kDa_144
          have kDab_158 := Lib.hid (kDab_145.out.far' hfq id)
          clear kDab_145
          have kDbb_159 := Lib.hid (kDbb_146.out.far' hfq id)
          clear kDbb_146
          have kXc_160 := Lib.hid (kXc_147.out.still hfq)
          clear kXc_147
          have kDn_161 := Lib.hid (kDn_148.out.move hfq)
          clear kDn_148
          have kDnb_162 := Lib.hid (kDnb_149.out.far' hfq id)
          clear kDnb_149
          have hfw_163 := Lib.hid (hfw_150.out.then hfq)
          clear hfw_150
          clear hfq
          clear c0Dab c1Dab
          have K_164 := awake04_any _ (kT_153.out)
          go_wp2_with fail
          refine K_164.mono ?_
          rintro e w_165 ⟨rfl, hfq⟩
          clear K_164
          have kT_166 := Lib.hid (kT_153.out.still hfq)
          clear kT_153
          have kDc_167 := Lib.hid (kDc_154.out.move hfq)
          clear kDc_154
          have kDcb_168 := Lib.hid (kDcb_155.out.far' hfq id)
          clear kDcb_155
          have kXa_169 := Lib.hid (kXa_156.out.still hfq)
          clear kXa_156
          have kDa_170 := Lib.hid (kDa_157.out.move hfq)
          clear kDa_157
          have kDab_171 := Lib.hid (kDab_158.out.far' hfq id)
          clear kDab_158
          have kDbb_172 := Lib.hid (kDbb_159.out.far' hfq id)
          clear kDbb_159
          have kXc_173 := Lib.hid (kXc_160.out.still hfq)
          clear kXc_160
          have kDn_174 := Lib.hid (kDn_161.out.move hfq)
          clear kDn_161
          have kDnb_175 := Lib.hid (kDnb_162.out.far' hfq id)
          clear kDnb_162
          have hfw_176 := Lib.hid (hfw_163.out.then hfq)
          clear hfw_163
          clear hfq
          go_wp2_with fail
          go_ret
          exact ⟨rfl, hfw_176.out⟩
        · have x2b : (x3 == 2) = false := by simpa using hx2
          have szMc := Lib.hid (hfw_8.out.size)
          have c0B4 : w1.cell? ⟨h4, 0, none⟩ = some (.int .i64 sci) := (kB4_1.out).cell 0
          have c1B4 : w1.cell? ⟨h4, 1, none⟩ = some (.slice aoc nc kc) := (kB4_1.out).cell 1
          have MD := made04_sep sci aoc nc kc Rc Cc hnc hmc w1 kCc_5.out
          obtain ⟨Sc, hSc⟩ : ∃ S, ofS sci nc Rc Cc = S := ⟨_, rfl⟩
          obtain ⟨Mc, hMc⟩ : ∃ M, ofM sci nc Rc Cc = M := ⟨_, rfl⟩
          rw [hSc, hMc] at MD
          clear hSc hMc
          have K_9 := MD
          go_wp2_with fail
          refine K_9.mono ?_
          rintro e w_10 ⟨vc, dc, rfl, Fc, hXc, hDc, ⟨bc, hbc, hDnc, hFc⟩, hfc⟩
          clear K_9
          have kB4_11 := Lib.hid (kB4_1.out.far' hfc id)
          clear kB4_1
          have kB5_12 := Lib.hid (kB5_2.out.far' hfc id)
          clear kB5_2
          have kB6_13 := Lib.hid (kB6_3.out.far' hfc id)
          clear kB6_3
          have kT_14 := Lib.hid (kT_4.out.still hfc)
          clear kT_4
          have kCc_15 := Lib.hid (kCc_5.out.move hfc)
          clear kCc_5
          have kCa_16 := Lib.hid (kCa_6.out.move hfc)
          clear kCa_6
          have kCb_17 := Lib.hid (kCb_7.out.move hfc)
          clear kCb_7
          have hfw_18 := Lib.hid (hfw_8.out.then hfc)
          clear hfw_8
          clear MD hfc
          have hFc' := Lib.hid hFc
          have hbc' := Lib.hid hbc
          clear hFc hbc
          clear c0B4 c1B4
          have kXc := Lib.hid hXc
          clear hXc
          have kDc := Lib.hid hDc
          obtain ⟨aocd, cpc, rfl, _⟩ := hDc
          obtain ⟨mc, hmmc⟩ : ∃ m, (cellsL Mc Sc).length = m := ⟨_, rfl⟩
          rw [hmmc] at kDc hDnc ⊢
          clear hmmc
          have hDnc' := Lib.hid hDnc
          clear hDnc
          have szBc := Lib.hid (hfw_18.out.size)
          obtain ⟨h10, eh10⟩ : ∃ h, h = w_10.heap.size := ⟨_, rfl⟩
          obtain ⟨Wc, eWc⟩ : ∃ V, V = w_10.alloc (.cells #[.int .i64 (Sc : Nat), .slice aocd mc cpc] 28) := ⟨_, rfl⟩
          have fWc : Far (fun _ => False) w_10 Wc := eWc ▸ (Far.refl _ w_10).alloc _
          have bh10 : Bk Wc h10 28 #[.int .i64 (Sc : Nat), .slice aocd mc cpc] := eWc ▸ Bk.new eh10
          have eh10' := Lib.hid eh10
          have eWc' := Lib.hid eWc
          have bh10' := Lib.hid bh10
          clear eh10 eWc bh10
          have kB4_19 := Lib.hid (kB4_11.out.far' fWc id)
          clear kB4_11
          have kB5_20 := Lib.hid (kB5_12.out.far' fWc id)
          clear kB5_12
          have kB6_21 := Lib.hid (kB6_13.out.far' fWc id)
          clear kB6_13
          have kT_22 := Lib.hid (kT_14.out.still fWc)
          clear kT_14
          have kCc_23 := Lib.hid (kCc_15.out.move fWc)
          clear kCc_15
          have kCa_24 := Lib.hid (kCa_16.out.move fWc)
          clear kCa_16
          have kCb_25 := Lib.hid (kCb_17.out.move fWc)
          clear kCb_17
          have kXc_26 := Lib.hid (kXc.out.still fWc)
          clear kXc
          have kDc_27 := Lib.hid (kDc.out.move fWc)
          clear kDc
          have hfw_28 := Lib.hid (hfw_18.out.then fWc)
          clear hfw_18
          clear fWc
          go_upto_region 4 with fail
          rw [← eWc'.out, ← eh10'.out]
          have ltFc := Lib.hid (kXc_26.out).lt
          have kzC := Lib.hid (Nat.le_refl Wc.heap.size)
          have szCa := Lib.hid (Nat.le_refl Wc.heap.size)
          have szMa := Lib.hid (hfw_28.out.size)
          have c0B5 : Wc.cell? ⟨h5, 0, none⟩ = some (.int .i64 sai) := (kB5_20.out).cell 0
          have c1B5 : Wc.cell? ⟨h5, 1, none⟩ = some (.slice aoa na ka) := (kB5_20.out).cell 1
          have MD := made04_sep sai aoa na ka Ra Ca hna hma Wc kCa_24.out
          obtain ⟨Sa, hSa⟩ : ∃ S, ofS sai na Ra Ca = S := ⟨_, rfl⟩
          obtain ⟨Ma, hMa⟩ : ∃ M, ofM sai na Ra Ca = M := ⟨_, rfl⟩
          rw [hSa, hMa] at MD
          clear hSa hMa
          have K_29 := MD
          go_wp2_with fail
          refine K_29.mono ?_
          rintro e w_30 ⟨va, da, rfl, Fa, hXa, hDa, ⟨ba, hba, hDna, hFa⟩, hfa⟩
          clear K_29
          have kB4_31 := Lib.hid (kB4_19.out.far' hfa id)
          clear kB4_19
          have kB5_32 := Lib.hid (kB5_20.out.far' hfa id)
          clear kB5_20
          have kB6_33 := Lib.hid (kB6_21.out.far' hfa id)
          clear kB6_21
          have kT_34 := Lib.hid (kT_22.out.still hfa)
          clear kT_22
          have kCc_35 := Lib.hid (kCc_23.out.move hfa)
          clear kCc_23
          have kCa_36 := Lib.hid (kCa_24.out.move hfa)
          clear kCa_24
          have kCb_37 := Lib.hid (kCb_25.out.move hfa)
          clear kCb_25
          have kXc_38 := Lib.hid (kXc_26.out.still hfa)
          clear kXc_26
          have kDc_39 := Lib.hid (kDc_27.out.move hfa)
          clear kDc_27
          have kDcb_40 := Lib.hid (bh10'.out.far' hfa id)
          clear bh10'
          have hfw_41 := Lib.hid (hfw_28.out.then hfa)
          clear hfw_28
          have kzC_42 := Lib.hid (Nat.le_trans kzC.out hfa.size)
          clear MD hfa
          have hFa' := Lib.hid hFa
          have hba' := Lib.hid hba
          clear hFa hba
          clear c0B5 c1B5
          have kXa := Lib.hid hXa
          clear hXa
          have kDa := Lib.hid hDa
          obtain ⟨aoad, cpa, rfl, _⟩ := hDa
          obtain ⟨ma, hmma⟩ : ∃ m, (cellsL Ma Sa).length = m := ⟨_, rfl⟩
          rw [hmma] at kDa hDna ⊢
          clear hmma
          have hDna' := Lib.hid hDna
          clear hDna
          have szBa := Lib.hid (hfw_41.out.size)
          have ltac := Lib.hid (kDcb_40.out).lt
          obtain ⟨h12, eh12⟩ : ∃ h, h = w_30.heap.size := ⟨_, rfl⟩
          obtain ⟨Wa, eWa⟩ : ∃ V, V = w_30.alloc (.cells #[.int .i64 (Sa : Nat), .slice aoad ma cpa] 28) := ⟨_, rfl⟩
          have fWa : Far (fun _ => False) w_30 Wa := eWa ▸ (Far.refl _ w_30).alloc _
          have bh12 : Bk Wa h12 28 #[.int .i64 (Sa : Nat), .slice aoad ma cpa] := eWa ▸ Bk.new eh12
          have eh12' := Lib.hid eh12
          have eWa' := Lib.hid eWa
          have bh12' := Lib.hid bh12
          clear eh12 eWa bh12
          have kB4_43 := Lib.hid (kB4_31.out.far' fWa id)
          clear kB4_31
          have kB5_44 := Lib.hid (kB5_32.out.far' fWa id)
          clear kB5_32
          have kB6_45 := Lib.hid (kB6_33.out.far' fWa id)
          clear kB6_33
          have kT_46 := Lib.hid (kT_34.out.still fWa)
          clear kT_34
          have kCc_47 := Lib.hid (kCc_35.out.move fWa)
          clear kCc_35
          have kCa_48 := Lib.hid (kCa_36.out.move fWa)
          clear kCa_36
          have kCb_49 := Lib.hid (kCb_37.out.move fWa)
          clear kCb_37
          have kXc_50 := Lib.hid (kXc_38.out.still fWa)
          clear kXc_38
          have kDc_51 := Lib.hid (kDc_39.out.move fWa)
          clear kDc_39
          have kDcb_52 := Lib.hid (kDcb_40.out.far' fWa id)
          clear kDcb_40
          have kXa_53 := Lib.hid (kXa.out.still fWa)
          clear kXa
          have kDa_54 := Lib.hid (kDa.out.move fWa)
          clear kDa
          have hfw_55 := Lib.hid (hfw_41.out.then fWa)
          clear hfw_41
          have kzC_56 := Lib.hid (Nat.le_trans kzC_42.out fWa.size)
          clear fWa
          go_upto_region 5 with fail
          rw [← eWa'.out, ← eh12'.out]
          have neac : h12 ≠ h10 := by have := ltac.out; have := eh12'.out; omega
          have neac' : h10 ≠ h12 := fun e => neac e.symm
          have ltFa := Lib.hid (kXa_53.out).lt
          have szCb := Lib.hid (kzC_56.out)
          have szMb := Lib.hid (hfw_55.out.size)
          have c0B6 : Wa.cell? ⟨h6, 0, none⟩ = some (.int .i64 sbi) := (kB6_45.out).cell 0
          have c1B6 : Wa.cell? ⟨h6, 1, none⟩ = some (.slice aob nb kb) := (kB6_45.out).cell 1
          have MD := made04_sep sbi aob nb kb Rb Cb hnb hmb Wa kCb_49.out
          obtain ⟨Sb, hSb⟩ : ∃ S, ofS sbi nb Rb Cb = S := ⟨_, rfl⟩
          obtain ⟨Mb, hMb⟩ : ∃ M, ofM sbi nb Rb Cb = M := ⟨_, rfl⟩
          rw [hSb, hMb] at MD
          clear hSb hMb
          have K_57 := MD
          go_wp2_with fail
          refine K_57.mono ?_
          rintro e w_58 ⟨vb, db, rfl, Fb, hXb, hDb, ⟨bb, hbb, hDnb, hFb⟩, hfb⟩
          clear K_57
          have kB4_59 := Lib.hid (kB4_43.out.far' hfb id)
          clear kB4_43
          have kB5_60 := Lib.hid (kB5_44.out.far' hfb id)
          clear kB5_44
          have kB6_61 := Lib.hid (kB6_45.out.far' hfb id)
          clear kB6_45
          have kT_62 := Lib.hid (kT_46.out.still hfb)
          clear kT_46
          have kCc_63 := Lib.hid (kCc_47.out.move hfb)
          clear kCc_47
          have kCa_64 := Lib.hid (kCa_48.out.move hfb)
          clear kCa_48
          have kCb_65 := Lib.hid (kCb_49.out.move hfb)
          clear kCb_49
          have kXc_66 := Lib.hid (kXc_50.out.still hfb)
          clear kXc_50
          have kDc_67 := Lib.hid (kDc_51.out.move hfb)
          clear kDc_51
          have kDcb_68 := Lib.hid (kDcb_52.out.far' hfb id)
          clear kDcb_52
          have kXa_69 := Lib.hid (kXa_53.out.still hfb)
          clear kXa_53
          have kDa_70 := Lib.hid (kDa_54.out.move hfb)
          clear kDa_54
          have kDab_71 := Lib.hid (bh12'.out.far' hfb id)
          clear bh12'
          have hfw_72 := Lib.hid (hfw_55.out.then hfb)
          clear hfw_55
          have kzC_73 := Lib.hid (Nat.le_trans kzC_56.out hfb.size)
          clear MD hfb
          have hFb' := Lib.hid hFb
          have hbb' := Lib.hid hbb
          clear hFb hbb
          clear c0B6 c1B6
          have kXb := Lib.hid hXb
          clear hXb
          have kDb := Lib.hid hDb
          obtain ⟨aobd, cpb, rfl, _⟩ := hDb
          obtain ⟨mb, hmmb⟩ : ∃ m, (cellsL Mb Sb).length = m := ⟨_, rfl⟩
          rw [hmmb] at kDb hDnb ⊢
          clear hmmb
          have hDnb' := Lib.hid hDnb
          clear hDnb
          have szBb := Lib.hid (hfw_72.out.size)
          have ltbc := Lib.hid (kDcb_68.out).lt
          have ltba := Lib.hid (kDab_71.out).lt
          obtain ⟨h14, eh14⟩ : ∃ h, h = w_58.heap.size := ⟨_, rfl⟩
          obtain ⟨Wb, eWb⟩ : ∃ V, V = w_58.alloc (.cells #[.int .i64 (Sb : Nat), .slice aobd mb cpb] 28) := ⟨_, rfl⟩
          have fWb : Far (fun _ => False) w_58 Wb := eWb ▸ (Far.refl _ w_58).alloc _
          have bh14 : Bk Wb h14 28 #[.int .i64 (Sb : Nat), .slice aobd mb cpb] := eWb ▸ Bk.new eh14
          have eh14' := Lib.hid eh14
          have eWb' := Lib.hid eWb
          have bh14' := Lib.hid bh14
          clear eh14 eWb bh14
          have kB4_74 := Lib.hid (kB4_59.out.far' fWb id)
          clear kB4_59
          have kB5_75 := Lib.hid (kB5_60.out.far' fWb id)
          clear kB5_60
          have kB6_76 := Lib.hid (kB6_61.out.far' fWb id)
          clear kB6_61
          have kT_77 := Lib.hid (kT_62.out.still fWb)
          clear kT_62
          have kCc_78 := Lib.hid (kCc_63.out.move fWb)
          clear kCc_63
          have kCa_79 := Lib.hid (kCa_64.out.move fWb)
          clear kCa_64
          have kCb_80 := Lib.hid (kCb_65.out.move fWb)
          clear kCb_65
          have kXc_81 := Lib.hid (kXc_66.out.still fWb)
          clear kXc_66
          have kDc_82 := Lib.hid (kDc_67.out.move fWb)
          clear kDc_67
          have kDcb_83 := Lib.hid (kDcb_68.out.far' fWb id)
          clear kDcb_68
          have kXa_84 := Lib.hid (kXa_69.out.still fWb)
          clear kXa_69
          have kDa_85 := Lib.hid (kDa_70.out.move fWb)
          clear kDa_70
          have kDab_86 := Lib.hid (kDab_71.out.far' fWb id)
          clear kDab_71
          have kXb_87 := Lib.hid (kXb.out.still fWb)
          clear kXb
          have kDb_88 := Lib.hid (kDb.out.move fWb)
          clear kDb
          have hfw_89 := Lib.hid (hfw_72.out.then fWb)
          clear hfw_72
          have kzC_90 := Lib.hid (Nat.le_trans kzC_73.out fWb.size)
          clear fWb
          go_upto_region 6 with fail
          rw [← eWb'.out, ← eh14'.out]
          have nebc : h14 ≠ h10 := by have := ltbc.out; have := eh14'.out; omega
          have nebc' : h10 ≠ h14 := fun e => nebc e.symm
          have neba : h14 ≠ h12 := by have := ltba.out; have := eh14'.out; omega
          have neba' : h12 ≠ h14 := fun e => neba e.symm
          have ltFb := Lib.hid (kXb_87.out).lt
          clear kzC_90
          have hFT := Lib.hid (show ¬ Fc 0 from fun h => by have h1 := (hFc'.out _ h).1; have h2 := szMc.out; have h3 := hT0.out; omega)
          have ML := fun (V : World) (h1 : HasF V vc Fc Sc Mc) (h2 : HasF V va Fa Sa Ma) (h3 : HasF V vb Fb Sb Mb) (h4 : Tab V) => kInto_any h1 h2 h3 h4 hFT.out
          have RL := fun (V : World) (h1 : Dm V (.agg #[.int .i64 (Sc : Nat), .slice aocd mc cpc]) Sc Mc) (h2 : Dm V (.agg #[.int .i64 (Sa : Nat), .slice aoad ma cpa]) Sa Ma) (h3 : Dm V (.agg #[.int .i64 (Sb : Nat), .slice aobd mb cpb]) Sb Mb) => rKInto_any h1 h2 h3
          obtain ⟨P, hP⟩ : ∃ P : Prop, (kinE Sc Sa Sb = 0 ∧ ∃ r c, kronM Ma Mb Sb r c = true ∧ Mc r c = false) = P := ⟨_, rfl⟩
          obtain ⟨Mn, hMn⟩ : ∃ M, (if kinE Sc Sa Sb = 0 then joinM Mc (kronM Ma Mb Sb) else Mc) = M := ⟨_, rfl⟩
          obtain ⟨E, hE⟩ : ∃ E, kinE Sc Sa Sb = E := ⟨_, rfl⟩
          rw [hP, hMn, hE] at ML RL
          clear hP hMn hE
          have ML' := Lib.hid ML
          have RL' := Lib.hid RL
          clear ML RL
          have K_91 := ML'.out _ (kXc_81.out) (kXa_84.out) (kXb_87.out) (kT_77.out)
          go_wp2_with fail
          refine K_91.mono ?_
          rintro e w_92 ⟨mo1, rfl, hmo1, Fn, hXn, hmv⟩
          clear K_91
          have hmo1' := Lib.hid hmo1
          have hmv' := Lib.hid hmv.far
          clear hmo1 hmv
          clear kB4_74
          clear kB5_75
          clear kB6_76
          have kT_93 := Lib.hid (kT_77.out.far hmv'.out hFT.out)
          clear kCc_78
          clear kCa_79
          clear kCb_80
          have kDc_94 := Lib.hid (kDc_82.out.far hDnc'.out hmv'.out (fun k h => (hFc'.out k h).2))
          have kDcb_95 := Lib.hid (kDcb_83.out.far' hmv'.out (HasF.notBk (kXc_81.out) (kDcb_83.out) (by decide) (by decide) (by decide)))
          have kXa_96 := Lib.hid (kXa_84.out.kept hmv'.out (fun k hk h => by have h1 := ltFc.out k h; have h2 := (hFa'.out k hk).1; have h3 := szCa.out; omega))
          have kDa_97 := Lib.hid (kDa_85.out.far hDna'.out hmv'.out (fun k h => by have h1 := ltFc.out k h; have h2 := hba'.out; have h3 := szCa.out; omega))
          have kDab_98 := Lib.hid (kDab_86.out.far' hmv'.out (HasF.notBk (kXc_81.out) (kDab_86.out) (by decide) (by decide) (by decide)))
          have kXb_99 := Lib.hid (kXb_87.out.kept hmv'.out (fun k hk h => by have h1 := ltFc.out k h; have h2 := (hFb'.out k hk).1; have h3 := szCb.out; omega))
          have kDb_100 := Lib.hid (kDb_88.out.far hDnb'.out hmv'.out (fun k h => by have h1 := ltFc.out k h; have h2 := hbb'.out; have h3 := szCb.out; omega))
          have kDbb_101 := Lib.hid (bh14'.out.far' hmv'.out (HasF.notBk (kXc_81.out) (bh14'.out) (by decide) (by decide) (by decide)))
          have hfw_102 := Lib.hid (hfw_89.out.trans hmv'.out (fun k hk h => by have h1 := (hFc'.out k h).1; have h2 := szMc.out; omega))
          have kXn0 := Lib.hid hXn
          clear hXn ML'
          have c0Dcb : w_92.cell? ⟨h10, 0, none⟩ = some (.int .i64 (Sc : Nat)) := (kDcb_95.out).cell 0
          have c1Dcb : w_92.cell? ⟨h10, 1, none⟩ = some (.slice aocd mc cpc) := (kDcb_95.out).cell 1
          have c0Dab : w_92.cell? ⟨h12, 0, none⟩ = some (.int .i64 (Sa : Nat)) := (kDab_98.out).cell 0
          have c1Dab : w_92.cell? ⟨h12, 1, none⟩ = some (.slice aoad ma cpa) := (kDab_98.out).cell 1
          have c0Dbb : w_92.cell? ⟨h14, 0, none⟩ = some (.int .i64 (Sb : Nat)) := (kDbb_101.out).cell 0
          have c1Dbb : w_92.cell? ⟨h14, 1, none⟩ = some (.slice aobd mb cpb) := (kDbb_101.out).cell 1
          have K_103 := RL'.out _ (kDc_94.out) (kDa_97.out) (kDb_100.out)
          go_wp2_with fail
          refine K_103.mono ?_
          rintro e w_104 ⟨dn, mo2, rfl, hDn, hmo2, hfn⟩
          clear K_103
          have kT_105 := Lib.hid (kT_93.out.still hfn)
          clear kT_93
          have kDc_106 := Lib.hid (kDc_94.out.move hfn)
          clear kDc_94
          have kDcb_107 := Lib.hid (kDcb_95.out.far' hfn id)
          clear kDcb_95
          have kXa_108 := Lib.hid (kXa_96.out.still hfn)
          clear kXa_96
          have kDa_109 := Lib.hid (kDa_97.out.move hfn)
          clear kDa_97
          have kDab_110 := Lib.hid (kDab_98.out.far' hfn id)
          clear kDab_98
          have kXb_111 := Lib.hid (kXb_99.out.still hfn)
          clear kXb_99
          have kDb_112 := Lib.hid (kDb_100.out.move hfn)
          clear kDb_100
          have kDbb_113 := Lib.hid (kDbb_101.out.far' hfn id)
          clear kDbb_101
          have kXc_114 := Lib.hid (kXn0.out.still hfn)
          clear kXn0
          have hfw_115 := Lib.hid (hfw_102.out.then hfn)
          clear hfw_102
          clear RL' hfn
          obtain rfl : mo1 = mo2 := Bool.eq_iff_iff.2 (hmo1'.out.trans hmo2.symm)
          clear hmo2 hmo1'
          clear c0Dcb c1Dcb c0Dab c1Dab c0Dbb c1Dbb
          obtain ⟨Sn, hSn⟩ : ∃ S, S = Sc := ⟨_, rfl⟩
          have kDn := Lib.hid hDn
          obtain ⟨aond, cpn, rfl, _⟩ := hDn
          obtain ⟨mn, hmmn⟩ : ∃ m, (cellsL Mn Sc).length = m := ⟨_, rfl⟩
          rw [hmmn] at kDn ⊢
          clear hmmn hSn
          obtain ⟨h17, eh17⟩ : ∃ h, h = w_104.heap.size := ⟨_, rfl⟩
          obtain ⟨Wn, eWn⟩ : ∃ V, V = w_104.alloc (.cells #[.int .i64 (Sc : Nat), .slice aond mn cpn] 28) := ⟨_, rfl⟩
          have fWn : Far (fun _ => False) w_104 Wn := eWn ▸ (Far.refl _ w_104).alloc _
          have bh17 : Bk Wn h17 28 #[.int .i64 (Sc : Nat), .slice aond mn cpn] := eWn ▸ Bk.new eh17
          have eh17' := Lib.hid eh17
          have eWn' := Lib.hid eWn
          have bh17' := Lib.hid bh17
          clear eh17 eWn bh17
          have kT_116 := Lib.hid (kT_105.out.still fWn)
          clear kT_105
          have kDc_117 := Lib.hid (kDc_106.out.move fWn)
          clear kDc_106
          have kDcb_118 := Lib.hid (kDcb_107.out.far' fWn id)
          clear kDcb_107
          have kXa_119 := Lib.hid (kXa_108.out.still fWn)
          clear kXa_108
          have kDa_120 := Lib.hid (kDa_109.out.move fWn)
          clear kDa_109
          have kDab_121 := Lib.hid (kDab_110.out.far' fWn id)
          clear kDab_110
          have kXb_122 := Lib.hid (kXb_111.out.still fWn)
          clear kXb_111
          have kDb_123 := Lib.hid (kDb_112.out.move fWn)
          clear kDb_112
          have kDbb_124 := Lib.hid (kDbb_113.out.far' fWn id)
          clear kDbb_113
          have kXc_125 := Lib.hid (kXc_114.out.still fWn)
          clear kXc_114
          have kDn_126 := Lib.hid (kDn.out.move fWn)
          clear kDn
          have hfw_127 := Lib.hid (hfw_115.out.then fWn)
          clear hfw_115
          clear fWn
          go_upto_region 12 with fail
          rw [← eWn'.out, ← eh17'.out]
          have hbb : (mo1 == mo1) = true := by cases mo1 <;> rfl
          have c0Dnb : Wn.cell? ⟨h17, 0, none⟩ = some (.int .i64 (Sc : Nat)) := (bh17'.out).cell 0
          have c1Dnb : Wn.cell? ⟨h17, 1, none⟩ = some (.slice aond mn cpn) := (bh17'.out).cell 1
          have K_128 := same04_any (kXc_125.out) (kDn_126.out) (kT_116.out)
          go_wp2_with fail
          refine K_128.mono ?_
          rintro e w_129 ⟨rfl, hfq⟩
          clear K_128
          have kT_130 := Lib.hid (kT_116.out.still hfq)
          clear kT_116
          have kDc_131 := Lib.hid (kDc_117.out.move hfq)
          clear kDc_117
          have kDcb_132 := Lib.hid (kDcb_118.out.far' hfq id)
          clear kDcb_118
          have kXa_133 := Lib.hid (kXa_119.out.still hfq)
          clear kXa_119
          have kDa_134 := Lib.hid (kDa_120.out.move hfq)
          clear kDa_120
          have kDab_135 := Lib.hid (kDab_121.out.far' hfq id)
          clear kDab_121
          have kXb_136 := Lib.hid (kXb_122.out.still hfq)
          clear kXb_122
          have kDb_137 := Lib.hid (kDb_123.out.move hfq)
          clear kDb_123
          have kDbb_138 := Lib.hid (kDbb_124.out.far' hfq id)
          clear kDbb_124
          have kXc_139 := Lib.hid (kXc_125.out.still hfq)
          clear kXc_125
          have kDn_140 := Lib.hid (kDn_126.out.move hfq)
          clear kDn_126
          have kDnb_141 := Lib.hid (bh17'.out.far' hfq id)
          clear bh17'
          have hfw_142 := Lib.hid (hfw_127.out.then hfq)
          clear hfw_127
          clear hfq
          clear c0Dnb c1Dnb
          have c0Dab : w_129.cell? ⟨h12, 0, none⟩ = some (.int .i64 (Sa : Nat)) := (kDab_135.out).cell 0
          have c1Dab : w_129.cell? ⟨h12, 1, none⟩ = some (.slice aoad ma cpa) := (kDab_135.out).cell 1
          have K_143 := same04_any (kXa_133.out) (kDa_134.out) (kT_130.out)
          go_wp2_with fail
          refine K_143.mono ?_
          rintro e w_144 ⟨rfl, hfq⟩
          clear K_143
          have kT_145 := Lib.hid (kT_130.out.still hfq)
          clear kT_130
          have kDc_146 := Lib.hid (kDc_131.out.move hfq)
          clear kDc_131
          have kDcb_147 := Lib.hid (kDcb_132.out.far' hfq id)
          clear kDcb_132
          have kXa_148 := Lib.hid (kXa_133.out.still hfq)
          clear kXa_133
          have kDa_149 := Lib.hid (kDa_134.out.move hfq)
          clear kDa_134
          have kDab_150 := Lib.hid (kDab_135.out.far' hfq id)
          clear kDab_135
          have kXb_151 := Lib.hid (kXb_136.out.still hfq)
          clear kXb_136
          have kDb_152 := Lib.hid (kDb_137.out.move hfq)
          clear kDb_137
          have kDbb_153 := Lib.hid (kDbb_138.out.far' hfq id)
          clear kDbb_138
          have kXc_154 := Lib.hid (kXc_139.out.still hfq)
          clear kXc_139
          have kDn_155 := Lib.hid (kDn_140.out.move hfq)
          clear kDn_140
          have kDnb_156 := Lib.hid (kDnb_141.out.far' hfq id)
          clear kDnb_141
          have hfw_157 := Lib.hid (hfw_142.out.then hfq)
          clear hfw_142
          clear hfq
          clear c0Dab c1Dab
          have c0Dbb : w_144.cell? ⟨h14, 0, none⟩ = some (.int .i64 (Sb : Nat)) := (kDbb_153.out).cell 0
          have c1Dbb : w_144.cell? ⟨h14, 1, none⟩ = some (.slice aobd mb cpb) := (kDbb_153.out).cell 1
          have K_158 := same04_any (kXb_151.out) (kDb_152.out) (kT_145.out)
          go_wp2_with fail
          refine K_158.mono ?_
          rintro e w_159 ⟨rfl, hfq⟩
          clear K_158
          have kT_160 := Lib.hid (kT_145.out.still hfq)
          clear kT_145
          have kDc_161 := Lib.hid (kDc_146.out.move hfq)
          clear kDc_146
          have kDcb_162 := Lib.hid (kDcb_147.out.far' hfq id)
          clear kDcb_147
          have kXa_163 := Lib.hid (kXa_148.out.still hfq)
          clear kXa_148
          have kDa_164 := Lib.hid (kDa_149.out.move hfq)
          clear kDa_149
          have kDab_165 := Lib.hid (kDab_150.out.far' hfq id)
          clear kDab_150
          have kXb_166 := Lib.hid (kXb_151.out.still hfq)
          clear kXb_151
          have kDb_167 := Lib.hid (kDb_152.out.move hfq)
          clear kDb_152
          have kDbb_168 := Lib.hid (kDbb_153.out.far' hfq id)
          clear kDbb_153
          have kXc_169 := Lib.hid (kXc_154.out.still hfq)
          clear kXc_154
          have kDn_170 := Lib.hid (kDn_155.out.move hfq)
          clear kDn_155
          have kDnb_171 := Lib.hid (kDnb_156.out.far' hfq id)
          clear kDnb_156
          have hfw_172 := Lib.hid (hfw_157.out.then hfq)
          clear hfw_157
          clear hfq
          clear c0Dbb c1Dbb
          have K_173 := awake04_any _ (kT_160.out)
          go_wp2_with fail
          refine K_173.mono ?_
          rintro e w_174 ⟨rfl, hfq⟩
          clear K_173
          have kT_175 := Lib.hid (kT_160.out.still hfq)
          clear kT_160
          have kDc_176 := Lib.hid (kDc_161.out.move hfq)
          clear kDc_161
          have kDcb_177 := Lib.hid (kDcb_162.out.far' hfq id)
          clear kDcb_162
          have kXa_178 := Lib.hid (kXa_163.out.still hfq)
          clear kXa_163
          have kDa_179 := Lib.hid (kDa_164.out.move hfq)
          clear kDa_164
          have kDab_180 := Lib.hid (kDab_165.out.far' hfq id)
          clear kDab_165
          have kXb_181 := Lib.hid (kXb_166.out.still hfq)
          clear kXb_166
          have kDb_182 := Lib.hid (kDb_167.out.move hfq)
          clear kDb_167
          have kDbb_183 := Lib.hid (kDbb_168.out.far' hfq id)
          clear kDbb_168
          have kXc_184 := Lib.hid (kXc_169.out.still hfq)
          clear kXc_169
          have kDn_185 := Lib.hid (kDn_170.out.move hfq)
          clear kDn_170
          have kDnb_186 := Lib.hid (kDnb_171.out.far' hfq id)
          clear kDnb_171
          have hfw_187 := Lib.hid (hfw_172.out.then hfq)
          clear hfw_172
          clear hfq
          go_wp2_with fail
          go_ret
          exact ⟨rfl, hfw_187.out⟩
end
end Go.Proofs.YtkobbcmndneajaaDoor
