/-
  ProductPower walked.
-/
import Derived.Test.YthgjnnghokmjdaaDoorQPowW
import Derived.Test.YthgjnnghokmjdaaDoorQMd03
import Derived.Test.YthgjnnghokmjdaaDoorQPAwake
namespace Go.Proofs.YthgjnnghokmjdaaDoor
open Go.RowKit Go.Shelf
set_option linter.unusedVariables false
set_option linter.unusedSimpArgs false
section
set_option maxHeartbeats 4000000
set_option maxRecDepth 100000
theorem walkL_le (s : Nat) (i n : Int) (M : Nat → Nat → Bool) : (walkL s i n M).length ≤ s := by
  unfold walkL
  split
  · exact setL_le _ _
  · exact Nat.zero_le _
theorem ppower_law (W : World) (sa : Int) (aoa : Option Addr) (na ca : Nat) (Ra Ca : Nat → Int) (hna : na ≤ ca) (hna2 : na ≤ 9223372036854775807) (hCa : Cls W aoa na Ra Ca) (x y z : Int) (hy : y ≤ 9223372036854775807) (hT : Tab W) :
    Calls Tryd.prog 7 #[.agg #[.int .i64 sa, .slice aoa na ca], .int .i64 x, .int .i64 y, .int .i64 z] W fun e w' => e = .returned (.bool true) ∧ Far (fun _ => False) W w' := by
  obtain ⟨h4, hh4⟩ : ∃ h, h = W.heap.size := ⟨_, rfl⟩
  obtain ⟨h19, hh19⟩ : ∃ h, h = h4 + 1 := ⟨_, rfl⟩
  obtain ⟨Wz, hWz⟩ : ∃ V, V = W.alloc (.cells #[.int .i64 sa, .slice aoa na ca] 49) := ⟨_, rfl⟩
  obtain ⟨W0, hW0⟩ : ∃ V, V = Wz.alloc (.cells #[.int .i64 sa, .slice aoa na ca] 49) := ⟨_, rfl⟩
  have hzz : Wz.heap.size = h19 := by rw [hWz]; simp [hh19, hh4]
  have hFz : Far (fun _ => False) W Wz := hWz ▸ (Far.refl _ W).alloc _
  have hF0 : Far (fun _ => False) W W0 := hW0 ▸ hFz.alloc _
  have hz4 : Bk Wz h4 49 #[.int .i64 sa, .slice aoa na ca] := hWz ▸ Bk.new hh4
  have hf0z : Far (fun _ => False) Wz W0 := hW0 ▸ (Far.refl _ Wz).alloc _
  have hB19 : Bk W0 h19 49 #[.int .i64 sa, .slice aoa na ca] := hW0 ▸ Bk.new hzz.symm
  have FW := rfew_any W0 h19 0 1 1 (by omega) (fun _ => undef) (fun _ => aoa) (fun _ => na) (fun _ => ca) (fun k hk => by
    rw [Nat.zero_add, hB19.cell (k * 2 + 1)]
    rcases (show k = 0 by omega) with rfl
    rfl)
  have z40 : Wz.cell? ⟨h4, 0, none⟩ = some (.int .i64 sa) := hz4.cell 0
  have z41 : Wz.cell? ⟨h4, 1, none⟩ = some (.slice aoa na ca) := hz4.cell 1
  obtain ⟨bf, hbf⟩ : ∃ b, ((List.range 1).all fun k => decide (na ≤ 400)) = b := ⟨_, rfl⟩
  rw [hbf] at FW
  have kB4 := Lib.hid (hz4.far' hf0z id)
  have kT := Lib.hid (hT.still hF0)
  have kCa := Lib.hid (hCa.move hF0)
  have hfS := Lib.hid hF0
  have hh4' := Lib.hid hh4
  have hWz' := Lib.hid hWz
  have hW0' := Lib.hid hW0
  have hzz' := Lib.hid hzz
  clear hh4 hh19 hWz hW0 hzz hFz hF0 hz4 hf0z hB19 hCa hT hbf
  go_enter Tryd.func7, Tryd.ntmps7
  go_upto_region 1 with fail
  rw [← hh4'.out, ← hWz'.out]
  go_wp2_with fail
  rw [hzz'.out, ← hW0'.out]
  refine FW.mono ?_
  rintro e w' ⟨rfl, rfl⟩
  clear FW z40 z41
  cases bf with
  | false =>
    have AW := awake03_any W0 kT.out
    go_wp2_with fail
    refine AW.mono ?_
    rintro e wz ⟨rfl, hfz⟩
    have hfz' := Lib.hid (hfS.out.then hfz)
    clear AW hfz
    go_wp2_with fail
    go_ret
    exact ⟨rfl, hfz'.out⟩
  | true =>
    have c0B4 : W0.cell? ⟨h4, 0, none⟩ = some (.int .i64 sa) := (kB4.out).cell 0
    have c1B4 : W0.cell? ⟨h4, 1, none⟩ = some (.slice aoa na ca) := (kB4.out).cell 1
    have MD := made03_any sa aoa na ca Ra Ca hna hna2 W0 kCa.out
    obtain ⟨Sa, hSa⟩ : ∃ S, ofS sa na Ra Ca = S := ⟨_, rfl⟩
    obtain ⟨Ma, hMa⟩ : ∃ M, ofM sa na Ra Ca = M := ⟨_, rfl⟩
    rw [hSa, hMa] at MD
    clear hSa hMa
    have K_1 := MD
    go_wp2_with fail
    refine K_1.mono ?_
    rintro e w_2 ⟨va, da, rfl, Fa, hXa, hDa, hDna, hloa, hfa⟩
    clear K_1
    have kB4_3 := Lib.hid (kB4.out.far' hfa id)
    clear kB4
    have kT_4 := Lib.hid (kT.out.still hfa)
    clear kT
    have kCa_5 := Lib.hid (kCa.out.move hfa)
    clear kCa
    have hfw_6 := Lib.hid (hfS.out.then hfa)
    clear hfS
    clear MD
    clear c0B4 c1B4
    have kXa := Lib.hid hXa
    clear hXa
    have kDa := Lib.hid hDa
    obtain ⟨aoad, cpa, rfl, _⟩ := hDa
    obtain ⟨ma, hma⟩ : ∃ m, (cellsL Ma Sa).length = m := ⟨_, rfl⟩
    rw [hma] at kDa ⊢
    clear hma
    obtain ⟨h10, eh10⟩ : ∃ h, h = w_2.heap.size := ⟨_, rfl⟩
    obtain ⟨Wa, eWa⟩ : ∃ V, V = w_2.alloc (.cells #[.int .i64 (Sa : Nat), .slice aoad ma cpa] 28) := ⟨_, rfl⟩
    have fWa : Far (fun _ => False) w_2 Wa := eWa ▸ (Far.refl _ w_2).alloc _
    have bh10 : Bk Wa h10 28 #[.int .i64 (Sa : Nat), .slice aoad ma cpa] := eWa ▸ Bk.new eh10
    have eh10' := Lib.hid eh10
    have eWa' := Lib.hid eWa
    have bh10' := Lib.hid bh10
    clear eh10 eWa bh10
    have kB4_7 := Lib.hid (kB4_3.out.far' fWa id)
    clear kB4_3
    have kT_8 := Lib.hid (kT_4.out.still fWa)
    clear kT_4
    have kCa_9 := Lib.hid (kCa_5.out.move fWa)
    clear kCa_5
    have kXa_10 := Lib.hid (kXa.out.still fWa)
    clear kXa
    have kDa_11 := Lib.hid (kDa.out.move fWa)
    clear kDa
    have hfw_12 := Lib.hid (hfw_6.out.then fWa)
    clear hfw_6
    clear fWa
    go_upto_region 4 with fail
    rw [← eWa'.out, ← eh10'.out]
    clear hDna hloa hfa
    have PW := fun (V : World) (h1 : HasF V va Fa Sa Ma) (h3 : Tab V) => pWalk_any h1 h3 x z
    have RW := fun (V : World) (h1 : Dm V (.agg #[.int .i64 (Sa : Nat), .slice aoad ma cpa]) Sa Ma) => rWalk_any h1 x z
    have hml0 : (walkL Sa x z Ma).length ≤ 1024 := Nat.le_trans (walkL_le Sa x z Ma) (HasF.le (kXa_10.out))
    obtain ⟨E, hE⟩ : ∃ E, errW Sa x z = E := ⟨_, rfl⟩
    obtain ⟨l, hl⟩ : ∃ l, walkL Sa x z Ma = l := ⟨_, rfl⟩
    obtain ⟨m, hm⟩ : ∃ m, l.length = m := ⟨_, rfl⟩
    rw [hE, hl, hm] at PW RW
    rw [hl, hm] at hml0
    have hml := Lib.hid hml0
    clear hE hl hml0
    have hm' := Lib.hid hm
    have PW' := Lib.hid PW
    have RW' := Lib.hid RW
    clear PW RW hm
    have K_13 := PW'.out _ (kXa_10.out) (kT_8.out)
    go_wp2_with fail
    refine K_13.mono ?_
    rintro e w_14 ⟨vw, rfl, how, hfp⟩
    clear K_13
    have kB4_15 := Lib.hid (kB4_7.out.far' hfp id)
    clear kB4_7
    have kT_16 := Lib.hid (kT_8.out.still hfp)
    clear kT_8
    have kCa_17 := Lib.hid (kCa_9.out.move hfp)
    clear kCa_9
    have kXa_18 := Lib.hid (kXa_10.out.still hfp)
    clear kXa_10
    have kDa_19 := Lib.hid (kDa_11.out.move hfp)
    clear kDa_11
    have kDab_20 := Lib.hid (bh10'.out.far' hfp id)
    clear bh10'
    have hfw_21 := Lib.hid (hfw_12.out.then hfp)
    clear hfw_12
    obtain ⟨lo1, lc1, rfl⟩ := q_form how
    have kO1 := Lib.hid how
    clear how PW' hfp
    have c0Dab : w_14.cell? ⟨h10, 0, none⟩ = some (.int .i64 (Sa : Nat)) := (kDab_20.out).cell 0
    have c1Dab : w_14.cell? ⟨h10, 1, none⟩ = some (.slice aoad ma cpa) := (kDab_20.out).cell 1
    have K_22 := RW'.out _ (kDa_19.out)
    go_wp2_with fail
    refine K_22.mono ?_
    rintro e w_23 ⟨vq, rfl, hoq, hfq⟩
    clear K_22
    have kB4_24 := Lib.hid (kB4_15.out.far' hfq id)
    clear kB4_15
    have kT_25 := Lib.hid (kT_16.out.still hfq)
    clear kT_16
    have kCa_26 := Lib.hid (kCa_17.out.move hfq)
    clear kCa_17
    have kXa_27 := Lib.hid (kXa_18.out.still hfq)
    clear kXa_18
    have kDa_28 := Lib.hid (kDa_19.out.move hfq)
    clear kDa_19
    have kDab_29 := Lib.hid (kDab_20.out.far' hfq id)
    clear kDab_20
    have kO1_30 := Lib.hid (row_same kO1.out fun k _ hl => hfq.block k hl id)
    clear kO1
    have hfw_31 := Lib.hid (hfw_21.out.then hfq)
    clear hfw_21
    obtain ⟨lo2, lc2, rfl⟩ := q_form hoq
    have kO2 := Lib.hid hoq
    clear hoq RW' hfq
    clear c0Dab c1Dab
    have hEE : (((E : Nat) : Int) != (E : Int)) = false := by simp
    have hmm : (((m : Nat) : Int) != (m : Int)) = false := by simp
    have hmb : m ≤ 1024 := hml.out
    go_wp2_with fail
    go_loopw [15] (fun iv wr => ∃ j : Nat, j ≤ m ∧ iv = .int .i64 (j : Nat) ∧ Far (fun _ => False) w_23 wr) (fun iv _ => m - (intOf iv).toNat)
    case atStart => exact ⟨0, Nat.zero_le _, rfl, Far.refl _ _⟩
    case round =>
      obtain ⟨j, hj, rfl, hfr⟩ := hrel
      obtain ⟨wo, hwo⟩ : ∃ wo, wo = wr := ⟨_, rfl⟩
      rw [← hwo] at hfr ⊢
      clear hwo
      by_cases hjm : j < m
      · have hji : (j : Int) < (m : Int) := by omega
        obtain ⟨u, hu⟩ : ∃ u, l[j]? = some u := ⟨l[j]'(by rw [hm'.out]; exact hjm), List.getElem?_eq_getElem _⟩
        have ho1 := row_same kO1_30.out fun k _ hl => hfr.block k hl id
        have ho2 := row_same kO2.out fun k _ hl => hfr.block k hl id
        obtain ⟨g1, c1, hsv1, _⟩ := ho1.form (by omega)
        cases hsv1
        obtain ⟨g2, c2, hsv2, _⟩ := ho2.form (by omega)
        cases hsv2
        have e1 : wo.cell? ⟨g1, j, none⟩ = some (.int .i64 (u : Nat)) := by have := ho1.cellAt j (by omega); rw [this]; exact ncells_at hu
        have e2 : wo.cell? ⟨g2, j, none⟩ = some (.int .i64 (u : Nat)) := by have := ho2.cellAt j (by omega); rw [this]; exact ncells_at hu
        have huu : (((u : Nat) : Int) != (u : Int)) = false := by simp
        have hjb : (j : Int) + 1 ≤ 9223372036854775807 := by omega
        have hfr' := Lib.hid hfr
        clear hfr ho1 ho2 hu
        go_wp2_with fail
        go_quiet (fail)
        obtain ⟨wd, hwd⟩ : ∃ wd, wd = wo.drewN nq := ⟨_, rfl⟩
        have hfd := Lib.hid (hfr'.out.then (hwd ▸ (Far.refl (fun _ => False) wo).drewN nq : Far (fun _ => False) wo wd))
        rw [← hwd]
        clear hwd
        go_wp2_with fail
        go_roundw
        case rel => exact ⟨j + 1, by omega, by go_num, hfd.out⟩
        case measure => simp only [intOf]; omega
      · have hji : ¬ (j : Int) < (m : Int) := by omega
        clear hjm
        have kB4_32 := Lib.hid (kB4_24.out.far' hfr id)
        clear kB4_24
        have kT_33 := Lib.hid (kT_25.out.still hfr)
        clear kT_25
        have kCa_34 := Lib.hid (kCa_26.out.move hfr)
        clear kCa_26
        have kXa_35 := Lib.hid (kXa_27.out.still hfr)
        clear kXa_27
        have kDa_36 := Lib.hid (kDa_28.out.move hfr)
        clear kDa_28
        have kDab_37 := Lib.hid (kDab_29.out.far' hfr id)
        clear kDab_29
        have kO1_38 := Lib.hid (row_same kO1_30.out fun k _ hl => hfr.block k hl id)
        clear kO1_30
        have kO2_39 := Lib.hid (row_same kO2.out fun k _ hl => hfr.block k hl id)
        clear kO2
        have hfw_40 := Lib.hid (hfw_31.out.then hfr)
        clear hfw_31
        clear hfr
        have c0Dab : wo.cell? ⟨h10, 0, none⟩ = some (.int .i64 (Sa : Nat)) := (kDab_37.out).cell 0
        have c1Dab : wo.cell? ⟨h10, 1, none⟩ = some (.slice aoad ma cpa) := (kDab_37.out).cell 1
        by_cases h200 : (200 : Int) < (Sa : Int)
        · have AW := awake03_any wo (kT_33.out)
          have hfq := hfw_40
          go_wp2_with fail
          refine AW.mono ?_
          rintro e wz ⟨rfl, hfz⟩
          have hfz' := Lib.hid (hfq.out.then hfz)
          clear AW hfz
          go_wp2_with fail
          go_ret
          exact ⟨rfl, hfz'.out⟩
        · skip
          have PP := fun (V : World) (h1 : HasF V va Fa Sa Ma) (h3 : Tab V) => pPower_any h1 h3 y hy
          have RP := fun (V : World) (h1 : Dm V (.agg #[.int .i64 (Sa : Nat), .slice aoad ma cpa]) Sa Ma) => rPower_any h1 y hy
          obtain ⟨E2, hE⟩ : ∃ E, errP Sa y = E := ⟨_, rfl⟩
          obtain ⟨Sp, hSp⟩ : ∃ S, powSd Sa y = S := ⟨_, rfl⟩
          obtain ⟨Mp, hMp⟩ : ∃ M, powMM Sa y Ma = M := ⟨_, rfl⟩
          rw [hE, hSp, hMp] at PP RP
          clear hE hSp hMp
          have PP' := Lib.hid PP
          have RP' := Lib.hid RP
          clear PP RP
          have K_41 := PP'.out _ (kXa_35.out) (kT_33.out)
          go_wp2_with fail
          refine K_41.mono ?_
          rintro e w_42 ⟨vp, rfl, Fp, hXp, hlop, hfp⟩
          clear K_41
          have kB4_43 := Lib.hid (kB4_32.out.far' hfp id)
          clear kB4_32
          have kT_44 := Lib.hid (kT_33.out.still hfp)
          clear kT_33
          have kCa_45 := Lib.hid (kCa_34.out.move hfp)
          clear kCa_34
          have kXa_46 := Lib.hid (kXa_35.out.still hfp)
          clear kXa_35
          have kDa_47 := Lib.hid (kDa_36.out.move hfp)
          clear kDa_36
          have kDab_48 := Lib.hid (kDab_37.out.far' hfp id)
          clear kDab_37
          have hfw_49 := Lib.hid (hfw_40.out.then hfp)
          clear hfw_40
          have kXp := Lib.hid hXp
          clear hXp hlop PP' hfp
          clear c0Dab c1Dab
          have c0Dab : w_42.cell? ⟨h10, 0, none⟩ = some (.int .i64 (Sa : Nat)) := (kDab_48.out).cell 0
          have c1Dab : w_42.cell? ⟨h10, 1, none⟩ = some (.slice aoad ma cpa) := (kDab_48.out).cell 1
          have K_50 := RP'.out _ (kDa_47.out)
          go_wp2_with fail
          refine K_50.mono ?_
          rintro e w_51 ⟨dp, rfl, hDp, hDnp, hfp⟩
          clear K_50
          have kB4_52 := Lib.hid (kB4_43.out.far' hfp id)
          clear kB4_43
          have kT_53 := Lib.hid (kT_44.out.still hfp)
          clear kT_44
          have kCa_54 := Lib.hid (kCa_45.out.move hfp)
          clear kCa_45
          have kXa_55 := Lib.hid (kXa_46.out.still hfp)
          clear kXa_46
          have kDa_56 := Lib.hid (kDa_47.out.move hfp)
          clear kDa_47
          have kDab_57 := Lib.hid (kDab_48.out.far' hfp id)
          clear kDab_48
          have kXp_58 := Lib.hid (kXp.out.still hfp)
          clear kXp
          have hfw_59 := Lib.hid (hfw_49.out.then hfp)
          clear hfw_49
          clear RP' hDnp hfp
          clear c0Dab c1Dab
          have kDp := Lib.hid hDp
          obtain ⟨aopd, cpp, rfl, _⟩ := hDp
          obtain ⟨mp, hmp⟩ : ∃ m, (cellsL Mp Sp).length = m := ⟨_, rfl⟩
          rw [hmp] at kDp ⊢
          clear hmp
          obtain ⟨h17, eh17⟩ : ∃ h, h = w_51.heap.size := ⟨_, rfl⟩
          obtain ⟨Wp, eWp⟩ : ∃ V, V = w_51.alloc (.cells #[.int .i64 (Sp : Nat), .slice aopd mp cpp] 28) := ⟨_, rfl⟩
          have fWp : Far (fun _ => False) w_51 Wp := eWp ▸ (Far.refl _ w_51).alloc _
          have bh17 : Bk Wp h17 28 #[.int .i64 (Sp : Nat), .slice aopd mp cpp] := eWp ▸ Bk.new eh17
          have eh17' := Lib.hid eh17
          have eWp' := Lib.hid eWp
          have bh17' := Lib.hid bh17
          clear eh17 eWp bh17
          have kB4_60 := Lib.hid (kB4_52.out.far' fWp id)
          clear kB4_52
          have kT_61 := Lib.hid (kT_53.out.still fWp)
          clear kT_53
          have kCa_62 := Lib.hid (kCa_54.out.move fWp)
          clear kCa_54
          have kXa_63 := Lib.hid (kXa_55.out.still fWp)
          clear kXa_55
          have kDa_64 := Lib.hid (kDa_56.out.move fWp)
          clear kDa_56
          have kDab_65 := Lib.hid (kDab_57.out.far' fWp id)
          clear kDab_57
          have kXp_66 := Lib.hid (kXp_58.out.still fWp)
          clear kXp_58
          have kDp_67 := Lib.hid (kDp.out.move fWp)
          clear kDp
          have hfw_68 := Lib.hid (hfw_59.out.then fWp)
          clear hfw_59
          clear fWp
          go_upto_region 17 with fail
          rw [← eWp'.out, ← eh17'.out]
          have c0Dpb : Wp.cell? ⟨h17, 0, none⟩ = some (.int .i64 (Sp : Nat)) := (bh17'.out).cell 0
          have c1Dpb : Wp.cell? ⟨h17, 1, none⟩ = some (.slice aopd mp cpp) := (bh17'.out).cell 1
          have K_69 := same03_any (kXp_66.out) (kDp_67.out) (kT_61.out)
          go_wp2_with fail
          refine K_69.mono ?_
          rintro e w_70 ⟨rfl, hfq⟩
          clear K_69
          have kB4_71 := Lib.hid (kB4_60.out.far' hfq id)
          clear kB4_60
          have kT_72 := Lib.hid (kT_61.out.still hfq)
          clear kT_61
          have kCa_73 := Lib.hid (kCa_62.out.move hfq)
          clear kCa_62
          have kXa_74 := Lib.hid (kXa_63.out.still hfq)
          clear kXa_63
          have kDa_75 := Lib.hid (kDa_64.out.move hfq)
          clear kDa_64
          have kDab_76 := Lib.hid (kDab_65.out.far' hfq id)
          clear kDab_65
          have kXp_77 := Lib.hid (kXp_66.out.still hfq)
          clear kXp_66
          have kDp_78 := Lib.hid (kDp_67.out.move hfq)
          clear kDp_67
          have kDpb_79 := Lib.hid (bh17'.out.far' hfq id)
          clear bh17'
          have hfw_80 := Lib.hid (hfw_68.out.then hfq)
          clear hfw_68
          clear hfq
          clear c0Dpb c1Dpb
          have c0Dab : w_70.cell? ⟨h10, 0, none⟩ = some (.int .i64 (Sa : Nat)) := (kDab_76.out).cell 0
          have c1Dab : w_70.cell? ⟨h10, 1, none⟩ = some (.slice aoad ma cpa) := (kDab_76.out).cell 1
          have K_81 := same03_any (kXa_74.out) (kDa_75.out) (kT_72.out)
          go_wp2_with fail
          refine K_81.mono ?_
          rintro e w_82 ⟨rfl, hfq⟩
          clear K_81
          have kB4_83 := Lib.hid (kB4_71.out.far' hfq id)
          clear kB4_71
          have kT_84 := Lib.hid (kT_72.out.still hfq)
          clear kT_72
          have kCa_85 := Lib.hid (kCa_73.out.move hfq)
          clear kCa_73
          have kXa_86 := Lib.hid (kXa_74.out.still hfq)
          clear kXa_74
          have kDa_87 := Lib.hid (kDa_75.out.move hfq)
          clear kDa_75
          have kDab_88 := Lib.hid (kDab_76.out.far' hfq id)
          clear kDab_76
          have kXp_89 := Lib.hid (kXp_77.out.still hfq)
          clear kXp_77
          have kDp_90 := Lib.hid (kDp_78.out.move hfq)
          clear kDp_78
          have kDpb_91 := Lib.hid (kDpb_79.out.far' hfq id)
          clear kDpb_79
          have hfw_92 := Lib.hid (hfw_80.out.then hfq)
          clear hfw_80
          clear hfq
          clear c0Dab c1Dab
          have K_93 := awake03_any _ (kT_84.out)
          go_wp2_with fail
          refine K_93.mono ?_
          rintro e w_94 ⟨rfl, hfq⟩
          clear K_93
          have kB4_95 := Lib.hid (kB4_83.out.far' hfq id)
          clear kB4_83
          have kT_96 := Lib.hid (kT_84.out.still hfq)
          clear kT_84
          have kCa_97 := Lib.hid (kCa_85.out.move hfq)
          clear kCa_85
          have kXa_98 := Lib.hid (kXa_86.out.still hfq)
          clear kXa_86
          have kDa_99 := Lib.hid (kDa_87.out.move hfq)
          clear kDa_87
          have kDab_100 := Lib.hid (kDab_88.out.far' hfq id)
          clear kDab_88
          have kXp_101 := Lib.hid (kXp_89.out.still hfq)
          clear kXp_89
          have kDp_102 := Lib.hid (kDp_90.out.move hfq)
          clear kDp_90
          have kDpb_103 := Lib.hid (kDpb_91.out.far' hfq id)
          clear kDpb_91
          have hfw_104 := Lib.hid (hfw_92.out.then hfq)
          clear hfw_92
          clear hfq
          go_wp2_with fail
          go_ret
          exact ⟨rfl, hfw_104.out⟩
end
end Go.Proofs.YthgjnnghokmjdaaDoor
