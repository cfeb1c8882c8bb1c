/-
  ProductInto walked.
-/
import Derived.Test.YtkobbcmndneajaaDoorQPIntoR
import Derived.Test.YtkobbcmndneajaaDoorQRefO
import Derived.Test.YtkobbcmndneajaaDoorQMd03
import Derived.Test.YtkobbcmndneajaaDoorQPAwake
namespace Go.Proofs.YtkobbcmndneajaaDoor
open Go.RowKit Go.Shelf
set_option linter.unusedVariables false
set_option linter.unusedSimpArgs false
theorem i64_and3 (n : Int) (m : Nat) (hm : m < 4) : bits .and .i64 n (m : Int) = (((n % 4).toNat &&& m : Nat) : Int) := by
  have h1 : (BitVec.ofInt 64 (m : Int)).toNat = m := by
    rw [BitVec.toNat_ofInt]; omega
  have h2 : m = 3 &&& m := by
    rcases (show m = 0 ∨ m = 1 ∨ m = 2 ∨ m = 3 by omega) with rfl | rfl | rfl | rfl <;> decide
  have key : (BitVec.ofInt 64 n &&& BitVec.ofInt 64 (m : Int)).toNat = (n % 4).toNat &&& m := by
    rw [BitVec.toNat_and, h1, BitVec.toNat_ofInt]
    conv => lhs; rw [h2]
    rw [← Nat.and_assoc, show (3 : Nat) = 2 ^ 2 - 1 from rfl, Nat.and_two_pow_sub_one_eq_mod]
    congr 1
    omega
  have h3 : (n % 4).toNat &&& m ≤ m := Nat.and_le_right
  show IntKind.i64.wrap ((BitVec.ofInt 64 n &&& BitVec.ofInt 64 (m : Int)).toNat : Nat) = _
  rw [key, IntKind.wrap_i64]
  omega
section
set_option maxHeartbeats 16000000
set_option maxRecDepth 100000
theorem pinto_law (W : World) (sci : Int) (aoc : Option Addr) (nc kc : Nat) (Rc Cc : Nat → Int) (hnc : nc ≤ kc) (hmc : nc ≤ 9223372036854775807) (hCc : Cls W aoc nc Rc Cc) (sai : Int) (aoa : Option Addr) (na ka : Nat) (Ra Ca : Nat → Int) (hna : na ≤ ka) (hma : na ≤ 9223372036854775807) (hCa : Cls W aoa na Ra Ca) (sbi : Int) (aob : Option Addr) (nb kb : Nat) (Rb Cb : Nat → Int) (hnb : nb ≤ kb) (hmb : nb ≤ 9223372036854775807) (hCb : Cls W aob nb Rb Cb) (x3 : Int) (hT : Tab W) :
    Calls Tryd.prog 4 #[.agg #[.int .i64 sci, .slice aoc nc kc], .agg #[.int .i64 sai, .slice aoa na ka], .agg #[.int .i64 sbi, .slice aob nb kb], .int .i64 x3] W fun e w' => e = .returned (.bool true) ∧ Far (fun _ => False) W w' := by
  obtain ⟨h4, hh4⟩ : ∃ h, h = W.heap.size := ⟨_, rfl⟩
  obtain ⟨h5, hh5⟩ : ∃ h, h = h4 + 1 := ⟨_, rfl⟩
  obtain ⟨h6, hh6⟩ : ∃ h, h = h5 + 1 := ⟨_, rfl⟩
  obtain ⟨h25, hh25⟩ : ∃ h, h = h6 + 1 := ⟨_, rfl⟩
  obtain ⟨Wy, hWy⟩ : ∃ V, V = ((W.alloc (.cells #[.int .i64 sci, .slice aoc nc kc] 49)).alloc (.cells #[.int .i64 sai, .slice aoa na ka] 49)).alloc (.cells #[.int .i64 sbi, .slice aob nb kb] 49) := ⟨_, rfl⟩
  obtain ⟨Wz, hWz⟩ : ∃ V, V = Wy.alloc (.cells #[.int .i64 sci, .slice aoc nc kc, .int .i64 sai, .slice aoa na ka, .int .i64 sbi, .slice aob nb kb] 49) := ⟨_, rfl⟩
  have hzz : Wy.heap.size = h25 := by rw [hWy]; simp [hh25, hh6, hh5, hh4]
  have hFy : Far (fun _ => False) W Wy := hWy ▸ (((Far.refl _ W).alloc _).alloc _).alloc _
  have hFz : Far (fun _ => False) W Wz := hWz ▸ hFy.alloc _
  have hfyz : Far (fun _ => False) Wy Wz := hWz ▸ (Far.refl _ Wy).alloc _
  have hy4 : Bk Wy h4 49 #[.int .i64 sci, .slice aoc nc kc] := hWy ▸ ((Bk.new hh4).alloc _).alloc _
  have hy5 : Bk Wy h5 49 #[.int .i64 sai, .slice aoa na ka] := hWy ▸ (Bk.new (by simp [hh5, hh4])).alloc _
  have hy6 : Bk Wy h6 49 #[.int .i64 sbi, .slice aob nb kb] := hWy ▸ Bk.new (by simp [hh6, hh5, hh4])
  have hB25 : Bk Wz h25 49 #[.int .i64 sci, .slice aoc nc kc, .int .i64 sai, .slice aoa na ka, .int .i64 sbi, .slice aob nb kb] := hWz ▸ Bk.new hzz.symm
  have FW := rfew_any Wz h25 0 3 3 (by omega) (fun _ => undef) (fun k => if k = 0 then aoc else if k = 1 then aoa else aob) (fun k => if k = 0 then nc else if k = 1 then na else nb) (fun k => if k = 0 then kc else if k = 1 then ka else kb) (fun k hk => by
    rw [Nat.zero_add, hB25.cell (k * 2 + 1)]
    rcases (show k = 0 ∨ k = 1 ∨ k = 2 by omega) with rfl | rfl | rfl <;> rfl)
  have z40 : Wy.cell? ⟨h4, 0, none⟩ = some (.int .i64 sci) := hy4.cell 0
  have z41 : Wy.cell? ⟨h4, 1, none⟩ = some (.slice aoc nc kc) := hy4.cell 1
  have z50 : Wy.cell? ⟨h5, 0, none⟩ = some (.int .i64 sai) := hy5.cell 0
  have z51 : Wy.cell? ⟨h5, 1, none⟩ = some (.slice aoa na ka) := hy5.cell 1
  have z60 : Wy.cell? ⟨h6, 0, none⟩ = some (.int .i64 sbi) := hy6.cell 0
  have z61 : Wy.cell? ⟨h6, 1, none⟩ = some (.slice aob nb kb) := hy6.cell 1
  obtain ⟨bf, hbf⟩ : ∃ b, ((List.range 3).all fun k => decide ((if k = 0 then nc else if k = 1 then na else nb) ≤ 400)) = b := ⟨_, rfl⟩
  rw [hbf] at FW
  have hT0 := Lib.hid hT.lt
  have kB4 := Lib.hid (hy4.far' hfyz id)
  have kB5 := Lib.hid (hy5.far' hfyz id)
  have kB6 := Lib.hid (hy6.far' hfyz id)
  have kT := Lib.hid (hT.still hFz)
  have kCc := Lib.hid (hCc.move hFz)
  have kCa := Lib.hid (hCa.move hFz)
  have kCb := Lib.hid (hCb.move hFz)
  have hfS := Lib.hid hFz
  have hh4' := Lib.hid hh4
  have hh5' := Lib.hid hh5
  have hh6' := Lib.hid hh6
  have hWy' := Lib.hid hWy
  have hWz' := Lib.hid hWz
  have hzz' := Lib.hid hzz
  have b1 := i64_and3 x3 1 (by omega)
  have b2 := i64_and3 x3 2 (by omega)
  have b3 := i64_and3 x3 3 (by omega)
  have hr4 : (x3 % 4).toNat < 4 := by omega
  obtain ⟨r4, hr⟩ : ∃ r, (x3 % 4).toNat = r := ⟨_, rfl⟩
  rw [hr] at b1 b2 b3 hr4
  clear hh4 hh5 hh6 hh25 hWy hWz hzz hFy hFz hfyz hy4 hy5 hy6 hB25 hCc hCa hCb hT hbf hr
  go_enter Tryd.func4, Tryd.ntmps4
  go_upto_region 1 with fail
  rw [← hh4'.out, ← hh5'.out, ← hh6'.out, ← hWy'.out]
  go_wp2_with fail
  rw [hzz'.out, ← hWz'.out]
  refine FW.mono ?_
  rintro e w' ⟨rfl, rfl⟩
  clear FW z40 z41 z50 z51 z60 z61
  cases bf with
  | false =>
    have AW := awake03_any Wz kT.out
    go_wp2_with fail
    refine AW.mono ?_
    rintro e wz ⟨rfl, hfz⟩
    have hfz' := Lib.hid (hfS.out.then hfz)
    clear AW hfz
    go_wp2_with fail
    go_ret
    exact ⟨rfl, hfz'.out⟩
  | true =>
    go_upto_region 3 with fail
    rcases (show r4 = 0 ∨ r4 = 1 ∨ r4 = 2 ∨ r4 = 3 by omega) with rfl | rfl | rfl | rfl
    · have a1 : bits .and .i64 x3 1 = 0 := b1
      have a2 : bits .and .i64 x3 2 = 0 := b2
      have a3 : bits .and .i64 x3 3 = 0 := b3
      clear b1 b2 b3 hr4
      have szMc := Lib.hid (hfS.out.size)
      have c0B4 : Wz.cell? ⟨h4, 0, none⟩ = some (.int .i64 sci) := (kB4.out).cell 0
      have c1B4 : Wz.cell? ⟨h4, 1, none⟩ = some (.slice aoc nc kc) := (kB4.out).cell 1
      have MD := made03_sep sci aoc nc kc Rc Cc hnc hmc Wz kCc.out
      obtain ⟨Sc, hSc⟩ : ∃ S, ofS sci nc Rc Cc = S := ⟨_, rfl⟩
      obtain ⟨Mc, hMc⟩ : ∃ M, ofM sci nc Rc Cc = M := ⟨_, rfl⟩
      rw [hSc, hMc] at MD
      clear hSc hMc
      have K_1 := MD
      go_wp2_with fail
      refine K_1.mono ?_
      rintro e w_2 ⟨vc, dc, rfl, Fc, hXc, hDc, ⟨bc, hbc, hDnc, hFc⟩, hfc⟩
      clear K_1
      have kB4_3 := Lib.hid (kB4.out.far' hfc id)
      clear kB4
      have kB5_4 := Lib.hid (kB5.out.far' hfc id)
      clear kB5
      have kB6_5 := Lib.hid (kB6.out.far' hfc id)
      clear kB6
      have kT_6 := Lib.hid (kT.out.still hfc)
      clear kT
      have kCc_7 := Lib.hid (kCc.out.move hfc)
      clear kCc
      have kCa_8 := Lib.hid (kCa.out.move hfc)
      clear kCa
      have kCb_9 := Lib.hid (kCb.out.move hfc)
      clear kCb
      have hfw_10 := Lib.hid (hfS.out.then hfc)
      clear hfS
      clear MD hfc
      have hFc' := Lib.hid hFc
      have hbc' := Lib.hid hbc
      clear hFc hbc
      clear c0B4 c1B4
      have kXc := Lib.hid hXc
      clear hXc
      have kDc := Lib.hid hDc
      obtain ⟨aocd, cpc, rfl, _⟩ := hDc
      obtain ⟨mc, hmmc⟩ : ∃ m, (cellsL Mc Sc).length = m := ⟨_, rfl⟩
      rw [hmmc] at kDc hDnc ⊢
      clear hmmc
      have hDnc' := Lib.hid hDnc
      clear hDnc
      have szBc := Lib.hid (hfw_10.out.size)
      obtain ⟨h10, eh10⟩ : ∃ h, h = w_2.heap.size := ⟨_, rfl⟩
      obtain ⟨Wc, eWc⟩ : ∃ V, V = w_2.alloc (.cells #[.int .i64 (Sc : Nat), .slice aocd mc cpc] 28) := ⟨_, rfl⟩
      have fWc : Far (fun _ => False) w_2 Wc := eWc ▸ (Far.refl _ w_2).alloc _
      have bh10 : Bk Wc h10 28 #[.int .i64 (Sc : Nat), .slice aocd mc cpc] := eWc ▸ Bk.new eh10
      have eh10' := Lib.hid eh10
      have eWc' := Lib.hid eWc
      have bh10' := Lib.hid bh10
      clear eh10 eWc bh10
      have kB4_11 := Lib.hid (kB4_3.out.far' fWc id)
      clear kB4_3
      have kB5_12 := Lib.hid (kB5_4.out.far' fWc id)
      clear kB5_4
      have kB6_13 := Lib.hid (kB6_5.out.far' fWc id)
      clear kB6_5
      have kT_14 := Lib.hid (kT_6.out.still fWc)
      clear kT_6
      have kCc_15 := Lib.hid (kCc_7.out.move fWc)
      clear kCc_7
      have kCa_16 := Lib.hid (kCa_8.out.move fWc)
      clear kCa_8
      have kCb_17 := Lib.hid (kCb_9.out.move fWc)
      clear kCb_9
      have kXc_18 := Lib.hid (kXc.out.still fWc)
      clear kXc
      have kDc_19 := Lib.hid (kDc.out.move fWc)
      clear kDc
      have hfw_20 := Lib.hid (hfw_10.out.then fWc)
      clear hfw_10
      clear fWc
      go_upto_region 4 with fail
      rw [← eWc'.out, ← eh10'.out]
      have ltFc := Lib.hid (kXc_18.out).lt
      have kzC := Lib.hid (Nat.le_refl Wc.heap.size)
      have szCa := Lib.hid (Nat.le_refl Wc.heap.size)
      have szMa := Lib.hid (hfw_20.out.size)
      have c0B5 : Wc.cell? ⟨h5, 0, none⟩ = some (.int .i64 sai) := (kB5_12.out).cell 0
      have c1B5 : Wc.cell? ⟨h5, 1, none⟩ = some (.slice aoa na ka) := (kB5_12.out).cell 1
      have MD := made03_sep sai aoa na ka Ra Ca hna hma Wc kCa_16.out
      obtain ⟨Sa, hSa⟩ : ∃ S, ofS sai na Ra Ca = S := ⟨_, rfl⟩
      obtain ⟨Ma, hMa⟩ : ∃ M, ofM sai na Ra Ca = M := ⟨_, rfl⟩
      rw [hSa, hMa] at MD
      clear hSa hMa
      have K_21 := MD
      go_wp2_with fail
      refine K_21.mono ?_
      rintro e w_22 ⟨va, da, rfl, Fa, hXa, hDa, ⟨ba, hba, hDna, hFa⟩, hfa⟩
      clear K_21
      have kB4_23 := Lib.hid (kB4_11.out.far' hfa id)
      clear kB4_11
      have kB5_24 := Lib.hid (kB5_12.out.far' hfa id)
      clear kB5_12
      have kB6_25 := Lib.hid (kB6_13.out.far' hfa id)
      clear kB6_13
      have kT_26 := Lib.hid (kT_14.out.still hfa)
      clear kT_14
      have kCc_27 := Lib.hid (kCc_15.out.move hfa)
      clear kCc_15
      have kCa_28 := Lib.hid (kCa_16.out.move hfa)
      clear kCa_16
      have kCb_29 := Lib.hid (kCb_17.out.move hfa)
      clear kCb_17
      have kXc_30 := Lib.hid (kXc_18.out.still hfa)
      clear kXc_18
      have kDc_31 := Lib.hid (kDc_19.out.move hfa)
      clear kDc_19
      have kDcb_32 := Lib.hid (bh10'.out.far' hfa id)
      clear bh10'
      have hfw_33 := Lib.hid (hfw_20.out.then hfa)
      clear hfw_20
      have kzC_34 := Lib.hid (Nat.le_trans kzC.out hfa.size)
      clear MD hfa
      have hFa' := Lib.hid hFa
      have hba' := Lib.hid hba
      clear hFa hba
      clear c0B5 c1B5
      have kXa := Lib.hid hXa
      clear hXa
      have kDa := Lib.hid hDa
      obtain ⟨aoad, cpa, rfl, _⟩ := hDa
      obtain ⟨ma, hmma⟩ : ∃ m, (cellsL Ma Sa).length = m := ⟨_, rfl⟩
      rw [hmma] at kDa hDna ⊢
      clear hmma
      have hDna' := Lib.hid hDna
      clear hDna
      have szBa := Lib.hid (hfw_33.out.size)
      have ltac := Lib.hid (kDcb_32.out).lt
      obtain ⟨h12, eh12⟩ : ∃ h, h = w_22.heap.size := ⟨_, rfl⟩
      obtain ⟨Wa, eWa⟩ : ∃ V, V = w_22.alloc (.cells #[.int .i64 (Sa : Nat), .slice aoad ma cpa] 28) := ⟨_, rfl⟩
      have fWa : Far (fun _ => False) w_22 Wa := eWa ▸ (Far.refl _ w_22).alloc _
      have bh12 : Bk Wa h12 28 #[.int .i64 (Sa : Nat), .slice aoad ma cpa] := eWa ▸ Bk.new eh12
      have eh12' := Lib.hid eh12
      have eWa' := Lib.hid eWa
      have bh12' := Lib.hid bh12
      clear eh12 eWa bh12
      have kB4_35 := Lib.hid (kB4_23.out.far' fWa id)
      clear kB4_23
      have kB5_36 := Lib.hid (kB5_24.out.far' fWa id)
      clear kB5_24
      have kB6_37 := Lib.hid (kB6_25.out.far' fWa id)
      clear kB6_25
      have kT_38 := Lib.hid (kT_26.out.still fWa)
      clear kT_26
      have kCc_39 := Lib.hid (kCc_27.out.move fWa)
      clear kCc_27
      have kCa_40 := Lib.hid (kCa_28.out.move fWa)
      clear kCa_28
      have kCb_41 := Lib.hid (kCb_29.out.move fWa)
      clear kCb_29
      have kXc_42 := Lib.hid (kXc_30.out.still fWa)
      clear kXc_30
      have kDc_43 := Lib.hid (kDc_31.out.move fWa)
      clear kDc_31
      have kDcb_44 := Lib.hid (kDcb_32.out.far' fWa id)
      clear kDcb_32
      have kXa_45 := Lib.hid (kXa.out.still fWa)
      clear kXa
      have kDa_46 := Lib.hid (kDa.out.move fWa)
      clear kDa
      have hfw_47 := Lib.hid (hfw_33.out.then fWa)
      clear hfw_33
      have kzC_48 := Lib.hid (Nat.le_trans kzC_34.out fWa.size)
      clear fWa
      go_upto_region 5 with fail
      rw [← eWa'.out, ← eh12'.out]
      have neac : h12 ≠ h10 := by have := ltac.out; have := eh12'.out; omega
      have neac' : h10 ≠ h12 := fun e => neac e.symm
      have ltFa := Lib.hid (kXa_45.out).lt
      have szCb := Lib.hid (kzC_48.out)
      have szMb := Lib.hid (hfw_47.out.size)
      have c0B6 : Wa.cell? ⟨h6, 0, none⟩ = some (.int .i64 sbi) := (kB6_37.out).cell 0
      have c1B6 : Wa.cell? ⟨h6, 1, none⟩ = some (.slice aob nb kb) := (kB6_37.out).cell 1
      have MD := made03_sep sbi aob nb kb Rb Cb hnb hmb Wa kCb_41.out
      obtain ⟨Sb, hSb⟩ : ∃ S, ofS sbi nb Rb Cb = S := ⟨_, rfl⟩
      obtain ⟨Mb, hMb⟩ : ∃ M, ofM sbi nb Rb Cb = M := ⟨_, rfl⟩
      rw [hSb, hMb] at MD
      clear hSb hMb
      have K_49 := MD
      go_wp2_with fail
      refine K_49.mono ?_
      rintro e w_50 ⟨vb, db, rfl, Fb, hXb, hDb, ⟨bb, hbb, hDnb, hFb⟩, hfb⟩
      clear K_49
      have kB4_51 := Lib.hid (kB4_35.out.far' hfb id)
      clear kB4_35
      have kB5_52 := Lib.hid (kB5_36.out.far' hfb id)
      clear kB5_36
      have kB6_53 := Lib.hid (kB6_37.out.far' hfb id)
      clear kB6_37
      have kT_54 := Lib.hid (kT_38.out.still hfb)
      clear kT_38
      have kCc_55 := Lib.hid (kCc_39.out.move hfb)
      clear kCc_39
      have kCa_56 := Lib.hid (kCa_40.out.move hfb)
      clear kCa_40
      have kCb_57 := Lib.hid (kCb_41.out.move hfb)
      clear kCb_41
      have kXc_58 := Lib.hid (kXc_42.out.still hfb)
      clear kXc_42
      have kDc_59 := Lib.hid (kDc_43.out.move hfb)
      clear kDc_43
      have kDcb_60 := Lib.hid (kDcb_44.out.far' hfb id)
      clear kDcb_44
      have kXa_61 := Lib.hid (kXa_45.out.still hfb)
      clear kXa_45
      have kDa_62 := Lib.hid (kDa_46.out.move hfb)
      clear kDa_46
      have kDab_63 := Lib.hid (bh12'.out.far' hfb id)
      clear bh12'
      have hfw_64 := Lib.hid (hfw_47.out.then hfb)
      clear hfw_47
      have kzC_65 := Lib.hid (Nat.le_trans kzC_48.out hfb.size)
      clear MD hfb
      have hFb' := Lib.hid hFb
      have hbb' := Lib.hid hbb
      clear hFb hbb
      clear c0B6 c1B6
      have kXb := Lib.hid hXb
      clear hXb
      have kDb := Lib.hid hDb
      obtain ⟨aobd, cpb, rfl, _⟩ := hDb
      obtain ⟨mb, hmmb⟩ : ∃ m, (cellsL Mb Sb).length = m := ⟨_, rfl⟩
      rw [hmmb] at kDb hDnb ⊢
      clear hmmb
      have hDnb' := Lib.hid hDnb
      clear hDnb
      have szBb := Lib.hid (hfw_64.out.size)
      have ltbc := Lib.hid (kDcb_60.out).lt
      have ltba := Lib.hid (kDab_63.out).lt
      obtain ⟨h14, eh14⟩ : ∃ h, h = w_50.heap.size := ⟨_, rfl⟩
      obtain ⟨Wb, eWb⟩ : ∃ V, V = w_50.alloc (.cells #[.int .i64 (Sb : Nat), .slice aobd mb cpb] 28) := ⟨_, rfl⟩
      have fWb : Far (fun _ => False) w_50 Wb := eWb ▸ (Far.refl _ w_50).alloc _
      have bh14 : Bk Wb h14 28 #[.int .i64 (Sb : Nat), .slice aobd mb cpb] := eWb ▸ Bk.new eh14
      have eh14' := Lib.hid eh14
      have eWb' := Lib.hid eWb
      have bh14' := Lib.hid bh14
      clear eh14 eWb bh14
      have kB4_66 := Lib.hid (kB4_51.out.far' fWb id)
      clear kB4_51
      have kB5_67 := Lib.hid (kB5_52.out.far' fWb id)
      clear kB5_52
      have kB6_68 := Lib.hid (kB6_53.out.far' fWb id)
      clear kB6_53
      have kT_69 := Lib.hid (kT_54.out.still fWb)
      clear kT_54
      have kCc_70 := Lib.hid (kCc_55.out.move fWb)
      clear kCc_55
      have kCa_71 := Lib.hid (kCa_56.out.move fWb)
      clear kCa_56
      have kCb_72 := Lib.hid (kCb_57.out.move fWb)
      clear kCb_57
      have kXc_73 := Lib.hid (kXc_58.out.still fWb)
      clear kXc_58
      have kDc_74 := Lib.hid (kDc_59.out.move fWb)
      clear kDc_59
      have kDcb_75 := Lib.hid (kDcb_60.out.far' fWb id)
      clear kDcb_60
      have kXa_76 := Lib.hid (kXa_61.out.still fWb)
      clear kXa_61
      have kDa_77 := Lib.hid (kDa_62.out.move fWb)
      clear kDa_62
      have kDab_78 := Lib.hid (kDab_63.out.far' fWb id)
      clear kDab_63
      have kXb_79 := Lib.hid (kXb.out.still fWb)
      clear kXb
      have kDb_80 := Lib.hid (kDb.out.move fWb)
      clear kDb
      have hfw_81 := Lib.hid (hfw_64.out.then fWb)
      clear hfw_64
      have kzC_82 := Lib.hid (Nat.le_trans kzC_65.out fWb.size)
      clear fWb
      go_upto_region 6 with fail
      rw [← eWb'.out, ← eh14'.out]
      have nebc : h14 ≠ h10 := by have := ltbc.out; have := eh14'.out; omega
      have nebc' : h10 ≠ h14 := fun e => nebc e.symm
      have neba : h14 ≠ h12 := by have := ltba.out; have := eh14'.out; omega
      have neba' : h12 ≠ h14 := fun e => neba e.symm
      have ltFb := Lib.hid (kXb_79.out).lt
      clear kzC_82
      have szQc := Lib.hid (show W.heap.size ≤ h10 by have h1 := szBc.out; have h2 := eh10'.out; omega)
      have szQa := Lib.hid (show W.heap.size ≤ h12 by have h1 := szBa.out; have h2 := eh12'.out; omega)
      have szQb := Lib.hid (show W.heap.size ≤ h14 by have h1 := szBb.out; have h2 := eh14'.out; omega)
      have hFT := Lib.hid (show ¬ Fc 0 from fun h => by have h1 := (hFc'.out _ h).1; have h2 := szMc.out; have h3 := hT0.out; omega)
      have ML := fun (V : World) (h1 : HasF V vc Fc Sc Mc) (h2 : HasF V va Fa Sa Ma) (h3 : HasF V vb Fb Sb Mb) (h4 : Tab V) => pInto_any h1 h2 h3 h4
      have RL := fun (V : World) (h1 : Dm V (.agg #[.int .i64 (Sc : Nat), .slice aocd mc cpc]) Sc Mc) (h2 : Dm V (.agg #[.int .i64 (Sa : Nat), .slice aoad ma cpa]) Sa Ma) (h3 : Dm V (.agg #[.int .i64 (Sb : Nat), .slice aobd mb cpb]) Sb Mb) => rPInto_any h1 h2 h3
      obtain ⟨P, hP⟩ : ∃ P : Prop, (pinE Sc Sa Sb = 0 ∧ ∃ r c, mulM Ma Mb r c = true ∧ Mc r c = false) = P := ⟨_, rfl⟩
      obtain ⟨Mn, hMn⟩ : ∃ M, (if pinE Sc Sa Sb = 0 then joinM Mc (mulM Ma Mb) else Mc) = M := ⟨_, rfl⟩
      obtain ⟨E, hE⟩ : ∃ E, pinE Sc Sa Sb = E := ⟨_, rfl⟩
      rw [hP, hMn, hE] at ML RL
      have hMn' := Lib.hid hMn
      have hE' := Lib.hid hE
      clear hP hMn hE
      have ML' := Lib.hid ML
      have RL' := Lib.hid RL
      clear ML RL
      have Plc := Lib.hid (Dm.place (kDc_74.out) hDnc'.out)
      have Pla := Lib.hid (Dm.place (kDa_77.out) hDna'.out)
      have Plb := Lib.hid (Dm.place (kDb_80.out) hDnb'.out)
      have ltVa := Lib.hid (kXa_76.out).lt
      have ltVb := Lib.hid (kXb_79.out).lt
      have szV := Lib.hid (hfw_81.out.size)
      have K_83 := ML'.out _ (kXc_73.out) (kXa_76.out) (kXb_79.out) (kT_69.out)
      go_wp2_with fail
      refine K_83.mono ?_
      rintro e w_84 ⟨mo1, rfl, hmo1, Fn, hXn, hmv⟩
      clear K_83
      have hmo1' := Lib.hid hmo1
      have hmv' := Lib.hid hmv.far
      have hmr' := Lib.hid hmv.more
      clear hmo1 hmv
      clear kB4_66
      clear kB5_67
      clear kB6_68
      have kT_85 := Lib.hid (kT_69.out.far hmv'.out hFT.out)
      clear kCc_70
      clear kCa_71
      clear kCb_72
      have kDc_86 := Lib.hid (kDc_74.out.pfar Plc.out hmv'.out (fun k h => .inl (hFc'.out k h).2))
      have kDcb_87 := Lib.hid (kDcb_75.out.far' hmv'.out (HasF.notBk (kXc_73.out) (kDcb_75.out) (by decide) (by decide) (by decide)))
      have kXa_88 := Lib.hid (kXa_76.out.kept hmv'.out (fun k hk h => by have h1 := ltFc.out k h; have h2 := (hFa'.out k hk).1; have h3 := szCa.out; omega))
      have kDa_89 := Lib.hid (kDa_77.out.pfar Pla.out hmv'.out (fun k h => .inl (by have h1 := ltFc.out k h; have h2 := hba'.out; have h3 := szCa.out; omega)))
      have kDab_90 := Lib.hid (kDab_78.out.far' hmv'.out (HasF.notBk (kXc_73.out) (kDab_78.out) (by decide) (by decide) (by decide)))
      have kXb_91 := Lib.hid (kXb_79.out.kept hmv'.out (fun k hk h => by have h1 := ltFc.out k h; have h2 := (hFb'.out k hk).1; have h3 := szCb.out; omega))
      have kDb_92 := Lib.hid (kDb_80.out.pfar Plb.out hmv'.out (fun k h => .inl (by have h1 := ltFc.out k h; have h2 := hbb'.out; have h3 := szCb.out; omega)))
      have kDbb_93 := Lib.hid (bh14'.out.far' hmv'.out (HasF.notBk (kXc_73.out) (bh14'.out) (by decide) (by decide) (by decide)))
      have hfw_94 := Lib.hid (hfw_81.out.trans hmv'.out (fun k hk h => by have h1 := (hFc'.out k h).1; have h2 := szMc.out; omega))
      have kXn0 := Lib.hid hXn
      clear hXn ML'
      have ltn := Lib.hid (kXn0.out).lt
      have c0Dcb : w_84.cell? ⟨h10, 0, none⟩ = some (.int .i64 (Sc : Nat)) := (kDcb_87.out).cell 0
      have c1Dcb : w_84.cell? ⟨h10, 1, none⟩ = some (.slice aocd mc cpc) := (kDcb_87.out).cell 1
      have c0Dab : w_84.cell? ⟨h12, 0, none⟩ = some (.int .i64 (Sa : Nat)) := (kDab_90.out).cell 0
      have c1Dab : w_84.cell? ⟨h12, 1, none⟩ = some (.slice aoad ma cpa) := (kDab_90.out).cell 1
      have c0Dbb : w_84.cell? ⟨h14, 0, none⟩ = some (.int .i64 (Sb : Nat)) := (kDbb_93.out).cell 0
      have c1Dbb : w_84.cell? ⟨h14, 1, none⟩ = some (.slice aobd mb cpb) := (kDbb_93.out).cell 1
      have K_95 := RL'.out _ (kDc_86.out) (kDa_89.out) (kDb_92.out)
      go_wp2_with fail
      refine K_95.mono ?_
      rintro e w_96 ⟨dn, mo9, rfl, hDn, hmo9, hor, hfn⟩
      clear K_95
      have kT_97 := Lib.hid (kT_85.out.still hfn)
      clear kT_85
      have kDc_98 := Lib.hid (kDc_86.out.move hfn)
      clear kDc_86
      have kDcb_99 := Lib.hid (kDcb_87.out.far' hfn id)
      clear kDcb_87
      have kXa_100 := Lib.hid (kXa_88.out.still hfn)
      clear kXa_88
      have kDa_101 := Lib.hid (kDa_89.out.move hfn)
      clear kDa_89
      have kDab_102 := Lib.hid (kDab_90.out.far' hfn id)
      clear kDab_90
      have kXb_103 := Lib.hid (kXb_91.out.still hfn)
      clear kXb_91
      have kDb_104 := Lib.hid (kDb_92.out.move hfn)
      clear kDb_92
      have kDbb_105 := Lib.hid (kDbb_93.out.far' hfn id)
      clear kDbb_93
      have kXc_106 := Lib.hid (kXn0.out.still hfn)
      clear kXn0
      have hfw_107 := Lib.hid (hfw_94.out.then hfn)
      clear hfw_94
      clear RL' hfn
      obtain rfl : mo1 = mo9 := Bool.eq_iff_iff.2 (hmo1'.out.trans hmo9.symm)
      clear hmo9 hmo1'
      clear c0Dcb c1Dcb c0Dab c1Dab c0Dbb c1Dbb
      have kDn := Lib.hid hDn
      obtain ⟨aond, cpn, rfl, _⟩ := hDn
      obtain ⟨mn, hmmn⟩ : ∃ m, (cellsL Mn Sc).length = m := ⟨_, rfl⟩
      rw [hmmn] at kDn hor ⊢
      clear hmmn
      have hor' := Lib.hid hor
      clear hor
      have Pln := Lib.hid (show (Place (.agg #[.int .i64 (Sc : Nat), .slice aond mn cpn]) bc Wb.heap.size) ∨ Place (.agg #[.int .i64 (Sc : Nat), .slice aond mn cpn]) w_84.heap.size w_96.heap.size from hor'.out.elim (fun e => .inl (by rw [e]; exact Plc.out)) fun h => .inr (Dm.place (kDn.out) h))
      have szBn := Lib.hid (hfw_107.out.size)
      have ltnc := Lib.hid (kDcb_99.out).lt
      have ltna := Lib.hid (kDab_102.out).lt
      have ltnb := Lib.hid (kDbb_105.out).lt
      obtain ⟨h17, eh17⟩ : ∃ h, h = w_96.heap.size := ⟨_, rfl⟩
      obtain ⟨Wn, eWn⟩ : ∃ V, V = w_96.alloc (.cells #[.int .i64 (Sc : Nat), .slice aond mn cpn] 28) := ⟨_, rfl⟩
      have fWn : Far (fun _ => False) w_96 Wn := eWn ▸ (Far.refl _ w_96).alloc _
      have bh17 : Bk Wn h17 28 #[.int .i64 (Sc : Nat), .slice aond mn cpn] := eWn ▸ Bk.new eh17
      have eh17' := Lib.hid eh17
      have eWn' := Lib.hid eWn
      have bh17' := Lib.hid bh17
      clear eh17 eWn bh17
      have kT_108 := Lib.hid (kT_97.out.still fWn)
      clear kT_97
      have kDc_109 := Lib.hid (kDc_98.out.move fWn)
      clear kDc_98
      have kDcb_110 := Lib.hid (kDcb_99.out.far' fWn id)
      clear kDcb_99
      have kXa_111 := Lib.hid (kXa_100.out.still fWn)
      clear kXa_100
      have kDa_112 := Lib.hid (kDa_101.out.move fWn)
      clear kDa_101
      have kDab_113 := Lib.hid (kDab_102.out.far' fWn id)
      clear kDab_102
      have kXb_114 := Lib.hid (kXb_103.out.still fWn)
      clear kXb_103
      have kDb_115 := Lib.hid (kDb_104.out.move fWn)
      clear kDb_104
      have kDbb_116 := Lib.hid (kDbb_105.out.far' fWn id)
      clear kDbb_105
      have kXc_117 := Lib.hid (kXc_106.out.still fWn)
      clear kXc_106
      have kDn_118 := Lib.hid (kDn.out.move fWn)
      clear kDn
      have hfw_119 := Lib.hid (hfw_107.out.then fWn)
      clear hfw_107
      clear fWn
      go_upto_region 12 with fail
      rw [← eWn'.out, ← eh17'.out]
      have nenc : h17 ≠ h10 := by have := ltnc.out; have := eh17'.out; omega
      have nenc' : h10 ≠ h17 := fun e => nenc e.symm
      have nena : h17 ≠ h12 := by have := ltna.out; have := eh17'.out; omega
      have nena' : h12 ≠ h17 := fun e => nena e.symm
      have nenb : h17 ≠ h14 := by have := ltnb.out; have := eh17'.out; omega
      have nenb' : h14 ≠ h17 := fun e => nenb e.symm
      have szQn := Lib.hid (show W.heap.size ≤ h17 by have h1 := szBn.out; have h2 := eh17'.out; omega)
      have ML := fun (V : World) (h1 : HasF V vc Fn Sc Mn) (h2 : (HasF V va Fa Sa Ma)) (h3 : (HasF V vb Fb Sb Mb)) (h4 : Tab V) => pInto_any h1 h2 h3 h4
      rw [hE'.out] at ML
      have hM2 : (if E = 0 then joinM Mn (mulM Ma Mb) else Mn) = Mn := by
        have h := hMn'.out
        rw [hE'.out] at h
        by_cases h0 : E = 0
        · rw [if_pos h0] at h ⊢
          rw [← h]
          funext r c
          simp only [joinM, Bool.or_assoc, Bool.or_self]
        · rw [if_neg h0]
      have hno : ¬ (E = 0 ∧ ∃ r c, mulM Ma Mb r c = true ∧ Mn r c = false) := fun ⟨h0, r, c, h1, h2⟩ => by
        have h := hMn'.out
        rw [hE'.out, if_pos h0] at h
        rw [← h] at h2
        simp only [joinM, h1, Bool.or_true] at h2
        cases h2
      rw [hM2] at ML
      clear hM2
      have ML' := Lib.hid ML
      clear ML
      have K_120 := ML'.out _ (kXc_117.out) (kXa_111.out) (kXb_114.out) (kT_108.out)
      go_wp2_with fail
      refine K_120.mono ?_
      rintro e w_121 ⟨mo2, rfl, hmo2, F2, hX2, hmv⟩
      clear K_120
      have hmo2' := Lib.hid hmo2
      have hnv' := Lib.hid hmv.far
      clear hmo2 hmv
      have kDn_122 := Lib.hid (show Dm w_121 (.agg #[.int .i64 (Sc : Nat), .slice aond mn cpn]) Sc Mn from Pln.out.elim (fun p => kDn_118.out.pfar p hnv'.out fun k h => (hmr'.out k h).imp (fun h => (hFc'.out k h).2) id) fun p => kDn_118.out.pfar p hnv'.out fun k h => .inl (ltn.out k h))
      have kT_123 := Lib.hid (kT_108.out.far hnv'.out (fun h => by rcases hmr'.out _ h with h | h; exact hFT.out h; have h3 := hT0.out; have h4 := szV.out; omega))
      clear kDc_109
      clear kDcb_110
      have kXa_124 := Lib.hid (kXa_111.out.kept hnv'.out (fun k hk h => by rcases hmr'.out k h with h | h; have h1 := ltFc.out k h; have h2 := (hFa'.out k hk).1; have h3 := szCa.out; omega; have h4 := ltVa.out k hk; omega))
      have kDa_125 := Lib.hid (kDa_112.out.pfar Pla.out hnv'.out (fun k h => (hmr'.out k h).imp (fun h => by have h1 := ltFc.out k h; have h2 := hba'.out; have h3 := szCa.out; omega) id))
      have kDab_126 := Lib.hid (kDab_113.out.far' hnv'.out (HasF.notBk (kXc_117.out) (kDab_113.out) (by decide) (by decide) (by decide)))
      have kXb_127 := Lib.hid (kXb_114.out.kept hnv'.out (fun k hk h => by rcases hmr'.out k h with h | h; have h1 := ltFc.out k h; have h2 := (hFb'.out k hk).1; have h3 := szCb.out; omega; have h4 := ltVb.out k hk; omega))
      have kDb_128 := Lib.hid (kDb_115.out.pfar Plb.out hnv'.out (fun k h => (hmr'.out k h).imp (fun h => by have h1 := ltFc.out k h; have h2 := hbb'.out; have h3 := szCb.out; omega) id))
      have kDbb_129 := Lib.hid (kDbb_116.out.far' hnv'.out (HasF.notBk (kXc_117.out) (kDbb_116.out) (by decide) (by decide) (by decide)))
      have kDnb_130 := Lib.hid (bh17'.out.far' hnv'.out (HasF.notBk (kXc_117.out) (bh17'.out) (by decide) (by decide) (by decide)))
      have hfw_131 := Lib.hid (hfw_119.out.trans hnv'.out (fun k hk h => by rcases hmr'.out k h with h | h; have h1 := (hFc'.out k h).1; have h2 := szMc.out; omega; have h4 := szV.out; omega))
      have kXn2 := Lib.hid hX2
      clear hX2 ML'
      have hbb : (mo1 != mo1) = false := by cases mo1 <;> rfl
      have hm2 : mo2 = false := by
        cases mo2 with
        | false => rfl
        | true => exact absurd (hmo2'.out.1 rfl) hno
      subst hm2
      have c0Dnb : w_121.cell? ⟨h17, 0, none⟩ = some (.int .i64 (Sc : Nat)) := (kDnb_130.out).cell 0
      have c1Dnb : w_121.cell? ⟨h17, 1, none⟩ = some (.slice aond mn cpn) := (kDnb_130.out).cell 1
      have K_132 := same03_any (kXn2.out) (kDn_122.out) (kT_123.out)
      go_wp2_with fail
      refine K_132.mono ?_
      rintro e w_133 ⟨rfl, hfq⟩
      clear K_132
      have kT_134 := Lib.hid (kT_123.out.still hfq)
      clear kT_123
      have kXa_135 := Lib.hid (kXa_124.out.still hfq)
      clear kXa_124
      have kDa_136 := Lib.hid (kDa_125.out.move hfq)
      clear kDa_125
      have kDab_137 := Lib.hid (kDab_126.out.far' hfq id)
      clear kDab_126
      have kXb_138 := Lib.hid (kXb_127.out.still hfq)
      clear kXb_127
      have kDb_139 := Lib.hid (kDb_128.out.move hfq)
      clear kDb_128
      have kDbb_140 := Lib.hid (kDbb_129.out.far' hfq id)
      clear kDbb_129
      have kDnb_141 := Lib.hid (kDnb_130.out.far' hfq id)
      clear kDnb_130
      have kXc_142 := Lib.hid (kXn2.out.still hfq)
      clear kXn2
      have kDn_143 := Lib.hid (kDn_122.out.move hfq)
      clear kDn_122
      have hfw_144 := Lib.hid (hfw_131.out.then hfq)
      clear hfw_131
      clear hfq
      clear c0Dnb c1Dnb
      have c0Dab : w_133.cell? ⟨h12, 0, none⟩ = some (.int .i64 (Sa : Nat)) := (kDab_137.out).cell 0
      have c1Dab : w_133.cell? ⟨h12, 1, none⟩ = some (.slice aoad ma cpa) := (kDab_137.out).cell 1
      have K_145 := same03_any (kXa_135.out) (kDa_136.out) (kT_134.out)
      go_wp2_with fail
      refine K_145.mono ?_
      rintro e w_146 ⟨rfl, hfq⟩
      clear K_145
      have kT_147 := Lib.hid (kT_134.out.still hfq)
      clear kT_134
      have kXa_148 := Lib.hid (kXa_135.out.still hfq)
      clear kXa_135
      have kDa_149 := Lib.hid (kDa_136.out.move hfq)
      clear kDa_136
      have kDab_150 := Lib.hid (kDab_137.out.far' hfq id)
      clear kDab_137
      have kXb_151 := Lib.hid (kXb_138.out.still hfq)
      clear kXb_138
      have kDb_152 := Lib.hid (kDb_139.out.move hfq)
      clear kDb_139
      have kDbb_153 := Lib.hid (kDbb_140.out.far' hfq id)
      clear kDbb_140
      have kDnb_154 := Lib.hid (kDnb_141.out.far' hfq id)
      clear kDnb_141
      have kXc_155 := Lib.hid (kXc_142.out.still hfq)
      clear kXc_142
      have kDn_156 := Lib.hid (kDn_143.out.move hfq)
      clear kDn_143
      have hfw_157 := Lib.hid (hfw_144.out.then hfq)
      clear hfw_144
      clear hfq
      clear c0Dab c1Dab
      have c0Dbb : w_146.cell? ⟨h14, 0, none⟩ = some (.int .i64 (Sb : Nat)) := (kDbb_153.out).cell 0
      have c1Dbb : w_146.cell? ⟨h14, 1, none⟩ = some (.slice aobd mb cpb) := (kDbb_153.out).cell 1
      have K_158 := same03_any (kXb_151.out) (kDb_152.out) (kT_147.out)
      go_wp2_with fail
      refine K_158.mono ?_
      rintro e w_159 ⟨rfl, hfq⟩
      clear K_158
      have kT_160 := Lib.hid (kT_147.out.still hfq)
      clear kT_147
      have kXa_161 := Lib.hid (kXa_148.out.still hfq)
      clear kXa_148
      have kDa_162 := Lib.hid (kDa_149.out.move hfq)
      clear kDa_149
      have kDab_163 := Lib.hid (kDab_150.out.far' hfq id)
      clear kDab_150
      have kXb_164 := Lib.hid (kXb_151.out.still hfq)
      clear kXb_151
      have kDb_165 := Lib.hid (kDb_152.out.move hfq)
      clear kDb_152
      have kDbb_166 := Lib.hid (kDbb_153.out.far' hfq id)
      clear kDbb_153
      have kDnb_167 := Lib.hid (kDnb_154.out.far' hfq id)
      clear kDnb_154
      have kXc_168 := Lib.hid (kXc_155.out.still hfq)
      clear kXc_155
      have kDn_169 := Lib.hid (kDn_156.out.move hfq)
      clear kDn_156
      have hfw_170 := Lib.hid (hfw_157.out.then hfq)
      clear hfw_157
      clear hfq
      clear c0Dbb c1Dbb
      have K_171 := awake03_any _ (kT_160.out)
      go_wp2_with fail
      refine K_171.mono ?_
      rintro e w_172 ⟨rfl, hfq⟩
      clear K_171
      have kT_173 := Lib.hid (kT_160.out.still hfq)
      clear kT_160
      have kXa_174 := Lib.hid (kXa_161.out.still hfq)
      clear kXa_161
      have kDa_175 := Lib.hid (kDa_162.out.move hfq)
      clear kDa_162
      have kDab_176 := Lib.hid (kDab_163.out.far' hfq id)
      clear kDab_163
      have kXb_177 := Lib.hid (kXb_164.out.still hfq)
      clear kXb_164
      have kDb_178 := Lib.hid (kDb_165.out.move hfq)
      clear kDb_165
      have kDbb_179 := Lib.hid (kDbb_166.out.far' hfq id)
      clear kDbb_166
      have kDnb_180 := Lib.hid (kDnb_167.out.far' hfq id)
      clear kDnb_167
      have kXc_181 := Lib.hid (kXc_168.out.still hfq)
      clear kXc_168
      have kDn_182 := Lib.hid (kDn_169.out.move hfq)
      clear kDn_169
      have hfw_183 := Lib.hid (hfw_170.out.then hfq)
      clear hfw_170
      clear hfq
      go_wp2_with fail
      go_ret
      exact ⟨rfl, hfw_183.out⟩
    · have a1 : bits .and .i64 x3 1 = 1 := b1
      have a2 : bits .and .i64 x3 2 = 0 := b2
      have a3 : bits .and .i64 x3 3 = 1 := b3
      clear b1 b2 b3 hr4
      have szMc := Lib.hid (hfS.out.size)
      have c0B4 : Wz.cell? ⟨h4, 0, none⟩ = some (.int .i64 sci) := (kB4.out).cell 0
      have c1B4 : Wz.cell? ⟨h4, 1, none⟩ = some (.slice aoc nc kc) := (kB4.out).cell 1
      have MD := made03_sep sci aoc nc kc Rc Cc hnc hmc Wz kCc.out
      obtain ⟨Sc, hSc⟩ : ∃ S, ofS sci nc Rc Cc = S := ⟨_, rfl⟩
      obtain ⟨Mc, hMc⟩ : ∃ M, ofM sci nc Rc Cc = M := ⟨_, rfl⟩
      rw [hSc, hMc] at MD
      clear hSc hMc
      have K_1 := MD
      go_wp2_with fail
      refine K_1.mono ?_
      rintro e w_2 ⟨vc, dc, rfl, Fc, hXc, hDc, ⟨bc, hbc, hDnc, hFc⟩, hfc⟩
      clear K_1
      have kB4_3 := Lib.hid (kB4.out.far' hfc id)
      clear kB4
      have kB5_4 := Lib.hid (kB5.out.far' hfc id)
      clear kB5
      have kB6_5 := Lib.hid (kB6.out.far' hfc id)
      clear kB6
      have kT_6 := Lib.hid (kT.out.still hfc)
      clear kT
      have kCc_7 := Lib.hid (kCc.out.move hfc)
      clear kCc
      have kCa_8 := Lib.hid (kCa.out.move hfc)
      clear kCa
      have kCb_9 := Lib.hid (kCb.out.move hfc)
      clear kCb
      have hfw_10 := Lib.hid (hfS.out.then hfc)
      clear hfS
      clear MD hfc
      have hFc' := Lib.hid hFc
      have hbc' := Lib.hid hbc
      clear hFc hbc
      clear c0B4 c1B4
      have kXc := Lib.hid hXc
      clear hXc
      have kDc := Lib.hid hDc
      obtain ⟨aocd, cpc, rfl, _⟩ := hDc
      obtain ⟨mc, hmmc⟩ : ∃ m, (cellsL Mc Sc).length = m := ⟨_, rfl⟩
      rw [hmmc] at kDc hDnc ⊢
      clear hmmc
      have hDnc' := Lib.hid hDnc
      clear hDnc
      have szBc := Lib.hid (hfw_10.out.size)
      obtain ⟨h10, eh10⟩ : ∃ h, h = w_2.heap.size := ⟨_, rfl⟩
      obtain ⟨Wc, eWc⟩ : ∃ V, V = w_2.alloc (.cells #[.int .i64 (Sc : Nat), .slice aocd mc cpc] 28) := ⟨_, rfl⟩
      have fWc : Far (fun _ => False) w_2 Wc := eWc ▸ (Far.refl _ w_2).alloc _
      have bh10 : Bk Wc h10 28 #[.int .i64 (Sc : Nat), .slice aocd mc cpc] := eWc ▸ Bk.new eh10
      have eh10' := Lib.hid eh10
      have eWc' := Lib.hid eWc
      have bh10' := Lib.hid bh10
      clear eh10 eWc bh10
      have kB4_11 := Lib.hid (kB4_3.out.far' fWc id)
      clear kB4_3
      have kB5_12 := Lib.hid (kB5_4.out.far' fWc id)
      clear kB5_4
      have kB6_13 := Lib.hid (kB6_5.out.far' fWc id)
      clear kB6_5
      have kT_14 := Lib.hid (kT_6.out.still fWc)
      clear kT_6
      have kCc_15 := Lib.hid (kCc_7.out.move fWc)
      clear kCc_7
      have kCa_16 := Lib.hid (kCa_8.out.move fWc)
      clear kCa_8
      have kCb_17 := Lib.hid (kCb_9.out.move fWc)
      clear kCb_9
      have kXc_18 := Lib.hid (kXc.out.still fWc)
      clear kXc
      have kDc_19 := Lib.hid (kDc.out.move fWc)
      clear kDc
      have hfw_20 := Lib.hid (hfw_10.out.then fWc)
      clear hfw_10
      clear fWc
      go_upto_region 4 with fail
      rw [← eWc'.out, ← eh10'.out]
      have ltFc := Lib.hid (kXc_18.out).lt
      have kzC := Lib.hid (Nat.le_refl Wc.heap.size)
      have szCa := Lib.hid (Nat.le_refl Wc.heap.size)
      have szMa := Lib.hid (hfw_20.out.size)
      have c0B5 : Wc.cell? ⟨h5, 0, none⟩ = some (.int .i64 sai) := (kB5_12.out).cell 0
      have c1B5 : Wc.cell? ⟨h5, 1, none⟩ = some (.slice aoa na ka) := (kB5_12.out).cell 1
      have MD := made03_sep sai aoa na ka Ra Ca hna hma Wc kCa_16.out
      obtain ⟨Sa, hSa⟩ : ∃ S, ofS sai na Ra Ca = S := ⟨_, rfl⟩
      obtain ⟨Ma, hMa⟩ : ∃ M, ofM sai na Ra Ca = M := ⟨_, rfl⟩
      rw [hSa, hMa] at MD
      clear hSa hMa
      have K_21 := MD
      go_wp2_with fail
      refine K_21.mono ?_
      rintro e w_22 ⟨va, da, rfl, Fa, hXa, hDa, ⟨ba, hba, hDna, hFa⟩, hfa⟩
      clear K_21
      have kB4_23 := Lib.hid (kB4_11.out.far' hfa id)
      clear kB4_11
      have kB5_24 := Lib.hid (kB5_12.out.far' hfa id)
      clear kB5_12
      have kB6_25 := Lib.hid (kB6_13.out.far' hfa id)
      clear kB6_13
      have kT_26 := Lib.hid (kT_14.out.still hfa)
      clear kT_14
      have kCc_27 := Lib.hid (kCc_15.out.move hfa)
      clear kCc_15
      have kCa_28 := Lib.hid (kCa_16.out.move hfa)
      clear kCa_16
      have kCb_29 := Lib.hid (kCb_17.out.move hfa)
      clear kCb_17
      have kXc_30 := Lib.hid (kXc_18.out.still hfa)
      clear kXc_18
      have kDc_31 := Lib.hid (kDc_19.out.move hfa)
      clear kDc_19
      have kDcb_32 := Lib.hid (bh10'.out.far' hfa id)
      clear bh10'
      have hfw_33 := Lib.hid (hfw_20.out.then hfa)
      clear hfw_20
      have kzC_34 := Lib.hid (Nat.le_trans kzC.out hfa.size)
      clear MD hfa
      have hFa' := Lib.hid hFa
      have hba' := Lib.hid hba
      clear hFa hba
      clear c0B5 c1B5
      have kXa := Lib.hid hXa
      clear hXa
      have kDa := Lib.hid hDa
      obtain ⟨aoad, cpa, rfl, _⟩ := hDa
      obtain ⟨ma, hmma⟩ : ∃ m, (cellsL Ma Sa).length = m := ⟨_, rfl⟩
      rw [hmma] at kDa hDna ⊢
      clear hmma
      have hDna' := Lib.hid hDna
      clear hDna
      have szBa := Lib.hid (hfw_33.out.size)
      have ltac := Lib.hid (kDcb_32.out).lt
      obtain ⟨h12, eh12⟩ : ∃ h, h = w_22.heap.size := ⟨_, rfl⟩
      obtain ⟨Wa, eWa⟩ : ∃ V, V = w_22.alloc (.cells #[.int .i64 (Sa : Nat), .slice aoad ma cpa] 28) := ⟨_, rfl⟩
      have fWa : Far (fun _ => False) w_22 Wa := eWa ▸ (Far.refl _ w_22).alloc _
      have bh12 : Bk Wa h12 28 #[.int .i64 (Sa : Nat), .slice aoad ma cpa] := eWa ▸ Bk.new eh12
      have eh12' := Lib.hid eh12
      have eWa' := Lib.hid eWa
      have bh12' := Lib.hid bh12
      clear eh12 eWa bh12
      have kB4_35 := Lib.hid (kB4_23.out.far' fWa id)
      clear kB4_23
      have kB5_36 := Lib.hid (kB5_24.out.far' fWa id)
      clear kB5_24
      have kB6_37 := Lib.hid (kB6_25.out.far' fWa id)
      clear kB6_25
      have kT_38 := Lib.hid (kT_26.out.still fWa)
      clear kT_26
      have kCc_39 := Lib.hid (kCc_27.out.move fWa)
      clear kCc_27
      have kCa_40 := Lib.hid (kCa_28.out.move fWa)
      clear kCa_28
      have kCb_41 := Lib.hid (kCb_29.out.move fWa)
      clear kCb_29
      have kXc_42 := Lib.hid (kXc_30.out.still fWa)
      clear kXc_30
      have kDc_43 := Lib.hid (kDc_31.out.move fWa)
      clear kDc_31
      have kDcb_44 := Lib.hid (kDcb_32.out.far' fWa id)
      clear kDcb_32
      have kXa_45 := Lib.hid (kXa.out.still fWa)
      clear kXa
      have kDa_46 := Lib.hid (kDa.out.move fWa)
      clear kDa
      have hfw_47 := Lib.hid (hfw_33.out.then fWa)
      clear hfw_33
      have kzC_48 := Lib.hid (Nat.le_trans kzC_34.out fWa.size)
      clear fWa
      go_upto_region 5 with fail
      rw [← eWa'.out, ← eh12'.out]
      have neac : h12 ≠ h10 := by have := ltac.out; have := eh12'.out; omega
      have neac' : h10 ≠ h12 := fun e => neac e.symm
      have ltFa := Lib.hid (kXa_45.out).lt
      have szCb := Lib.hid (kzC_48.out)
      have szMb := Lib.hid (hfw_47.out.size)
      have c0B6 : Wa.cell? ⟨h6, 0, none⟩ = some (.int .i64 sbi) := (kB6_37.out).cell 0
      have c1B6 : Wa.cell? ⟨h6, 1, none⟩ = some (.slice aob nb kb) := (kB6_37.out).cell 1
      have MD := made03_sep sbi aob nb kb Rb Cb hnb hmb Wa kCb_41.out
      obtain ⟨Sb, hSb⟩ : ∃ S, ofS sbi nb Rb Cb = S := ⟨_, rfl⟩
      obtain ⟨Mb, hMb⟩ : ∃ M, ofM sbi nb Rb Cb = M := ⟨_, rfl⟩
      rw [hSb, hMb] at MD
      clear hSb hMb
      have K_49 := MD
      go_wp2_with fail
      refine K_49.mono ?_
      rintro e w_50 ⟨vb, db, rfl, Fb, hXb, hDb, ⟨bb, hbb, hDnb, hFb⟩, hfb⟩
      clear K_49
      have kB4_51 := Lib.hid (kB4_35.out.far' hfb id)
      clear kB4_35
      have kB5_52 := Lib.hid (kB5_36.out.far' hfb id)
      clear kB5_36
      have kB6_53 := Lib.hid (kB6_37.out.far' hfb id)
      clear kB6_37
      have kT_54 := Lib.hid (kT_38.out.still hfb)
      clear kT_38
      have kCc_55 := Lib.hid (kCc_39.out.move hfb)
      clear kCc_39
      have kCa_56 := Lib.hid (kCa_40.out.move hfb)
      clear kCa_40
      have kCb_57 := Lib.hid (kCb_41.out.move hfb)
      clear kCb_41
      have kXc_58 := Lib.hid (kXc_42.out.still hfb)
      clear kXc_42
      have kDc_59 := Lib.hid (kDc_43.out.move hfb)
      clear kDc_43
      have kDcb_60 := Lib.hid (kDcb_44.out.far' hfb id)
      clear kDcb_44
      have kXa_61 := Lib.hid (kXa_45.out.still hfb)
      clear kXa_45
      have kDa_62 := Lib.hid (kDa_46.out.move hfb)
      clear kDa_46
      have kDab_63 := Lib.hid (bh12'.out.far' hfb id)
      clear bh12'
      have hfw_64 := Lib.hid (hfw_47.out.then hfb)
      clear hfw_47
      have kzC_65 := Lib.hid (Nat.le_trans kzC_48.out hfb.size)
      clear MD hfb
      have hFb' := Lib.hid hFb
      have hbb' := Lib.hid hbb
      clear hFb hbb
      clear c0B6 c1B6
      have kXb := Lib.hid hXb
      clear hXb
      have kDb := Lib.hid hDb
      obtain ⟨aobd, cpb, rfl, _⟩ := hDb
      obtain ⟨mb, hmmb⟩ : ∃ m, (cellsL Mb Sb).length = m := ⟨_, rfl⟩
      rw [hmmb] at kDb hDnb ⊢
      clear hmmb
      have hDnb' := Lib.hid hDnb
      clear hDnb
      have szBb := Lib.hid (hfw_64.out.size)
      have ltbc := Lib.hid (kDcb_60.out).lt
      have ltba := Lib.hid (kDab_63.out).lt
      obtain ⟨h14, eh14⟩ : ∃ h, h = w_50.heap.size := ⟨_, rfl⟩
      obtain ⟨Wb, eWb⟩ : ∃ V, V = w_50.alloc (.cells #[.int .i64 (Sb : Nat), .slice aobd mb cpb] 28) := ⟨_, rfl⟩
      have fWb : Far (fun _ => False) w_50 Wb := eWb ▸ (Far.refl _ w_50).alloc _
      have bh14 : Bk Wb h14 28 #[.int .i64 (Sb : Nat), .slice aobd mb cpb] := eWb ▸ Bk.new eh14
      have eh14' := Lib.hid eh14
      have eWb' := Lib.hid eWb
      have bh14' := Lib.hid bh14
      clear eh14 eWb bh14
      have kB4_66 := Lib.hid (kB4_51.out.far' fWb id)
      clear kB4_51
      have kB5_67 := Lib.hid (kB5_52.out.far' fWb id)
      clear kB5_52
      have kB6_68 := Lib.hid (kB6_53.out.far' fWb id)
      clear kB6_53
      have kT_69 := Lib.hid (kT_54.out.still fWb)
      clear kT_54
      have kCc_70 := Lib.hid (kCc_55.out.move fWb)
      clear kCc_55
      have kCa_71 := Lib.hid (kCa_56.out.move fWb)
      clear kCa_56
      have kCb_72 := Lib.hid (kCb_57.out.move fWb)
      clear kCb_57
      have kXc_73 := Lib.hid (kXc_58.out.still fWb)
      clear kXc_58
      have kDc_74 := Lib.hid (kDc_59.out.move fWb)
      clear kDc_59
      have kDcb_75 := Lib.hid (kDcb_60.out.far' fWb id)
      clear kDcb_60
      have kXa_76 := Lib.hid (kXa_61.out.still fWb)
      clear kXa_61
      have kDa_77 := Lib.hid (kDa_62.out.move fWb)
      clear kDa_62
      have kDab_78 := Lib.hid (kDab_63.out.far' fWb id)
      clear kDab_63
      have kXb_79 := Lib.hid (kXb.out.still fWb)
      clear kXb
      have kDb_80 := Lib.hid (kDb.out.move fWb)
      clear kDb
      have hfw_81 := Lib.hid (hfw_64.out.then fWb)
      clear hfw_64
      have kzC_82 := Lib.hid (Nat.le_trans kzC_65.out fWb.size)
      clear fWb
      go_upto_region 6 with fail
      rw [← eWb'.out, ← eh14'.out]
      have nebc : h14 ≠ h10 := by have := ltbc.out; have := eh14'.out; omega
      have nebc' : h10 ≠ h14 := fun e => nebc e.symm
      have neba : h14 ≠ h12 := by have := ltba.out; have := eh14'.out; omega
      have neba' : h12 ≠ h14 := fun e => neba e.symm
      have ltFb := Lib.hid (kXb_79.out).lt
      clear kzC_82
      have szQc := Lib.hid (show W.heap.size ≤ h10 by have h1 := szBc.out; have h2 := eh10'.out; omega)
      have szQa := Lib.hid (show W.heap.size ≤ h12 by have h1 := szBa.out; have h2 := eh12'.out; omega)
      have szQb := Lib.hid (show W.heap.size ≤ h14 by have h1 := szBb.out; have h2 := eh14'.out; omega)
      have c0Dcb : Wb.cell? ⟨h10, 0, none⟩ = some (.int .i64 (Sc : Nat)) := (kDcb_75.out).cell 0
      have c1Dcb : Wb.cell? ⟨h10, 1, none⟩ = some (.slice aocd mc cpc) := (kDcb_75.out).cell 1
      have c0Dab : Wb.cell? ⟨h12, 0, none⟩ = some (.int .i64 (Sa : Nat)) := (kDab_78.out).cell 0
      have c1Dab : Wb.cell? ⟨h12, 1, none⟩ = some (.slice aoad ma cpa) := (kDab_78.out).cell 1
      have fr0 := (kDab_78.out).free 0
      have fr1 := (kDab_78.out).free 1
      obtain ⟨V1, eV1⟩ : ∃ V, V = ((Wb.setCell ⟨h12, 0, none⟩ (.int .i64 (Sc : Nat))).setCell ⟨h12, 1, none⟩ (.slice aocd mc cpc)).drew := ⟨_, rfl⟩
      have fV1 : Far (fun q => q = h12) Wb V1 := eV1 ▸ (((Far.refl (fun q => q = h12) Wb).set ⟨h12, 0, none⟩ _ fun _ => rfl).set ⟨h12, 1, none⟩ _ fun _ => rfl).drew
      have bV1 : Bk V1 h12 28 #[.int .i64 (Sc : Nat), .slice aocd mc cpc] := eV1 ▸ (((kDab_78.out).set 0 _).set 1 _ : Bk ((Wb.setCell ⟨h12, 0, none⟩ (.int .i64 (Sc : Nat))).setCell ⟨h12, 1, none⟩ (.slice aocd mc cpc)) h12 _ _)
      have eV1' := Lib.hid eV1
      have bV1' := Lib.hid bV1
      have fV1' := Lib.hid fV1
      clear eV1 bV1 fV1
      go_upto_region 7 with fail
      go_region
      rw [← eV1'.out]
      clear c0Dcb c1Dcb
      clear c0Dab c1Dab
      clear fr0 fr1
      clear kB4_66
      clear kB5_67
      clear kB6_68
      have kT_86 := Lib.hid (kT_69.out.far fV1'.out (fun (e : _ = h12) => by have := hT0.out; have := szQa.out; omega))
      clear kCc_70
      clear kCa_71
      clear kCb_72
      have kXc_90 := Lib.hid (kXc_73.out.kept fV1'.out fun k hk (e : k = h12) => HasF.notBk kXc_73.out (kDab_78.out) (by decide) (by decide) (by decide) (e ▸ hk))
      have kDc_91 := Lib.hid (kDc_74.out.box (kDab_78.out) fV1'.out)
      have kDcb_92 := Lib.hid (kDcb_75.out.far' fV1'.out (fun e => absurd e neac'))
      have kXa_93 := Lib.hid (kXa_76.out.kept fV1'.out fun k hk (e : k = h12) => HasF.notBk kXa_76.out (kDab_78.out) (by decide) (by decide) (by decide) (e ▸ hk))
      have kDa_94 := Lib.hid (kDa_77.out.box (kDab_78.out) fV1'.out)
      have kXb_95 := Lib.hid (kXb_79.out.kept fV1'.out fun k hk (e : k = h12) => HasF.notBk kXb_79.out (kDab_78.out) (by decide) (by decide) (by decide) (e ▸ hk))
      have kDb_96 := Lib.hid (kDb_80.out.box (kDab_78.out) fV1'.out)
      have kDbb_97 := Lib.hid (bh14'.out.far' fV1'.out (fun e => absurd e neba))
      have hfw_98 := Lib.hid (hfw_81.out.trans fV1'.out fun k hk (e : k = h12) => by have := szQa.out; omega)
      have hFT := Lib.hid (show ¬ Fc 0 from fun h => by have h1 := (hFc'.out _ h).1; have h2 := szMc.out; have h3 := hT0.out; omega)
      have ML := fun (V : World) (h1 : HasF V vc Fc Sc Mc) (h2 : HasF V vc Fc Sc Mc) (h3 : HasF V vb Fb Sb Mb) (h4 : Tab V) => pInto_any h1 h2 h3 h4
      have RL := fun (V : World) (h1 : Dm V (.agg #[.int .i64 (Sc : Nat), .slice aocd mc cpc]) Sc Mc) (h2 : Dm V (.agg #[.int .i64 (Sc : Nat), .slice aocd mc cpc]) Sc Mc) (h3 : Dm V (.agg #[.int .i64 (Sb : Nat), .slice aobd mb cpb]) Sb Mb) => rPInto_any h1 h2 h3
      obtain ⟨P, hP⟩ : ∃ P : Prop, (pinE Sc Sc Sb = 0 ∧ ∃ r c, mulM Mc Mb r c = true ∧ Mc r c = false) = P := ⟨_, rfl⟩
      obtain ⟨Mn, hMn⟩ : ∃ M, (if pinE Sc Sc Sb = 0 then joinM Mc (mulM Mc Mb) else Mc) = M := ⟨_, rfl⟩
      obtain ⟨E, hE⟩ : ∃ E, pinE Sc Sc Sb = E := ⟨_, rfl⟩
      rw [hP, hMn, hE] at ML RL
      have hMn' := Lib.hid hMn
      have hE' := Lib.hid hE
      clear hP hMn hE
      have ML' := Lib.hid ML
      have RL' := Lib.hid RL
      clear ML RL
      have Plc := Lib.hid (Dm.place (kDc_91.out) hDnc'.out)
      have Plb := Lib.hid (Dm.place (kDb_96.out) hDnb'.out)
      have ltVb := Lib.hid (kXb_95.out).lt
      have szV := Lib.hid (hfw_98.out.size)
      have K_99 := ML'.out _ (kXc_90.out) (kXc_90.out) (kXb_95.out) (kT_86.out)
      go_wp2_with fail
      refine K_99.mono ?_
      rintro e w_100 ⟨mo1, rfl, hmo1, Fn, hXn, hmv⟩
      clear K_99
      have hmo1' := Lib.hid hmo1
      have hmv' := Lib.hid hmv.far
      have hmr' := Lib.hid hmv.more
      clear hmo1 hmv
      have kT_101 := Lib.hid (kT_86.out.far hmv'.out hFT.out)
      have kDc_102 := Lib.hid (kDc_91.out.pfar Plc.out hmv'.out (fun k h => .inl (hFc'.out k h).2))
      have kDcb_103 := Lib.hid (kDcb_92.out.far' hmv'.out (HasF.notBk (kXc_90.out) (kDcb_92.out) (by decide) (by decide) (by decide)))
      have kDab_104 := Lib.hid (bV1'.out.far' hmv'.out (HasF.notBk (kXc_90.out) (bV1'.out) (by decide) (by decide) (by decide)))
      have kXb_105 := Lib.hid (kXb_95.out.kept hmv'.out (fun k hk h => by have h1 := ltFc.out k h; have h2 := (hFb'.out k hk).1; have h3 := szCb.out; omega))
      have kDb_106 := Lib.hid (kDb_96.out.pfar Plb.out hmv'.out (fun k h => .inl (by have h1 := ltFc.out k h; have h2 := hbb'.out; have h3 := szCb.out; omega)))
      have kDbb_107 := Lib.hid (kDbb_97.out.far' hmv'.out (HasF.notBk (kXc_90.out) (kDbb_97.out) (by decide) (by decide) (by decide)))
      have hfw_108 := Lib.hid (hfw_98.out.trans hmv'.out (fun k hk h => by have h1 := (hFc'.out k h).1; have h2 := szMc.out; omega))
      have kXn0 := Lib.hid hXn
      clear hXn ML'
      have ltn := Lib.hid (kXn0.out).lt
      have c0Dcb : w_100.cell? ⟨h10, 0, none⟩ = some (.int .i64 (Sc : Nat)) := (kDcb_103.out).cell 0
      have c1Dcb : w_100.cell? ⟨h10, 1, none⟩ = some (.slice aocd mc cpc) := (kDcb_103.out).cell 1
      have c0Dab : w_100.cell? ⟨h12, 0, none⟩ = some (.int .i64 (Sc : Nat)) := (kDab_104.out).cell 0
      have c1Dab : w_100.cell? ⟨h12, 1, none⟩ = some (.slice aocd mc cpc) := (kDab_104.out).cell 1
      have c0Dbb : w_100.cell? ⟨h14, 0, none⟩ = some (.int .i64 (Sb : Nat)) := (kDbb_107.out).cell 0
      have c1Dbb : w_100.cell? ⟨h14, 1, none⟩ = some (.slice aobd mb cpb) := (kDbb_107.out).cell 1
      have K_109 := RL'.out _ (kDc_102.out) (kDc_102.out) (kDb_106.out)
      go_wp2_with fail
      refine K_109.mono ?_
      rintro e w_110 ⟨dn, mo9, rfl, hDn, hmo9, hor, hfn⟩
      clear K_109
      have kT_111 := Lib.hid (kT_101.out.still hfn)
      clear kT_101
      have kDc_112 := Lib.hid (kDc_102.out.move hfn)
      clear kDc_102
      have kDcb_113 := Lib.hid (kDcb_103.out.far' hfn id)
      clear kDcb_103
      have kDab_114 := Lib.hid (kDab_104.out.far' hfn id)
      clear kDab_104
      have kXb_115 := Lib.hid (kXb_105.out.still hfn)
      clear kXb_105
      have kDb_116 := Lib.hid (kDb_106.out.move hfn)
      clear kDb_106
      have kDbb_117 := Lib.hid (kDbb_107.out.far' hfn id)
      clear kDbb_107
      have kXc_118 := Lib.hid (kXn0.out.still hfn)
      clear kXn0
      have hfw_119 := Lib.hid (hfw_108.out.then hfn)
      clear hfw_108
      clear RL' hfn
      obtain rfl : mo1 = mo9 := Bool.eq_iff_iff.2 (hmo1'.out.trans hmo9.symm)
      clear hmo9 hmo1'
      clear c0Dcb c1Dcb c0Dab c1Dab c0Dbb c1Dbb
      have kDn := Lib.hid hDn
      obtain ⟨aond, cpn, rfl, _⟩ := hDn
      obtain ⟨mn, hmmn⟩ : ∃ m, (cellsL Mn Sc).length = m := ⟨_, rfl⟩
      rw [hmmn] at kDn hor ⊢
      clear hmmn
      have hor' := Lib.hid hor
      clear hor
      have Pln := Lib.hid (show (Place (.agg #[.int .i64 (Sc : Nat), .slice aond mn cpn]) bc V1.heap.size) ∨ Place (.agg #[.int .i64 (Sc : Nat), .slice aond mn cpn]) w_100.heap.size w_110.heap.size from hor'.out.elim (fun e => .inl (by rw [e]; exact Plc.out)) fun h => .inr (Dm.place (kDn.out) h))
      have szBn := Lib.hid (hfw_119.out.size)
      have ltnc := Lib.hid (kDcb_113.out).lt
      have ltna := Lib.hid (kDab_114.out).lt
      have ltnb := Lib.hid (kDbb_117.out).lt
      obtain ⟨h17, eh17⟩ : ∃ h, h = w_110.heap.size := ⟨_, rfl⟩
      obtain ⟨Wn, eWn⟩ : ∃ V, V = w_110.alloc (.cells #[.int .i64 (Sc : Nat), .slice aond mn cpn] 28) := ⟨_, rfl⟩
      have fWn : Far (fun _ => False) w_110 Wn := eWn ▸ (Far.refl _ w_110).alloc _
      have bh17 : Bk Wn h17 28 #[.int .i64 (Sc : Nat), .slice aond mn cpn] := eWn ▸ Bk.new eh17
      have eh17' := Lib.hid eh17
      have eWn' := Lib.hid eWn
      have bh17' := Lib.hid bh17
      clear eh17 eWn bh17
      have kT_120 := Lib.hid (kT_111.out.still fWn)
      clear kT_111
      have kDc_121 := Lib.hid (kDc_112.out.move fWn)
      clear kDc_112
      have kDcb_122 := Lib.hid (kDcb_113.out.far' fWn id)
      clear kDcb_113
      have kDab_123 := Lib.hid (kDab_114.out.far' fWn id)
      clear kDab_114
      have kXb_124 := Lib.hid (kXb_115.out.still fWn)
      clear kXb_115
      have kDb_125 := Lib.hid (kDb_116.out.move fWn)
      clear kDb_116
      have kDbb_126 := Lib.hid (kDbb_117.out.far' fWn id)
      clear kDbb_117
      have kXc_127 := Lib.hid (kXc_118.out.still fWn)
      clear kXc_118
      have kDn_128 := Lib.hid (kDn.out.move fWn)
      clear kDn
      have hfw_129 := Lib.hid (hfw_119.out.then fWn)
      clear hfw_119
      clear fWn
      go_upto_region 12 with fail
      rw [← eWn'.out, ← eh17'.out]
      have nenc : h17 ≠ h10 := by have := ltnc.out; have := eh17'.out; omega
      have nenc' : h10 ≠ h17 := fun e => nenc e.symm
      have nena : h17 ≠ h12 := by have := ltna.out; have := eh17'.out; omega
      have nena' : h12 ≠ h17 := fun e => nena e.symm
      have nenb : h17 ≠ h14 := by have := ltnb.out; have := eh17'.out; omega
      have nenb' : h14 ≠ h17 := fun e => nenb e.symm
      have szQn := Lib.hid (show W.heap.size ≤ h17 by have h1 := szBn.out; have h2 := eh17'.out; omega)
      have ML := fun (V : World) (h1 : HasF V vc Fn Sc Mn) (h2 : (HasF V vc Fn Sc Mn)) (h3 : (HasF V vb Fb Sb Mb)) (h4 : Tab V) => pInto_any h1 h2 h3 h4
      have RL := fun (V : World) (h1 : Dm V (.agg #[.int .i64 (Sc : Nat), .slice aond mn cpn]) Sc Mn) (h2 : Dm V (.agg #[.int .i64 (Sc : Nat), .slice aond mn cpn]) Sc Mn) (h3 : Dm V (.agg #[.int .i64 (Sb : Nat), .slice aobd mb cpb]) Sb Mb) => rPInto_any h1 h2 h3
      obtain ⟨P2, hP⟩ : ∃ P : Prop, (pinE Sc Sc Sb = 0 ∧ ∃ r c, mulM Mn Mb r c = true ∧ Mn r c = false) = P := ⟨_, rfl⟩
      obtain ⟨Mm, hMm⟩ : ∃ M, (if pinE Sc Sc Sb = 0 then joinM Mn (mulM Mn Mb) else Mn) = M := ⟨_, rfl⟩
      rw [hP, hMm, hE'.out] at ML RL
      clear hP hMm
      have RL' := Lib.hid RL
      clear RL
      have ML' := Lib.hid ML
      clear ML
      have K_130 := ML'.out _ (kXc_127.out) (kXc_127.out) (kXb_124.out) (kT_120.out)
      go_wp2_with fail
      refine K_130.mono ?_
      rintro e w_131 ⟨mo2, rfl, hmo2, F2, hX2, hmv⟩
      clear K_130
      have hmo2' := Lib.hid hmo2
      have hnv' := Lib.hid hmv.far
      clear hmo2 hmv
      have kDn_132 := Lib.hid (show Dm w_131 (.agg #[.int .i64 (Sc : Nat), .slice aond mn cpn]) Sc Mn from Pln.out.elim (fun p => kDn_128.out.pfar p hnv'.out fun k h => (hmr'.out k h).imp (fun h => (hFc'.out k h).2) id) fun p => kDn_128.out.pfar p hnv'.out fun k h => .inl (ltn.out k h))
      have kT_133 := Lib.hid (kT_120.out.far hnv'.out (fun h => by rcases hmr'.out _ h with h | h; exact hFT.out h; have h3 := hT0.out; have h4 := szV.out; omega))
      clear kDc_121
      clear kDcb_122
      have kDab_134 := Lib.hid (kDab_123.out.far' hnv'.out (HasF.notBk (kXc_127.out) (kDab_123.out) (by decide) (by decide) (by decide)))
      have kXb_135 := Lib.hid (kXb_124.out.kept hnv'.out (fun k hk h => by rcases hmr'.out k h with h | h; have h1 := ltFc.out k h; have h2 := (hFb'.out k hk).1; have h3 := szCb.out; omega; have h4 := ltVb.out k hk; omega))
      have kDb_136 := Lib.hid (kDb_125.out.pfar Plb.out hnv'.out (fun k h => (hmr'.out k h).imp (fun h => by have h1 := ltFc.out k h; have h2 := hbb'.out; have h3 := szCb.out; omega) id))
      have kDbb_137 := Lib.hid (kDbb_126.out.far' hnv'.out (HasF.notBk (kXc_127.out) (kDbb_126.out) (by decide) (by decide) (by decide)))
      have kDnb_138 := Lib.hid (bh17'.out.far' hnv'.out (HasF.notBk (kXc_127.out) (bh17'.out) (by decide) (by decide) (by decide)))
      have hfw_139 := Lib.hid (hfw_129.out.trans hnv'.out (fun k hk h => by rcases hmr'.out k h with h | h; have h1 := (hFc'.out k h).1; have h2 := szMc.out; omega; have h4 := szV.out; omega))
      have kXn2 := Lib.hid hX2
      clear hX2 ML'
      have hbb : (mo1 != mo1) = false := by cases mo1 <;> rfl
      have c0Dnb : w_131.cell? ⟨h17, 0, none⟩ = some (.int .i64 (Sc : Nat)) := (kDnb_138.out).cell 0
      have c1Dnb : w_131.cell? ⟨h17, 1, none⟩ = some (.slice aond mn cpn) := (kDnb_138.out).cell 1
      have c0Dab : w_131.cell? ⟨h12, 0, none⟩ = some (.int .i64 (Sc : Nat)) := (kDab_134.out).cell 0
      have c1Dab : w_131.cell? ⟨h12, 1, none⟩ = some (.slice aocd mc cpc) := (kDab_134.out).cell 1
      have fr0 := (kDab_134.out).free 0
      have fr1 := (kDab_134.out).free 1
      obtain ⟨V2, eV2⟩ : ∃ V, V = (w_131.setCell ⟨h12, 0, none⟩ (.int .i64 (Sc : Nat))).setCell ⟨h12, 1, none⟩ (.slice aond mn cpn) := ⟨_, rfl⟩
      have fV2 : Far (fun q => q = h12) w_131 V2 := eV2 ▸ (((Far.refl (fun q => q = h12) w_131).set ⟨h12, 0, none⟩ _ fun _ => rfl).set ⟨h12, 1, none⟩ _ fun _ => rfl)
      have bV2 : Bk V2 h12 28 #[.int .i64 (Sc : Nat), .slice aond mn cpn] := eV2 ▸ (((kDab_134.out).set 0 _).set 1 _ : Bk ((w_131.setCell ⟨h12, 0, none⟩ (.int .i64 (Sc : Nat))).setCell ⟨h12, 1, none⟩ (.slice aond mn cpn)) h12 _ _)
      have eV2' := Lib.hid eV2
      have bV2' := Lib.hid bV2
      have fV2' := Lib.hid fV2
      clear eV2 bV2 fV2
      go_upto_region 19 with fail
      rw [← eV2'.out]
      clear c0Dnb c1Dnb
      clear c0Dab c1Dab
      clear fr0 fr1
      have kT_140 := Lib.hid (kT_133.out.far fV2'.out (fun (e : _ = h12) => by have := hT0.out; have := szQa.out; omega))
      have kXb_141 := Lib.hid (kXb_135.out.kept fV2'.out fun k hk (e : k = h12) => HasF.notBk kXb_135.out (kDab_134.out) (by decide) (by decide) (by decide) (e ▸ hk))
      have kDb_142 := Lib.hid (kDb_136.out.box (kDab_134.out) fV2'.out)
      have kDbb_143 := Lib.hid (kDbb_137.out.far' fV2'.out (fun e => absurd e neba))
      have kDnb_144 := Lib.hid (kDnb_138.out.far' fV2'.out (fun e => absurd e nena))
      have kXc_145 := Lib.hid (kXn2.out.kept fV2'.out fun k hk (e : k = h12) => HasF.notBk kXn2.out (kDab_134.out) (by decide) (by decide) (by decide) (e ▸ hk))
      have kDn_146 := Lib.hid (kDn_132.out.box (kDab_134.out) fV2'.out)
      have hfw_147 := Lib.hid (hfw_139.out.trans fV2'.out fun k hk (e : k = h12) => by have := szQa.out; omega)
      have c0Dnb : V2.cell? ⟨h17, 0, none⟩ = some (.int .i64 (Sc : Nat)) := (kDnb_144.out).cell 0
      have c1Dnb : V2.cell? ⟨h17, 1, none⟩ = some (.slice aond mn cpn) := (kDnb_144.out).cell 1
      have c0Dab : V2.cell? ⟨h12, 0, none⟩ = some (.int .i64 (Sc : Nat)) := (bV2'.out).cell 0
      have c1Dab : V2.cell? ⟨h12, 1, none⟩ = some (.slice aond mn cpn) := (bV2'.out).cell 1
      have c0Dbb : V2.cell? ⟨h14, 0, none⟩ = some (.int .i64 (Sb : Nat)) := (kDbb_143.out).cell 0
      have c1Dbb : V2.cell? ⟨h14, 1, none⟩ = some (.slice aobd mb cpb) := (kDbb_143.out).cell 1
      have K_148 := RL'.out _ (kDn_146.out) (kDn_146.out) (kDb_142.out)
      go_wp2_with fail
      refine K_148.mono ?_
      rintro e w_149 ⟨dm9, mo9, rfl, hDm, hmo9, _, hfn⟩
      clear K_148
      have kT_150 := Lib.hid (kT_140.out.still hfn)
      clear kT_140
      have kDab_151 := Lib.hid (bV2'.out.far' hfn id)
      clear bV2'
      have kXb_152 := Lib.hid (kXb_141.out.still hfn)
      clear kXb_141
      have kDb_153 := Lib.hid (kDb_142.out.move hfn)
      clear kDb_142
      have kDbb_154 := Lib.hid (kDbb_143.out.far' hfn id)
      clear kDbb_143
      have kDnb_155 := Lib.hid (kDnb_144.out.far' hfn id)
      clear kDnb_144
      have kXc_156 := Lib.hid (kXc_145.out.still hfn)
      clear kXc_145
      have kDn_157 := Lib.hid (kDn_146.out.move hfn)
      clear kDn_146
      have hfw_158 := Lib.hid (hfw_147.out.then hfn)
      clear hfw_147
      clear RL' hfn
      obtain rfl : mo2 = mo9 := Bool.eq_iff_iff.2 (hmo2'.out.trans hmo9.symm)
      clear hmo9 hmo2'
      clear c0Dnb c1Dnb c0Dab c1Dab c0Dbb c1Dbb
      have kDm := Lib.hid hDm
      obtain ⟨aomd, cpm, rfl, _⟩ := hDm
      obtain ⟨mm, hmmm⟩ : ∃ m, (cellsL Mm Sc).length = m := ⟨_, rfl⟩
      rw [hmmm] at kDm ⊢
      clear hmmm
      have c0Dnb : w_149.cell? ⟨h17, 0, none⟩ = some (.int .i64 (Sc : Nat)) := (kDnb_155.out).cell 0
      have c1Dnb : w_149.cell? ⟨h17, 1, none⟩ = some (.slice aond mn cpn) := (kDnb_155.out).cell 1
      have fr0 := (kDnb_155.out).free 0
      have fr1 := (kDnb_155.out).free 1
      obtain ⟨V3, eV3⟩ : ∃ V, V = (w_149.setCell ⟨h17, 0, none⟩ (.int .i64 (Sc : Nat))).setCell ⟨h17, 1, none⟩ (.slice aomd mm cpm) := ⟨_, rfl⟩
      have fV3 : Far (fun q => q = h17) w_149 V3 := eV3 ▸ (((Far.refl (fun q => q = h17) w_149).set ⟨h17, 0, none⟩ _ fun _ => rfl).set ⟨h17, 1, none⟩ _ fun _ => rfl)
      have bV3 : Bk V3 h17 28 #[.int .i64 (Sc : Nat), .slice aomd mm cpm] := eV3 ▸ (((kDnb_155.out).set 0 _).set 1 _ : Bk ((w_149.setCell ⟨h17, 0, none⟩ (.int .i64 (Sc : Nat))).setCell ⟨h17, 1, none⟩ (.slice aomd mm cpm)) h17 _ _)
      have eV3' := Lib.hid eV3
      have bV3' := Lib.hid bV3
      have fV3' := Lib.hid fV3
      clear eV3 bV3 fV3
      go_upto_region 22 with fail
      rw [← eV3'.out]
      clear c0Dnb c1Dnb
      clear fr0 fr1
      have kT_159 := Lib.hid (kT_150.out.far fV3'.out (fun (e : _ = h17) => by have := hT0.out; have := szQn.out; omega))
      have kDab_160 := Lib.hid (kDab_151.out.far' fV3'.out (fun e => absurd e nena'))
      have kXb_161 := Lib.hid (kXb_152.out.kept fV3'.out fun k hk (e : k = h17) => HasF.notBk kXb_152.out (kDnb_155.out) (by decide) (by decide) (by decide) (e ▸ hk))
      have kDb_162 := Lib.hid (kDb_153.out.box (kDnb_155.out) fV3'.out)
      have kDbb_163 := Lib.hid (kDbb_154.out.far' fV3'.out (fun e => absurd e nenb'))
      have kXc_164 := Lib.hid (kXc_156.out.kept fV3'.out fun k hk (e : k = h17) => HasF.notBk kXc_156.out (kDnb_155.out) (by decide) (by decide) (by decide) (e ▸ hk))
      have kDn_165 := Lib.hid (kDn_157.out.box (kDnb_155.out) fV3'.out)
      have kDm_166 := Lib.hid (kDm.out.box (kDnb_155.out) fV3'.out)
      have hfw_167 := Lib.hid (hfw_158.out.trans fV3'.out fun k hk (e : k = h17) => by have := szQn.out; omega)
      have hbb2 : (mo2 == mo2) = true := by cases mo2 <;> rfl
      have c0Dnb : V3.cell? ⟨h17, 0, none⟩ = some (.int .i64 (Sc : Nat)) := (bV3'.out).cell 0
      have c1Dnb : V3.cell? ⟨h17, 1, none⟩ = some (.slice aomd mm cpm) := (bV3'.out).cell 1
      have K_168 := same03_any (kXc_164.out) (kDm_166.out) (kT_159.out)
      go_wp2_with fail
      refine K_168.mono ?_
      rintro e w_169 ⟨rfl, hfq⟩
      clear K_168
      have kT_170 := Lib.hid (kT_159.out.still hfq)
      clear kT_159
      have kDab_171 := Lib.hid (kDab_160.out.far' hfq id)
      clear kDab_160
      have kXb_172 := Lib.hid (kXb_161.out.still hfq)
      clear kXb_161
      have kDb_173 := Lib.hid (kDb_162.out.move hfq)
      clear kDb_162
      have kDbb_174 := Lib.hid (kDbb_163.out.far' hfq id)
      clear kDbb_163
      have kDnb_175 := Lib.hid (bV3'.out.far' hfq id)
      clear bV3'
      have kXc_176 := Lib.hid (kXc_164.out.still hfq)
      clear kXc_164
      have kDn_177 := Lib.hid (kDn_165.out.move hfq)
      clear kDn_165
      have kDm_178 := Lib.hid (kDm_166.out.move hfq)
      clear kDm_166
      have hfw_179 := Lib.hid (hfw_167.out.then hfq)
      clear hfw_167
      clear hfq
      clear c0Dnb c1Dnb
      have K_180 := awake03_any _ (kT_170.out)
      go_wp2_with fail
      refine K_180.mono ?_
      rintro e w_181 ⟨rfl, hfq⟩
      clear K_180
      have kT_182 := Lib.hid (kT_170.out.still hfq)
      clear kT_170
      have kDab_183 := Lib.hid (kDab_171.out.far' hfq id)
      clear kDab_171
      have kXb_184 := Lib.hid (kXb_172.out.still hfq)
      clear kXb_172
      have kDb_185 := Lib.hid (kDb_173.out.move hfq)
      clear kDb_173
      have kDbb_186 := Lib.hid (kDbb_174.out.far' hfq id)
      clear kDbb_174
      have kDnb_187 := Lib.hid (kDnb_175.out.far' hfq id)
      clear kDnb_175
      have kXc_188 := Lib.hid (kXc_176.out.still hfq)
      clear kXc_176
      have kDn_189 := Lib.hid (kDn_177.out.move hfq)
      clear kDn_177
      have kDm_190 := Lib.hid (kDm_178.out.move hfq)
      clear kDm_178
      have hfw_191 := Lib.hid (hfw_179.out.then hfq)
      clear hfw_179
      clear hfq
      go_wp2_with fail
      go_ret
      exact ⟨rfl, hfw_191.out⟩
    · have a1 : bits .and .i64 x3 1 = 0 := b1
      have a2 : bits .and .i64 x3 2 = 2 := b2
      have a3 : bits .and .i64 x3 3 = 2 := b3
      clear b1 b2 b3 hr4
      have szMc := Lib.hid (hfS.out.size)
      have c0B4 : Wz.cell? ⟨h4, 0, none⟩ = some (.int .i64 sci) := (kB4.out).cell 0
      have c1B4 : Wz.cell? ⟨h4, 1, none⟩ = some (.slice aoc nc kc) := (kB4.out).cell 1
      have MD := made03_sep sci aoc nc kc Rc Cc hnc hmc Wz kCc.out
      obtain ⟨Sc, hSc⟩ : ∃ S, ofS sci nc Rc Cc = S := ⟨_, rfl⟩
      obtain ⟨Mc, hMc⟩ : ∃ M, ofM sci nc Rc Cc = M := ⟨_, rfl⟩
      rw [hSc, hMc] at MD
      clear hSc hMc
      have K_1 := MD
      go_wp2_with fail
      refine K_1.mono ?_
      rintro e w_2 ⟨vc, dc, rfl, Fc, hXc, hDc, ⟨bc, hbc, hDnc, hFc⟩, hfc⟩
      clear K_1
      have kB4_3 := Lib.hid (kB4.out.far' hfc id)
      clear kB4
      have kB5_4 := Lib.hid (kB5.out.far' hfc id)
      clear kB5
      have kB6_5 := Lib.hid (kB6.out.far' hfc id)
      clear kB6
      have kT_6 := Lib.hid (kT.out.still hfc)
      clear kT
      have kCc_7 := Lib.hid (kCc.out.move hfc)
      clear kCc
      have kCa_8 := Lib.hid (kCa.out.move hfc)
      clear kCa
      have kCb_9 := Lib.hid (kCb.out.move hfc)
      clear kCb
      have hfw_10 := Lib.hid (hfS.out.then hfc)
      clear hfS
      clear MD hfc
      have hFc' := Lib.hid hFc
      have hbc' := Lib.hid hbc
      clear hFc hbc
      clear c0B4 c1B4
      have kXc := Lib.hid hXc
      clear hXc
      have kDc := Lib.hid hDc
      obtain ⟨aocd, cpc, rfl, _⟩ := hDc
      obtain ⟨mc, hmmc⟩ : ∃ m, (cellsL Mc Sc).length = m := ⟨_, rfl⟩
      rw [hmmc] at kDc hDnc ⊢
      clear hmmc
      have hDnc' := Lib.hid hDnc
      clear hDnc
      have szBc := Lib.hid (hfw_10.out.size)
      obtain ⟨h10, eh10⟩ : ∃ h, h = w_2.heap.size := ⟨_, rfl⟩
      obtain ⟨Wc, eWc⟩ : ∃ V, V = w_2.alloc (.cells #[.int .i64 (Sc : Nat), .slice aocd mc cpc] 28) := ⟨_, rfl⟩
      have fWc : Far (fun _ => False) w_2 Wc := eWc ▸ (Far.refl _ w_2).alloc _
      have bh10 : Bk Wc h10 28 #[.int .i64 (Sc : Nat), .slice aocd mc cpc] := eWc ▸ Bk.new eh10
      have eh10' := Lib.hid eh10
      have eWc' := Lib.hid eWc
      have bh10' := Lib.hid bh10
      clear eh10 eWc bh10
      have kB4_11 := Lib.hid (kB4_3.out.far' fWc id)
      clear kB4_3
      have kB5_12 := Lib.hid (kB5_4.out.far' fWc id)
      clear kB5_4
      have kB6_13 := Lib.hid (kB6_5.out.far' fWc id)
      clear kB6_5
      have kT_14 := Lib.hid (kT_6.out.still fWc)
      clear kT_6
      have kCc_15 := Lib.hid (kCc_7.out.move fWc)
      clear kCc_7
      have kCa_16 := Lib.hid (kCa_8.out.move fWc)
      clear kCa_8
      have kCb_17 := Lib.hid (kCb_9.out.move fWc)
      clear kCb_9
      have kXc_18 := Lib.hid (kXc.out.still fWc)
      clear kXc
      have kDc_19 := Lib.hid (kDc.out.move fWc)
      clear kDc
      have hfw_20 := Lib.hid (hfw_10.out.then fWc)
      clear hfw_10
      clear fWc
      go_upto_region 4 with fail
      rw [← eWc'.out, ← eh10'.out]
      have ltFc := Lib.hid (kXc_18.out).lt
      have kzC := Lib.hid (Nat.le_refl Wc.heap.size)
      have szCa := Lib.hid (Nat.le_refl Wc.heap.size)
      have szMa := Lib.hid (hfw_20.out.size)
      have c0B5 : Wc.cell? ⟨h5, 0, none⟩ = some (.int .i64 sai) := (kB5_12.out).cell 0
      have c1B5 : Wc.cell? ⟨h5, 1, none⟩ = some (.slice aoa na ka) := (kB5_12.out).cell 1
      have MD := made03_sep sai aoa na ka Ra Ca hna hma Wc kCa_16.out
      obtain ⟨Sa, hSa⟩ : ∃ S, ofS sai na Ra Ca = S := ⟨_, rfl⟩
      obtain ⟨Ma, hMa⟩ : ∃ M, ofM sai na Ra Ca = M := ⟨_, rfl⟩
      rw [hSa, hMa] at MD
      clear hSa hMa
      have K_21 := MD
      go_wp2_with fail
      refine K_21.mono ?_
      rintro e w_22 ⟨va, da, rfl, Fa, hXa, hDa, ⟨ba, hba, hDna, hFa⟩, hfa⟩
      clear K_21
      have kB4_23 := Lib.hid (kB4_11.out.far' hfa id)
      clear kB4_11
      have kB5_24 := Lib.hid (kB5_12.out.far' hfa id)
      clear kB5_12
      have kB6_25 := Lib.hid (kB6_13.out.far' hfa id)
      clear kB6_13
      have kT_26 := Lib.hid (kT_14.out.still hfa)
      clear kT_14
      have kCc_27 := Lib.hid (kCc_15.out.move hfa)
      clear kCc_15
      have kCa_28 := Lib.hid (kCa_16.out.move hfa)
      clear kCa_16
      have kCb_29 := Lib.hid (kCb_17.out.move hfa)
      clear kCb_17
      have kXc_30 := Lib.hid (kXc_18.out.still hfa)
      clear kXc_18
      have kDc_31 := Lib.hid (kDc_19.out.move hfa)
      clear kDc_19
      have kDcb_32 := Lib.hid (bh10'.out.far' hfa id)
      clear bh10'
      have hfw_33 := Lib.hid (hfw_20.out.then hfa)
      clear hfw_20
      have kzC_34 := Lib.hid (Nat.le_trans kzC.out hfa.size)
      clear MD hfa
      have hFa' := Lib.hid hFa
      have hba' := Lib.hid hba
      clear hFa hba
      clear c0B5 c1B5
      have kXa := Lib.hid hXa
      clear hXa
      have kDa := Lib.hid hDa
      obtain ⟨aoad, cpa, rfl, _⟩ := hDa
      obtain ⟨ma, hmma⟩ : ∃ m, (cellsL Ma Sa).length = m := ⟨_, rfl⟩
      rw [hmma] at kDa hDna ⊢
      clear hmma
      have hDna' := Lib.hid hDna
      clear hDna
      have szBa := Lib.hid (hfw_33.out.size)
      have ltac := Lib.hid (kDcb_32.out).lt
      obtain ⟨h12, eh12⟩ : ∃ h, h = w_22.heap.size := ⟨_, rfl⟩
      obtain ⟨Wa, eWa⟩ : ∃ V, V = w_22.alloc (.cells #[.int .i64 (Sa : Nat), .slice aoad ma cpa] 28) := ⟨_, rfl⟩
      have fWa : Far (fun _ => False) w_22 Wa := eWa ▸ (Far.refl _ w_22).alloc _
      have bh12 : Bk Wa h12 28 #[.int .i64 (Sa : Nat), .slice aoad ma cpa] := eWa ▸ Bk.new eh12
      have eh12' := Lib.hid eh12
      have eWa' := Lib.hid eWa
      have bh12' := Lib.hid bh12
      clear eh12 eWa bh12
      have kB4_35 := Lib.hid (kB4_23.out.far' fWa id)
      clear kB4_23
      have kB5_36 := Lib.hid (kB5_24.out.far' fWa id)
      clear kB5_24
      have kB6_37 := Lib.hid (kB6_25.out.far' fWa id)
      clear kB6_25
      have kT_38 := Lib.hid (kT_26.out.still fWa)
      clear kT_26
      have kCc_39 := Lib.hid (kCc_27.out.move fWa)
      clear kCc_27
      have kCa_40 := Lib.hid (kCa_28.out.move fWa)
      clear kCa_28
      have kCb_41 := Lib.hid (kCb_29.out.move fWa)
      clear kCb_29
      have kXc_42 := Lib.hid (kXc_30.out.still fWa)
      clear kXc_30
      have kDc_43 := Lib.hid (kDc_31.out.move fWa)
      clear kDc_31
      have kDcb_44 := Lib.hid (kDcb_32.out.far' fWa id)
      clear kDcb_32
      have kXa_45 := Lib.hid (kXa.out.still fWa)
      clear kXa
      have kDa_46 := Lib.hid (kDa.out.move fWa)
      clear kDa
      have hfw_47 := Lib.hid (hfw_33.out.then fWa)
      clear hfw_33
      have kzC_48 := Lib.hid (Nat.le_trans kzC_34.out fWa.size)
      clear fWa
      go_upto_region 5 with fail
      rw [← eWa'.out, ← eh12'.out]
      have neac : h12 ≠ h10 := by have := ltac.out; have := eh12'.out; omega
      have neac' : h10 ≠ h12 := fun e => neac e.symm
      have ltFa := Lib.hid (kXa_45.out).lt
      have szCb := Lib.hid (kzC_48.out)
      have szMb := Lib.hid (hfw_47.out.size)
      have c0B6 : Wa.cell? ⟨h6, 0, none⟩ = some (.int .i64 sbi) := (kB6_37.out).cell 0
      have c1B6 : Wa.cell? ⟨h6, 1, none⟩ = some (.slice aob nb kb) := (kB6_37.out).cell 1
      have MD := made03_sep sbi aob nb kb Rb Cb hnb hmb Wa kCb_41.out
      obtain ⟨Sb, hSb⟩ : ∃ S, ofS sbi nb Rb Cb = S := ⟨_, rfl⟩
      obtain ⟨Mb, hMb⟩ : ∃ M, ofM sbi nb Rb Cb = M := ⟨_, rfl⟩
      rw [hSb, hMb] at MD
      clear hSb hMb
      have K_49 := MD
      go_wp2_with fail
      refine K_49.mono ?_
      rintro e w_50 ⟨vb, db, rfl, Fb, hXb, hDb, ⟨bb, hbb, hDnb, hFb⟩, hfb⟩
      clear K_49
      have kB4_51 := Lib.hid (kB4_35.out.far' hfb id)
      clear kB4_35
      have kB5_52 := Lib.hid (kB5_36.out.far' hfb id)
      clear kB5_36
      have kB6_53 := Lib.hid (kB6_37.out.far' hfb id)
      clear kB6_37
      have kT_54 := Lib.hid (kT_38.out.still hfb)
      clear kT_38
      have kCc_55 := Lib.hid (kCc_39.out.move hfb)
      clear kCc_39
      have kCa_56 := Lib.hid (kCa_40.out.move hfb)
      clear kCa_40
      have kCb_57 := Lib.hid (kCb_41.out.move hfb)
      clear kCb_41
      have kXc_58 := Lib.hid (kXc_42.out.still hfb)
      clear kXc_42
      have kDc_59 := Lib.hid (kDc_43.out.move hfb)
      clear kDc_43
      have kDcb_60 := Lib.hid (kDcb_44.out.far' hfb id)
      clear kDcb_44
      have kXa_61 := Lib.hid (kXa_45.out.still hfb)
      clear kXa_45
      have kDa_62 := Lib.hid (kDa_46.out.move hfb)
      clear kDa_46
      have kDab_63 := Lib.hid (bh12'.out.far' hfb id)
      clear bh12'
      have hfw_64 := Lib.hid (hfw_47.out.then hfb)
      clear hfw_47
      have kzC_65 := Lib.hid (Nat.le_trans kzC_48.out hfb.size)
      clear MD hfb
      have hFb' := Lib.hid hFb
      have hbb' := Lib.hid hbb
      clear hFb hbb
      clear c0B6 c1B6
      have kXb := Lib.hid hXb
      clear hXb
      have kDb := Lib.hid hDb
      obtain ⟨aobd, cpb, rfl, _⟩ := hDb
      obtain ⟨mb, hmmb⟩ : ∃ m, (cellsL Mb Sb).length = m := ⟨_, rfl⟩
      rw [hmmb] at kDb hDnb ⊢
      clear hmmb
      have hDnb' := Lib.hid hDnb
      clear hDnb
      have szBb := Lib.hid (hfw_64.out.size)
      have ltbc := Lib.hid (kDcb_60.out).lt
      have ltba := Lib.hid (kDab_63.out).lt
      obtain ⟨h14, eh14⟩ : ∃ h, h = w_50.heap.size := ⟨_, rfl⟩
      obtain ⟨Wb, eWb⟩ : ∃ V, V = w_50.alloc (.cells #[.int .i64 (Sb : Nat), .slice aobd mb cpb] 28) := ⟨_, rfl⟩
      have fWb : Far (fun _ => False) w_50 Wb := eWb ▸ (Far.refl _ w_50).alloc _
      have bh14 : Bk Wb h14 28 #[.int .i64 (Sb : Nat), .slice aobd mb cpb] := eWb ▸ Bk.new eh14
      have eh14' := Lib.hid eh14
      have eWb' := Lib.hid eWb
      have bh14' := Lib.hid bh14
      clear eh14 eWb bh14
      have kB4_66 := Lib.hid (kB4_51.out.far' fWb id)
      clear kB4_51
      have kB5_67 := Lib.hid (kB5_52.out.far' fWb id)
      clear kB5_52
      have kB6_68 := Lib.hid (kB6_53.out.far' fWb id)
      clear kB6_53
      have kT_69 := Lib.hid (kT_54.out.still fWb)
      clear kT_54
      have kCc_70 := Lib.hid (kCc_55.out.move fWb)
      clear kCc_55
      have kCa_71 := Lib.hid (kCa_56.out.move fWb)
      clear kCa_56
      have kCb_72 := Lib.hid (kCb_57.out.move fWb)
      clear kCb_57
      have kXc_73 := Lib.hid (kXc_58.out.still fWb)
      clear kXc_58
      have kDc_74 := Lib.hid (kDc_59.out.move fWb)
      clear kDc_59
      have kDcb_75 := Lib.hid (kDcb_60.out.far' fWb id)
      clear kDcb_60
      have kXa_76 := Lib.hid (kXa_61.out.still fWb)
      clear kXa_61
      have kDa_77 := Lib.hid (kDa_62.out.move fWb)
      clear kDa_62
      have kDab_78 := Lib.hid (kDab_63.out.far' fWb id)
      clear kDab_63
      have kXb_79 := Lib.hid (kXb.out.still fWb)
      clear kXb
      have kDb_80 := Lib.hid (kDb.out.move fWb)
      clear kDb
      have hfw_81 := Lib.hid (hfw_64.out.then fWb)
      clear hfw_64
      have kzC_82 := Lib.hid (Nat.le_trans kzC_65.out fWb.size)
      clear fWb
      go_upto_region 6 with fail
      rw [← eWb'.out, ← eh14'.out]
      have nebc : h14 ≠ h10 := by have := ltbc.out; have := eh14'.out; omega
      have nebc' : h10 ≠ h14 := fun e => nebc e.symm
      have neba : h14 ≠ h12 := by have := ltba.out; have := eh14'.out; omega
      have neba' : h12 ≠ h14 := fun e => neba e.symm
      have ltFb := Lib.hid (kXb_79.out).lt
      clear kzC_82
      have szQc := Lib.hid (show W.heap.size ≤ h10 by have h1 := szBc.out; have h2 := eh10'.out; omega)
      have szQa := Lib.hid (show W.heap.size ≤ h12 by have h1 := szBa.out; have h2 := eh12'.out; omega)
      have szQb := Lib.hid (show W.heap.size ≤ h14 by have h1 := szBb.out; have h2 := eh14'.out; omega)
      have c0Dcb : Wb.cell? ⟨h10, 0, none⟩ = some (.int .i64 (Sc : Nat)) := (kDcb_75.out).cell 0
      have c1Dcb : Wb.cell? ⟨h10, 1, none⟩ = some (.slice aocd mc cpc) := (kDcb_75.out).cell 1
      have c0Dbb : Wb.cell? ⟨h14, 0, none⟩ = some (.int .i64 (Sb : Nat)) := (bh14'.out).cell 0
      have c1Dbb : Wb.cell? ⟨h14, 1, none⟩ = some (.slice aobd mb cpb) := (bh14'.out).cell 1
      have fr0 := (bh14'.out).free 0
      have fr1 := (bh14'.out).free 1
      obtain ⟨V4, eV4⟩ : ∃ V, V = ((Wb.setCell ⟨h14, 0, none⟩ (.int .i64 (Sc : Nat))).setCell ⟨h14, 1, none⟩ (.slice aocd mc cpc)).drew := ⟨_, rfl⟩
      have fV4 : Far (fun q => q = h14) Wb V4 := eV4 ▸ (((Far.refl (fun q => q = h14) Wb).set ⟨h14, 0, none⟩ _ fun _ => rfl).set ⟨h14, 1, none⟩ _ fun _ => rfl).drew
      have bV4 : Bk V4 h14 28 #[.int .i64 (Sc : Nat), .slice aocd mc cpc] := eV4 ▸ (((bh14'.out).set 0 _).set 1 _ : Bk ((Wb.setCell ⟨h14, 0, none⟩ (.int .i64 (Sc : Nat))).setCell ⟨h14, 1, none⟩ (.slice aocd mc cpc)) h14 _ _)
      have eV4' := Lib.hid eV4
      have bV4' := Lib.hid bV4
      have fV4' := Lib.hid fV4
      clear eV4 bV4 fV4
      go_upto_region 9 with fail
      go_region
      rw [← eV4'.out]
      clear c0Dcb c1Dcb
      clear c0Dbb c1Dbb
      clear fr0 fr1
      clear kB4_66
      clear kB5_67
      clear kB6_68
      have kT_86 := Lib.hid (kT_69.out.far fV4'.out (fun (e : _ = h14) => by have := hT0.out; have := szQb.out; omega))
      clear kCc_70
      clear kCa_71
      clear kCb_72
      have kXc_90 := Lib.hid (kXc_73.out.kept fV4'.out fun k hk (e : k = h14) => HasF.notBk kXc_73.out (bh14'.out) (by decide) (by decide) (by decide) (e ▸ hk))
      have kDc_91 := Lib.hid (kDc_74.out.box (bh14'.out) fV4'.out)
      have kDcb_92 := Lib.hid (kDcb_75.out.far' fV4'.out (fun e => absurd e nebc'))
      have kXa_93 := Lib.hid (kXa_76.out.kept fV4'.out fun k hk (e : k = h14) => HasF.notBk kXa_76.out (bh14'.out) (by decide) (by decide) (by decide) (e ▸ hk))
      have kDa_94 := Lib.hid (kDa_77.out.box (bh14'.out) fV4'.out)
      have kDab_95 := Lib.hid (kDab_78.out.far' fV4'.out (fun e => absurd e neba'))
      have kXb_96 := Lib.hid (kXb_79.out.kept fV4'.out fun k hk (e : k = h14) => HasF.notBk kXb_79.out (bh14'.out) (by decide) (by decide) (by decide) (e ▸ hk))
      have kDb_97 := Lib.hid (kDb_80.out.box (bh14'.out) fV4'.out)
      have hfw_98 := Lib.hid (hfw_81.out.trans fV4'.out fun k hk (e : k = h14) => by have := szQb.out; omega)
      have hFT := Lib.hid (show ¬ Fc 0 from fun h => by have h1 := (hFc'.out _ h).1; have h2 := szMc.out; have h3 := hT0.out; omega)
      have ML := fun (V : World) (h1 : HasF V vc Fc Sc Mc) (h2 : HasF V va Fa Sa Ma) (h3 : HasF V vc Fc Sc Mc) (h4 : Tab V) => pInto_any h1 h2 h3 h4
      have RL := fun (V : World) (h1 : Dm V (.agg #[.int .i64 (Sc : Nat), .slice aocd mc cpc]) Sc Mc) (h2 : Dm V (.agg #[.int .i64 (Sa : Nat), .slice aoad ma cpa]) Sa Ma) (h3 : Dm V (.agg #[.int .i64 (Sc : Nat), .slice aocd mc cpc]) Sc Mc) => rPInto_any h1 h2 h3
      obtain ⟨P, hP⟩ : ∃ P : Prop, (pinE Sc Sa Sc = 0 ∧ ∃ r c, mulM Ma Mc r c = true ∧ Mc r c = false) = P := ⟨_, rfl⟩
      obtain ⟨Mn, hMn⟩ : ∃ M, (if pinE Sc Sa Sc = 0 then joinM Mc (mulM Ma Mc) else Mc) = M := ⟨_, rfl⟩
      obtain ⟨E, hE⟩ : ∃ E, pinE Sc Sa Sc = E := ⟨_, rfl⟩
      rw [hP, hMn, hE] at ML RL
      have hMn' := Lib.hid hMn
      have hE' := Lib.hid hE
      clear hP hMn hE
      have ML' := Lib.hid ML
      have RL' := Lib.hid RL
      clear ML RL
      have Plc := Lib.hid (Dm.place (kDc_91.out) hDnc'.out)
      have Pla := Lib.hid (Dm.place (kDa_94.out) hDna'.out)
      have ltVa := Lib.hid (kXa_93.out).lt
      have szV := Lib.hid (hfw_98.out.size)
      have K_99 := ML'.out _ (kXc_90.out) (kXa_93.out) (kXc_90.out) (kT_86.out)
      go_wp2_with fail
      refine K_99.mono ?_
      rintro e w_100 ⟨mo1, rfl, hmo1, Fn, hXn, hmv⟩
      clear K_99
      have hmo1' := Lib.hid hmo1
      have hmv' := Lib.hid hmv.far
      have hmr' := Lib.hid hmv.more
      clear hmo1 hmv
      have kT_101 := Lib.hid (kT_86.out.far hmv'.out hFT.out)
      have kDc_102 := Lib.hid (kDc_91.out.pfar Plc.out hmv'.out (fun k h => .inl (hFc'.out k h).2))
      have kDcb_103 := Lib.hid (kDcb_92.out.far' hmv'.out (HasF.notBk (kXc_90.out) (kDcb_92.out) (by decide) (by decide) (by decide)))
      have kXa_104 := Lib.hid (kXa_93.out.kept hmv'.out (fun k hk h => by have h1 := ltFc.out k h; have h2 := (hFa'.out k hk).1; have h3 := szCa.out; omega))
      have kDa_105 := Lib.hid (kDa_94.out.pfar Pla.out hmv'.out (fun k h => .inl (by have h1 := ltFc.out k h; have h2 := hba'.out; have h3 := szCa.out; omega)))
      have kDab_106 := Lib.hid (kDab_95.out.far' hmv'.out (HasF.notBk (kXc_90.out) (kDab_95.out) (by decide) (by decide) (by decide)))
      have kDbb_107 := Lib.hid (bV4'.out.far' hmv'.out (HasF.notBk (kXc_90.out) (bV4'.out) (by decide) (by decide) (by decide)))
      have hfw_108 := Lib.hid (hfw_98.out.trans hmv'.out (fun k hk h => by have h1 := (hFc'.out k h).1; have h2 := szMc.out; omega))
      have kXn0 := Lib.hid hXn
      clear hXn ML'
      have ltn := Lib.hid (kXn0.out).lt
      have c0Dcb : w_100.cell? ⟨h10, 0, none⟩ = some (.int .i64 (Sc : Nat)) := (kDcb_103.out).cell 0
      have c1Dcb : w_100.cell? ⟨h10, 1, none⟩ = some (.slice aocd mc cpc) := (kDcb_103.out).cell 1
      have c0Dab : w_100.cell? ⟨h12, 0, none⟩ = some (.int .i64 (Sa : Nat)) := (kDab_106.out).cell 0
      have c1Dab : w_100.cell? ⟨h12, 1, none⟩ = some (.slice aoad ma cpa) := (kDab_106.out).cell 1
      have c0Dbb : w_100.cell? ⟨h14, 0, none⟩ = some (.int .i64 (Sc : Nat)) := (kDbb_107.out).cell 0
      have c1Dbb : w_100.cell? ⟨h14, 1, none⟩ = some (.slice aocd mc cpc) := (kDbb_107.out).cell 1
      have K_109 := RL'.out _ (kDc_102.out) (kDa_105.out) (kDc_102.out)
      go_wp2_with fail
      refine K_109.mono ?_
      rintro e w_110 ⟨dn, mo9, rfl, hDn, hmo9, hor, hfn⟩
      clear K_109
      have kT_111 := Lib.hid (kT_101.out.still hfn)
      clear kT_101
      have kDc_112 := Lib.hid (kDc_102.out.move hfn)
      clear kDc_102
      have kDcb_113 := Lib.hid (kDcb_103.out.far' hfn id)
      clear kDcb_103
      have kXa_114 := Lib.hid (kXa_104.out.still hfn)
      clear kXa_104
      have kDa_115 := Lib.hid (kDa_105.out.move hfn)
      clear kDa_105
      have kDab_116 := Lib.hid (kDab_106.out.far' hfn id)
      clear kDab_106
      have kDbb_117 := Lib.hid (kDbb_107.out.far' hfn id)
      clear kDbb_107
      have kXc_118 := Lib.hid (kXn0.out.still hfn)
      clear kXn0
      have hfw_119 := Lib.hid (hfw_108.out.then hfn)
      clear hfw_108
      clear RL' hfn
      obtain rfl : mo1 = mo9 := Bool.eq_iff_iff.2 (hmo1'.out.trans hmo9.symm)
      clear hmo9 hmo1'
      clear c0Dcb c1Dcb c0Dab c1Dab c0Dbb c1Dbb
      have kDn := Lib.hid hDn
      obtain ⟨aond, cpn, rfl, _⟩ := hDn
      obtain ⟨mn, hmmn⟩ : ∃ m, (cellsL Mn Sc).length = m := ⟨_, rfl⟩
      rw [hmmn] at kDn hor ⊢
      clear hmmn
      have hor' := Lib.hid hor
      clear hor
      have Pln := Lib.hid (show (Place (.agg #[.int .i64 (Sc : Nat), .slice aond mn cpn]) bc V4.heap.size) ∨ Place (.agg #[.int .i64 (Sc : Nat), .slice aond mn cpn]) w_100.heap.size w_110.heap.size from hor'.out.elim (fun e => .inl (by rw [e]; exact Plc.out)) fun h => .inr (Dm.place (kDn.out) h))
      have szBn := Lib.hid (hfw_119.out.size)
      have ltnc := Lib.hid (kDcb_113.out).lt
      have ltna := Lib.hid (kDab_116.out).lt
      have ltnb := Lib.hid (kDbb_117.out).lt
      obtain ⟨h17, eh17⟩ : ∃ h, h = w_110.heap.size := ⟨_, rfl⟩
      obtain ⟨Wn, eWn⟩ : ∃ V, V = w_110.alloc (.cells #[.int .i64 (Sc : Nat), .slice aond mn cpn] 28) := ⟨_, rfl⟩
      have fWn : Far (fun _ => False) w_110 Wn := eWn ▸ (Far.refl _ w_110).alloc _
      have bh17 : Bk Wn h17 28 #[.int .i64 (Sc : Nat), .slice aond mn cpn] := eWn ▸ Bk.new eh17
      have eh17' := Lib.hid eh17
      have eWn' := Lib.hid eWn
      have bh17' := Lib.hid bh17
      clear eh17 eWn bh17
      have kT_120 := Lib.hid (kT_111.out.still fWn)
      clear kT_111
      have kDc_121 := Lib.hid (kDc_112.out.move fWn)
      clear kDc_112
      have kDcb_122 := Lib.hid (kDcb_113.out.far' fWn id)
      clear kDcb_113
      have kXa_123 := Lib.hid (kXa_114.out.still fWn)
      clear kXa_114
      have kDa_124 := Lib.hid (kDa_115.out.move fWn)
      clear kDa_115
      have kDab_125 := Lib.hid (kDab_116.out.far' fWn id)
      clear kDab_116
      have kDbb_126 := Lib.hid (kDbb_117.out.far' fWn id)
      clear kDbb_117
      have kXc_127 := Lib.hid (kXc_118.out.still fWn)
      clear kXc_118
      have kDn_128 := Lib.hid (kDn.out.move fWn)
      clear kDn
      have hfw_129 := Lib.hid (hfw_119.out.then fWn)
      clear hfw_119
      clear fWn
      go_upto_region 12 with fail
      rw [← eWn'.out, ← eh17'.out]
      have nenc : h17 ≠ h10 := by have := ltnc.out; have := eh17'.out; omega
      have nenc' : h10 ≠ h17 := fun e => nenc e.symm
      have nena : h17 ≠ h12 := by have := ltna.out; have := eh17'.out; omega
      have nena' : h12 ≠ h17 := fun e => nena e.symm
      have nenb : h17 ≠ h14 := by have := ltnb.out; have := eh17'.out; omega
      have nenb' : h14 ≠ h17 := fun e => nenb e.symm
      have szQn := Lib.hid (show W.heap.size ≤ h17 by have h1 := szBn.out; have h2 := eh17'.out; omega)
      have ML := fun (V : World) (h1 : HasF V vc Fn Sc Mn) (h2 : (HasF V va Fa Sa Ma)) (h3 : (HasF V vc Fn Sc Mn)) (h4 : Tab V) => pInto_any h1 h2 h3 h4
      have RL := fun (V : World) (h1 : Dm V (.agg #[.int .i64 (Sc : Nat), .slice aond mn cpn]) Sc Mn) (h2 : Dm V (.agg #[.int .i64 (Sa : Nat), .slice aoad ma cpa]) Sa Ma) (h3 : Dm V (.agg #[.int .i64 (Sc : Nat), .slice aond mn cpn]) Sc Mn) => rPInto_any h1 h2 h3
      obtain ⟨P2, hP⟩ : ∃ P : Prop, (pinE Sc Sa Sc = 0 ∧ ∃ r c, mulM Ma Mn r c = true ∧ Mn r c = false) = P := ⟨_, rfl⟩
      obtain ⟨Mm, hMm⟩ : ∃ M, (if pinE Sc Sa Sc = 0 then joinM Mn (mulM Ma Mn) else Mn) = M := ⟨_, rfl⟩
      rw [hP, hMm, hE'.out] at ML RL
      clear hP hMm
      have RL' := Lib.hid RL
      clear RL
      have ML' := Lib.hid ML
      clear ML
      have K_130 := ML'.out _ (kXc_127.out) (kXa_123.out) (kXc_127.out) (kT_120.out)
      go_wp2_with fail
      refine K_130.mono ?_
      rintro e w_131 ⟨mo2, rfl, hmo2, F2, hX2, hmv⟩
      clear K_130
      have hmo2' := Lib.hid hmo2
      have hnv' := Lib.hid hmv.far
      clear hmo2 hmv
      have kDn_132 := Lib.hid (show Dm w_131 (.agg #[.int .i64 (Sc : Nat), .slice aond mn cpn]) Sc Mn from Pln.out.elim (fun p => kDn_128.out.pfar p hnv'.out fun k h => (hmr'.out k h).imp (fun h => (hFc'.out k h).2) id) fun p => kDn_128.out.pfar p hnv'.out fun k h => .inl (ltn.out k h))
      have kT_133 := Lib.hid (kT_120.out.far hnv'.out (fun h => by rcases hmr'.out _ h with h | h; exact hFT.out h; have h3 := hT0.out; have h4 := szV.out; omega))
      clear kDc_121
      clear kDcb_122
      have kXa_134 := Lib.hid (kXa_123.out.kept hnv'.out (fun k hk h => by rcases hmr'.out k h with h | h; have h1 := ltFc.out k h; have h2 := (hFa'.out k hk).1; have h3 := szCa.out; omega; have h4 := ltVa.out k hk; omega))
      have kDa_135 := Lib.hid (kDa_124.out.pfar Pla.out hnv'.out (fun k h => (hmr'.out k h).imp (fun h => by have h1 := ltFc.out k h; have h2 := hba'.out; have h3 := szCa.out; omega) id))
      have kDab_136 := Lib.hid (kDab_125.out.far' hnv'.out (HasF.notBk (kXc_127.out) (kDab_125.out) (by decide) (by decide) (by decide)))
      have kDbb_137 := Lib.hid (kDbb_126.out.far' hnv'.out (HasF.notBk (kXc_127.out) (kDbb_126.out) (by decide) (by decide) (by decide)))
      have kDnb_138 := Lib.hid (bh17'.out.far' hnv'.out (HasF.notBk (kXc_127.out) (bh17'.out) (by decide) (by decide) (by decide)))
      have hfw_139 := Lib.hid (hfw_129.out.trans hnv'.out (fun k hk h => by rcases hmr'.out k h with h | h; have h1 := (hFc'.out k h).1; have h2 := szMc.out; omega; have h4 := szV.out; omega))
      have kXn2 := Lib.hid hX2
      clear hX2 ML'
      have hbb : (mo1 != mo1) = false := by cases mo1 <;> rfl
      have c0Dnb : w_131.cell? ⟨h17, 0, none⟩ = some (.int .i64 (Sc : Nat)) := (kDnb_138.out).cell 0
      have c1Dnb : w_131.cell? ⟨h17, 1, none⟩ = some (.slice aond mn cpn) := (kDnb_138.out).cell 1
      have c0Dbb : w_131.cell? ⟨h14, 0, none⟩ = some (.int .i64 (Sc : Nat)) := (kDbb_137.out).cell 0
      have c1Dbb : w_131.cell? ⟨h14, 1, none⟩ = some (.slice aocd mc cpc) := (kDbb_137.out).cell 1
      have fr0 := (kDbb_137.out).free 0
      have fr1 := (kDbb_137.out).free 1
      obtain ⟨V5, eV5⟩ : ∃ V, V = (w_131.setCell ⟨h14, 0, none⟩ (.int .i64 (Sc : Nat))).setCell ⟨h14, 1, none⟩ (.slice aond mn cpn) := ⟨_, rfl⟩
      have fV5 : Far (fun q => q = h14) w_131 V5 := eV5 ▸ (((Far.refl (fun q => q = h14) w_131).set ⟨h14, 0, none⟩ _ fun _ => rfl).set ⟨h14, 1, none⟩ _ fun _ => rfl)
      have bV5 : Bk V5 h14 28 #[.int .i64 (Sc : Nat), .slice aond mn cpn] := eV5 ▸ (((kDbb_137.out).set 0 _).set 1 _ : Bk ((w_131.setCell ⟨h14, 0, none⟩ (.int .i64 (Sc : Nat))).setCell ⟨h14, 1, none⟩ (.slice aond mn cpn)) h14 _ _)
      have eV5' := Lib.hid eV5
      have bV5' := Lib.hid bV5
      have fV5' := Lib.hid fV5
      clear eV5 bV5 fV5
      go_upto_region 21 with fail
      rw [← eV5'.out]
      clear c0Dnb c1Dnb
      clear c0Dbb c1Dbb
      clear fr0 fr1
      have kT_140 := Lib.hid (kT_133.out.far fV5'.out (fun (e : _ = h14) => by have := hT0.out; have := szQb.out; omega))
      have kXa_141 := Lib.hid (kXa_134.out.kept fV5'.out fun k hk (e : k = h14) => HasF.notBk kXa_134.out (kDbb_137.out) (by decide) (by decide) (by decide) (e ▸ hk))
      have kDa_142 := Lib.hid (kDa_135.out.box (kDbb_137.out) fV5'.out)
      have kDab_143 := Lib.hid (kDab_136.out.far' fV5'.out (fun e => absurd e neba'))
      have kDnb_144 := Lib.hid (kDnb_138.out.far' fV5'.out (fun e => absurd e nenb))
      have kXc_145 := Lib.hid (kXn2.out.kept fV5'.out fun k hk (e : k = h14) => HasF.notBk kXn2.out (kDbb_137.out) (by decide) (by decide) (by decide) (e ▸ hk))
      have kDn_146 := Lib.hid (kDn_132.out.box (kDbb_137.out) fV5'.out)
      have hfw_147 := Lib.hid (hfw_139.out.trans fV5'.out fun k hk (e : k = h14) => by have := szQb.out; omega)
      have c0Dnb : V5.cell? ⟨h17, 0, none⟩ = some (.int .i64 (Sc : Nat)) := (kDnb_144.out).cell 0
      have c1Dnb : V5.cell? ⟨h17, 1, none⟩ = some (.slice aond mn cpn) := (kDnb_144.out).cell 1
      have c0Dab : V5.cell? ⟨h12, 0, none⟩ = some (.int .i64 (Sa : Nat)) := (kDab_143.out).cell 0
      have c1Dab : V5.cell? ⟨h12, 1, none⟩ = some (.slice aoad ma cpa) := (kDab_143.out).cell 1
      have c0Dbb : V5.cell? ⟨h14, 0, none⟩ = some (.int .i64 (Sc : Nat)) := (bV5'.out).cell 0
      have c1Dbb : V5.cell? ⟨h14, 1, none⟩ = some (.slice aond mn cpn) := (bV5'.out).cell 1
      have K_148 := RL'.out _ (kDn_146.out) (kDa_142.out) (kDn_146.out)
      go_wp2_with fail
      refine K_148.mono ?_
      rintro e w_149 ⟨dm9, mo9, rfl, hDm, hmo9, _, hfn⟩
      clear K_148
      have kT_150 := Lib.hid (kT_140.out.still hfn)
      clear kT_140
      have kXa_151 := Lib.hid (kXa_141.out.still hfn)
      clear kXa_141
      have kDa_152 := Lib.hid (kDa_142.out.move hfn)
      clear kDa_142
      have kDab_153 := Lib.hid (kDab_143.out.far' hfn id)
      clear kDab_143
      have kDbb_154 := Lib.hid (bV5'.out.far' hfn id)
      clear bV5'
      have kDnb_155 := Lib.hid (kDnb_144.out.far' hfn id)
      clear kDnb_144
      have kXc_156 := Lib.hid (kXc_145.out.still hfn)
      clear kXc_145
      have kDn_157 := Lib.hid (kDn_146.out.move hfn)
      clear kDn_146
      have hfw_158 := Lib.hid (hfw_147.out.then hfn)
      clear hfw_147
      clear RL' hfn
      obtain rfl : mo2 = mo9 := Bool.eq_iff_iff.2 (hmo2'.out.trans hmo9.symm)
      clear hmo9 hmo2'
      clear c0Dnb c1Dnb c0Dab c1Dab c0Dbb c1Dbb
      have kDm := Lib.hid hDm
      obtain ⟨aomd, cpm, rfl, _⟩ := hDm
      obtain ⟨mm, hmmm⟩ : ∃ m, (cellsL Mm Sc).length = m := ⟨_, rfl⟩
      rw [hmmm] at kDm ⊢
      clear hmmm
      have c0Dnb : w_149.cell? ⟨h17, 0, none⟩ = some (.int .i64 (Sc : Nat)) := (kDnb_155.out).cell 0
      have c1Dnb : w_149.cell? ⟨h17, 1, none⟩ = some (.slice aond mn cpn) := (kDnb_155.out).cell 1
      have fr0 := (kDnb_155.out).free 0
      have fr1 := (kDnb_155.out).free 1
      obtain ⟨V6, eV6⟩ : ∃ V, V = (w_149.setCell ⟨h17, 0, none⟩ (.int .i64 (Sc : Nat))).setCell ⟨h17, 1, none⟩ (.slice aomd mm cpm) := ⟨_, rfl⟩
      have fV6 : Far (fun q => q = h17) w_149 V6 := eV6 ▸ (((Far.refl (fun q => q = h17) w_149).set ⟨h17, 0, none⟩ _ fun _ => rfl).set ⟨h17, 1, none⟩ _ fun _ => rfl)
      have bV6 : Bk V6 h17 28 #[.int .i64 (Sc : Nat), .slice aomd mm cpm] := eV6 ▸ (((kDnb_155.out).set 0 _).set 1 _ : Bk ((w_149.setCell ⟨h17, 0, none⟩ (.int .i64 (Sc : Nat))).setCell ⟨h17, 1, none⟩ (.slice aomd mm cpm)) h17 _ _)
      have eV6' := Lib.hid eV6
      have bV6' := Lib.hid bV6
      have fV6' := Lib.hid fV6
      clear eV6 bV6 fV6
      go_upto_region 22 with fail
      rw [← eV6'.out]
      clear c0Dnb c1Dnb
      clear fr0 fr1
      have kT_159 := Lib.hid (kT_150.out.far fV6'.out (fun (e : _ = h17) => by have := hT0.out; have := szQn.out; omega))
      have kXa_160 := Lib.hid (kXa_151.out.kept fV6'.out fun k hk (e : k = h17) => HasF.notBk kXa_151.out (kDnb_155.out) (by decide) (by decide) (by decide) (e ▸ hk))
      have kDa_161 := Lib.hid (kDa_152.out.box (kDnb_155.out) fV6'.out)
      have kDab_162 := Lib.hid (kDab_153.out.far' fV6'.out (fun e => absurd e nena'))
      have kDbb_163 := Lib.hid (kDbb_154.out.far' fV6'.out (fun e => absurd e nenb'))
      have kXc_164 := Lib.hid (kXc_156.out.kept fV6'.out fun k hk (e : k = h17) => HasF.notBk kXc_156.out (kDnb_155.out) (by decide) (by decide) (by decide) (e ▸ hk))
      have kDn_165 := Lib.hid (kDn_157.out.box (kDnb_155.out) fV6'.out)
      have kDm_166 := Lib.hid (kDm.out.box (kDnb_155.out) fV6'.out)
      have hfw_167 := Lib.hid (hfw_158.out.trans fV6'.out fun k hk (e : k = h17) => by have := szQn.out; omega)
      have hbb2 : (mo2 == mo2) = true := by cases mo2 <;> rfl
      have c0Dnb : V6.cell? ⟨h17, 0, none⟩ = some (.int .i64 (Sc : Nat)) := (bV6'.out).cell 0
      have c1Dnb : V6.cell? ⟨h17, 1, none⟩ = some (.slice aomd mm cpm) := (bV6'.out).cell 1
      have K_168 := same03_any (kXc_164.out) (kDm_166.out) (kT_159.out)
      go_wp2_with fail
      refine K_168.mono ?_
      rintro e w_169 ⟨rfl, hfq⟩
      clear K_168
      have kT_170 := Lib.hid (kT_159.out.still hfq)
      clear kT_159
      have kXa_171 := Lib.hid (kXa_160.out.still hfq)
      clear kXa_160
      have kDa_172 := Lib.hid (kDa_161.out.move hfq)
      clear kDa_161
      have kDab_173 := Lib.hid (kDab_162.out.far' hfq id)
      clear kDab_162
      have kDbb_174 := Lib.hid (kDbb_163.out.far' hfq id)
      clear kDbb_163
      have kDnb_175 := Lib.hid (bV6'.out.far' hfq id)
      clear bV6'
      have kXc_176 := Lib.hid (kXc_164.out.still hfq)
      clear kXc_164
      have kDn_177 := Lib.hid (kDn_165.out.move hfq)
      clear kDn_165
      have kDm_178 := Lib.hid (kDm_166.out.move hfq)
      clear kDm_166
      have hfw_179 := Lib.hid (hfw_167.out.then hfq)
      clear hfw_167
      clear hfq
      clear c0Dnb c1Dnb
      have K_180 := awake03_any _ (kT_170.out)
      go_wp2_with fail
      refine K_180.mono ?_
      rintro e w_181 ⟨rfl, hfq⟩
      clear K_180
      have kT_182 := Lib.hid (kT_170.out.still hfq)
      clear kT_170
      have kXa_183 := Lib.hid (kXa_171.out.still hfq)
      clear kXa_171
      have kDa_184 := Lib.hid (kDa_172.out.move hfq)
      clear kDa_172
      have kDab_185 := Lib.hid (kDab_173.out.far' hfq id)
      clear kDab_173
      have kDbb_186 := Lib.hid (kDbb_174.out.far' hfq id)
      clear kDbb_174
      have kDnb_187 := Lib.hid (kDnb_175.out.far' hfq id)
      clear kDnb_175
      have kXc_188 := Lib.hid (kXc_176.out.still hfq)
      clear kXc_176
      have kDn_189 := Lib.hid (kDn_177.out.move hfq)
      clear kDn_177
      have kDm_190 := Lib.hid (kDm_178.out.move hfq)
      clear kDm_178
      have hfw_191 := Lib.hid (hfw_179.out.then hfq)
      clear hfw_179
      clear hfq
      go_wp2_with fail
      go_ret
      exact ⟨rfl, hfw_191.out⟩
    · have a1 : bits .and .i64 x3 1 = 1 := b1
      have a2 : bits .and .i64 x3 2 = 2 := b2
      have a3 : bits .and .i64 x3 3 = 3 := b3
      clear b1 b2 b3 hr4
      have szMc := Lib.hid (hfS.out.size)
      have c0B4 : Wz.cell? ⟨h4, 0, none⟩ = some (.int .i64 sci) := (kB4.out).cell 0
      have c1B4 : Wz.cell? ⟨h4, 1, none⟩ = some (.slice aoc nc kc) := (kB4.out).cell 1
      have MD := made03_sep sci aoc nc kc Rc Cc hnc hmc Wz kCc.out
      obtain ⟨Sc, hSc⟩ : ∃ S, ofS sci nc Rc Cc = S := ⟨_, rfl⟩
      obtain ⟨Mc, hMc⟩ : ∃ M, ofM sci nc Rc Cc = M := ⟨_, rfl⟩
      rw [hSc, hMc] at MD
      clear hSc hMc
      have K_1 := MD
      go_wp2_with fail
      refine K_1.mono ?_
      rintro e w_2 ⟨vc, dc, rfl, Fc, hXc, hDc, ⟨bc, hbc, hDnc, hFc⟩, hfc⟩
      clear K_1
      have kB4_3 := Lib.hid (kB4.out.far' hfc id)
      clear kB4
      have kB5_4 := Lib.hid (kB5.out.far' hfc id)
      clear kB5
      have kB6_5 := Lib.hid (kB6.out.far' hfc id)
      clear kB6
      have kT_6 := Lib.hid (kT.out.still hfc)
      clear kT
      have kCc_7 := Lib.hid (kCc.out.move hfc)
      clear kCc
      have kCa_8 := Lib.hid (kCa.out.move hfc)
      clear kCa
      have kCb_9 := Lib.hid (kCb.out.move hfc)
      clear kCb
      have hfw_10 := Lib.hid (hfS.out.then hfc)
      clear hfS
      clear MD hfc
      have hFc' := Lib.hid hFc
      have hbc' := Lib.hid hbc
      clear hFc hbc
      clear c0B4 c1B4
      have kXc := Lib.hid hXc
      clear hXc
      have kDc := Lib.hid hDc
      obtain ⟨aocd, cpc, rfl, _⟩ := hDc
      obtain ⟨mc, hmmc⟩ : ∃ m, (cellsL Mc Sc).length = m := ⟨_, rfl⟩
      rw [hmmc] at kDc hDnc ⊢
      clear hmmc
      have hDnc' := Lib.hid hDnc
      clear hDnc
      have szBc := Lib.hid (hfw_10.out.size)
      obtain ⟨h10, eh10⟩ : ∃ h, h = w_2.heap.size := ⟨_, rfl⟩
      obtain ⟨Wc, eWc⟩ : ∃ V, V = w_2.alloc (.cells #[.int .i64 (Sc : Nat), .slice aocd mc cpc] 28) := ⟨_, rfl⟩
      have fWc : Far (fun _ => False) w_2 Wc := eWc ▸ (Far.refl _ w_2).alloc _
      have bh10 : Bk Wc h10 28 #[.int .i64 (Sc : Nat), .slice aocd mc cpc] := eWc ▸ Bk.new eh10
      have eh10' := Lib.hid eh10
      have eWc' := Lib.hid eWc
      have bh10' := Lib.hid bh10
      clear eh10 eWc bh10
      have kB4_11 := Lib.hid (kB4_3.out.far' fWc id)
      clear kB4_3
      have kB5_12 := Lib.hid (kB5_4.out.far' fWc id)
      clear kB5_4
      have kB6_13 := Lib.hid (kB6_5.out.far' fWc id)
      clear kB6_5
      have kT_14 := Lib.hid (kT_6.out.still fWc)
      clear kT_6
      have kCc_15 := Lib.hid (kCc_7.out.move fWc)
      clear kCc_7
      have kCa_16 := Lib.hid (kCa_8.out.move fWc)
      clear kCa_8
      have kCb_17 := Lib.hid (kCb_9.out.move fWc)
      clear kCb_9
      have kXc_18 := Lib.hid (kXc.out.still fWc)
      clear kXc
      have kDc_19 := Lib.hid (kDc.out.move fWc)
      clear kDc
      have hfw_20 := Lib.hid (hfw_10.out.then fWc)
      clear hfw_10
      clear fWc
      go_upto_region 4 with fail
      rw [← eWc'.out, ← eh10'.out]
      have ltFc := Lib.hid (kXc_18.out).lt
      have kzC := Lib.hid (Nat.le_refl Wc.heap.size)
      have szCa := Lib.hid (Nat.le_refl Wc.heap.size)
      have szMa := Lib.hid (hfw_20.out.size)
      have c0B5 : Wc.cell? ⟨h5, 0, none⟩ = some (.int .i64 sai) := (kB5_12.out).cell 0
      have c1B5 : Wc.cell? ⟨h5, 1, none⟩ = some (.slice aoa na ka) := (kB5_12.out).cell 1
      have MD := made03_sep sai aoa na ka Ra Ca hna hma Wc kCa_16.out
      obtain ⟨Sa, hSa⟩ : ∃ S, ofS sai na Ra Ca = S := ⟨_, rfl⟩
      obtain ⟨Ma, hMa⟩ : ∃ M, ofM sai na Ra Ca = M := ⟨_, rfl⟩
      rw [hSa, hMa] at MD
      clear hSa hMa
      have K_21 := MD
      go_wp2_with fail
      refine K_21.mono ?_
      rintro e w_22 ⟨va, da, rfl, Fa, hXa, hDa, ⟨ba, hba, hDna, hFa⟩, hfa⟩
      clear K_21
      have kB4_23 := Lib.hid (kB4_11.out.far' hfa id)
      clear kB4_11
      have kB5_24 := Lib.hid (kB5_12.out.far' hfa id)
      clear kB5_12
      have kB6_25 := Lib.hid (kB6_13.out.far' hfa id)
      clear kB6_13
      have kT_26 := Lib.hid (kT_14.out.still hfa)
      clear kT_14
      have kCc_27 := Lib.hid (kCc_15.out.move hfa)
      clear kCc_15
      have kCa_28 := Lib.hid (kCa_16.out.move hfa)
      clear kCa_16
      have kCb_29 := Lib.hid (kCb_17.out.move hfa)
      clear kCb_17
      have kXc_30 := Lib.hid (kXc_18.out.still hfa)
      clear kXc_18
      have kDc_31 := Lib.hid (kDc_19.out.move hfa)
      clear kDc_19
      have kDcb_32 := Lib.hid (bh10'.out.far' hfa id)
      clear bh10'
      have hfw_33 := Lib.hid (hfw_20.out.then hfa)
      clear hfw_20
      have kzC_34 := Lib.hid (Nat.le_trans kzC.out hfa.size)
      clear MD hfa
      have hFa' := Lib.hid hFa
      have hba' := Lib.hid hba
      clear hFa hba
      clear c0B5 c1B5
      have kXa := Lib.hid hXa
      clear hXa
      have kDa := Lib.hid hDa
      obtain ⟨aoad, cpa, rfl, _⟩ := hDa
      obtain ⟨ma, hmma⟩ : ∃ m, (cellsL Ma Sa).length = m := ⟨_, rfl⟩
      rw [hmma] at kDa hDna ⊢
      clear hmma
      have hDna' := Lib.hid hDna
      clear hDna
      have szBa := Lib.hid (hfw_33.out.size)
      have ltac := Lib.hid (kDcb_32.out).lt
      obtain ⟨h12, eh12⟩ : ∃ h, h = w_22.heap.size := ⟨_, rfl⟩
      obtain ⟨Wa, eWa⟩ : ∃ V, V = w_22.alloc (.cells #[.int .i64 (Sa : Nat), .slice aoad ma cpa] 28) := ⟨_, rfl⟩
      have fWa : Far (fun _ => False) w_22 Wa := eWa ▸ (Far.refl _ w_22).alloc _
      have bh12 : Bk Wa h12 28 #[.int .i64 (Sa : Nat), .slice aoad ma cpa] := eWa ▸ Bk.new eh12
      have eh12' := Lib.hid eh12
      have eWa' := Lib.hid eWa
      have bh12' := Lib.hid bh12
      clear eh12 eWa bh12
      have kB4_35 := Lib.hid (kB4_23.out.far' fWa id)
      clear kB4_23
      have kB5_36 := Lib.hid (kB5_24.out.far' fWa id)
      clear kB5_24
      have kB6_37 := Lib.hid (kB6_25.out.far' fWa id)
      clear kB6_25
      have kT_38 := Lib.hid (kT_26.out.still fWa)
      clear kT_26
      have kCc_39 := Lib.hid (kCc_27.out.move fWa)
      clear kCc_27
      have kCa_40 := Lib.hid (kCa_28.out.move fWa)
      clear kCa_28
      have kCb_41 := Lib.hid (kCb_29.out.move fWa)
      clear kCb_29
      have kXc_42 := Lib.hid (kXc_30.out.still fWa)
      clear kXc_30
      have kDc_43 := Lib.hid (kDc_31.out.move fWa)
      clear kDc_31
      have kDcb_44 := Lib.hid (kDcb_32.out.far' fWa id)
      clear kDcb_32
      have kXa_45 := Lib.hid (kXa.out.still fWa)
      clear kXa
      have kDa_46 := Lib.hid (kDa.out.move fWa)
      clear kDa
      have hfw_47 := Lib.hid (hfw_33.out.then fWa)
      clear hfw_33
      have kzC_48 := Lib.hid (Nat.le_trans kzC_34.out fWa.size)
      clear fWa
      go_upto_region 5 with fail
      rw [← eWa'.out, ← eh12'.out]
      have neac : h12 ≠ h10 := by have := ltac.out; have := eh12'.out; omega
      have neac' : h10 ≠ h12 := fun e => neac e.symm
      have ltFa := Lib.hid (kXa_45.out).lt
      have szCb := Lib.hid (kzC_48.out)
      have szMb := Lib.hid (hfw_47.out.size)
      have c0B6 : Wa.cell? ⟨h6, 0, none⟩ = some (.int .i64 sbi) := (kB6_37.out).cell 0
      have c1B6 : Wa.cell? ⟨h6, 1, none⟩ = some (.slice aob nb kb) := (kB6_37.out).cell 1
      have MD := made03_sep sbi aob nb kb Rb Cb hnb hmb Wa kCb_41.out
      obtain ⟨Sb, hSb⟩ : ∃ S, ofS sbi nb Rb Cb = S := ⟨_, rfl⟩
      obtain ⟨Mb, hMb⟩ : ∃ M, ofM sbi nb Rb Cb = M := ⟨_, rfl⟩
      rw [hSb, hMb] at MD
      clear hSb hMb
      have K_49 := MD
      go_wp2_with fail
      refine K_49.mono ?_
      rintro e w_50 ⟨vb, db, rfl, Fb, hXb, hDb, ⟨bb, hbb, hDnb, hFb⟩, hfb⟩
      clear K_49
      have kB4_51 := Lib.hid (kB4_35.out.far' hfb id)
      clear kB4_35
      have kB5_52 := Lib.hid (kB5_36.out.far' hfb id)
      clear kB5_36
      have kB6_53 := Lib.hid (kB6_37.out.far' hfb id)
      clear kB6_37
      have kT_54 := Lib.hid (kT_38.out.still hfb)
      clear kT_38
      have kCc_55 := Lib.hid (kCc_39.out.move hfb)
      clear kCc_39
      have kCa_56 := Lib.hid (kCa_40.out.move hfb)
      clear kCa_40
      have kCb_57 := Lib.hid (kCb_41.out.move hfb)
      clear kCb_41
      have kXc_58 := Lib.hid (kXc_42.out.still hfb)
      clear kXc_42
      have kDc_59 := Lib.hid (kDc_43.out.move hfb)
      clear kDc_43
      have kDcb_60 := Lib.hid (kDcb_44.out.far' hfb id)
      clear kDcb_44
      have kXa_61 := Lib.hid (kXa_45.out.still hfb)
      clear kXa_45
      have kDa_62 := Lib.hid (kDa_46.out.move hfb)
      clear kDa_46
      have kDab_63 := Lib.hid (bh12'.out.far' hfb id)
      clear bh12'
      have hfw_64 := Lib.hid (hfw_47.out.then hfb)
      clear hfw_47
      have kzC_65 := Lib.hid (Nat.le_trans kzC_48.out hfb.size)
      clear MD hfb
      have hFb' := Lib.hid hFb
      have hbb' := Lib.hid hbb
      clear hFb hbb
      clear c0B6 c1B6
      have kXb := Lib.hid hXb
      clear hXb
      have kDb := Lib.hid hDb
      obtain ⟨aobd, cpb, rfl, _⟩ := hDb
      obtain ⟨mb, hmmb⟩ : ∃ m, (cellsL Mb Sb).length = m := ⟨_, rfl⟩
      rw [hmmb] at kDb hDnb ⊢
      clear hmmb
      have hDnb' := Lib.hid hDnb
      clear hDnb
      have szBb := Lib.hid (hfw_64.out.size)
      have ltbc := Lib.hid (kDcb_60.out).lt
      have ltba := Lib.hid (kDab_63.out).lt
      obtain ⟨h14, eh14⟩ : ∃ h, h = w_50.heap.size := ⟨_, rfl⟩
      obtain ⟨Wb, eWb⟩ : ∃ V, V = w_50.alloc (.cells #[.int .i64 (Sb : Nat), .slice aobd mb cpb] 28) := ⟨_, rfl⟩
      have fWb : Far (fun _ => False) w_50 Wb := eWb ▸ (Far.refl _ w_50).alloc _
      have bh14 : Bk Wb h14 28 #[.int .i64 (Sb : Nat), .slice aobd mb cpb] := eWb ▸ Bk.new eh14
      have eh14' := Lib.hid eh14
      have eWb' := Lib.hid eWb
      have bh14' := Lib.hid bh14
      clear eh14 eWb bh14
      have kB4_66 := Lib.hid (kB4_51.out.far' fWb id)
      clear kB4_51
      have kB5_67 := Lib.hid (kB5_52.out.far' fWb id)
      clear kB5_52
      have kB6_68 := Lib.hid (kB6_53.out.far' fWb id)
      clear kB6_53
      have kT_69 := Lib.hid (kT_54.out.still fWb)
      clear kT_54
      have kCc_70 := Lib.hid (kCc_55.out.move fWb)
      clear kCc_55
      have kCa_71 := Lib.hid (kCa_56.out.move fWb)
      clear kCa_56
      have kCb_72 := Lib.hid (kCb_57.out.move fWb)
      clear kCb_57
      have kXc_73 := Lib.hid (kXc_58.out.still fWb)
      clear kXc_58
      have kDc_74 := Lib.hid (kDc_59.out.move fWb)
      clear kDc_59
      have kDcb_75 := Lib.hid (kDcb_60.out.far' fWb id)
      clear kDcb_60
      have kXa_76 := Lib.hid (kXa_61.out.still fWb)
      clear kXa_61
      have kDa_77 := Lib.hid (kDa_62.out.move fWb)
      clear kDa_62
      have kDab_78 := Lib.hid (kDab_63.out.far' fWb id)
      clear kDab_63
      have kXb_79 := Lib.hid (kXb.out.still fWb)
      clear kXb
      have kDb_80 := Lib.hid (kDb.out.move fWb)
      clear kDb
      have hfw_81 := Lib.hid (hfw_64.out.then fWb)
      clear hfw_64
      have kzC_82 := Lib.hid (Nat.le_trans kzC_65.out fWb.size)
      clear fWb
      go_upto_region 6 with fail
      rw [← eWb'.out, ← eh14'.out]
      have nebc : h14 ≠ h10 := by have := ltbc.out; have := eh14'.out; omega
      have nebc' : h10 ≠ h14 := fun e => nebc e.symm
      have neba : h14 ≠ h12 := by have := ltba.out; have := eh14'.out; omega
      have neba' : h12 ≠ h14 := fun e => neba e.symm
      have ltFb := Lib.hid (kXb_79.out).lt
      clear kzC_82
      have szQc := Lib.hid (show W.heap.size ≤ h10 by have h1 := szBc.out; have h2 := eh10'.out; omega)
      have szQa := Lib.hid (show W.heap.size ≤ h12 by have h1 := szBa.out; have h2 := eh12'.out; omega)
      have szQb := Lib.hid (show W.heap.size ≤ h14 by have h1 := szBb.out; have h2 := eh14'.out; omega)
      have c0Dcb : Wb.cell? ⟨h10, 0, none⟩ = some (.int .i64 (Sc : Nat)) := (kDcb_75.out).cell 0
      have c1Dcb : Wb.cell? ⟨h10, 1, none⟩ = some (.slice aocd mc cpc) := (kDcb_75.out).cell 1
      have c0Dab : Wb.cell? ⟨h12, 0, none⟩ = some (.int .i64 (Sa : Nat)) := (kDab_78.out).cell 0
      have c1Dab : Wb.cell? ⟨h12, 1, none⟩ = some (.slice aoad ma cpa) := (kDab_78.out).cell 1
      have fr0 := (kDab_78.out).free 0
      have fr1 := (kDab_78.out).free 1
      obtain ⟨V7, eV7⟩ : ∃ V, V = ((Wb.setCell ⟨h12, 0, none⟩ (.int .i64 (Sc : Nat))).setCell ⟨h12, 1, none⟩ (.slice aocd mc cpc)).drew := ⟨_, rfl⟩
      have fV7 : Far (fun q => q = h12) Wb V7 := eV7 ▸ (((Far.refl (fun q => q = h12) Wb).set ⟨h12, 0, none⟩ _ fun _ => rfl).set ⟨h12, 1, none⟩ _ fun _ => rfl).drew
      have bV7 : Bk V7 h12 28 #[.int .i64 (Sc : Nat), .slice aocd mc cpc] := eV7 ▸ (((kDab_78.out).set 0 _).set 1 _ : Bk ((Wb.setCell ⟨h12, 0, none⟩ (.int .i64 (Sc : Nat))).setCell ⟨h12, 1, none⟩ (.slice aocd mc cpc)) h12 _ _)
      have eV7' := Lib.hid eV7
      have bV7' := Lib.hid bV7
      have fV7' := Lib.hid fV7
      clear eV7 bV7 fV7
      go_upto_region 7 with fail
      go_region
      rw [← eV7'.out]
      clear c0Dcb c1Dcb
      clear c0Dab c1Dab
      clear fr0 fr1
      clear kB4_66
      clear kB5_67
      clear kB6_68
      have kT_86 := Lib.hid (kT_69.out.far fV7'.out (fun (e : _ = h12) => by have := hT0.out; have := szQa.out; omega))
      clear kCc_70
      clear kCa_71
      clear kCb_72
      have kXc_90 := Lib.hid (kXc_73.out.kept fV7'.out fun k hk (e : k = h12) => HasF.notBk kXc_73.out (kDab_78.out) (by decide) (by decide) (by decide) (e ▸ hk))
      have kDc_91 := Lib.hid (kDc_74.out.box (kDab_78.out) fV7'.out)
      have kDcb_92 := Lib.hid (kDcb_75.out.far' fV7'.out (fun e => absurd e neac'))
      have kXa_93 := Lib.hid (kXa_76.out.kept fV7'.out fun k hk (e : k = h12) => HasF.notBk kXa_76.out (kDab_78.out) (by decide) (by decide) (by decide) (e ▸ hk))
      have kDa_94 := Lib.hid (kDa_77.out.box (kDab_78.out) fV7'.out)
      have kXb_95 := Lib.hid (kXb_79.out.kept fV7'.out fun k hk (e : k = h12) => HasF.notBk kXb_79.out (kDab_78.out) (by decide) (by decide) (by decide) (e ▸ hk))
      have kDb_96 := Lib.hid (kDb_80.out.box (kDab_78.out) fV7'.out)
      have kDbb_97 := Lib.hid (bh14'.out.far' fV7'.out (fun e => absurd e neba))
      have hfw_98 := Lib.hid (hfw_81.out.trans fV7'.out fun k hk (e : k = h12) => by have := szQa.out; omega)
      have c0Dcb : V7.cell? ⟨h10, 0, none⟩ = some (.int .i64 (Sc : Nat)) := (kDcb_92.out).cell 0
      have c1Dcb : V7.cell? ⟨h10, 1, none⟩ = some (.slice aocd mc cpc) := (kDcb_92.out).cell 1
      have c0Dbb : V7.cell? ⟨h14, 0, none⟩ = some (.int .i64 (Sb : Nat)) := (kDbb_97.out).cell 0
      have c1Dbb : V7.cell? ⟨h14, 1, none⟩ = some (.slice aobd mb cpb) := (kDbb_97.out).cell 1
      have fr0 := (kDbb_97.out).free 0
      have fr1 := (kDbb_97.out).free 1
      obtain ⟨V8, eV8⟩ : ∃ V, V = ((V7.setCell ⟨h14, 0, none⟩ (.int .i64 (Sc : Nat))).setCell ⟨h14, 1, none⟩ (.slice aocd mc cpc)).drew := ⟨_, rfl⟩
      have fV8 : Far (fun q => q = h14) V7 V8 := eV8 ▸ (((Far.refl (fun q => q = h14) V7).set ⟨h14, 0, none⟩ _ fun _ => rfl).set ⟨h14, 1, none⟩ _ fun _ => rfl).drew
      have bV8 : Bk V8 h14 28 #[.int .i64 (Sc : Nat), .slice aocd mc cpc] := eV8 ▸ (((kDbb_97.out).set 0 _).set 1 _ : Bk ((V7.setCell ⟨h14, 0, none⟩ (.int .i64 (Sc : Nat))).setCell ⟨h14, 1, none⟩ (.slice aocd mc cpc)) h14 _ _)
      have eV8' := Lib.hid eV8
      have bV8' := Lib.hid bV8
      have fV8' := Lib.hid fV8
      clear eV8 bV8 fV8
      go_upto_region 9 with fail
      go_region
      rw [← eV8'.out]
      clear c0Dcb c1Dcb
      clear c0Dbb c1Dbb
      clear fr0 fr1
      have kT_99 := Lib.hid (kT_86.out.far fV8'.out (fun (e : _ = h14) => by have := hT0.out; have := szQb.out; omega))
      have kXc_100 := Lib.hid (kXc_90.out.kept fV8'.out fun k hk (e : k = h14) => HasF.notBk kXc_90.out (kDbb_97.out) (by decide) (by decide) (by decide) (e ▸ hk))
      have kDc_101 := Lib.hid (kDc_91.out.box (kDbb_97.out) fV8'.out)
      have kDcb_102 := Lib.hid (kDcb_92.out.far' fV8'.out (fun e => absurd e nebc'))
      have kDab_103 := Lib.hid (bV7'.out.far' fV8'.out (fun e => absurd e neba'))
      have kXb_104 := Lib.hid (kXb_95.out.kept fV8'.out fun k hk (e : k = h14) => HasF.notBk kXb_95.out (kDbb_97.out) (by decide) (by decide) (by decide) (e ▸ hk))
      have kDb_105 := Lib.hid (kDb_96.out.box (kDbb_97.out) fV8'.out)
      have hfw_106 := Lib.hid (hfw_98.out.trans fV8'.out fun k hk (e : k = h14) => by have := szQb.out; omega)
      have hFT := Lib.hid (show ¬ Fc 0 from fun h => by have h1 := (hFc'.out _ h).1; have h2 := szMc.out; have h3 := hT0.out; omega)
      have ML := fun (V : World) (h1 : HasF V vc Fc Sc Mc) (h2 : HasF V vc Fc Sc Mc) (h3 : HasF V vc Fc Sc Mc) (h4 : Tab V) => pInto_any h1 h2 h3 h4
      have RL := fun (V : World) (h1 : Dm V (.agg #[.int .i64 (Sc : Nat), .slice aocd mc cpc]) Sc Mc) (h2 : Dm V (.agg #[.int .i64 (Sc : Nat), .slice aocd mc cpc]) Sc Mc) (h3 : Dm V (.agg #[.int .i64 (Sc : Nat), .slice aocd mc cpc]) Sc Mc) => rPInto_any h1 h2 h3
      obtain ⟨P, hP⟩ : ∃ P : Prop, (pinE Sc Sc Sc = 0 ∧ ∃ r c, mulM Mc Mc r c = true ∧ Mc r c = false) = P := ⟨_, rfl⟩
      obtain ⟨Mn, hMn⟩ : ∃ M, (if pinE Sc Sc Sc = 0 then joinM Mc (mulM Mc Mc) else Mc) = M := ⟨_, rfl⟩
      obtain ⟨E, hE⟩ : ∃ E, pinE Sc Sc Sc = E := ⟨_, rfl⟩
      rw [hP, hMn, hE] at ML RL
      have hMn' := Lib.hid hMn
      have hE' := Lib.hid hE
      clear hP hMn hE
      have ML' := Lib.hid ML
      have RL' := Lib.hid RL
      clear ML RL
      have Plc := Lib.hid (Dm.place (kDc_101.out) hDnc'.out)
      have szV := Lib.hid (hfw_106.out.size)
      have K_107 := ML'.out _ (kXc_100.out) (kXc_100.out) (kXc_100.out) (kT_99.out)
      go_wp2_with fail
      refine K_107.mono ?_
      rintro e w_108 ⟨mo1, rfl, hmo1, Fn, hXn, hmv⟩
      clear K_107
      have hmo1' := Lib.hid hmo1
      have hmv' := Lib.hid hmv.far
      have hmr' := Lib.hid hmv.more
      clear hmo1 hmv
      have kT_109 := Lib.hid (kT_99.out.far hmv'.out hFT.out)
      have kDc_110 := Lib.hid (kDc_101.out.pfar Plc.out hmv'.out (fun k h => .inl (hFc'.out k h).2))
      have kDcb_111 := Lib.hid (kDcb_102.out.far' hmv'.out (HasF.notBk (kXc_100.out) (kDcb_102.out) (by decide) (by decide) (by decide)))
      have kDab_112 := Lib.hid (kDab_103.out.far' hmv'.out (HasF.notBk (kXc_100.out) (kDab_103.out) (by decide) (by decide) (by decide)))
      have kDbb_113 := Lib.hid (bV8'.out.far' hmv'.out (HasF.notBk (kXc_100.out) (bV8'.out) (by decide) (by decide) (by decide)))
      have hfw_114 := Lib.hid (hfw_106.out.trans hmv'.out (fun k hk h => by have h1 := (hFc'.out k h).1; have h2 := szMc.out; omega))
      have kXn0 := Lib.hid hXn
      clear hXn ML'
      have ltn := Lib.hid (kXn0.out).lt
      have c0Dcb : w_108.cell? ⟨h10, 0, none⟩ = some (.int .i64 (Sc : Nat)) := (kDcb_111.out).cell 0
      have c1Dcb : w_108.cell? ⟨h10, 1, none⟩ = some (.slice aocd mc cpc) := (kDcb_111.out).cell 1
      have c0Dab : w_108.cell? ⟨h12, 0, none⟩ = some (.int .i64 (Sc : Nat)) := (kDab_112.out).cell 0
      have c1Dab : w_108.cell? ⟨h12, 1, none⟩ = some (.slice aocd mc cpc) := (kDab_112.out).cell 1
      have c0Dbb : w_108.cell? ⟨h14, 0, none⟩ = some (.int .i64 (Sc : Nat)) := (kDbb_113.out).cell 0
      have c1Dbb : w_108.cell? ⟨h14, 1, none⟩ = some (.slice aocd mc cpc) := (kDbb_113.out).cell 1
      have K_115 := RL'.out _ (kDc_110.out) (kDc_110.out) (kDc_110.out)
      go_wp2_with fail
      refine K_115.mono ?_
      rintro e w_116 ⟨dn, mo9, rfl, hDn, hmo9, hor, hfn⟩
      clear K_115
      have kT_117 := Lib.hid (kT_109.out.still hfn)
      clear kT_109
      have kDc_118 := Lib.hid (kDc_110.out.move hfn)
      clear kDc_110
      have kDcb_119 := Lib.hid (kDcb_111.out.far' hfn id)
      clear kDcb_111
      have kDab_120 := Lib.hid (kDab_112.out.far' hfn id)
      clear kDab_112
      have kDbb_121 := Lib.hid (kDbb_113.out.far' hfn id)
      clear kDbb_113
      have kXc_122 := Lib.hid (kXn0.out.still hfn)
      clear kXn0
      have hfw_123 := Lib.hid (hfw_114.out.then hfn)
      clear hfw_114
      clear RL' hfn
      obtain rfl : mo1 = mo9 := Bool.eq_iff_iff.2 (hmo1'.out.trans hmo9.symm)
      clear hmo9 hmo1'
      clear c0Dcb c1Dcb c0Dab c1Dab c0Dbb c1Dbb
      have kDn := Lib.hid hDn
      obtain ⟨aond, cpn, rfl, _⟩ := hDn
      obtain ⟨mn, hmmn⟩ : ∃ m, (cellsL Mn Sc).length = m := ⟨_, rfl⟩
      rw [hmmn] at kDn hor ⊢
      clear hmmn
      have hor' := Lib.hid hor
      clear hor
      have Pln := Lib.hid (show (Place (.agg #[.int .i64 (Sc : Nat), .slice aond mn cpn]) bc V8.heap.size) ∨ Place (.agg #[.int .i64 (Sc : Nat), .slice aond mn cpn]) w_108.heap.size w_116.heap.size from hor'.out.elim (fun e => .inl (by rw [e]; exact Plc.out)) fun h => .inr (Dm.place (kDn.out) h))
      have szBn := Lib.hid (hfw_123.out.size)
      have ltnc := Lib.hid (kDcb_119.out).lt
      have ltna := Lib.hid (kDab_120.out).lt
      have ltnb := Lib.hid (kDbb_121.out).lt
      obtain ⟨h17, eh17⟩ : ∃ h, h = w_116.heap.size := ⟨_, rfl⟩
      obtain ⟨Wn, eWn⟩ : ∃ V, V = w_116.alloc (.cells #[.int .i64 (Sc : Nat), .slice aond mn cpn] 28) := ⟨_, rfl⟩
      have fWn : Far (fun _ => False) w_116 Wn := eWn ▸ (Far.refl _ w_116).alloc _
      have bh17 : Bk Wn h17 28 #[.int .i64 (Sc : Nat), .slice aond mn cpn] := eWn ▸ Bk.new eh17
      have eh17' := Lib.hid eh17
      have eWn' := Lib.hid eWn
      have bh17' := Lib.hid bh17
      clear eh17 eWn bh17
      have kT_124 := Lib.hid (kT_117.out.still fWn)
      clear kT_117
      have kDc_125 := Lib.hid (kDc_118.out.move fWn)
      clear kDc_118
      have kDcb_126 := Lib.hid (kDcb_119.out.far' fWn id)
      clear kDcb_119
      have kDab_127 := Lib.hid (kDab_120.out.far' fWn id)
      clear kDab_120
      have kDbb_128 := Lib.hid (kDbb_121.out.far' fWn id)
      clear kDbb_121
      have kXc_129 := Lib.hid (kXc_122.out.still fWn)
      clear kXc_122
      have kDn_130 := Lib.hid (kDn.out.move fWn)
      clear kDn
      have hfw_131 := Lib.hid (hfw_123.out.then fWn)
      clear hfw_123
      clear fWn
      go_upto_region 12 with fail
      rw [← eWn'.out, ← eh17'.out]
      have nenc : h17 ≠ h10 := by have := ltnc.out; have := eh17'.out; omega
      have nenc' : h10 ≠ h17 := fun e => nenc e.symm
      have nena : h17 ≠ h12 := by have := ltna.out; have := eh17'.out; omega
      have nena' : h12 ≠ h17 := fun e => nena e.symm
      have nenb : h17 ≠ h14 := by have := ltnb.out; have := eh17'.out; omega
      have nenb' : h14 ≠ h17 := fun e => nenb e.symm
      have szQn := Lib.hid (show W.heap.size ≤ h17 by have h1 := szBn.out; have h2 := eh17'.out; omega)
      have ML := fun (V : World) (h1 : HasF V vc Fn Sc Mn) (h2 : (HasF V vc Fn Sc Mn)) (h3 : (HasF V vc Fn Sc Mn)) (h4 : Tab V) => pInto_any h1 h2 h3 h4
      have RL := fun (V : World) (h1 : Dm V (.agg #[.int .i64 (Sc : Nat), .slice aond mn cpn]) Sc Mn) (h2 : Dm V (.agg #[.int .i64 (Sc : Nat), .slice aond mn cpn]) Sc Mn) (h3 : Dm V (.agg #[.int .i64 (Sc : Nat), .slice aond mn cpn]) Sc Mn) => rPInto_any h1 h2 h3
      obtain ⟨P2, hP⟩ : ∃ P : Prop, (pinE Sc Sc Sc = 0 ∧ ∃ r c, mulM Mn Mn r c = true ∧ Mn r c = false) = P := ⟨_, rfl⟩
      obtain ⟨Mm, hMm⟩ : ∃ M, (if pinE Sc Sc Sc = 0 then joinM Mn (mulM Mn Mn) else Mn) = M := ⟨_, rfl⟩
      rw [hP, hMm, hE'.out] at ML RL
      clear hP hMm
      have RL' := Lib.hid RL
      clear RL
      have ML' := Lib.hid ML
      clear ML
      have K_132 := ML'.out _ (kXc_129.out) (kXc_129.out) (kXc_129.out) (kT_124.out)
      go_wp2_with fail
      refine K_132.mono ?_
      rintro e w_133 ⟨mo2, rfl, hmo2, F2, hX2, hmv⟩
      clear K_132
      have hmo2' := Lib.hid hmo2
      have hnv' := Lib.hid hmv.far
      clear hmo2 hmv
      have kDn_134 := Lib.hid (show Dm w_133 (.agg #[.int .i64 (Sc : Nat), .slice aond mn cpn]) Sc Mn from Pln.out.elim (fun p => kDn_130.out.pfar p hnv'.out fun k h => (hmr'.out k h).imp (fun h => (hFc'.out k h).2) id) fun p => kDn_130.out.pfar p hnv'.out fun k h => .inl (ltn.out k h))
      have kT_135 := Lib.hid (kT_124.out.far hnv'.out (fun h => by rcases hmr'.out _ h with h | h; exact hFT.out h; have h3 := hT0.out; have h4 := szV.out; omega))
      clear kDc_125
      clear kDcb_126
      have kDab_136 := Lib.hid (kDab_127.out.far' hnv'.out (HasF.notBk (kXc_129.out) (kDab_127.out) (by decide) (by decide) (by decide)))
      have kDbb_137 := Lib.hid (kDbb_128.out.far' hnv'.out (HasF.notBk (kXc_129.out) (kDbb_128.out) (by decide) (by decide) (by decide)))
      have kDnb_138 := Lib.hid (bh17'.out.far' hnv'.out (HasF.notBk (kXc_129.out) (bh17'.out) (by decide) (by decide) (by decide)))
      have hfw_139 := Lib.hid (hfw_131.out.trans hnv'.out (fun k hk h => by rcases hmr'.out k h with h | h; have h1 := (hFc'.out k h).1; have h2 := szMc.out; omega; have h4 := szV.out; omega))
      have kXn2 := Lib.hid hX2
      clear hX2 ML'
      have hbb : (mo1 != mo1) = false := by cases mo1 <;> rfl
      have c0Dnb : w_133.cell? ⟨h17, 0, none⟩ = some (.int .i64 (Sc : Nat)) := (kDnb_138.out).cell 0
      have c1Dnb : w_133.cell? ⟨h17, 1, none⟩ = some (.slice aond mn cpn) := (kDnb_138.out).cell 1
      have c0Dab : w_133.cell? ⟨h12, 0, none⟩ = some (.int .i64 (Sc : Nat)) := (kDab_136.out).cell 0
      have c1Dab : w_133.cell? ⟨h12, 1, none⟩ = some (.slice aocd mc cpc) := (kDab_136.out).cell 1
      have fr0 := (kDab_136.out).free 0
      have fr1 := (kDab_136.out).free 1
      obtain ⟨V9, eV9⟩ : ∃ V, V = (w_133.setCell ⟨h12, 0, none⟩ (.int .i64 (Sc : Nat))).setCell ⟨h12, 1, none⟩ (.slice aond mn cpn) := ⟨_, rfl⟩
      have fV9 : Far (fun q => q = h12) w_133 V9 := eV9 ▸ (((Far.refl (fun q => q = h12) w_133).set ⟨h12, 0, none⟩ _ fun _ => rfl).set ⟨h12, 1, none⟩ _ fun _ => rfl)
      have bV9 : Bk V9 h12 28 #[.int .i64 (Sc : Nat), .slice aond mn cpn] := eV9 ▸ (((kDab_136.out).set 0 _).set 1 _ : Bk ((w_133.setCell ⟨h12, 0, none⟩ (.int .i64 (Sc : Nat))).setCell ⟨h12, 1, none⟩ (.slice aond mn cpn)) h12 _ _)
      have eV9' := Lib.hid eV9
      have bV9' := Lib.hid bV9
      have fV9' := Lib.hid fV9
      clear eV9 bV9 fV9
      go_upto_region 19 with fail
      rw [← eV9'.out]
      clear c0Dnb c1Dnb
      clear c0Dab c1Dab
      clear fr0 fr1
      have kT_140 := Lib.hid (kT_135.out.far fV9'.out (fun (e : _ = h12) => by have := hT0.out; have := szQa.out; omega))
      have kDbb_141 := Lib.hid (kDbb_137.out.far' fV9'.out (fun e => absurd e neba))
      have kDnb_142 := Lib.hid (kDnb_138.out.far' fV9'.out (fun e => absurd e nena))
      have kXc_143 := Lib.hid (kXn2.out.kept fV9'.out fun k hk (e : k = h12) => HasF.notBk kXn2.out (kDab_136.out) (by decide) (by decide) (by decide) (e ▸ hk))
      have kDn_144 := Lib.hid (kDn_134.out.box (kDab_136.out) fV9'.out)
      have hfw_145 := Lib.hid (hfw_139.out.trans fV9'.out fun k hk (e : k = h12) => by have := szQa.out; omega)
      have c0Dnb : V9.cell? ⟨h17, 0, none⟩ = some (.int .i64 (Sc : Nat)) := (kDnb_142.out).cell 0
      have c1Dnb : V9.cell? ⟨h17, 1, none⟩ = some (.slice aond mn cpn) := (kDnb_142.out).cell 1
      have c0Dbb : V9.cell? ⟨h14, 0, none⟩ = some (.int .i64 (Sc : Nat)) := (kDbb_141.out).cell 0
      have c1Dbb : V9.cell? ⟨h14, 1, none⟩ = some (.slice aocd mc cpc) := (kDbb_141.out).cell 1
      have fr0 := (kDbb_141.out).free 0
      have fr1 := (kDbb_141.out).free 1
      obtain ⟨V10, eV10⟩ : ∃ V, V = (V9.setCell ⟨h14, 0, none⟩ (.int .i64 (Sc : Nat))).setCell ⟨h14, 1, none⟩ (.slice aond mn cpn) := ⟨_, rfl⟩
      have fV10 : Far (fun q => q = h14) V9 V10 := eV10 ▸ (((Far.refl (fun q => q = h14) V9).set ⟨h14, 0, none⟩ _ fun _ => rfl).set ⟨h14, 1, none⟩ _ fun _ => rfl)
      have bV10 : Bk V10 h14 28 #[.int .i64 (Sc : Nat), .slice aond mn cpn] := eV10 ▸ (((kDbb_141.out).set 0 _).set 1 _ : Bk ((V9.setCell ⟨h14, 0, none⟩ (.int .i64 (Sc : Nat))).setCell ⟨h14, 1, none⟩ (.slice aond mn cpn)) h14 _ _)
      have eV10' := Lib.hid eV10
      have bV10' := Lib.hid bV10
      have fV10' := Lib.hid fV10
      clear eV10 bV10 fV10
      go_upto_region 21 with fail
      rw [← eV10'.out]
      clear c0Dnb c1Dnb
      clear c0Dbb c1Dbb
      clear fr0 fr1
      have kT_146 := Lib.hid (kT_140.out.far fV10'.out (fun (e : _ = h14) => by have := hT0.out; have := szQb.out; omega))
      have kDab_147 := Lib.hid (bV9'.out.far' fV10'.out (fun e => absurd e neba'))
      have kDnb_148 := Lib.hid (kDnb_142.out.far' fV10'.out (fun e => absurd e nenb))
      have kXc_149 := Lib.hid (kXc_143.out.kept fV10'.out fun k hk (e : k = h14) => HasF.notBk kXc_143.out (kDbb_141.out) (by decide) (by decide) (by decide) (e ▸ hk))
      have kDn_150 := Lib.hid (kDn_144.out.box (kDbb_141.out) fV10'.out)
      have hfw_151 := Lib.hid (hfw_145.out.trans fV10'.out fun k hk (e : k = h14) => by have := szQb.out; omega)
      have c0Dnb : V10.cell? ⟨h17, 0, none⟩ = some (.int .i64 (Sc : Nat)) := (kDnb_148.out).cell 0
      have c1Dnb : V10.cell? ⟨h17, 1, none⟩ = some (.slice aond mn cpn) := (kDnb_148.out).cell 1
      have c0Dab : V10.cell? ⟨h12, 0, none⟩ = some (.int .i64 (Sc : Nat)) := (kDab_147.out).cell 0
      have c1Dab : V10.cell? ⟨h12, 1, none⟩ = some (.slice aond mn cpn) := (kDab_147.out).cell 1
      have c0Dbb : V10.cell? ⟨h14, 0, none⟩ = some (.int .i64 (Sc : Nat)) := (bV10'.out).cell 0
      have c1Dbb : V10.cell? ⟨h14, 1, none⟩ = some (.slice aond mn cpn) := (bV10'.out).cell 1
      have K_152 := RL'.out _ (kDn_150.out) (kDn_150.out) (kDn_150.out)
      go_wp2_with fail
      refine K_152.mono ?_
      rintro e w_153 ⟨dm9, mo9, rfl, hDm, hmo9, _, hfn⟩
      clear K_152
      have kT_154 := Lib.hid (kT_146.out.still hfn)
      clear kT_146
      have kDab_155 := Lib.hid (kDab_147.out.far' hfn id)
      clear kDab_147
      have kDbb_156 := Lib.hid (bV10'.out.far' hfn id)
      clear bV10'
      have kDnb_157 := Lib.hid (kDnb_148.out.far' hfn id)
      clear kDnb_148
      have kXc_158 := Lib.hid (kXc_149.out.still hfn)
      clear kXc_149
      have kDn_159 := Lib.hid (kDn_150.out.move hfn)
      clear kDn_150
      have hfw_160 := Lib.hid (hfw_151.out.then hfn)
      clear hfw_151
      clear RL' hfn
      obtain rfl : mo2 = mo9 := Bool.eq_iff_iff.2 (hmo2'.out.trans hmo9.symm)
      clear hmo9 hmo2'
      clear c0Dnb c1Dnb c0Dab c1Dab c0Dbb c1Dbb
      have kDm := Lib.hid hDm
      obtain ⟨aomd, cpm, rfl, _⟩ := hDm
      obtain ⟨mm, hmmm⟩ : ∃ m, (cellsL Mm Sc).length = m := ⟨_, rfl⟩
      rw [hmmm] at kDm ⊢
      clear hmmm
      have c0Dnb : w_153.cell? ⟨h17, 0, none⟩ = some (.int .i64 (Sc : Nat)) := (kDnb_157.out).cell 0
      have c1Dnb : w_153.cell? ⟨h17, 1, none⟩ = some (.slice aond mn cpn) := (kDnb_157.out).cell 1
      have fr0 := (kDnb_157.out).free 0
      have fr1 := (kDnb_157.out).free 1
      obtain ⟨V11, eV11⟩ : ∃ V, V = (w_153.setCell ⟨h17, 0, none⟩ (.int .i64 (Sc : Nat))).setCell ⟨h17, 1, none⟩ (.slice aomd mm cpm) := ⟨_, rfl⟩
      have fV11 : Far (fun q => q = h17) w_153 V11 := eV11 ▸ (((Far.refl (fun q => q = h17) w_153).set ⟨h17, 0, none⟩ _ fun _ => rfl).set ⟨h17, 1, none⟩ _ fun _ => rfl)
      have bV11 : Bk V11 h17 28 #[.int .i64 (Sc : Nat), .slice aomd mm cpm] := eV11 ▸ (((kDnb_157.out).set 0 _).set 1 _ : Bk ((w_153.setCell ⟨h17, 0, none⟩ (.int .i64 (Sc : Nat))).setCell ⟨h17, 1, none⟩ (.slice aomd mm cpm)) h17 _ _)
      have eV11' := Lib.hid eV11
      have bV11' := Lib.hid bV11
      have fV11' := Lib.hid fV11
      clear eV11 bV11 fV11
      go_upto_region 22 with fail
      rw [← eV11'.out]
      clear c0Dnb c1Dnb
      clear fr0 fr1
      have kT_161 := Lib.hid (kT_154.out.far fV11'.out (fun (e : _ = h17) => by have := hT0.out; have := szQn.out; omega))
      have kDab_162 := Lib.hid (kDab_155.out.far' fV11'.out (fun e => absurd e nena'))
      have kDbb_163 := Lib.hid (kDbb_156.out.far' fV11'.out (fun e => absurd e nenb'))
      have kXc_164 := Lib.hid (kXc_158.out.kept fV11'.out fun k hk (e : k = h17) => HasF.notBk kXc_158.out (kDnb_157.out) (by decide) (by decide) (by decide) (e ▸ hk))
      have kDn_165 := Lib.hid (kDn_159.out.box (kDnb_157.out) fV11'.out)
      have kDm_166 := Lib.hid (kDm.out.box (kDnb_157.out) fV11'.out)
      have hfw_167 := Lib.hid (hfw_160.out.trans fV11'.out fun k hk (e : k = h17) => by have := szQn.out; omega)
      have hbb2 : (mo2 == mo2) = true := by cases mo2 <;> rfl
      have c0Dnb : V11.cell? ⟨h17, 0, none⟩ = some (.int .i64 (Sc : Nat)) := (bV11'.out).cell 0
      have c1Dnb : V11.cell? ⟨h17, 1, none⟩ = some (.slice aomd mm cpm) := (bV11'.out).cell 1
      have K_168 := same03_any (kXc_164.out) (kDm_166.out) (kT_161.out)
      go_wp2_with fail
      refine K_168.mono ?_
      rintro e w_169 ⟨rfl, hfq⟩
      clear K_168
      have kT_170 := Lib.hid (kT_161.out.still hfq)
      clear kT_161
      have kDab_171 := Lib.hid (kDab_162.out.far' hfq id)
      clear kDab_162
      have kDbb_172 := Lib.hid (kDbb_163.out.far' hfq id)
      clear kDbb_163
      have kDnb_173 := Lib.hid (bV11'.out.far' hfq id)
      clear bV11'
      have kXc_174 := Lib.hid (kXc_164.out.still hfq)
      clear kXc_164
      have kDn_175 := Lib.hid (kDn_165.out.move hfq)
      clear kDn_165
      have kDm_176 := Lib.hid (kDm_166.out.move hfq)
      clear kDm_166
      have hfw_177 := Lib.hid (hfw_167.out.then hfq)
      clear hfw_167
      clear hfq
      clear c0Dnb c1Dnb
      have K_178 := awake03_any _ (kT_170.out)
      go_wp2_with fail
      refine K_178.mono ?_
      rintro e w_179 ⟨rfl, hfq⟩
      clear K_178
      have kT_180 := Lib.hid (kT_170.out.still hfq)
      clear kT_170
      have kDab_181 := Lib.hid (kDab_171.out.far' hfq id)
      clear kDab_171
      have kDbb_182 := Lib.hid (kDbb_172.out.far' hfq id)
      clear kDbb_172
      have kDnb_183 := Lib.hid (kDnb_173.out.far' hfq id)
      clear kDnb_173
      have kXc_184 := Lib.hid (kXc_174.out.still hfq)
      clear kXc_174
      have kDn_185 := Lib.hid (kDn_175.out.move hfq)
      clear kDn_175
      have kDm_186 := Lib.hid (kDm_176.out.move hfq)
      clear kDm_176
      have hfw_187 := Lib.hid (hfw_177.out.then hfq)
      clear hfw_177
      clear hfq
      go_wp2_with fail
      go_ret
      exact ⟨rfl, hfw_187.out⟩
end
end Go.Proofs.YtkobbcmndneajaaDoor
