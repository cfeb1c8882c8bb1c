/-
  ProductRing walked.
-/
import Derived.Test.YtoaeeojnelmlnaaDoorQPChain
namespace Go.Proofs.YtoaeeojnelmlnaaDoor
open Go.RowKit Go.Shelf
set_option linter.unusedVariables false
set_option linter.unusedSimpArgs false
section
set_option maxHeartbeats 16000000
set_option maxRecDepth 100000
theorem pring_law (W : World) (x : Int) (ao : Option Addr) (n cap : Nat) (R C : Nat → Int) (hn : n ≤ 9223372036854775807) (hC : Cls W ao n R C) (bo : Option Addr) (m bcap : Nat) (R2 C2 : Nat → Int) (hm : m ≤ 9223372036854775807) (hC2 : Cls W bo m R2 C2) (co : Option Addr) (l ccap : Nat) (R3 C3 : Nat → Int) (hl : l ≤ 9223372036854775807) (hC3 : Cls W co l R3 C3) (hT : Tab W) :
    Calls Tryd.prog 11 #[.int .i64 x, .slice ao n cap, .slice bo m bcap, .slice co l ccap] W fun e w' => e = .returned (.bool true) ∧ Far (fun _ => False) W w' := by
  obtain ⟨s, hs⟩ : ∃ s, (x % 256).toNat + 1 = s := ⟨_, rfl⟩
  have hs1 : 1 ≤ s := by omega
  have hs2 : s ≤ 1024 := by omega
  have SZ := side03_any x W
  rw [hs] at SZ
  have FA : ∀ w, Far (fun _ => False) W w → _ := fun w hf => fold03_any s hs1 hs2 ao n cap R C hn w (hC.move hf)
  obtain ⟨A, hA⟩ : ∃ M, foldR s R C n = M := ⟨_, rfl⟩
  rw [hA] at FA
  have FB : ∀ w, Far (fun _ => False) W w → _ := fun w hf => fold03_any s hs1 hs2 bo m bcap R2 C2 hm w (hC2.move hf)
  obtain ⟨D, hD⟩ : ∃ M, foldR s R2 C2 m = M := ⟨_, rfl⟩
  rw [hD] at FB
  have FC : ∀ w, Far (fun _ => False) W w → _ := fun w hf => fold03_any s hs1 hs2 co l ccap R3 C3 hl w (hC3.move hf)
  obtain ⟨E, hE⟩ : ∃ M, foldR s R3 C3 l = M := ⟨_, rfl⟩
  rw [hE] at FC
  have FA' := Lib.hid FA
  have FB' := Lib.hid FB
  have FC' := Lib.hid FC
  have hf0 := Lib.hid (Far.refl (fun _ => False) W)
  clear hA hD hE hs hC hC2 hC3 FA FB FC
  go_enter Tryd.func11, Tryd.ntmps11
  go_wp2_with fail
  refine SZ.mono ?_
  rintro e w' ⟨rfl, rfl⟩
  clear SZ
  have K_1 := FA'.out W hf0.out
  go_wp2_with fail
  refine K_1.mono ?_
  rintro e w_1 ⟨Ba, rfl, Fa, hX_1, hlo_1, hf_1⟩
  have ha_1 := Lib.hid (show Mx w_1 Ba Fa s (A) from hX_1)
  have upa := Lib.hid (hX_1.lt)
  have loa := Lib.hid hlo_1
  have sz_1 := Lib.hid (hf_1.size)
  have hfw_2 := Lib.hid (hf0.out.then hf_1)
  clear hf0
  clear K_1 hX_1 hlo_1 hf_1
  have K_3 := FB'.out _ hfw_2.out
  go_wp2_with fail
  refine K_3.mono ?_
  rintro e w_3 ⟨Bb, rfl, Fb, hX_3, hlo_3, hf_3⟩
  have hb_3 := Lib.hid (show Mx w_3 Bb Fb s (D) from hX_3)
  have upb := Lib.hid (hX_3.lt)
  have lob := Lib.hid hlo_3
  have sz_3 := Lib.hid (hf_3.size)
  have ha_4 := Lib.hid (ha_1.out.still hf_3)
  clear ha_1
  have hfw_5 := Lib.hid (hfw_2.out.then hf_3)
  clear hfw_2
  clear K_3 hX_3 hlo_3 hf_3
  have K_6 := FC'.out _ hfw_5.out
  go_wp2_with fail
  refine K_6.mono ?_
  rintro e w_6 ⟨Bc, rfl, Fc, hX_6, hlo_6, hf_6⟩
  have hc_6 := Lib.hid (show Mx w_6 Bc Fc s (E) from hX_6)
  have upc := Lib.hid (hX_6.lt)
  have loc := Lib.hid hlo_6
  have sz_6 := Lib.hid (hf_6.size)
  have ha_7 := Lib.hid (ha_4.out.still hf_6)
  clear ha_4
  have hb_8 := Lib.hid (hb_3.out.still hf_6)
  clear hb_3
  have hfw_9 := Lib.hid (hfw_5.out.then hf_6)
  clear hfw_5
  clear K_6 hX_6 hlo_6 hf_6
  clear FA' FB' FC'
  have wa := Lib.hid ha_7.out.within
  have wb := Lib.hid hb_8.out.within
  have wc := Lib.hid hc_6.out.within
  have K_10 := pMul_yes ha_7.out hb_8.out (hT.still hfw_9.out)
  go_wp2_with fail
  refine K_10.mono ?_
  rintro e w_10 ⟨Bab, rfl, Fab, hX_10, hlo_10, hf_10⟩
  have hab_10 := Lib.hid (show Mx w_10 Bab Fab s (mulM (A) (D)) from hX_10)
  have upab := Lib.hid (hX_10.lt)
  have loab := Lib.hid hlo_10
  have sz_10 := Lib.hid (hf_10.size)
  have ha_11 := Lib.hid (ha_7.out.still hf_10)
  clear ha_7
  have hb_12 := Lib.hid (hb_8.out.still hf_10)
  clear hb_8
  have hc_13 := Lib.hid (hc_6.out.still hf_10)
  clear hc_6
  have hfw_14 := Lib.hid (hfw_9.out.then hf_10)
  clear hfw_9
  clear K_10 hX_10 hlo_10 hf_10
  have K_15 := pMul_yes hb_12.out hc_13.out (hT.still hfw_14.out)
  go_wp2_with fail
  refine K_15.mono ?_
  rintro e w_15 ⟨Bbc, rfl, Fbc, hX_15, hlo_15, hf_15⟩
  have hbc_15 := Lib.hid (show Mx w_15 Bbc Fbc s (mulM (D) (E)) from hX_15)
  have upbc := Lib.hid (hX_15.lt)
  have lobc := Lib.hid hlo_15
  have sz_15 := Lib.hid (hf_15.size)
  have ha_16 := Lib.hid (ha_11.out.still hf_15)
  clear ha_11
  have hb_17 := Lib.hid (hb_12.out.still hf_15)
  clear hb_12
  have hc_18 := Lib.hid (hc_13.out.still hf_15)
  clear hc_13
  have hab_19 := Lib.hid (hab_10.out.still hf_15)
  clear hab_10
  have hfw_20 := Lib.hid (hfw_14.out.then hf_15)
  clear hfw_14
  clear K_15 hX_15 hlo_15 hf_15
  have K_21 := pMul_yes ha_16.out hc_18.out (hT.still hfw_20.out)
  go_wp2_with fail
  refine K_21.mono ?_
  rintro e w_21 ⟨Bac, rfl, Fac, hX_21, hlo_21, hf_21⟩
  have hac_21 := Lib.hid (show Mx w_21 Bac Fac s (mulM (A) (E)) from hX_21)
  have upac := Lib.hid (hX_21.lt)
  have loac := Lib.hid hlo_21
  have sz_21 := Lib.hid (hf_21.size)
  have ha_22 := Lib.hid (ha_16.out.still hf_21)
  clear ha_16
  have hb_23 := Lib.hid (hb_17.out.still hf_21)
  clear hb_17
  have hc_24 := Lib.hid (hc_18.out.still hf_21)
  clear hc_18
  have hab_25 := Lib.hid (hab_19.out.still hf_21)
  clear hab_19
  have hbc_26 := Lib.hid (hbc_15.out.still hf_21)
  clear hbc_15
  have hfw_27 := Lib.hid (hfw_20.out.then hf_21)
  clear hfw_20
  clear K_21 hX_21 hlo_21 hf_21
  have K_28 := pMul_yes hab_25.out hc_24.out (hT.still hfw_27.out)
  go_wp2_with fail
  refine K_28.mono ?_
  rintro e w_28 ⟨Bleft, rfl, Fleft, hX_28, hlo_28, hf_28⟩
  have hleft_28 := Lib.hid (show Mx w_28 Bleft Fleft s (mulM (mulM (A) (D)) (E)) from hX_28)
  have upleft := Lib.hid (hX_28.lt)
  have loleft := Lib.hid hlo_28
  have sz_28 := Lib.hid (hf_28.size)
  have ha_29 := Lib.hid (ha_22.out.still hf_28)
  clear ha_22
  have hb_30 := Lib.hid (hb_23.out.still hf_28)
  clear hb_23
  have hc_31 := Lib.hid (hc_24.out.still hf_28)
  clear hc_24
  have hab_32 := Lib.hid (hab_25.out.still hf_28)
  clear hab_25
  have hbc_33 := Lib.hid (hbc_26.out.still hf_28)
  clear hbc_26
  have hac_34 := Lib.hid (hac_21.out.still hf_28)
  clear hac_21
  have hfw_35 := Lib.hid (hfw_27.out.then hf_28)
  clear hfw_27
  clear K_28 hX_28 hlo_28 hf_28
  have K_36 := pMul_yes ha_29.out hbc_33.out (hT.still hfw_35.out)
  go_wp2_with fail
  refine K_36.mono ?_
  rintro e w_36 ⟨Bright, rfl, Fright, hX_36, hlo_36, hf_36⟩
  have hright_36 := Lib.hid (show Mx w_36 Bright Fright s (mulM (A) (mulM (D) (E))) from hX_36)
  have upright := Lib.hid (hX_36.lt)
  have loright := Lib.hid hlo_36
  have sz_36 := Lib.hid (hf_36.size)
  have ha_37 := Lib.hid (ha_29.out.still hf_36)
  clear ha_29
  have hb_38 := Lib.hid (hb_30.out.still hf_36)
  clear hb_30
  have hc_39 := Lib.hid (hc_31.out.still hf_36)
  clear hc_31
  have hab_40 := Lib.hid (hab_32.out.still hf_36)
  clear hab_32
  have hbc_41 := Lib.hid (hbc_33.out.still hf_36)
  clear hbc_33
  have hac_42 := Lib.hid (hac_34.out.still hf_36)
  clear hac_34
  have hleft_43 := Lib.hid (hleft_28.out.still hf_36)
  clear hleft_28
  have hfw_44 := Lib.hid (hfw_35.out.then hf_36)
  clear hfw_35
  clear K_36 hX_36 hlo_36 hf_36
  clear hbc_41
  obtain ⟨W9, hW9⟩ : ∃ V, V = w_36.alloc (.cells #[.pointer (some ⟨Ba, 0, none⟩), .pointer (some ⟨Bb, 0, none⟩), .pointer (some ⟨Bc, 0, none⟩)] 24) := ⟨_, rfl⟩
  have hf9 : Far (fun _ => False) w_36 W9 := hW9 ▸ (Far.refl _ _).alloc _
  have hB9 : Bk W9 w_36.heap.size 24 #[.pointer (some ⟨Ba, 0, none⟩), .pointer (some ⟨Bb, 0, none⟩), .pointer (some ⟨Bc, 0, none⟩)] := hW9 ▸ Bk.new rfl
  obtain ⟨g9, hg9⟩ : ∃ g, g = w_36.heap.size := ⟨_, rfl⟩
  rw [← hg9] at hB9
  have hsz9 := Lib.hid (hf9.size)
  have ha_45 := Lib.hid (ha_37.out.still hf9)
  clear ha_37
  have hb_46 := Lib.hid (hb_38.out.still hf9)
  clear hb_38
  have hc_47 := Lib.hid (hc_39.out.still hf9)
  clear hc_39
  have hab_48 := Lib.hid (hab_40.out.still hf9)
  clear hab_40
  have hac_49 := Lib.hid (hac_42.out.still hf9)
  clear hac_42
  have hleft_50 := Lib.hid (hleft_43.out.still hf9)
  clear hleft_43
  have hright_51 := Lib.hid (hright_36.out.still hf9)
  clear hright_36
  have hfw_52 := Lib.hid (hfw_44.out.then hf9)
  clear hfw_44
  have hW9' := Lib.hid hW9
  have hg9' := Lib.hid hg9
  have CH := chain_yes W9 g9 0 3 3 (by decide) (by decide) (by decide) s (fun k => if k = 0 then Ba else if k = 1 then Bb else Bc) (fun k => if k = 0 then Fa else if k = 1 then Fb else Fc) (fun k => if k = 0 then A else if k = 1 then D else E) hB9.lt (fun k hk => by rw [Nat.zero_add, hB9.cell k]; rcases (show k = 0 ∨ k = 1 ∨ k = 2 by omega) with rfl | rfl | rfl <;> rfl) (fun k hk => by rcases (show k = 0 ∨ k = 1 ∨ k = 2 by omega) with rfl | rfl | rfl; exact ha_45.out; exact hb_46.out; exact hc_47.out) (hT.still hfw_52.out)
  clear hf9 hB9 hW9 hg9
  go_wp2_with fail
  rw [← hW9'.out, ← hg9'.out]
  refine CH.mono ?_
  rintro e w_53 ⟨Ball, rfl, Fall, hX_53, hlo_53, hf_53⟩
  have hall_53 := Lib.hid (show Mx w_53 Ball Fall s (mulM (mulM A D) E) from hX_53)
  have upall := Lib.hid (hX_53.lt)
  have loall := Lib.hid hlo_53
  have sz_53 := Lib.hid (hf_53.size)
  have ha_54 := Lib.hid (ha_45.out.still hf_53)
  clear ha_45
  have hb_55 := Lib.hid (hb_46.out.still hf_53)
  clear hb_46
  have hc_56 := Lib.hid (hc_47.out.still hf_53)
  clear hc_47
  have hab_57 := Lib.hid (hab_48.out.still hf_53)
  clear hab_48
  have hac_58 := Lib.hid (hac_49.out.still hf_53)
  clear hac_49
  have hleft_59 := Lib.hid (hleft_50.out.still hf_53)
  clear hleft_50
  have hright_60 := Lib.hid (hright_51.out.still hf_53)
  clear hright_51
  have hfw_61 := Lib.hid (hfw_52.out.then hf_53)
  clear hfw_52
  clear CH hX_53 hlo_53 hf_53 hW9' hg9'
  have K_62 := qsame_any hleft_59.out hright_60.out
  go_wp2_with fail
  refine K_62.mono ?_
  rintro e w_62 ⟨v_62, rfl, hv_62, hf_62⟩
  have hvt_62 : v_62 = true := hv_62.2 (by refine ⟨by trivial, ?_⟩; exact mul_assoc' hs2 wa.out wb.out)
  subst hvt_62
  have sz_62 := Lib.hid (hf_62.size)
  have ha_63 := Lib.hid (ha_54.out.still hf_62)
  clear ha_54
  have hb_64 := Lib.hid (hb_55.out.still hf_62)
  clear hb_55
  have hc_65 := Lib.hid (hc_56.out.still hf_62)
  clear hc_56
  have hab_66 := Lib.hid (hab_57.out.still hf_62)
  clear hab_57
  have hac_67 := Lib.hid (hac_58.out.still hf_62)
  clear hac_58
  have hleft_68 := Lib.hid (hleft_59.out.still hf_62)
  clear hleft_59
  have hright_69 := Lib.hid (hright_60.out.still hf_62)
  clear hright_60
  have hall_70 := Lib.hid (hall_53.out.still hf_62)
  clear hall_53
  have hfw_71 := Lib.hid (hfw_61.out.then hf_62)
  clear hfw_61
  clear K_62 hv_62 hf_62
  have K_72 := qsame_any hleft_68.out hall_70.out
  go_wp2_with fail
  refine K_72.mono ?_
  rintro e w_72 ⟨v_72, rfl, hv_72, hf_72⟩
  have hvt_72 : v_72 = true := hv_72.2 (by refine ⟨by trivial, ?_⟩; exact (by intros; first | trivial | rfl))
  subst hvt_72
  have sz_72 := Lib.hid (hf_72.size)
  have ha_73 := Lib.hid (ha_63.out.still hf_72)
  clear ha_63
  have hb_74 := Lib.hid (hb_64.out.still hf_72)
  clear hb_64
  have hc_75 := Lib.hid (hc_65.out.still hf_72)
  clear hc_65
  have hab_76 := Lib.hid (hab_66.out.still hf_72)
  clear hab_66
  have hac_77 := Lib.hid (hac_67.out.still hf_72)
  clear hac_67
  have hleft_78 := Lib.hid (hleft_68.out.still hf_72)
  clear hleft_68
  have hright_79 := Lib.hid (hright_69.out.still hf_72)
  clear hright_69
  have hall_80 := Lib.hid (hall_70.out.still hf_72)
  clear hall_70
  have hfw_81 := Lib.hid (hfw_71.out.then hf_72)
  clear hfw_71
  clear K_72 hv_72 hf_72
  clear hleft_78
  clear hright_79
  clear hall_80
  have K_82 := one_yes s hs1 hs2 w_72
  go_wp2_with fail
  refine K_82.mono ?_
  rintro e w_82 ⟨Bone, rfl, Fone, hX_82, hlo_82, hf_82⟩
  have hone_82 := Lib.hid (show Mx w_82 Bone Fone s (oneM s) from hX_82)
  have upone := Lib.hid (hX_82.lt)
  have loone := Lib.hid hlo_82
  have sz_82 := Lib.hid (hf_82.size)
  have ha_83 := Lib.hid (ha_73.out.still hf_82)
  clear ha_73
  have hb_84 := Lib.hid (hb_74.out.still hf_82)
  clear hb_74
  have hc_85 := Lib.hid (hc_75.out.still hf_82)
  clear hc_75
  have hab_86 := Lib.hid (hab_76.out.still hf_82)
  clear hab_76
  have hac_87 := Lib.hid (hac_77.out.still hf_82)
  clear hac_77
  have hfw_88 := Lib.hid (hfw_81.out.then hf_82)
  clear hfw_81
  clear K_82 hX_82 hlo_82 hf_82
  have K_89 := pMul_yes hone_82.out ha_83.out (hT.still hfw_88.out)
  go_wp2_with fail
  refine K_89.mono ?_
  rintro e w_89 ⟨Bx, rfl, Fx, hX_89, hlo_89, hf_89⟩
  have hx_89 := Lib.hid (show Mx w_89 Bx Fx s (mulM (oneM s) (A)) from hX_89)
  have upx := Lib.hid (hX_89.lt)
  have lox := Lib.hid hlo_89
  have sz_89 := Lib.hid (hf_89.size)
  have ha_90 := Lib.hid (ha_83.out.still hf_89)
  clear ha_83
  have hb_91 := Lib.hid (hb_84.out.still hf_89)
  clear hb_84
  have hc_92 := Lib.hid (hc_85.out.still hf_89)
  clear hc_85
  have hab_93 := Lib.hid (hab_86.out.still hf_89)
  clear hab_86
  have hac_94 := Lib.hid (hac_87.out.still hf_89)
  clear hac_87
  have hone_95 := Lib.hid (hone_82.out.still hf_89)
  clear hone_82
  have hfw_96 := Lib.hid (hfw_88.out.then hf_89)
  clear hfw_88
  clear K_89 hX_89 hlo_89 hf_89
  have K_97 := pMul_yes ha_90.out hone_95.out (hT.still hfw_96.out)
  go_wp2_with fail
  refine K_97.mono ?_
  rintro e w_97 ⟨By, rfl, Fy, hX_97, hlo_97, hf_97⟩
  have hy_97 := Lib.hid (show Mx w_97 By Fy s (mulM (A) (oneM s)) from hX_97)
  have upy := Lib.hid (hX_97.lt)
  have loy := Lib.hid hlo_97
  have sz_97 := Lib.hid (hf_97.size)
  have ha_98 := Lib.hid (ha_90.out.still hf_97)
  clear ha_90
  have hb_99 := Lib.hid (hb_91.out.still hf_97)
  clear hb_91
  have hc_100 := Lib.hid (hc_92.out.still hf_97)
  clear hc_92
  have hab_101 := Lib.hid (hab_93.out.still hf_97)
  clear hab_93
  have hac_102 := Lib.hid (hac_94.out.still hf_97)
  clear hac_94
  have hone_103 := Lib.hid (hone_95.out.still hf_97)
  clear hone_95
  have hx_104 := Lib.hid (hx_89.out.still hf_97)
  clear hx_89
  have hfw_105 := Lib.hid (hfw_96.out.then hf_97)
  clear hfw_96
  clear K_97 hX_97 hlo_97 hf_97
  clear hone_103
  have K_106 := qsame_any hx_104.out ha_98.out
  go_wp2_with fail
  refine K_106.mono ?_
  rintro e w_106 ⟨v_106, rfl, hv_106, hf_106⟩
  have hvt_106 : v_106 = true := hv_106.2 (by refine ⟨by trivial, ?_⟩; exact one_mul' hs2 wa.out)
  subst hvt_106
  have sz_106 := Lib.hid (hf_106.size)
  have ha_107 := Lib.hid (ha_98.out.still hf_106)
  clear ha_98
  have hb_108 := Lib.hid (hb_99.out.still hf_106)
  clear hb_99
  have hc_109 := Lib.hid (hc_100.out.still hf_106)
  clear hc_100
  have hab_110 := Lib.hid (hab_101.out.still hf_106)
  clear hab_101
  have hac_111 := Lib.hid (hac_102.out.still hf_106)
  clear hac_102
  have hx_112 := Lib.hid (hx_104.out.still hf_106)
  clear hx_104
  have hy_113 := Lib.hid (hy_97.out.still hf_106)
  clear hy_97
  have hfw_114 := Lib.hid (hfw_105.out.then hf_106)
  clear hfw_105
  clear K_106 hv_106 hf_106
  have K_115 := qsame_any hy_113.out ha_107.out
  go_wp2_with fail
  refine K_115.mono ?_
  rintro e w_115 ⟨v_115, rfl, hv_115, hf_115⟩
  have hvt_115 : v_115 = true := hv_115.2 (by refine ⟨by trivial, ?_⟩; exact mul_one' hs2 wa.out)
  subst hvt_115
  have sz_115 := Lib.hid (hf_115.size)
  have ha_116 := Lib.hid (ha_107.out.still hf_115)
  clear ha_107
  have hb_117 := Lib.hid (hb_108.out.still hf_115)
  clear hb_108
  have hc_118 := Lib.hid (hc_109.out.still hf_115)
  clear hc_109
  have hab_119 := Lib.hid (hab_110.out.still hf_115)
  clear hab_110
  have hac_120 := Lib.hid (hac_111.out.still hf_115)
  clear hac_111
  have hx_121 := Lib.hid (hx_112.out.still hf_115)
  clear hx_112
  have hy_122 := Lib.hid (hy_113.out.still hf_115)
  clear hy_113
  have hfw_123 := Lib.hid (hfw_114.out.then hf_115)
  clear hfw_114
  clear K_115 hv_115 hf_115
  clear hx_121
  clear hy_122
  have K_124 := qjoin_any hb_117.out hc_118.out
  go_wp2_with fail
  refine K_124.mono ?_
  rintro e w_124 ⟨v_124, rfl, hv_124, Fb', hX_124, hm_124⟩
  have ha_124 := Lib.hid (ha_116.out.kept hm_124.far fun q hq e => by have := upa.out q hq; have := lob.out q e; have := sz_1.out; have := sz_3.out; have := sz_6.out; have := sz_10.out; have := sz_15.out; have := sz_21.out; have := sz_28.out; have := sz_36.out; have := hsz9.out; have := sz_53.out; have := sz_62.out; have := sz_72.out; have := sz_82.out; have := sz_89.out; have := sz_97.out; have := sz_106.out; have := sz_115.out; omega)
  clear ha_116
  have hc_124 := Lib.hid (hc_118.out.kept hm_124.far fun q hq e => by have := loc.out q hq; have := upb.out q e; have := sz_1.out; have := sz_3.out; have := sz_6.out; have := sz_10.out; have := sz_15.out; have := sz_21.out; have := sz_28.out; have := sz_36.out; have := hsz9.out; have := sz_53.out; have := sz_62.out; have := sz_72.out; have := sz_82.out; have := sz_89.out; have := sz_97.out; have := sz_106.out; have := sz_115.out; omega)
  clear hc_118
  have hab_124 := Lib.hid (hab_119.out.kept hm_124.far fun q hq e => by have := loab.out q hq; have := upb.out q e; have := sz_1.out; have := sz_3.out; have := sz_6.out; have := sz_10.out; have := sz_15.out; have := sz_21.out; have := sz_28.out; have := sz_36.out; have := hsz9.out; have := sz_53.out; have := sz_62.out; have := sz_72.out; have := sz_82.out; have := sz_89.out; have := sz_97.out; have := sz_106.out; have := sz_115.out; omega)
  clear hab_119
  have hac_124 := Lib.hid (hac_120.out.kept hm_124.far fun q hq e => by have := loac.out q hq; have := upb.out q e; have := sz_1.out; have := sz_3.out; have := sz_6.out; have := sz_10.out; have := sz_15.out; have := sz_21.out; have := sz_28.out; have := sz_36.out; have := hsz9.out; have := sz_53.out; have := sz_62.out; have := sz_72.out; have := sz_82.out; have := sz_89.out; have := sz_97.out; have := sz_106.out; have := sz_115.out; omega)
  clear hac_120
  have hb_124 := Lib.hid (show Mx w_124 Bb Fb' s (joinM D E) from hX_124)
  have hfw_124 := Lib.hid (hfw_123.out.trans hm_124.far fun q hq e => by have := lob.out q e; have := sz_1.out; have := sz_3.out; have := sz_6.out; have := sz_10.out; have := sz_15.out; have := sz_21.out; have := sz_28.out; have := sz_36.out; have := hsz9.out; have := sz_53.out; have := sz_62.out; have := sz_72.out; have := sz_82.out; have := sz_89.out; have := sz_97.out; have := sz_106.out; have := sz_115.out; have := hfw_123.out.size; omega)
  clear hb_117 hfw_123
  have sz_124 := Lib.hid (hm_124.far.size)
  clear K_124 hX_124 hv_124 hm_124
  clear hc_124
  have K_125 := pMul_yes ha_124.out hb_124.out (hT.still hfw_124.out)
  go_wp2_with fail
  refine K_125.mono ?_
  rintro e w_125 ⟨Bsum, rfl, Fsum, hX_125, hlo_125, hf_125⟩
  have hsum_125 := Lib.hid (show Mx w_125 Bsum Fsum s (mulM (A) (joinM D E)) from hX_125)
  have upsum := Lib.hid (hX_125.lt)
  have losum := Lib.hid hlo_125
  have sz_125 := Lib.hid (hf_125.size)
  have ha_126 := Lib.hid (ha_124.out.still hf_125)
  clear ha_124
  have hb_127 := Lib.hid (hb_124.out.still hf_125)
  clear hb_124
  have hab_128 := Lib.hid (hab_124.out.still hf_125)
  clear hab_124
  have hac_129 := Lib.hid (hac_124.out.still hf_125)
  clear hac_124
  have hfw_130 := Lib.hid (hfw_124.out.then hf_125)
  clear hfw_124
  clear K_125 hX_125 hlo_125 hf_125
  clear ha_126
  clear hb_127
  have K_131 := qjoin_any hab_128.out hac_129.out
  go_wp2_with fail
  refine K_131.mono ?_
  rintro e w_131 ⟨v_131, rfl, hv_131, Fab', hX_131, hm_131⟩
  have hac_131 := Lib.hid (hac_129.out.kept hm_131.far fun q hq e => by have := loac.out q hq; have := upab.out q e; have := sz_1.out; have := sz_3.out; have := sz_6.out; have := sz_10.out; have := sz_15.out; have := sz_21.out; have := sz_28.out; have := sz_36.out; have := hsz9.out; have := sz_53.out; have := sz_62.out; have := sz_72.out; have := sz_82.out; have := sz_89.out; have := sz_97.out; have := sz_106.out; have := sz_115.out; have := sz_124.out; have := sz_125.out; omega)
  clear hac_129
  have hsum_131 := Lib.hid (hsum_125.out.kept hm_131.far fun q hq e => by have := losum.out q hq; have := upab.out q e; have := sz_1.out; have := sz_3.out; have := sz_6.out; have := sz_10.out; have := sz_15.out; have := sz_21.out; have := sz_28.out; have := sz_36.out; have := hsz9.out; have := sz_53.out; have := sz_62.out; have := sz_72.out; have := sz_82.out; have := sz_89.out; have := sz_97.out; have := sz_106.out; have := sz_115.out; have := sz_124.out; have := sz_125.out; omega)
  clear hsum_125
  have hab_131 := Lib.hid (show Mx w_131 Bab Fab' s (joinM (mulM A D) (mulM A E)) from hX_131)
  have hfw_131 := Lib.hid (hfw_130.out.trans hm_131.far fun q hq e => by have := loab.out q e; have := sz_1.out; have := sz_3.out; have := sz_6.out; have := sz_10.out; have := sz_15.out; have := sz_21.out; have := sz_28.out; have := sz_36.out; have := hsz9.out; have := sz_53.out; have := sz_62.out; have := sz_72.out; have := sz_82.out; have := sz_89.out; have := sz_97.out; have := sz_106.out; have := sz_115.out; have := sz_124.out; have := sz_125.out; have := hfw_130.out.size; omega)
  clear hab_128 hfw_130
  have sz_131 := Lib.hid (hm_131.far.size)
  clear K_131 hX_131 hv_131 hm_131
  clear hac_131
  have K_132 := qsame_any hsum_131.out hab_131.out
  go_wp2_with fail
  refine K_132.mono ?_
  rintro e w_132 ⟨v_132, rfl, hv_132, hf_132⟩
  have hvt_132 : v_132 = true := hv_132.2 (by refine ⟨by trivial, ?_⟩; exact mul_join' hs2 wa.out)
  subst hvt_132
  have sz_132 := Lib.hid (hf_132.size)
  have hab_133 := Lib.hid (hab_131.out.still hf_132)
  clear hab_131
  have hsum_134 := Lib.hid (hsum_131.out.still hf_132)
  clear hsum_131
  have hfw_135 := Lib.hid (hfw_131.out.then hf_132)
  clear hfw_131
  clear K_132 hv_132 hf_132
  clear hsum_134
  clear hab_133
  have AW := awake03_any w_132 (hT.still hfw_135.out)
  go_wp2_with fail
  refine AW.mono ?_
  rintro e wz ⟨rfl, hfz⟩
  have hfz' := Lib.hid (hfw_135.out.then hfz)
  clear AW hfz
  go_wp2_with fail
  go_ret
  exact ⟨rfl, hfz'.out⟩
end
end Go.Proofs.YtoaeeojnelmlnaaDoor
