/-
  MarksBack walked.
-/
import Derived.Test.YtogobjokjpddbaaBackL
import Derived.Test.YtogobjokjpddbaaListM
namespace Go.Proofs.Ytogobjokjpddbaa
open Go.RowKit Go.Shelf
set_option linter.unusedVariables false
set_option linter.unusedSimpArgs false
section
set_option maxHeartbeats 8000000
set_option maxRecDepth 100000
theorem back_law (s : ByteArray) (v : Value) (L : Nat) (M : Nat → Nat) (w : World) (hs : s.size ≤ 1048576) (hv : SlB w v L M) (hL : L ≤ 1048576) :
    Calls Try.prog 7 #[.string s, v] w fun e w' => e = .returned (.bool true) ∧ Below w.heap.size w w' := by
  obtain ⟨AM, cM, rfl, hM, hMc⟩ := hv
  have HM := Lib.hid hM
  have HMC := Lib.hid hMc
  clear hM hMc
  have hle := stopAt_le s
  have hml := ml_all s
  by_cases hlt : stopAt s < s.size
  · go_enter Try.func7, Try.ntmps7
    go_wp2_with fail
    refine (scan_any s _ (by omega)).mono ?_
    rintro e w1 ⟨he, hb⟩
    rw [if_pos hlt] at he
    subst he
    have HB := Lib.hid hb
    clear hb hlt
    go_wp2_with fail
    refine (awake_any _).mono ?_
    rintro e w2 ⟨rfl, hb2⟩
    go_wp2_with fail
    go_ret
    exact ⟨rfl, HB.out.trans (hb2.mono HB.out.size)⟩
  · have HE := Lib.hid (fun k (hk : k < (ml s).length) => ml_each hk)
    have hsum := texts_sum (s := s)
    obtain ⟨a1, a2, a3⟩ := FM_lay (good_gap1 s)
    obtain ⟨b1, b2, b3⟩ := FM_lay (good_gap2 s M L)
    have hT : joined (FM s) (ml s).length = lay gap1 (tx s) (ml s).length := joined_lay (FM s) _
    have hz1 := lay_total gap1 (tx s) 1 (fun k => by unfold gap1; split; exact Nat.zero_le _; exact Nat.le_refl _) (ml s).length
    have hz2 := fun k => lay_total (gap2 M L) (tx s) 6 (fun k => by unfold gap2; rw [bw_size]; omega) k
    have hz2n := hz2 (ml s).length
    have HZ : Hid (∀ k, k < (ml s).length → (lay (gap2 M L) (tx s) k).size + 6 + (tx s k).size ≤ 8388608) := Lib.hid fun k hk => by
      obtain ⟨_, _, hp⟩ := lay_at (gap := gap2 M L) (t := tx s) hk
      rw [lay_size] at hp
      have : (gap2 M L k).size ≤ 6 := by unfold gap2; rw [bw_size]; omega
      omega
    have HLS := Lib.hid (lay_succ (gap2 M L) (tx s))
    have ok0 := ok_FM (s := s) (F := FM s) (fun _ _ => ⟨rfl, rfl⟩)
    have ok1 := ok_FM (s := s) (F := FM (lay gap1 (tx s) (ml s).length)) (fun k hk => ⟨(a3 k hk).1, (a3 k hk).2.2⟩)
    have j1 := joined_same (F := FM (lay gap1 (tx s) (ml s).length)) (G := FM s) (n := (ml s).length) (fun k hk => (a3 k hk).2.2)
    rw [hT] at j1
    have tz : ∀ k, k < (ml s).length → (FM s k).2.2.size ≤ 1048576 := fun k hk => by have := (ml_each hk).2.2.2.2; unfold tx at this; omega
    have tz1 : ∀ k, k < (ml s).length → (FM (lay gap1 (tx s) (ml s).length) k).2.2.size ≤ 1048576 := fun k hk => by rw [(a3 k hk).2.2]; exact tz k hk
    obtain ⟨T, hTe⟩ : ∃ T, T = lay gap1 (tx s) (ml s).length := ⟨_, rfl⟩
    rw [← hTe] at a1 a2 a3 hT ok1 j1 tz1 hz1
    have hTz : T.size ≤ 2097152 := by omega
    obtain ⟨Wd, hWe⟩ : ∃ Wd, Wd = lay (gap2 M L) (tx s) (ml s).length := ⟨_, rfl⟩
    rw [← hWe] at b1 b2 b3 hz2n
    have hWz : Wd.size ≤ 8388608 := by omega
    have HWE := Lib.hid hWe
    have HA3 := Lib.hid a3
    have HB3 := Lib.hid b3
    have T0 : ∀ (v : Value) (w : World), SlM w v (ml s).length (FM s) → Calls Try.prog 15 #[v] w fun e w' => e = .returned (.tuple #[.string T, .int .i64 0]) ∧ Below w.heap.size w w' := fun v w hv =>
      (text_any v _ (FM s) w hv (by omega) tz (by rw [hT]; omega)).mono fun e w' h => by
        obtain ⟨h1, h2⟩ := h
        rw [if_pos ok0, hT] at h1
        exact ⟨h1, h2⟩
    have T1 : ∀ (v : Value) (w : World), SlM w v (ml s).length (FM T) → Calls Try.prog 15 #[v] w fun e w' => e = .returned (.tuple #[.string T, .int .i64 0]) ∧ Below w.heap.size w w' := fun v w hv =>
      (text_any v _ (FM T) w hv (by omega) tz1 (by rw [j1]; omega)).mono fun e w' h => by
        obtain ⟨h1, h2⟩ := h
        rw [if_pos ok1, j1] at h1
        exact ⟨h1, h2⟩
    have SC : ∀ (U : ByteArray) (w : World), U.size ≤ 8388608 → stopAt U = U.size → (ml U).length = (ml s).length → Calls Try.prog 9 #[.string U] w fun e w' => ∃ v, e = .returned (.tuple #[v, .int .i64 0, .int .i64 0]) ∧ SlM w' v (ml s).length (FM U) ∧ Below w.heap.size w w' := fun U w h1 h2 h3 =>
      (scan_any U w (by omega)).mono fun e w' h => by
        obtain ⟨h4, h5⟩ := h
        rw [if_neg (by omega)] at h4
        obtain ⟨v, rfl, hO⟩ := h4
        have := SlM.of_own hO
        rw [txt_length, h3] at this
        exact ⟨v, rfl, this, h5⟩
    have S0 := fun w => SC s w (by omega) (by omega) rfl
    have S1 := fun w => SC T w (by omega) a2 a1
    have S2 := fun w => SC Wd w (by omega) b2 b1
    clear hlt hsum a1 a2 a3 b1 b2 b3 hT hz1 hz2 hz2n ok0 ok1 j1 tz tz1 hTe hWe SC
    generalize (ml s).length = n at *
    have HS0 := Lib.hid S0
    have HS1 := Lib.hid S1
    have HS2 := Lib.hid S2
    have HT0 := Lib.hid T0
    have HT1 := Lib.hid T1
    clear S0 S1 S2 T0 T1
    go_enter Try.func7, Try.ntmps7
    go_wp2_with fail
    refine (HS0.out _).mono ?_
    rintro e w1 ⟨v0, rfl, hv0, hb1⟩
    have HD1 := Lib.hid hb1
    have HV0 := Lib.hid hv0
    clear hb1 hv0
    go_wp2_with fail
    refine (HT0.out _ _ HV0.out).mono ?_
    rintro e w2 ⟨rfl, hb2⟩
    have HD2 := Lib.hid (HD1.out.trans (hb2.mono HD1.out.size))
    have HV1 := Lib.hid (HV0.out.stays hb2)
    clear hb2 HD1 HV0
    go_wp2_with fail
    refine (HS1.out _).mono ?_
    rintro e w3 ⟨v1, rfl, hv1, hb3⟩
    have HD3 := Lib.hid (HD2.out.trans (hb3.mono HD2.out.size))
    have HV2 := Lib.hid (HV1.out.stays hb3)
    have HU2 := Lib.hid hv1
    obtain ⟨A0, c0, rfl, hA0⟩ := HV2.out
    obtain ⟨A1, c1, rfl, hA1⟩ := HU2.out
    have HA0 := Lib.hid hA0
    have HA1 := Lib.hid hA1
    clear hb3 HD2 HV1 hv1 hA0 hA1
    have hD3s := HD3.out.size
    have HMW : Hid (0 < L → ∃ b off, AM = some ⟨b, off, none⟩ ∧ b < w3.heap.size ∧ ∀ j, j < L → w3.cell? ⟨b, off + j, none⟩ = some (.int .u8 (M j))) := Lib.hid fun h => by
      obtain ⟨b, off, h1, h2, h3⟩ := HMC.out h
      exact ⟨b, off, h1, by omega, fun j hj => (HD3.out.cell (p := ⟨b, _, none⟩) h2).trans (h3 j hj)⟩
    clear HMC
    have hn9 : n ≤ 1048576 := by omega
    go_wp2_with fail
    go_loopw [12, 13, 14] (fun sv i _ wr => ∃ k : Nat, k ≤ n ∧ i = .int .i64 k ∧ sv = .string (lay (gap2 M L) (tx s) k) ∧ Below w3.heap.size w3 wr) (fun _ i _ _ => n - (intOf i).toNat)
    case atStart => exact ⟨0, Nat.zero_le _, rfl, rfl, Below.refl _ _⟩
    case round =>
      obtain ⟨k, hk, rfl, rfl, hbl⟩ := hrel
      by_cases hkn : k < n
      · have hdk : decide ((k : Int) < (n : Int)) = true := by rw [decide_eq_true_eq]; omega
        obtain ⟨g0, o0, rfl, l0, k0⟩ := HA0.out (by omega)
        obtain ⟨g1, o1, rfl, l1, k1⟩ := HA1.out (by omega)
        obtain ⟨x1, _, x3⟩ := HA3.out k hkn
        have d0 := (hbl.cell (p := ⟨g0, o0 + k * 3, none⟩) l0).trans (k0 k hkn).1
        have d2 := (hbl.cell (p := ⟨g0, o0 + k * 3 + 2, none⟩) l0).trans (k0 k hkn).2.2
        have e0 := (hbl.cell (p := ⟨g1, o1 + k * 3, none⟩) l1).trans (k1 k hkn).1
        have e2 := (hbl.cell (p := ⟨g1, o1 + k * 3 + 2, none⟩) l1).trans (k1 k hkn).2.2
        rw [x1] at e0
        rw [x3] at e2
        have hzk := HZ.out k hkn
        have htx : (FM s k).2.2 = tx s k := rfl
        rw [htx] at d2 e2
        have HST := Lib.hid (HLS.out k)
        have q1 : ((FM s k).1 != (FM s k).1) = false := by simp
        have q2 : ((tx s k).toList == (tx s k).toList) = true := by simp
        have HK0 := Lib.hid (fun w' (hb : Below w3.heap.size w3 w') => (show w'.cell? ⟨g0, o0 + k * 3 + 2, none⟩ = some (.string (tx s k)) from by have := (hb.cell (p := ⟨g0, o0 + k * 3 + 2, none⟩) l0).trans (k0 k hkn).2.2; rwa [htx] at this))
        clear k0 k1 x1 x3 htx
        generalize tx s k = t at *
        generalize lay (gap2 M L) (tx s) k = U at *
        go_wp2_with fail
        go_quiet (fail)
        go_wp2_with fail
        have hbq : Below w3.heap.size w3 (wr.drewN nq) := hbl.trans ⟨rfl, rfl, rfl, Nat.le_refl _, fun _ _ => rfl⟩
        clear d0 d2 e0 e2 hbl
        generalize wr.drewN nq = wq at *
        have hbq0 := Lib.hid hbq
        clear hbq
        go_loopw [12, 14] (fun sv jv wr => ∃ j : Nat, j ≤ L ∧ j ≤ 5 ∧ jv = .int .i64 j ∧ sv = .string (U ++ bw M j) ∧ Below w3.heap.size w3 wr) (fun _ jv _ => 5 - (intOf jv).toNat)
        case atStart => exact ⟨0, Nat.zero_le _, Nat.zero_le _, rfl, rfl, hbq0.out⟩
        case round =>
          obtain ⟨j, hj1, hj2, rfl, rfl, hbl⟩ := hrel
          have hbz := bw_size M j
          have hUz : (U ++ bw M j).size ≤ 8388608 := by rw [ByteArray.size_append, hbz]; omega
          have hUz2 : (U ++ bw M j).size + t.size ≤ 8388608 := by rw [ByteArray.size_append, hbz]; omega
          by_cases hjj : j < L ∧ j < 5
          · obtain ⟨hjl, hj5⟩ := hjj
            have hd1 : decide ((j : Int) < (L : Int)) = true := by rw [decide_eq_true_eq]; omega
            have hd2 : decide ((j : Int) < 5) = true := by rw [decide_eq_true_eq]; omega
            obtain ⟨bm, om, rfl, lm', km⟩ := HMW.out (by omega)
            have cm := (hbl.cell (p := ⟨bm, om + j, none⟩) lm').trans (km j hjl)
            have hm256 := HM.out j hjl
            have hbmw : bm < wr.heap.size := Nat.lt_of_lt_of_le lm' hbl.size
            have hbits := bits_and3 (M j) hm256
            have hnx : U ++ bw M (j + 1) = U ++ bw M j ++ ⟨#[bb (M j)]⟩ := by rw [show bw M (j + 1) = bw M j ++ ⟨#[bb (M j)]⟩ from rfl, ByteArray.append_assoc]
            have hbb : bb (M j) = if M j % 4 = 0 then 32 else if M j % 4 = 1 then 9 else if M j % 4 = 2 then 10 else 13 := rfl
            have HNX := Lib.hid hnx
            have HBB := Lib.hid hbb
            have hlt4 : M j % 4 < 4 := Nat.mod_lt _ (by decide)
            clear km hnx hbb hbz
            generalize U ++ bw M j = UB at *
            generalize hr : M j % 4 = r at *
            have HR := Lib.hid hr
            clear hr
            generalize M j = mj at *
            rcases (by omega : r = 0 ∨ r = 1 ∨ r = 2 ∨ r = 3) with rfl | rfl | rfl | rfl
            all_goals
              go_wp2_with fail
              go_roundw
              case rel => exact ⟨j + 1, by omega, by omega, by go_num, by rw [HNX.out, HBB.out]; rfl, hbl.alloc hbl.size _⟩
              case measure => simp [intOf]; omega
          · have hj : j = min L 5 := by omega
            have hg : lay (gap2 M L) (tx s) (k + 1) = U ++ bw M j ++ t := by rw [HST.out, hj]; rfl
            have HG := Lib.hid hg
            have ht2 := HK0.out _ hbl
            have hdd : (decide ((j : Int) < (L : Int)) && decide ((j : Int) < 5)) = false := by rw [Bool.and_eq_false_iff, decide_eq_false_iff_not, decide_eq_false_iff_not]; omega
            have HBL := Lib.hid hbl
            clear hg hbl hbz
            generalize U ++ bw M j = UB at *
            by_cases hjL : j < L
            · have hd1 : decide ((j : Int) < (L : Int)) = true := by rw [decide_eq_true_eq]; omega
              have hd2 : decide ((j : Int) < 5) = false := by rw [decide_eq_false_iff_not]; omega
              clear hdd hjj hj
              go_wp2_with fail
              go_roundw
              case rel => exact ⟨k + 1, by omega, by go_num, by rw [HG.out], HBL.out⟩
              case measure => simp [intOf]; omega
            · have hd1 : decide ((j : Int) < (L : Int)) = false := by rw [decide_eq_false_iff_not]; omega
              clear hdd hjj hj
              go_wp2_with fail
              go_roundw
              case rel => exact ⟨k + 1, by omega, by go_num, by rw [HG.out], HBL.out⟩
              case measure => simp [intOf]; omega
      · have hdk : decide ((k : Int) < (n : Int)) = false := by rw [decide_eq_false_iff_not]; omega
        have hkn' : k = n := by omega
        have HW := Lib.hid (show lay (gap2 M L) (tx s) k = Wd by rw [HWE.out, hkn'])
        have HD4 := Lib.hid (HD3.out.trans (hbl.mono HD3.out.size))
        have HV3 := Lib.hid (HV2.out.stays hbl)
        have HU3 := Lib.hid (HU2.out.stays hbl)
        clear hbl hkn'
        rw [HW.out]
        clear HW
        go_wp2_with fail
        refine (HT1.out _ _ HU3.out).mono ?_
        rintro e w5 ⟨rfl, hb5⟩
        have HD5 := Lib.hid (HD4.out.trans (hb5.mono HD4.out.size))
        have HV4 := Lib.hid (HV3.out.stays hb5)
        clear hb5 HD4 HV3 HU3
        go_wp2_with fail
        refine (HS2.out _).mono ?_
        rintro e w6 ⟨v2, rfl, hv2, hb6⟩
        have HD6 := Lib.hid (HD5.out.trans (hb6.mono HD5.out.size))
        obtain ⟨_, _, hh, hB0⟩ := HV4.out.stays hb6
        obtain ⟨A2, c2, rfl, hA2⟩ := hv2
        cases hh
        have HB0 := Lib.hid hB0
        have HA2 := Lib.hid hA2
        clear hb6 HD5 HV4 hB0 hA2
        have qT : (T.toList == T.toList) = true := by simp
        go_wp2_with fail
        go_loopw [18] (fun iv wr => ∃ i : Nat, i ≤ n ∧ iv = .int .i64 i ∧ Below w6.heap.size w6 wr) (fun iv _ => n - (intOf iv).toNat)
        case atStart => exact ⟨0, Nat.zero_le _, rfl, Below.refl _ _⟩
        case round =>
          obtain ⟨i, hi, rfl, hbl⟩ := hrel
          by_cases hin : i < n
          · have hdi : decide ((i : Int) < (n : Int)) = true := by rw [decide_eq_true_eq]; omega
            obtain ⟨g0, o0, rfl, l0, k0⟩ := HB0.out (by omega)
            obtain ⟨g1, o1, rfl, l1, k1⟩ := HA2.out (by omega)
            obtain ⟨x1, x2, x3⟩ := HB3.out i hin
            obtain ⟨_, _, y1, y2, y3⟩ := HE.out i hin
            have d0 := (hbl.cell (p := ⟨g0, o0 + i * 3, none⟩) l0).trans (k0 i hin).1
            have d1 := (hbl.cell (p := ⟨g0, o0 + i * 3 + 1, none⟩) l0).trans (k0 i hin).2.1
            have d2 := (hbl.cell (p := ⟨g0, o0 + i * 3 + 2, none⟩) l0).trans (k0 i hin).2.2
            have e0 := (hbl.cell (p := ⟨g1, o1 + i * 3, none⟩) l1).trans (k1 i hin).1
            have e1 := (hbl.cell (p := ⟨g1, o1 + i * 3 + 1, none⟩) l1).trans (k1 i hin).2.1
            have e2 := (hbl.cell (p := ⟨g1, o1 + i * 3 + 2, none⟩) l1).trans (k1 i hin).2.2
            rw [x1] at e0
            rw [x3] at e2
            clear k0 k1 x1 x3 y3
            generalize (FM Wd i).2.1 = p1 at *
            generalize (FM s i).2.1 = p0 at *
            generalize (FM s i).2.2 = t at *
            generalize (FM s i).1 = c0 at *
            have q0 : (c0 != c0) = false := by simp
            have q2 : (t.toList == t.toList) = true := by simp
            have q3 : decide (p1 < p0 - (s.size : Int)) = false := by rw [decide_eq_false_iff_not]; omega
            have z1 : -1048576 ≤ p0 - (s.size : Int) := by omega
            have z2 : p0 - (s.size : Int) ≤ 0 := by omega
            go_wp2_with fail
            go_quiet (fail)
            go_wp2_with fail
            exact ⟨⟨i + 1, by omega, by go_num, hbl.trans ⟨rfl, rfl, rfl, Nat.le_refl _, fun _ _ => rfl⟩⟩, by simp [intOf]; omega⟩
          · have hdi : decide ((i : Int) < (n : Int)) = false := by rw [decide_eq_false_iff_not]; omega
            have HD7 := Lib.hid (HD6.out.trans (hbl.mono HD6.out.size))
            clear hbl
            go_wp2_with fail
            refine (awake_any _).mono ?_
            rintro e w7 ⟨rfl, hb7⟩
            go_wp2_with fail
            go_ret
            exact ⟨rfl, HD7.out.trans (hb7.mono HD7.out.size)⟩
end
end Go.Proofs.Ytogobjokjpddbaa
