/-
  The closure is the least: the law.
-/
import Derived.Test.YtjolkhiggcmoiaaDoorQRFold5
import Derived.Test.YtjolkhiggcmoiaaDoorQRAwake
namespace Go.Proofs.YtjolkhiggcmoiaaDoor
open Go.RowKit Go.Shelf
set_option linter.unusedVariables false
set_option linter.unusedSimpArgs false
theorem numM_none {D : Nat → Nat → Bool} {s : Nat} (hs : s ≤ 1024) (hw : ∀ r c, D r c = true → r < s ∧ c < s) : numM D = 0 ↔ ∀ r c, D r c = false := by
  constructor
  · intro h r c
    cases e : D r c
    · rfl
    · have := hw r c e
      have := numM_pos (M := D) (r := r) (c := c) (by omega) (by omega) e
      omega
  · intro h
    rw [numM_congr h]
    exact numM_zero
section
set_option maxHeartbeats 8000000
set_option maxRecDepth 100000
theorem absent_no {w : World} {B s : Nat} {F : Nat → Prop} {M : Nat → Nat → Bool} (h : Mx w B F s M) : Calls Tryd.prog 66 #[.pointer (some ⟨B, 0, none⟩)] w fun e w' => e = .returned (.bool false) ∧ Far (fun _ => False) w w' := by
  have SD := h.side
  have hs := h.sides.1
  have ne : ((s : Int) == 0) = false := by simp; omega
  clear h
  go_enter Tryd.func66, Tryd.ntmps66
  go_wp2_with fail
  refine SD.mono ?_
  rintro e w' ⟨rfl, rfl⟩
  go_wp2_with fail
  go_ret
  exact ⟨rfl, Far.refl _ _⟩
theorem rclosure_yes {w : World} {B s : Nat} {F : Nat → Prop} {M : Nat → Nat → Bool} (h : Mx w B F s M) (hT : Tab w) : Calls Tryd.prog 21 #[.pointer (some ⟨B, 0, none⟩)] w fun e w' => ∃ B', e = .returned (.tuple #[.pointer (some ⟨B', 0, none⟩), .int .i64 0]) ∧ ∃ F' C, IsClo M C ∧ Mx w' B' F' s C ∧ (∀ k, F' k → w.heap.size ≤ k) ∧ Far (fun _ => False) w w' := by
  have AB := absent_no h
  have h' := Lib.hid h
  have hT' := Lib.hid hT
  clear h hT
  go_enter Tryd.func21, Tryd.ntmps21
  go_wp2_with fail
  refine AB.mono ?_
  rintro e w1 ⟨rfl, hf1⟩
  have CL := closed_any (h'.out.still hf1) (hT'.out.still hf1)
  have hf1' := Lib.hid hf1
  clear AB hf1
  go_wp2_with fail
  refine CL.mono ?_
  rintro e w2 ⟨B', rfl, F', C, hc, hX, hlo, hf2⟩
  have hc' := Lib.hid hc
  have hX' := Lib.hid hX
  have hlo' := Lib.hid hlo
  have hf2' := Lib.hid hf2
  clear CL hc hX hlo hf2
  go_wp2_with fail
  go_ret2
  exact ⟨_, rfl, F', C, hc'.out, hX'.out, fun k hk => Nat.le_trans hf1'.out.size (hlo'.out k hk), hf1'.out.then hf2'.out⟩
theorem inside_any {w : World} {Ba Bb s : Nat} {Fa Fb : Nat → Prop} {A D : Nat → Nat → Bool} (ha : Mx w Ba Fa s A) (hb : Mx w Bb Fb s D) : Calls Tryd.prog 23 #[.pointer (some ⟨Ba, 0, none⟩), .pointer (some ⟨Bb, 0, none⟩)] w fun e w' => ∃ v : Bool, e = .returned (.bool v) ∧ (v = true ↔ ∀ r c, A r c = true → D r c = true) ∧ Far (fun _ => False) w w' := by
  have LS := qless_yes ha hb
  have hs2 := ha.sides.2
  have hwa := ha.within
  have hiff : numM (lsM A D) = 0 ↔ ∀ r c, A r c = true → D r c = true := by
    rw [numM_none hs2 (fun r c e => hwa r c (by unfold lsM at e; rw [Bool.and_eq_true] at e; exact e.1))]
    constructor
    · intro h r c e
      have := h r c
      unfold lsM at this
      rw [e] at this
      simpa using this
    · intro h r c
      unfold lsM
      cases e : A r c
      · rfl
      · rw [h r c e]; rfl
  have hiff' := Lib.hid hiff
  clear ha hb hiff hwa
  go_enter Tryd.func23, Tryd.ntmps23
  go_wp2_with fail
  refine LS.mono ?_
  rintro e w1 ⟨B', rfl, F', hX, hlo, hf1⟩
  have LN := qlen_any hX
  obtain ⟨N, hN⟩ : ∃ N, numM (lsM A D) = N := ⟨_, rfl⟩
  rw [hN] at LN hiff'
  have hf1' := Lib.hid hf1
  clear LS hX hlo hf1 hN
  go_wp2_with fail
  refine LN.mono ?_
  rintro e w2 ⟨rfl, hf2⟩
  have hf2' := Lib.hid (hf1'.out.then hf2)
  clear LN hf2
  by_cases h0 : N = 0
  · have e0 : ((N : Int) == 0) = true := by simp; omega
    go_wp2_with fail
    go_ret
    exact ⟨true, by first | rfl | simp [h0], ⟨fun _ => hiff'.out.1 h0, fun _ => rfl⟩, hf2'.out⟩
  · have e0 : ((N : Int) == 0) = false := by simp; omega
    go_wp2_with fail
    go_ret
    exact ⟨false, by first | rfl | simp [h0], ⟨fun h => (by cases h), fun h => absurd (hiff'.out.2 h) h0⟩, hf2'.out⟩
theorem least_law (w : World) (x : Int) (a1 : Option Addr) (n1 c1 : Nat) (R1 C1 : Nat → Int) (hn1 : n1 ≤ 9223372036854775807) (hc1 : Cls w a1 n1 R1 C1) (a2 : Option Addr) (n2 c2 : Nat) (R2 C2 : Nat → Int) (hn2 : n2 ≤ 9223372036854775807) (hc2 : Cls w a2 n2 R2 C2) (hT : Tab w) :
    Calls Tryd.prog 4 #[.int .i64 x, .slice a1 n1 c1, .slice a2 n2 c2] w fun e w' => e = .returned (.bool true) ∧ Far (fun _ => False) w w' := by
  obtain ⟨s, hs⟩ : ∃ s, (x % 128).toNat + 1 = s := ⟨_, rfl⟩
  have hs2 : s ≤ 1024 := by omega
  have FM := fold05_any x s hs a1 n1 c1 R1 C1 hn1 w hc1
  obtain ⟨M, hM⟩ : ∃ M, foldR05 s R1 C1 n1 = M := ⟨_, rfl⟩
  rw [hM] at FM
  have hc2' := Lib.hid hc2
  have hT' := Lib.hid hT
  have hs' := Lib.hid hs
  clear hc1 hc2 hT hM hs
  go_enter Tryd.func4, Tryd.ntmps4
  go_wp2_with fail
  refine FM.mono ?_
  rintro e w1 ⟨Bm, rfl, Fm, hm, hlom, hf1⟩
  have FD := fold05_any x s hs'.out a2 n2 c2 R2 C2 hn2 w1 (hc2'.out.move hf1)
  obtain ⟨D, hD⟩ : ∃ D, foldR05 s R2 C2 n2 = D := ⟨_, rfl⟩
  rw [hD] at FD
  have hm' := Lib.hid hm
  have hlom' := Lib.hid hlom
  have hf1' := Lib.hid hf1
  clear FM hm hlom hf1 hD
  go_wp2_with fail
  refine FD.mono ?_
  rintro e w2 ⟨Bd, rfl, Fd, hd, hlod, hf2⟩
  have hm2 := hm'.out.still hf2
  have hfw2 := hf1'.out.then hf2
  have CL := rclosure_yes hm2 (hT'.out.still hfw2)
  have hdm := Lib.hid (show ∀ k, Fm k → ¬ Fd k from fun k h1 h2 => by have := hm'.out.lt k h1; have := hlod k h2; omega)
  have hlod' := Lib.hid (show ∀ k, Fd k → w.heap.size ≤ k from fun k hk => Nat.le_trans hf1'.out.size (hlod k hk))
  have hm2' := Lib.hid hm2
  have hd2' := Lib.hid hd
  have hfw2' := Lib.hid hfw2
  clear FD hm' hm2 hd hlod hf2 hfw2
  go_wp2_with fail
  refine CL.mono ?_
  rintro e w3 ⟨Bc, rfl, Fc, C, hclo, hc, hloc, hf3⟩
  have hwc := hc.within
  have hfw3 := hfw2'.out.then hf3
  have MU := pMul_yes hc hc (hT'.out.still hfw3)
  have hdc := Lib.hid (show ∀ k, Fc k → ¬ Fd k from fun k h1 h2 => by have := hd2'.out.lt k h2; have := hloc k h1; omega)
  have hm3' := Lib.hid (hm2'.out.still hf3)
  have hd3' := Lib.hid (hd2'.out.still hf3)
  have hc3' := Lib.hid hc
  have hclo' := Lib.hid hclo
  have hwc' := Lib.hid hwc
  have hfw3' := Lib.hid hfw3
  clear CL hm2' hd2' hfw2' hclo hc hloc hf3 hwc hfw3
  go_wp2_with fail
  refine MU.mono ?_
  rintro e w4 ⟨Bp, rfl, Fp, hp, hlop, hf4⟩
  have hfw4 := hfw3'.out.then hf4
  have CL := rclosure_yes (hc3'.out.still hf4) (hT'.out.still hfw4)
  have hm4' := Lib.hid (hm3'.out.still hf4)
  have hd4' := Lib.hid (hd3'.out.still hf4)
  have hc4' := Lib.hid (hc3'.out.still hf4)
  have hp4' := Lib.hid hp
  have hfw4' := Lib.hid hfw4
  clear MU hm3' hd3' hc3' hfw3' hp hlop hf4 hfw4
  go_wp2_with fail
  refine CL.mono ?_
  rintro e w5 ⟨Ba, rfl, Fa, C2, hclo2, ha, hloa, hf5⟩
  have IN1 := inside_any (hm4'.out.still hf5) (hc4'.out.still hf5)
  have hm5' := Lib.hid (hm4'.out.still hf5)
  have hd5' := Lib.hid (hd4'.out.still hf5)
  have hc5' := Lib.hid (hc4'.out.still hf5)
  have hp5' := Lib.hid (hp4'.out.still hf5)
  have ha5' := Lib.hid ha
  have hclo2' := Lib.hid hclo2
  have hfw5' := Lib.hid (hfw4'.out.then hf5)
  clear CL hm4' hd4' hc4' hp4' hfw4' hclo2 ha hloa hf5
  go_wp2_with fail
  refine IN1.mono ?_
  rintro e w6 ⟨v, rfl, hv, hf6⟩
  obtain rfl : v = true := hv.2 fun r c e => hclo'.out.has e
  have IN2 := inside_any (hp5'.out.still hf6) (hc5'.out.still hf6)
  have hm6' := Lib.hid (hm5'.out.still hf6)
  have hd6' := Lib.hid (hd5'.out.still hf6)
  have hc6' := Lib.hid (hc5'.out.still hf6)
  have ha6' := Lib.hid (ha5'.out.still hf6)
  have hfw6' := Lib.hid (hfw5'.out.then hf6)
  clear IN1 hm5' hd5' hc5' hp5' ha5' hfw5' hv hf6
  go_wp2_with fail
  refine IN2.mono ?_
  rintro e w7 ⟨v, rfl, hv, hf7⟩
  obtain rfl : v = true := hv.2 fun r c e => by
    obtain ⟨t, e1, e2⟩ := (mulM_iff hs2 hwc'.out).1 e
    exact hclo'.out.on e1 e2
  have SA := qsame_any (ha6'.out.still hf7) (hc6'.out.still hf7)
  have hm7' := Lib.hid (hm6'.out.still hf7)
  have hd7' := Lib.hid (hd6'.out.still hf7)
  have hc7' := Lib.hid (hc6'.out.still hf7)
  have hfw7' := Lib.hid (hfw6'.out.then hf7)
  clear IN2 hm6' hd6' hc6' ha6' hfw6' hv hf7
  go_wp2_with fail
  refine SA.mono ?_
  rintro e w8 ⟨v, rfl, hv, hf8⟩
  obtain rfl : v = true := hv.2 ⟨by trivial, (hclo2'.out.same (clo_self hclo'.out))⟩
  have JN := qjoin_any (hd7'.out.still hf8) (hm7'.out.still hf8)
  have hc8' := Lib.hid (hc7'.out.still hf8)
  have hfw8' := Lib.hid (hfw7'.out.then hf8)
  clear SA hm7' hd7' hc7' hfw7' hv hf8
  go_wp2_with fail
  refine JN.mono ?_
  rintro e w9 ⟨v, rfl, hv, Fd', hd, hmv⟩
  have hc9 := hc8'.out.kept hmv.far fun k h1 h2 => hdc.out k h1 h2
  have hfw9 : Far (fun _ => False) w w9 := hfw8'.out.trans hmv.far fun k hk e => by have := hlod'.out k e; omega
  have hwd := hd.within
  have MU := pMul_yes hd hd (hT'.out.still hfw9)
  have hd9' := Lib.hid hd
  have hc9' := Lib.hid hc9
  have hfw9' := Lib.hid hfw9
  have hwd' := Lib.hid hwd
  clear JN hc8' hfw8' hv hd hmv hc9 hfw9 hwd
  go_wp2_with fail
  refine MU.mono ?_
  rintro e w10 ⟨Bq, rfl, Fq, hq, hloq, hf10⟩
  have hd10 := hd9'.out.still hf10
  have IN3 := inside_any hq hd10
  have hd10' := Lib.hid hd10
  have hc10' := Lib.hid (hc9'.out.still hf10)
  have hfw10' := Lib.hid (hfw9'.out.then hf10)
  clear MU hd9' hc9' hfw9' hq hloq hf10 hd10
  go_wp2_with fail
  refine IN3.mono ?_
  rintro e w11 ⟨v, rfl, hv, hf11⟩
  have IN4 := inside_any (hc10'.out.still hf11) (hd10'.out.still hf11)
  have hfw11' := Lib.hid (hfw10'.out.then hf11)
  have hv' := Lib.hid hv
  clear IN3 hd10' hc10' hfw10' hv hf11
  cases v with
  | true =>
    go_wp2_with fail
    refine IN4.mono ?_
    rintro e w12 ⟨v, rfl, hv, hf12⟩
    obtain rfl : v = true := hv.2 fun r c e => hclo'.out.least (fun a b e => by unfold joinM; rw [e, Bool.or_true]) (fun a b c e1 e2 => hv'.out.1 (by trivial) a c ((mulM_iff hs2 hwd'.out).2 ⟨b, e1, e2⟩)) e
    have hfw12 := hfw11'.out.then hf12
    have AW := awake05_any w12 (hT'.out.still hfw12)
    have hfw12' := Lib.hid hfw12
    clear IN4 hv hf12 hfw12
    go_wp2_with fail
    refine AW.mono ?_
    rintro e w13 ⟨rfl, hf13⟩
    have hfw13' := Lib.hid (hfw12'.out.then hf13)
    clear AW hf13
    go_wp2_with fail
    go_ret
    exact ⟨rfl, hfw13'.out⟩
  | false =>
    have AW := awake05_any w11 (hT'.out.still hfw11'.out)
    clear IN4
    go_wp2_with fail
    refine AW.mono ?_
    rintro e w13 ⟨rfl, hf13⟩
    have hfw13' := Lib.hid (hfw11'.out.then hf13)
    clear AW hf13
    go_wp2_with fail
    go_ret
    exact ⟨rfl, hfw13'.out⟩
end
end Go.Proofs.YtjolkhiggcmoiaaDoor
