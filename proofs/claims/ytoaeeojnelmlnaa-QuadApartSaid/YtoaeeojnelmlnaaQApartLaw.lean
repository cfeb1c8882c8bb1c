/-
  QuadApart walked.
-/
import Derived.Test.YtoaeeojnelmlnaaQOf
namespace Go.Proofs.Ytoaeeojnelmlnaa
open Go.RowKit
set_option linter.unusedVariables false
set_option linter.unusedSimpArgs false
theorem numM_less0 (M : Nat → Nat → Bool) : numM (lsM M fun _ _ => false) = numM M := numM_congr fun r c => by simp [lsM]
section
set_option maxHeartbeats 8000000
set_option maxRecDepth 100000
theorem apart_law (W : World) (x : Int) (ao : Option Addr) (n cap : Nat) (R C : Nat → Int) (hn : n ≤ 9223372036854775807) (hC : Cls W ao n R C) (ix jx : Int) :
    Calls Try.prog 3 #[.int .i64 x, .slice ao n cap, .int .i64 ix, .int .i64 jx] W fun e w' => e = .returned (.bool true) ∧ Far (fun _ => False) W w' := by
  obtain ⟨s, hs⟩ : ∃ s, (x % 1024).toNat + 1 = s := ⟨_, rfl⟩
  have hs1 : 1 ≤ s := by omega
  have hs2 : s ≤ 1024 := by omega
  have SZ := size02_any x W
  rw [hs] at SZ
  have PU := put02_any s hs1 hs2 ao n cap R C hn W hC
  obtain ⟨M, hM⟩ : ∃ M, putL (fun k => red s (R k)) (fun k => red s (C k)) n = M := ⟨_, rfl⟩
  rw [hM] at PU
  have hle := numM_le M
  obtain ⟨i, hi⟩ : ∃ i, red s ix = i := ⟨_, rfl⟩
  obtain ⟨j, hj⟩ : ∃ j, red s jx = j := ⟨_, rfl⟩
  have hil : i < s := hi ▸ red_lt _ hs1
  have hjl : j < s := hj ▸ red_lt _ hs1
  have e1 := i64_and1023 ix
  have e2 := i64_and1023 jx
  have e3 := red_tmod s ix hs2
  have e4 := red_tmod s jx hs2
  rw [hi] at e3
  rw [hj] at e4
  have hs00 : ¬ ((s : Int) = 0) := by omega
  clear hC hM hs hi hj
  go_enter Try.func3, Try.ntmps3
  go_wp2_with fail
  refine SZ.mono ?_
  rintro e w' ⟨rfl, rfl⟩
  clear SZ
  go_wp2_with fail
  refine PU.mono ?_
  rintro e w1 ⟨Bm, rfl, Fm, hXm, hlm, hf1⟩
  have hXm' := Lib.hid hXm
  have hlm' := Lib.hid hlm
  have hf1' := Lib.hid hf1
  clear PU hXm hlm hf1
  go_wp2_with fail
  go_quiet (fail)
  obtain ⟨wd, hwd⟩ : ∃ wd, wd = w1.drewN nq := ⟨_, rfl⟩
  have hfd : Far (fun _ => False) w1 wd := hwd ▸ (Far.refl _ w1).drewN nq
  rw [← hwd]
  have hX2 := Lib.hid (hXm'.out.still hfd)
  have hf2 := Lib.hid (hf1'.out.then hfd)
  have hb2 := Lib.hid (fun k hk => Nat.lt_of_lt_of_le (hXm'.out.lt k hk) hfd.size : ∀ k, Fm k → k < wd.heap.size)
  clear hwd hfd hXm' hf1'
  go_wp2_with fail
  refine (qnew_yes s hs1 hs2 wd).mono ?_
  rintro e w3 ⟨rfl, l, hl, hw, hB, hf3⟩
  have hN3 := Lib.hid (Mx.new (w := wd) hs1 hs2 hl hw hB)
  have hX3 := Lib.hid (hX2.out.still hf3)
  have hf3' := Lib.hid (hf2.out.then hf3)
  have CP := qcopy_any hX3.out
  clear hB hf3 hX2 hf2
  go_wp2_with fail
  refine CP.mono ?_
  rintro e w4 ⟨Bc, rfl, Fc, hXc, hlc, hf4⟩
  have hX4 := Lib.hid (hX3.out.still hf4)
  have hN4 := Lib.hid (hN3.out.still hf4)
  have hXc' := Lib.hid hXc
  have hlc' := Lib.hid hlc
  have hb4 := Lib.hid (fun k hk => hX3.out.lt k hk : ∀ k, Fm k → k < w3.heap.size)
  have hf4z := hf4.size
  have hf3z := hf3'.out.size
  have hf4' := Lib.hid (hf3'.out.then hf4)
  have TN := qturn_any hX4.out
  clear CP hXc hlc hf4 hX3 hN3 hf3' hb2
  go_wp2_with fail
  refine TN.mono ?_
  rintro e w5 ⟨Bt, rfl, Ft, hXt, hlt, hf5⟩
  have hX5 := Lib.hid (hX4.out.still hf5)
  have hN5 := Lib.hid (hN4.out.still hf5)
  have hXc5 := Lib.hid (hXc'.out.still hf5)
  have hXt' := Lib.hid hXt
  have hlt' := Lib.hid hlt
  have hb5 := Lib.hid (fun k hk => hXc'.out.lt k hk : ∀ k, Fc k → k < w4.heap.size)
  have hf5' := Lib.hid (hf4'.out.then hf5)
  have z45 := hf5.size
  have z34 : w3.heap.size ≤ w4.heap.size := hf4z
  have LS := qless_yes hX5.out hN5.out
  clear TN hXt hlt hf5 hX4 hN4 hXc' hf4'
  go_wp2_with fail
  refine LS.mono ?_
  rintro e w6 ⟨Bd, rfl, Fd, hXd, hld, hf6⟩
  have hX6 := Lib.hid (hX5.out.still hf6)
  have hXc6 := Lib.hid (hXc5.out.still hf6)
  have hXt6 := Lib.hid (hXt'.out.still hf6)
  have hXd6 := Lib.hid hXd
  have hf6' := Lib.hid (hf5'.out.then hf6)
  have dmc : ∀ k, Fm k → ¬ Fc k := fun k h1 h2 => by have := hb4.out k h1; have := hlc'.out k h2; omega
  have dmt : ∀ k, Fm k → ¬ Ft k := fun k h1 h2 => by have := hb4.out k h1; have := hlt'.out k h2; omega
  have dmd : ∀ k, Fm k → ¬ Fd k := fun k h1 h2 => by have := hb4.out k h1; have := hld k h2; omega
  have dcd : ∀ k, Fc k → ¬ Fd k := fun k h1 h2 => by have := hb5.out k h1; have := hld k h2; omega
  have hlow : ∀ k, Fm k ∨ Fc k → W.heap.size ≤ k := fun k h => by
    rcases h with h | h
    · exact hlm'.out k h
    · have := hlc'.out k h; have := hf3z; omega
  have dmc' := Lib.hid dmc
  have dmt' := Lib.hid dmt
  have dmd' := Lib.hid dmd
  have dcd' := Lib.hid dcd
  have hlow' := Lib.hid hlow
  have ST := qset_yes hX6.out i j hil hjl
  clear LS hXd hld hf6 hX5 hN5 hXc5 hXt' hf5' dmc dmt dmd dcd hlow z45 z34 hf4z hf3z hb4 hb5
  go_wp2_with fail
  refine ST.mono ?_
  rintro e w7 ⟨rfl, Fm7, hXm7, hm7⟩
  have hXm7' := Lib.hid hXm7
  have hXc7 := Lib.hid (hXc6.out.kept hm7.far fun k h1 h2 => dmc'.out k h2 h1)
  have hXt7 := Lib.hid (hXt6.out.kept hm7.far fun k h1 h2 => dmt'.out k h2 h1)
  have hXd7 := Lib.hid (hXd6.out.kept hm7.far fun k h1 h2 => dmd'.out k h2 h1)
  have dcm7 := Lib.hid (fun k h1 h2 => by
    rcases hm7.more k h2 with h | h
    · exact dmc'.out k h h1
    · have := hXc6.out.lt k h1; omega : ∀ k, Fc k → ¬ Fm7 k)
  have hf7 := Lib.hid (hf6'.out.trans hm7.far fun k hk h => by have := hlow'.out k (.inl h); omega)
  have L1 := qlen_any hXc7.out
  clear ST hXm7 hm7 hX6 hXc6 hXt6 hXd6 hf6'
  go_wp2_with fail
  refine L1.mono ?_
  rintro e w8 ⟨rfl, hf8⟩
  have L2 := qlen_any (hXt7.out.still hf8)
  rw [numM_turn] at L2
  have hf8' := Lib.hid hf8
  clear L1 hf8
  go_wp2_with fail
  refine L2.mono ?_
  rintro e w9 ⟨rfl, hf9⟩
  have hf9' := Lib.hid (hf8'.out.then hf9)
  have L3 := qlen_any (hXd7.out.still hf9'.out)
  rw [numM_less0] at L3
  clear L2 hf9 hf8'
  go_wp2_with fail
  refine L3.mono ?_
  rintro e w10 ⟨rfl, hf10⟩
  have hfa := Lib.hid (hf9'.out.then hf10)
  have S1 := qsame_any (hXc7.out.still hfa.out) (hXd7.out.still hfa.out)
  clear L3 hf10 hf9'
  go_wp2_with fail
  refine S1.mono ?_
  rintro e w11 ⟨v1, rfl, hv1, hf11⟩
  have hv1t : v1 = true := hv1.2 (by simp [lsM])
  subst hv1t
  have hfb := Lib.hid (hfa.out.then hf11)
  have S2 := qsame_any (hXc7.out.still hfb.out) (hXm7'.out.still hfb.out)
  clear S1 hv1 hf11 hfa
  go_wp2_with fail
  refine S2.mono ?_
  rintro e w12 ⟨v2, rfl, hv2, hf12⟩
  have hfc := Lib.hid (hfb.out.then hf12)
  have hv2e : v2 = M i j := by
    cases hm : M i j
    · cases v2
      · rfl
      · have := (hv2.1 rfl).2 i j
        rw [hm, putM_at] at this; cases this
    · exact hv2.2 ⟨by trivial, fun r c => (putM_same hm r c).symm⟩
  subst hv2e
  have ST2 := qset_yes (hXc7.out.still hfc.out) i j hil hjl
  have hXm12 := Lib.hid (hXm7'.out.still hfc.out)
  have hXd12 := Lib.hid (hXd7.out.still hfc.out)
  have hfd2 := Lib.hid (hf7.out.then hfc.out)
  clear S2 hv2 hf12 hfb hXm7' hXc7 hXt7 hXd7 hf7 hfc
  have goal : ∀ mb : Bool, M i j = mb → True := fun _ _ => trivial
  clear goal
  cases hm : M i j
  · rw [hm] at ST2
    have hm' := Lib.hid hm
    clear hm
    go_wp2_with fail
    refine ST2.mono ?_
    rintro e w13 ⟨rfl, Fc2, hXc13, hm13⟩
    have hXm13 := Lib.hid (hXm12.out.kept hm13.far fun k h1 h2 => dcm7.out k h2 h1)
    have hXd13 := Lib.hid (hXd12.out.kept hm13.far fun k h1 h2 => dcd'.out k h2 h1)
    have hXc13' := Lib.hid hXc13
    have hf13 := Lib.hid (hfd2.out.trans hm13.far fun k hk h => by have := hlow'.out k (.inr h); omega)
    have L4 := qlen_any hXd13.out
    rw [numM_less0] at L4
    clear ST2 hXc13 hm13 hXm12 hXd12 hfd2
    go_wp2_with fail
    refine L4.mono ?_
    rintro e w14 ⟨rfl, hf14⟩
    have S3 := qsame_any (hXc13'.out.still hf14) (hXm13.out.still hf14)
    have hf14' := Lib.hid (hf13.out.then hf14)
    clear L4 hf14
    go_wp2_with fail
    refine S3.mono ?_
    rintro e w15 ⟨v3, rfl, hv3, hf15⟩
    have hv3t : v3 = true := hv3.2 (by simp)
    subst hv3t
    have hf15' := Lib.hid (hf14'.out.then hf15)
    clear S3 hv3 hf15
    go_wp2_with fail
    refine (awake02_any w15).mono ?_
    rintro e w16 ⟨rfl, hf16⟩
    have hf16' := Lib.hid (hf15'.out.then hf16)
    clear hf16
    go_wp2_with fail
    go_ret
    exact ⟨rfl, hf16'.out⟩
  · rw [hm] at ST2
    have hm' := Lib.hid hm
    clear hm
    go_wp2_with fail
    refine ST2.mono ?_
    rintro e w13 ⟨rfl, Fc2, hXc13, hm13⟩
    have hXm13 := Lib.hid (hXm12.out.kept hm13.far fun k h1 h2 => dcm7.out k h2 h1)
    have hXd13 := Lib.hid (hXd12.out.kept hm13.far fun k h1 h2 => dcd'.out k h2 h1)
    have hXc13' := Lib.hid hXc13
    have hf13 := Lib.hid (hfd2.out.trans hm13.far fun k hk h => by have := hlow'.out k (.inr h); omega)
    have L4 := qlen_any hXd13.out
    rw [numM_less0] at L4
    clear ST2 hXc13 hm13 hXm12 hXd12 hfd2
    go_wp2_with fail
    refine L4.mono ?_
    rintro e w14 ⟨rfl, hf14⟩
    have S3 := qsame_any (hXc13'.out.still hf14) (hXm13.out.still hf14)
    have hf14' := Lib.hid (hf13.out.then hf14)
    clear L4 hf14
    go_wp2_with fail
    refine S3.mono ?_
    rintro e w15 ⟨v3, rfl, hv3, hf15⟩
    have hv3t : v3 = true := hv3.2 (by simp)
    subst hv3t
    have hf15' := Lib.hid (hf14'.out.then hf15)
    clear S3 hv3 hf15
    go_wp2_with fail
    refine (awake02_any w15).mono ?_
    rintro e w16 ⟨rfl, hf16⟩
    have hf16' := Lib.hid (hf15'.out.then hf16)
    clear hf16
    go_wp2_with fail
    go_ret
    exact ⟨rfl, hf16'.out⟩
end
end Go.Proofs.Ytoaeeojnelmlnaa
