/-
  QuadJoins walked.
-/
import Derived.Test.YtoaeeojnelmlnaaDoorQTurnedLaw
import Derived.Test.YtoaeeojnelmlnaaDoorQNums
import Derived.Deep.RegionHeld3
namespace Go.Proofs.YtoaeeojnelmlnaaDoor
open Go.RowKit Go.Shelf
set_option linter.unusedVariables false
set_option linter.unusedSimpArgs false
attribute [local go_sem] Oper.semAt_some
/-- Where the law stands behind the two copies. -/
structure JS (W : World) (n0 h0 h8 h10 Ba Bb Bc Bd s : Nat) (A D C E : Nat → Nat → Bool) (Fa Fb Fc Fd : Nat → Prop) (w : World) : Prop where
  b0 : Bk w h0 4 #[.bool false]
  b8 : Bk w h8 24 #[.pointer (some ⟨Ba, 0, none⟩)]
  b10 : Bk w h10 24 #[.pointer (some ⟨Bb, 0, none⟩)]
  a : Mx w Ba Fa s A
  b : Mx w Bb Fb s D
  c : Mx w Bc Fc s C
  d : Mx w Bd Fd s E
  cl : ∀ q, Fc q → n0 ≤ q
  dl : ∀ q, Fd q → n0 ≤ q
  cd : ∀ q, Fc q → ¬ Fd q
  o0 : h0 < n0
  o8 : h8 < n0
  o10 : h10 < n0
  oa : ∀ q, Fa q → q < n0
  ob : ∀ q, Fb q → q < n0
  big : n0 ≤ w.heap.size
  low : W.heap.size ≤ n0
  far : Far (fun _ => False) W w
section
variable {W w w' : World} {n0 h0 h8 h10 Ba Bb Bc Bd s : Nat} {A D C E C' : Nat → Nat → Bool} {Fa Fb Fc Fd F' : Nat → Prop}
theorem JS.still (h : JS W n0 h0 h8 h10 Ba Bb Bc Bd s A D C E Fa Fb Fc Fd w) (hf : Far (fun _ => False) w w') : JS W n0 h0 h8 h10 Ba Bb Bc Bd s A D C E Fa Fb Fc Fd w' :=
  ⟨h.b0.far' hf id, h.b8.far' hf id, h.b10.far' hf id, h.a.still hf, h.b.still hf, h.c.still hf, h.d.still hf, h.cl, h.dl, h.cd, h.o0, h.o8, h.o10, h.oa, h.ob, Nat.le_trans h.big hf.size, h.low, h.far.then hf⟩
theorem JS.joinc (h : JS W n0 h0 h8 h10 Ba Bb Bc Bd s A D C E Fa Fb Fc Fd w) (hX : Mx w' Bc F' s C') (hm : Mv w w' Fc F') : JS W n0 h0 h8 h10 Ba Bb Bc Bd s A D C' E Fa Fb F' Fd w' :=
  ⟨h.b0.far' hm.far fun e => by have := h.cl _ e; have := h.o0; omega, h.b8.far' hm.far fun e => by have := h.cl _ e; have := h.o8; omega, h.b10.far' hm.far fun e => by have := h.cl _ e; have := h.o10; omega,
   h.a.kept hm.far fun q hq e => by have := h.cl _ e; have := h.oa _ hq; omega, h.b.kept hm.far fun q hq e => by have := h.cl _ e; have := h.ob _ hq; omega, hX, h.d.kept hm.far fun q hq e => h.cd q e hq,
   fun q hq => (hm.more q hq).elim (h.cl q) fun e => Nat.le_trans h.big e, h.dl, fun q hq hd => (hm.more q hq).elim (fun e => h.cd q e hd) fun e => by have := h.d.lt q hd; omega,
   h.o0, h.o8, h.o10, h.oa, h.ob, Nat.le_trans h.big hm.far.size, h.low, h.far.trans hm.far fun q hq e => by have := h.cl q e; have := h.low; omega⟩
theorem JS.joind (h : JS W n0 h0 h8 h10 Ba Bb Bc Bd s A D C E Fa Fb Fc Fd w) (hX : Mx w' Bd F' s C') (hm : Mv w w' Fd F') : JS W n0 h0 h8 h10 Ba Bb Bc Bd s A D C C' Fa Fb Fc F' w' :=
  ⟨h.b0.far' hm.far fun e => by have := h.dl _ e; have := h.o0; omega, h.b8.far' hm.far fun e => by have := h.dl _ e; have := h.o8; omega, h.b10.far' hm.far fun e => by have := h.dl _ e; have := h.o10; omega,
   h.a.kept hm.far fun q hq e => by have := h.dl _ e; have := h.oa _ hq; omega, h.b.kept hm.far fun q hq e => by have := h.dl _ e; have := h.ob _ hq; omega, h.c.kept hm.far fun q hq e => h.cd q hq e, hX,
   h.cl, fun q hq => (hm.more q hq).elim (h.dl q) fun e => Nat.le_trans h.big e, fun q hq hd => (hm.more q hd).elim (fun e => h.cd q hq e) fun e => by have := h.c.lt q hq; omega,
   h.o0, h.o8, h.o10, h.oa, h.ob, Nat.le_trans h.big hm.far.size, h.low, h.far.trans hm.far fun q hq e => by have := h.dl q e; have := h.low; omega⟩
end
/-- A frame under a name. -/
theorem name_frame {F : Fence} {n : Nat} {P : Program} {c : Code} {Q : Exit → Act → World → Prop} {X : Array Value} {ds : List Deferred} {w : World} (h : ∀ T, X = T → c.wpIn F n P Q { tmps := T, defers := ds } w) : c.wpIn F n P Q { tmps := X, defers := ds } w := h X rfl
section
set_option maxHeartbeats 8000000
set_option maxRecDepth 100000
theorem joins_law (W : World) (x : Int) (ao : Option Addr) (n cap : Nat) (R C : Nat → Int) (hn : n ≤ 9223372036854775807) (hC : Cls W ao n R C) (bo : Option Addr) (m bcap : Nat) (R2 C2 : Nat → Int) (hm : m ≤ 9223372036854775807) (hC2 : Cls W bo m R2 C2) (hT : Tab W) :
    Calls Tryd.prog 5 #[.int .i64 x, .slice ao n cap, .slice bo m bcap] W fun e w' => e = .returned (.bool true) ∧ Far (fun _ => False) W w' := by
  obtain ⟨s, hs⟩ : ∃ s, (x % 1024).toNat + 1 = s := ⟨_, rfl⟩
  have hs1 : 1 ≤ s := by omega
  have hs2 : s ≤ 1024 := by omega
  obtain ⟨h0, hh0⟩ : ∃ h, h = W.heap.size := ⟨_, rfl⟩
  obtain ⟨Wa, hWa⟩ : ∃ V, V = W.alloc (.cells #[.bool false] 4) := ⟨_, rfl⟩
  have hFa : Far (fun _ => False) W Wa := hWa ▸ (Far.refl _ W).alloc _
  have hBa : Bk Wa h0 4 #[.bool false] := hWa ▸ Bk.new hh0
  have SZ := size02_any x Wa
  rw [hs] at SZ
  have PU := put02_any s hs1 hs2 ao n cap R C hn Wa (hC.move hFa)
  obtain ⟨A, hA⟩ : ∃ M, putL (fun k => red s (R k)) (fun k => red s (C k)) n = M := ⟨_, rfl⟩
  rw [hA] at PU
  have PU2 : ∀ w, Far (fun _ => False) W w → _ := fun w hf => put02_any s hs1 hs2 bo m bcap R2 C2 hm w (hC2.move hf)
  obtain ⟨D, hD⟩ : ∃ M, putL (fun k => red s (R2 k)) (fun k => red s (C2 k)) m = M := ⟨_, rfl⟩
  rw [hD] at PU2
  have hleA := numM_le A
  have hleD := numM_le D
  have hh0' := Lib.hid hh0
  have hWa' := Lib.hid hWa
  have hFa' := Lib.hid hFa
  have hBa' := Lib.hid hBa
  clear hC hC2 hA hD hs hh0 hWa hFa hBa
  refine (callsIn_wide (n := 10)).1 (callsIn_of_wp_marks Tryd.func5 rfl trivial (wpIn_wide.2 ?_) rfl)
  simp only [Tryd.ntmps5, List.size_toArray, List.length_cons, List.length_nil, Nat.reduceAdd, Nat.reduceSub, Array.replicate_succ, Array.replicate_zero, List.push_toArray, List.append_toArray, List.nil_append, List.cons_append]
  go_upto_region 1 with fail
  rw [← hh0'.out, ← hWa'.out]
  go_wp2_with fail
  refine SZ.mono ?_
  rintro e w' ⟨rfl, rfl⟩
  clear SZ
  go_wp2_with fail
  refine PU.mono ?_
  rintro e w1 ⟨Ba, rfl, Fa, hXa, hla, hf1⟩
  have hXa' := Lib.hid hXa
  have hla' := Lib.hid hla
  have hf1' := Lib.hid (hFa'.out.then hf1)
  have hBa1 := Lib.hid (hBa'.out.far' hf1 id)
  clear PU hXa hla hf1 hBa'
  go_upto_region 3 with fail
  obtain ⟨h8, hh8⟩ : ∃ h, h = w1.heap.size := ⟨_, rfl⟩
  obtain ⟨w2, hw2⟩ : ∃ V, V = w1.alloc (.cells #[.pointer (some ⟨Ba, 0, none⟩)] 24) := ⟨_, rfl⟩
  rw [← hh8, ← hw2]
  have hf12 : Far (fun _ => False) w1 w2 := hw2 ▸ (Far.refl _ w1).alloc _
  have hB8 := Lib.hid (show Bk w2 h8 24 #[.pointer (some ⟨Ba, 0, none⟩)] from hw2 ▸ Bk.new hh8)
  have hXa2 := Lib.hid (hXa'.out.still hf12)
  have hB02 := Lib.hid (hBa1.out.far' hf12 id)
  have hf2 := Lib.hid (hf1'.out.then hf12)
  have hFlo := Lib.hid (fun q hq => Nat.lt_of_lt_of_le (hXa'.out.lt q hq) hf12.size : ∀ q, Fa q → q < w2.heap.size)
  have PB := PU2 w2 hf2.out
  clear hh8 hw2 hf12 hXa' hBa1 hf1' PU2
  go_wp2_with fail
  refine PB.mono ?_
  rintro e w3 ⟨Bb, rfl, Fb, hXb, hlb, hf3⟩
  have hXb' := Lib.hid hXb
  have hXa3 := Lib.hid (hXa2.out.still hf3)
  have hB83 := Lib.hid (hB8.out.far' hf3 id)
  have hB03 := Lib.hid (hB02.out.far' hf3 id)
  have hf3' := Lib.hid (hf2.out.then hf3)
  have hab := Lib.hid (fun q h1 h2 => by have := hFlo.out q h1; have := hlb q h2; omega : ∀ q, Fa q → ¬ Fb q)
  clear PB hXb hlb hf3 hXa2 hB8 hB02 hf2 hFlo
  go_upto_region 4 with fail
  obtain ⟨h10, hh10⟩ : ∃ h, h = w3.heap.size := ⟨_, rfl⟩
  obtain ⟨w4, hw4⟩ : ∃ V, V = w3.alloc (.cells #[.pointer (some ⟨Bb, 0, none⟩)] 24) := ⟨_, rfl⟩
  rw [← hh10, ← hw4]
  have hf34 : Far (fun _ => False) w3 w4 := hw4 ▸ (Far.refl _ w3).alloc _
  have hB104 : Bk w4 h10 24 #[.pointer (some ⟨Bb, 0, none⟩)] := hw4 ▸ Bk.new hh10
  have hXa4 := Lib.hid (hXa3.out.still hf34)
  have hXb4 := Lib.hid (hXb'.out.still hf34)
  have hB84 := Lib.hid (hB83.out.far' hf34 id)
  have hB04 := Lib.hid (hB03.out.far' hf34 id)
  have hf4 := Lib.hid (hf3'.out.then hf34)
  have c8 : w4.cell? ⟨h8, 0, none⟩ = some (.pointer (some ⟨Ba, 0, none⟩)) := hB84.out.cell 0
  have c10 : w4.cell? ⟨h10, 0, none⟩ = some (.pointer (some ⟨Bb, 0, none⟩)) := hB104.cell 0
  have hB104' := Lib.hid hB104
  clear hh10 hw4 hf34 hB104 hXa3 hXb' hB83 hB03 hf3'
  go_upto_region 6 with fail
  have CA := Lib.hid (fun w (hf : Far (fun _ => False) w4 w) => qcopy_any (hXa4.out.still hf))
  have CB := Lib.hid (fun w (hf : Far (fun _ => False) w4 w) => qcopy_any (hXb4.out.still hf))
  go_cut [12, 13] from 51 to 54 (fun cv dv wc => ∃ (Bc Bd : Nat) (Fc Fd : Nat → Prop), cv = .pointer (some ⟨Bc, 0, none⟩) ∧ dv = .pointer (some ⟨Bd, 0, none⟩) ∧ JS W w4.heap.size h0 h8 h10 Ba Bb Bc Bd s A D A D Fa Fb Fc Fd wc)
  case first =>
    refine wp_region_noPanic ?_
    go_region_with (first
      | (refine (CA.out _ ((Far.refl (fun _ => False) w4).drew)).mono ?_
         rintro e w5 ⟨Bc, rfl, Fc, hXc, hlc, hf5⟩
         have hf45 := Lib.hid (Far.then (a := w4) ((Far.refl (fun _ => False) w4).drew) hf5)
         have c105 : w5.cell? ⟨h10, 0, none⟩ = some (.pointer (some ⟨Bb, 0, none⟩)) := (hB104'.out.far' hf45.out id).cell 0
         have hXc' := Lib.hid hXc
         have hlc' := Lib.hid hlc
         clear hXc hlc hf5)
      | (refine (CB.out _ hf45.out).mono ?_
         rintro e w6 ⟨Bd, rfl, Fd, hXd, hld, hf6⟩
         have hXd' := Lib.hid hXd
         have hld' := Lib.hid hld
         have hf6' := Lib.hid hf6
         clear hXd hld hf6))
    all_goals refine NoPanic.normal ?_
    all_goals (go_wp2_with fail)
    all_goals go_meet
    all_goals exact ⟨Bc, Bd, Fc, Fd, rfl, rfl, ⟨hB04.out.far' (hf45.out.then hf6'.out) id, hB84.out.far' (hf45.out.then hf6'.out) id, hB104'.out.far' (hf45.out.then hf6'.out) id, hXa4.out.still (hf45.out.then hf6'.out), hXb4.out.still (hf45.out.then hf6'.out), hXc'.out.still hf6'.out, hXd'.out, fun q hq => Nat.le_trans (by exact Nat.le_refl _) (hlc'.out q hq), fun q hq => Nat.le_trans hf45.out.size (hld'.out q hq), fun q h1 h2 => by have := hXc'.out.lt q h1; have := hld'.out q h2; omega, hB04.out.lt, hB84.out.lt, hB104'.out.lt, hXa4.out.lt, hXb4.out.lt, (hf45.out.then hf6'.out).size, hf4.out.size, hf4.out.then (hf45.out.then hf6'.out)⟩⟩
  case rest =>
    obtain ⟨Bc, Bd, Fc, Fd, rfl, rfl, hJ⟩ := hcut
    have hJ' := Lib.hid hJ
    have c10 : wc.cell? ⟨h10, 0, none⟩ = some (.pointer (some ⟨Bb, 0, none⟩)) := hJ.b10.cell 0
    have J1 := qjoin_any hJ.c hJ.b
    clear hJ c8 CA CB hXa4 hXb4 hB84 hB04 hB104' hf4 hab hla'
    go_wp2_with fail
    refine J1.mono ?_
    rintro e w5 ⟨v1, rfl, hv1, Fc1, hX1, hm1⟩
    have hJ5 := hJ'.out.joinc hX1 hm1
    have c85 : w5.cell? ⟨h8, 0, none⟩ = some (.pointer (some ⟨Ba, 0, none⟩)) := hJ5.b8.cell 0
    have J2 := qjoin_any hJ5.d hJ5.a
    have hv1' := Lib.hid (hv1.trans (num_join hs2 hJ5.b.within))
    have hJ5' := Lib.hid hJ5
    clear J1 hX1 hm1 hJ5 hv1 hJ' c10
    go_wp2_with fail
    refine J2.mono ?_
    rintro e w6 ⟨v2, rfl, hv2, Fd1, hX2, hm2⟩
    have hJ6 := hJ5'.out.joind hX2 hm2
    have hv2' := Lib.hid (hv2.trans (num_join hs2 hJ6.a.within))
    have S1 := qsame_any hJ6.c hJ6.d
    have hJ6' := Lib.hid hJ6
    obtain ⟨nA, hnA⟩ : ∃ n, numM A = n := ⟨_, rfl⟩
    obtain ⟨nD, hnD⟩ : ∃ n, numM D = n := ⟨_, rfl⟩
    obtain ⟨nC, hnC⟩ : ∃ n, numM (joinM A D) = n := ⟨_, rfl⟩
    obtain ⟨nE, hnE⟩ : ∃ n, numM (joinM D A) = n := ⟨_, rfl⟩
    have hleC := hnC ▸ numM_le (joinM A D)
    rw [hnA] at hv1' hleA
    rw [hnC] at hv1'
    rw [hnD] at hv2' hleD
    rw [hnE] at hv2'
    have hEC : nE = nC := by rw [← hnE, ← hnC]; exact numM_congr fun r c => by unfold joinM; exact Bool.or_comm _ _
    subst hEC
    have hsub : numM (lsM (joinM A D) D) + nD = nE := by rw [← hnD, ← hnC]; exact num_less_join A D
    have b1 : v1 = decide (nA < nE) := by
      have := hv1'.out
      cases v1 <;> simp_all
    have b2 : v2 = decide (nD < nE) := by
      have := hv2'.out
      cases v2 <;> simp_all
    obtain ⟨u1, hu1⟩ : ∃ u, decide (nA < nE) = u := ⟨_, rfl⟩
    obtain ⟨u2, hu2⟩ : ∃ u, decide (nD < nE) = u := ⟨_, rfl⟩
    rw [hu1] at b1
    rw [hu2] at b2
    subst b1 b2
    have hi1 : decide ((nA : Int) < (nE : Int)) = v1 := by rw [← hu1, decide_eq_decide]; omega
    have hi2 : decide ((nD : Int) < (nE : Int)) = v2 := by rw [← hu2, decide_eq_decide]; omega
    have hnA' := Lib.hid hnA
    have hnD' := Lib.hid hnD
    have hnC' := Lib.hid hnC
    have hnE' := Lib.hid hnE
    have hsub' := Lib.hid hsub
    clear J2 hX2 hm2 hJ6 hv1' hv2 hv2' c85 hJ5' hnA hnD hnC hnE hsub
    rw [hnA'.out, hnD'.out]
    go_wp2_with fail
    refine S1.mono ?_
    rintro e w7 ⟨v3, rfl, hv3, hf7⟩
    have hv3t : v3 = true := hv3.2 ⟨trivial, fun r c => by unfold joinM; exact Bool.or_comm _ _⟩
    subst hv3t
    have hJ7 := Lib.hid (hJ6'.out.still hf7)
    have L1 := qlen_any hJ7.out.c
    rw [hnC'.out] at L1
    clear S1 hv3 hf7 hJ6'
    go_wp2_with fail
    refine L1.mono ?_
    rintro e w8 ⟨rfl, hf8⟩
    have hJ8 := Lib.hid (hJ7.out.still hf8)
    have L2 := qlen_any hJ8.out.d
    rw [hnE'.out] at L2
    clear L1 hf8 hJ7
    go_wp2_with fail
    refine L2.mono ?_
    rintro e w9 ⟨rfl, hf9⟩
    have hJ9 := Lib.hid (hJ8.out.still hf9)
    have L3 := qlen_any hJ9.out.a
    rw [hnA'.out] at L3
    have c8 : w9.cell? ⟨h8, 0, none⟩ = some (.pointer (some ⟨Ba, 0, none⟩)) := hJ9.out.b8.cell 0
    clear L2 hf9 hJ8
    go_wp2_with fail
    refine L3.mono ?_
    rintro e w10 ⟨rfl, hf10⟩
    have hJ10 := Lib.hid (hJ9.out.still hf10)
    have L4 := qlen_any hJ10.out.b
    rw [hnD'.out] at L4
    have c10 : w10.cell? ⟨h10, 0, none⟩ = some (.pointer (some ⟨Bb, 0, none⟩)) := hJ10.out.b10.cell 0
    clear L3 hf10 hJ9 c8
    go_wp2_with fail
    refine L4.mono ?_
    rintro e w11 ⟨rfl, hf11⟩
    have hJ11 := Lib.hid (hJ10.out.still hf11)
    have J3 := qjoin_any hJ11.out.c hJ11.out.b
    have c10 : w11.cell? ⟨h10, 0, none⟩ = some (.pointer (some ⟨Bb, 0, none⟩)) := hJ11.out.b10.cell 0
    clear L4 hf11 hJ10
    go_wp2_with fail
    refine J3.mono ?_
    rintro e w12 ⟨v3, rfl, hv3, Fc2, hX3, hm3⟩
    have hv3f : v3 = false := by
      cases v3
      · rfl
      · obtain ⟨r, c, h1, h2⟩ := hv3.1 rfl
        unfold joinM at h2
        simp [h1] at h2
    subst hv3f
    have hJ12 := Lib.hid (hJ11.out.joinc (hX3.congr (M' := joinM A D) fun r c => by unfold joinM; cases A r c <;> cases D r c <;> rfl) hm3)
    have J4 := qjoin_any hJ12.out.c hJ12.out.c
    clear J3 hX3 hm3 hv3 hJ11 c10
    go_wp2_with fail
    refine J4.mono ?_
    rintro e w13 ⟨v4, rfl, hv4, Fc3, hX4, hm4⟩
    have hv4f : v4 = false := by
      cases v4
      · rfl
      · obtain ⟨r, c, h1, h2⟩ := hv4.1 rfl
        rw [h1] at h2
        cases h2
    subst hv4f
    have hJ13 := Lib.hid (hJ12.out.joinc (hX4.congr (M' := joinM A D) fun r c => by unfold joinM; cases A r c <;> cases D r c <;> rfl) hm4)
    have S2 := qless_yes hJ13.out.c hJ13.out.b
    have c10 : w13.cell? ⟨h10, 0, none⟩ = some (.pointer (some ⟨Bb, 0, none⟩)) := hJ13.out.b10.cell 0
    clear J4 hX4 hm4 hv4 hJ12
    go_wp2_with fail
    refine S2.mono ?_
    rintro e w14 ⟨Bl, rfl, Fl, hXl, _, hf14⟩
    have hJ14 := Lib.hid (hJ13.out.still hf14)
    have hXl' := Lib.hid hXl
    have S3 := qless_yes hJ14.out.a hJ14.out.c
    have c8 : w14.cell? ⟨h8, 0, none⟩ = some (.pointer (some ⟨Ba, 0, none⟩)) := hJ14.out.b8.cell 0
    clear S2 hXl hf14 hJ13 c10
    go_wp2_with fail
    refine S3.mono ?_
    rintro e w15 ⟨Bn, rfl, Fn, hXn, _, hf15⟩
    have hJ15 := Lib.hid (hJ14.out.still hf15)
    have hXl15 := Lib.hid (hXl'.out.still hf15)
    have L5 := qlen_any hXn
    have hz0 : numM (lsM A (joinM A D)) = 0 := (numM_congr fun r c => by unfold lsM joinM; cases A r c <;> cases D r c <;> rfl).trans numM_zero
    rw [hz0] at L5
    clear S3 hXn hf15 hJ14 hXl' c8 hz0
    go_wp2_with fail
    refine L5.mono ?_
    rintro e w16 ⟨rfl, hf16⟩
    have hJ16 := Lib.hid (hJ15.out.still hf16)
    have hXl16 := Lib.hid (hXl15.out.still hf16)
    have L6 := qlen_any hXl16.out
    obtain ⟨nL, hnL⟩ : ∃ n, numM (lsM (joinM A D) D) = n := ⟨_, rfl⟩
    rw [hnL] at L6
    have hnLi : (nL : Int) = (nE : Int) - (nD : Int) := by have := hsub'.out; omega
    have hle2 : (nD : Int) ≤ (nE : Int) := by have := hsub'.out; omega
    have hnLi' := Lib.hid hnLi
    clear L5 hf16 hJ15 hXl15 hnL hnLi
    go_wp2_with fail
    refine L6.mono ?_
    rintro e w17 ⟨rfl, hf17⟩
    rw [hnLi'.out]
    have hJ17 := Lib.hid (hJ16.out.still hf17)
    have hXl17 := Lib.hid (hXl16.out.still hf17)
    have L7 := qlen_any hJ17.out.c
    rw [hnC'.out] at L7
    clear L6 hf17 hJ16 hXl16
    go_wp2_with fail
    refine L7.mono ?_
    rintro e w18 ⟨rfl, hf18⟩
    have hJ18 := Lib.hid (hJ17.out.still hf18)
    have hXl18 := Lib.hid (hXl17.out.still hf18)
    have CE := qCells_any hXl18.out
    have FN := fn_nil2
    clear L7 hf18 hJ17 hXl17
    go_wp2_with fail
    refine CE.mono ?_
    rintro e W0 ⟨hb, v, rfl, hbX, hbO, hbz, hf19⟩
    have hJ0 := Lib.hid (hJ18.out.still hf19)
    have hTw0 := Lib.hid (hT.still hJ0.out.far)
    have hwin := Lib.hid hXl18.out.within
    have hwa := Lib.hid hJ0.out.a.within
    have hbX' := Lib.hid hbX
    have hbO' := Lib.hid hbO
    clear CE hbX hbO hbz hf19 hJ18 hXl18
    go_wp2_with fail
    refine (wpIn_wide (n := 10)).1 ?_
    obtain ⟨aov, capv, rfl⟩ := q_form hbO'.out
    obtain ⟨M, hM⟩ : ∃ M, lsM (joinM A D) D = M := ⟨_, rfl⟩
    rw [hM] at hbO' hbX' hwin
    have hM' := Lib.hid hM
    clear hM
    obtain ⟨L, hL⟩ : ∃ L, placesL M s = L := ⟨_, rfl⟩
    rw [hL] at hbO' hbX'
    have hLf : L.length ≤ 256 := by have := placesL_few M hs2; rw [hL] at this; exact this
    have hLp : ∀ p ∈ L, p.1 < 16 ∧ p.2 < 16 := fun p hp => by
      rw [← hL] at hp
      obtain ⟨h1, h2, _⟩ := mem_placesL.1 hp
      have := lns_le hs2
      omega
    clear hL FN
    refine name_frame fun T hTT => ?_
    refine range_ok (by decide) (by rw [← hTT]; rfl) (enters_of Tryd.func90 (by kernel_rfl) rfl) (qcells_seq (10 - 1) (by decide) hb w18.heap.size _ M L hLf hLp W0 hbX'.out hbO'.out hTw0.out) KT.trans (fun V l o o' hl h ho => KT.put (B := W0.heap.size) V l o o' hTw0.out.lt hl h ho) (fun _ => rfl)
      (fun pre V => Far (fun _ => False) W0 V) (fun _ _ _ => False) ?own ?ownx (Far.refl _ _)
      (fun pre y a' V => ((pre ++ [y]) <+: cellsF M L.length L) ∧ a' = { tmps := ((((T.setIfInBounds 170 (.int .i64 (y.1 : Nat))).setIfInBounds 171 (.int .i64 (y.2 : Nat))).setIfInBounds 25 (.int .i64 (y.1 : Nat))).setIfInBounds 26 (.int .i64 (y.2 : Nat))), defers := [] }) ?hAx ?assign ?body ?done ?stop
    case own => exact fun u A B row h hg hr => far_own h hg hr
    case ownx => exact fun c u A B row h _ _ => h
    case hAx => exact fun pre y a' u A B row h _ _ => h
    case stop => exact fun D c pre V _ _ h _ => h.elim
    case assign =>
      intro l pre y V KK hI hok hK
      have hK' := hK _ V (KeepsFrom.refl _ _) (KT.refl _) hI ⟨hok, rfl⟩
      subst hTT
      simp only [encP, List.zip_toArray, List.zip_cons_cons, List.zip_nil_right, List.foldl_toArray', List.foldl_cons, List.foldl_nil, List.setIfInBounds_toArray, List.set_cons_succ, List.set_cons_zero] at hK' ⊢
      gi_wp2
      exact hK'
    case body =>
      rintro l pre y a' V hl hI ⟨hpre, rfl⟩
      have hm : M y.1 y.2 = true := told_there (hpre.subset (by simp))
      obtain ⟨hy1, hy2⟩ := hwin.out _ _ hm
      have hI' : Far (fun _ => False) W0 V := hI
      have hJV := hJ0.out.still hI'
      have hma : A y.1 y.2 = true ∧ D y.1 y.2 = false := by
        rw [← hM'.out] at hm
        unfold lsM joinM at hm
        cases ha : A y.1 y.2 <;> cases hd : D y.1 y.2 <;> simp [ha, hd] at hm ⊢
      have G1 := Mx.get hJV.a y.1 y.2 hy1 hy2
      rw [hma.1] at G1
      have c8 : V.cell? ⟨h8, 0, none⟩ = some (.pointer (some ⟨Ba, 0, none⟩)) := hJV.b8.cell 0
      have hJVh := Lib.hid hJV
      have hma' := Lib.hid hma
      have hIh := Lib.hid hI'
      subst hTT
      simp only [List.setIfInBounds_toArray, List.set_cons_succ, List.set_cons_zero]
      clear hpre hm hI hI' hJV hma
      gi_wp2_with (first | (refine ⟨trivial, ?_⟩; refine (CallsIn.inRound l (callsIn_wide.2 G1)).mono ?_; rintro e V1 ⟨rfl, hf1⟩; have hJV1 := Lib.hid (hJVh.out.still hf1); have hf1' := Lib.hid hf1; have G2 := Mx.get hJV1.out.b y.1 y.2 hy1 hy2; rw [hma'.out.2] at G2; have c10 : V1.cell? ⟨h10, 0, none⟩ = some (.pointer (some ⟨Bb, 0, none⟩)) := hJV1.out.b10.cell 0; clear hf1 G1 c8) | (refine ⟨trivial, ?_⟩; refine (CallsIn.inRound l (callsIn_wide.2 G2)).mono ?_; rintro e V2 ⟨rfl, hf2⟩; have hf2' := Lib.hid (hf1'.out.then hf2); clear hf2 G2 c10))
      exact ⟨keeps_far hf2'.out fun _ h => h.elim, KT.far hf2'.out (Nat.lt_of_lt_of_le hTw0.out.lt hIh.out.size), hIh.out.then hf2'.out⟩
    case done =>
      rintro D xs V hD hS hI hK
      have hI' : Far (fun _ => False) W0 V := hI
      have hDn : D ≠ h0 := by have := hJ0.out.b0.lt; omega
      have hJV := Lib.hid (hJ0.out.still hI')
      have hK' := Lib.hid hK
      subst hTT
      clear hS hI hI' hK
      go_wp2_with fail
      refine (awake02_any V).mono ?_
      rintro e V2 ⟨rfl, hv2⟩
      have hJV2 := Lib.hid (hJV.out.still hv2)
      have g0 : V2.cell? ⟨h0, 0, none⟩ = some (.bool false) := hJV2.out.b0.cell 0
      have g1 := hJV2.out.b0.free 0
      have hKV : V2.heap[D]? = some (.deferred (some [])) := (hv2.block D (Array.getElem?_eq_some_iff.1 hK'.out).1 id).trans hK'.out
      have hKS := Lib.hid ((heap_setCell_other V2 ⟨h0, 0, none⟩ D (.bool true) hDn).trans hKV)
      have R1 := Lib.hid (show Bk ((V2.setCell ⟨h0, 0, none⟩ (.bool true)).putObj D (.deferred none)) h0 4 #[.bool true] from (World.putObj_heap_other (fun e => hDn e.symm)).trans (hJV2.out.b0.set 0 (.bool true)))
      have hZ := Lib.hid (show Far (fun k => W.heap.size ≤ k) W ((V2.setCell ⟨h0, 0, none⟩ (.bool true)).putObj D (.deferred none)) from
        ((hJV2.out.far.mono (G := fun k => W.heap.size ≤ k) fun _ _ h => h.elim).set ⟨h0, 0, none⟩ (.bool true) (fun _ => by have := hh0'.out; show W.heap.size ≤ h0; omega)).grown (grownBy_putObj' _ D (.deferred none)) (fun k hk e => by cases e; have := hJ0.out.far.size; omega))
      clear hKV hv2
      go_wp2_with fail
      refine ⟨by simp, .inl ⟨D, _, rfl, run_takeDeferred hKS.out, ?_⟩⟩
      refine ⟨.bool true, ?_, rfl, hZ.out.mono fun k hk h => by omega⟩
      have hc := R1.out.cell 0
      simp [results, Tryd.f5, go_sem, hc]
end
end Go.Proofs.YtoaeeojnelmlnaaDoor
