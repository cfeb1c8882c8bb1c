/-
  LeastCleans walked.
-/
import Derived.Test.YtbckikcfcclioaaHead13
import Derived.Test.YtbckikcfcclioaaRefCheckC
import Derived.Test.YtbckikcfcclioaaClean13
import Derived.Test.YtbckikcfcclioaaPlain
namespace Go.Proofs.Ytbckikcfcclioaa
open Go.RowKit
set_option linter.unusedVariables false
set_option linter.unusedSimpArgs false
theorem filt_pl {p : Tr → Bool} {q : Int × List Sy → Bool} (h : ∀ t, p t = q (pl t)) (T : List Tr) : (T.filter p).map pl = (T.map pl).filter q := by
  rw [List.filter_map]
  congr 1
  exact List.filter_congr fun t _ => h t
theorem filt_pl2 {p : Tr → Bool} {q : Int × List Sy → Bool} (h : ∀ t, p t = q (pl t)) {T T' : List Tr} (e : T'.map pl = T.map pl) : (T'.filter p).map pl = (T.filter p).map pl := by
  rw [filt_pl h, filt_pl h, e]
theorem pE_pl (E : Nat → Bool) (t : Tr) : pE E t = (fun p : Int × List Sy => p.2.all (goodF E)) (pl t) := rfl
theorem pU_pl (U : Nat → Bool) (t : Tr) : pU U t = (fun p : Int × List Sy => U p.1.toNat) (pl t) := rfl
theorem pl_closedU' {T T' : List Tr} (h : T'.map pl = T.map pl) {U : Nat → Bool} (hc : ClosedU T U) : ClosedU T' U := fun t ht hU k hk => by
  obtain ⟨u, hu, e1, e2⟩ := pl_some h ht
  exact hc u hu (e1 ▸ hU) k (e2 ▸ hk)
theorem pl_leastU' {T T' : List Tr} (h : T'.map pl = T.map pl) {F : Nat → Prop} {U : Nat → Bool} (hl : LeastU T' F U) : LeastU T F U := fun C hC => hl C (pl_closedU' h hC)
theorem pS_pE {T : List Tr} {s : Nat → Int} {E : Nat → Bool} (hc : ClosedS T s) (hl : LeastS T s) (ec : ClosedG goodF T E) (el : LeastG goodF T E) (t : Tr) : pS s t = pE E t := by
  unfold pS pE
  rw [Bool.eq_iff_iff, decide_eq_true_eq, long_all _ _ (Int.le_refl _), List.all_eq_true]
  refine forall_congr' fun x => forall_congr' fun _ => ?_
  unfold goodF
  rw [Bool.or_eq_true, fruit_iff hc hl ec el]
theorem clean_same {T T1 T' : List Tr} {S n : Nat} {f : Nat → Int} {E U V : Nat → Bool} {s : Nat → Int} (h1 : T1.map pl = T.map pl) (ht : T'.map pl = ((T1.filter (pE E)).filter (pU U)).map pl)
    (ec : ClosedG goodF T1 E) (el : LeastG goodF T1 E) (uc : ClosedU (T1.filter (pE E)) U) (uf : ∀ j, FromIn n f j → U j = true) (ul : LeastU (T1.filter (pE E)) (FromIn n f) U)
    (hc : ClosedS T s) (hl : LeastS T s) (vc : ClosedU (T.filter (pS s)) V) (vf : ∀ j, FromIn n f j → V j = true) (vl : LeastU (T.filter (pS s)) (FromIn n f) V) : T'.map pl = ((T.filter (pS s)).filter (pU V)).map pl := by
  have e1 : pS s = pE E := funext fun t => pS_pE hc hl (pl_closedG h1.symm ec) (pl_leastG h1 el) t
  rw [e1] at vc vl ⊢
  have e2 := filt_pl2 (q := fun p : Int × List Sy => p.2.all (goodF E)) (pE_pl E) h1
  have e3 : U = V := funext fun k => used_uniq (pl_closedU' e2.symm uc) uf (pl_leastU' e2 ul) vc vf vl k
  rw [ht, e3, filt_pl2 (q := fun p : Int × List Sy => V p.1.toNat) (pU_pl V) e2]
section
set_option maxHeartbeats 8000000
set_option maxRecDepth 100000
theorem clean_no (S : Int) (pv : Value) (T : List Tr) (fo : Option Addr) (n fc : Nat) (w : World) (hP : Prods w pv T) (hs : T.length ≤ maxLen) (hs2 : ∀ t ∈ T, t.2.2.length ≤ maxLen) (hok : ¬ CnfOK S T) :
    Calls Try.prog 21 #[.agg #[.int .i64 S, pv], .slice fo n fc] w fun e w' => Far (fun _ => False) w w' ∧ e = .returned (.tuple #[.agg #[.int .i64 0, .slice none 0 0], .int .i64 220]) := by
  obtain ⟨h0, hh0⟩ : ∃ h, h = w.heap.size := ⟨_, rfl⟩
  obtain ⟨kR, hkR⟩ : ∃ k, k = h0 + 1 := ⟨_, rfl⟩
  obtain ⟨ao, ac, rfl⟩ := Src.form hP.1
  obtain ⟨w0, hw0⟩ : ∃ w0, w0 = (w.alloc (.cells #[.int .i64 S, .slice ao T.length ac] 24)).alloc (.cells #[.int .i64 0, .slice none 0 0] 24) := ⟨_, rfl⟩
  have hA0 : Bk w0 h0 24 #[.int .i64 S, .slice ao T.length ac] := hw0 ▸ (Bk.new hh0).alloc _
  have hR0 : Bk w0 kR 24 #[.int .i64 0, .slice none 0 0] := hw0 ▸ Bk.new (by simp [hkR, hh0])
  have hF0 : Far (fun _ => False) w w0 := hw0 ▸ ((Far.refl _ w).alloc _).alloc _
  have a0 : w0.cell? ⟨h0, 0, none⟩ = some (.int .i64 S) := hA0.cell 0
  have a1 : w0.cell? ⟨h0, 1, none⟩ = some (.slice ao T.length ac) := hA0.cell 1
  have CK := checkFrom_no S (.slice ao T.length ac) T fo n fc w0 (hP.move hF0) hs hs2 hok
  have hkw := Lib.hid (show w.heap.size ≤ kR by omega)
  have hh0' := Lib.hid hh0
  have hkR' := Lib.hid hkR
  have hw0' := Lib.hid hw0
  have hR0' := Lib.hid hR0
  have hF0' := Lib.hid hF0
  clear hP hs hs2 hok hh0 hkR hw0 hA0 hR0 hF0
  go_enter Try.func21, Try.ntmps21
  go_upto_region 1 with fail
  rw [← hh0'.out, ← hkR'.out, ← hw0'.out]
  go_step3
  go_wp2_with fail
  refine CK.mono ?_
  rintro e w1 ⟨hf1, rfl⟩
  have hF1 := Lib.hid (hF0'.out.then hf1)
  have hR1 := Lib.hid (hR0'.out.far' hf1 id)
  have r0 : w1.cell? ⟨kR, 0, none⟩ = some (.int .i64 0) := hR1.out.cell 0
  have r1 : w1.cell? ⟨kR, 1, none⟩ = some (.slice none 0 0) := hR1.out.cell 1
  have z0 : w1.frozen? ⟨kR, 0, none⟩ = false := hR1.out.free 0
  have z1 : w1.frozen? ⟨kR, 1, none⟩ = false := hR1.out.free 1
  clear CK hf1 a0 a1
  go_wp2_with fail
  have hS5 := (Far.refl (fun k => k = kR) w1).set ⟨kR, 0, none⟩ (.int .i64 0) (fun _ => rfl)
  have hS6 := hS5.set ⟨kR, 1, none⟩ (.slice none 0 0) (fun _ => rfl)
  have hB6 : Bk ((w1.setCell ⟨kR, 0, none⟩ (.int .i64 0)).setCell ⟨kR, 1, none⟩ (.slice none 0 0)) kR 24 #[.int .i64 0, .slice none 0 0] := (hR1.out.set 0 (.int .i64 0)).set 1 _
  have hF6 := Lib.hid (hF1.out.out hS6 fun k hk e => by have := hkw.out; omega)
  clear r0 r1 z0 z1 hS5 hS6
  generalize ((w1.setCell ⟨kR, 0, none⟩ (.int .i64 0)).setCell ⟨kR, 1, none⟩ (.slice none 0 0)) = W6 at *
  have c0 : W6.cell? ⟨kR, 0, none⟩ = some (.int .i64 0) := hB6.cell 0
  have c1 : W6.cell? ⟨kR, 1, none⟩ = some (.slice none 0 0) := hB6.cell 1
  try rw [Exit.noGoto_ret]
  exact bodyPost_ret (v := .tuple #[.agg #[.int .i64 0, .slice none 0 0], .int .i64 220]) (by simp [results, Try.f21, go_sem, c0, c1]) rfl ⟨hF6.out, rfl⟩
theorem cleanlaw_no (S : Int) (pv : Value) (T : List Tr) (fo : Option Addr) (n fc : Nat) (w : World) (hP : Prods w pv T) (hs : T.length * 32 ≤ 140737488351232) (hs2 : ∀ t ∈ T, t.2.2.length * 16 ≤ 140737488351232) (hok : ¬ CnfOK S T) :
    Calls Try.prog 6 #[.agg #[.int .i64 S, pv], .slice fo n fc] w fun e w' => e = .returned (.bool true) ∧ Far (fun _ => False) w w' := by
  have hfit := fits_of hs hs2
  obtain ⟨h0, hh0⟩ : ∃ h, h = w.heap.size := ⟨_, rfl⟩
  obtain ⟨ao, ac, rfl⟩ := Src.form hP.1
  obtain ⟨W, hW⟩ : ∃ W, W = w.alloc (.cells #[.int .i64 S, .slice ao T.length ac] 24) := ⟨_, rfl⟩
  have hF : Far (fun _ => False) w W := hW ▸ alloc_far0 _ _
  have hX : Bk W h0 24 #[.int .i64 S, .slice ao T.length ac] := hW ▸ Bk.new hh0
  have hPW := hP.move hF
  have HK := Lib.hid (fun w' (hf : Far (fun _ => False) W w') => (show w'.cell? ⟨h0, 0, none⟩ = some (.int .i64 S) ∧ w'.cell? ⟨h0, 1, none⟩ = some (.slice ao T.length ac) from ⟨(hX.far' hf id).cell 0, (hX.far' hf id).cell 1⟩))
  have CP := Lib.hid (fun w' (hf : Far (fun _ => False) W w') => copy_any S (.slice ao T.length ac) T w' (hPW.move hf) hs hs2)
  have LU := Lib.hid (fun pv' T' w' (hp : Prods w' pv' T') (hm : T'.map pl = T.map pl) => clean_no S pv' T' fo n fc w' hp (fits_pl hm hfit).2.1 (fits_pl hm hfit).2.2 fun h => hok (ok_pl hm.symm h))
  have RC := Lib.hid (fun w' (hf : Far (fun _ => False) W w') => rcheck_any S (.slice ao T.length ac) T w' (hPW.move hf) hfit.2.1 hfit.2.2)
  rw [pcode_no hok] at RC
  obtain ⟨a0, a1⟩ := HK.out W (Far.refl _ _)
  have C1 := CP.out W (Far.refl _ _)
  have hF' := Lib.hid hF
  have hh0' := Lib.hid hh0
  have hW' := Lib.hid hW
  clear hP hs hs2 hok hh0 hW hF hX hPW hfit
  go_enter Try.func6, Try.ntmps6
  go_upto_region 1 with fail
  rw [← hh0'.out, ← hW'.out]
  go_wp2_with fail
  refine C1.mono ?_
  rintro e w1 ⟨pv1, T1, rfl, ho1, hm1, hf1⟩
  have E1 := LU.out pv1 T1 w1 ho1.prods hm1
  have hf1' := Lib.hid hf1
  clear C1 ho1 hm1 hf1 a0 a1
  go_wp2_with fail
  refine E1.mono ?_
  rintro e w2 ⟨hf2, rfl⟩
  have hf2' := Lib.hid ((hf1'.out.then hf2).alloc (.cells #[.int .i64 0, .slice none 0 0] 24))
  clear E1 hf2
  go_wp2_with fail
  refine (head13_any _).mono ?_
  rintro e w7 ⟨rfl, hf7⟩
  have hf7' := Lib.hid (hf2'.out.then hf7)
  obtain ⟨a0, a1⟩ := HK.out w7 hf7'.out
  have R7 := RC.out w7 hf7'.out
  clear hf7
  go_wp2_with fail
  refine R7.mono ?_
  rintro e w8 ⟨rfl, hf8⟩
  have hf8' := Lib.hid (hf7'.out.then hf8)
  clear R7 hf8 a0 a1
  go_wp2_with fail
  go_ret
  exact ⟨rfl, hF'.out.then hf8'.out⟩
theorem cleanlaw_yes (S : Nat) (pv : Value) (T : List Tr) (fo : Option Addr) (n fc : Nat) (f : Nat → Int) (w : World) (hP : Prods w pv T) (hs : T.length ≤ 1048576) (hs2 : ∀ t ∈ T, t.2.2.length * 16 ≤ 140737488351232) (hok : CnfOK (S : Int) T) (hI : Ints w fo n f) (hn : n ≤ 1048576) (hN : tot T ≤ 1048576) :
    Calls Try.prog 6 #[.agg #[.int .i64 (S : Int), pv], .slice fo n fc] w fun e w' => e = .returned (.bool true) ∧ Far (fun _ => False) w w' := by
  have hfit := fits_of (T := T) (by omega) hs2
  obtain ⟨h0, hh0⟩ : ∃ h, h = w.heap.size := ⟨_, rfl⟩
  obtain ⟨ao, ac, rfl⟩ := Src.form hP.1
  obtain ⟨W, hW⟩ : ∃ W, W = w.alloc (.cells #[.int .i64 (S : Int), .slice ao T.length ac] 24) := ⟨_, rfl⟩
  have hF : Far (fun _ => False) w W := hW ▸ alloc_far0 _ _
  have hX : Bk W h0 24 #[.int .i64 (S : Int), .slice ao T.length ac] := hW ▸ Bk.new hh0
  have hPW := hP.move hF
  have hIW := hI.move hF
  have HK := Lib.hid (fun w' (hf : Far (fun _ => False) W w') => (show w'.cell? ⟨h0, 0, none⟩ = some (.int .i64 (S : Int)) ∧ w'.cell? ⟨h0, 1, none⟩ = some (.slice ao T.length ac) from ⟨(hX.far' hf id).cell 0, (hX.far' hf id).cell 1⟩))
  have CP := Lib.hid (fun w' (hf : Far (fun _ => False) W w') => copy_any (S : Int) (.slice ao T.length ac) T w' (hPW.move hf) hfit.1.1 hfit.1.2)
  have LU := Lib.hid (fun pv' T' w' (hp : Prods w' pv' T') (hm : T'.map pl = T.map pl) (hf : Far (fun _ => False) W w') => clean_yes S pv' T' fo n fc f w' hp (fits_pl hm hfit).1.1 (fits_pl hm hfit).1.2 (ok_pl hm hok) (hIW.move hf) (by unfold maxLen; omega))
  have RC := Lib.hid (fun w' (hf : Far (fun _ => False) W w') => rcheck_any (S : Int) (.slice ao T.length ac) T w' (hPW.move hf) hfit.2.1 hfit.2.2)
  rw [pcode_yes hok] at RC
  have RU := Lib.hid (fun w' (hf : Far (fun _ => False) W w') => rclean_any S (.slice ao T.length ac) T fo n fc f w' (hPW.move hf) hs hfit.2.2 hok (hIW.move hf) hn hN)
  have hfit' := Lib.hid hfit
  obtain ⟨a0, a1⟩ := HK.out W (Far.refl _ _)
  have C1 := CP.out W (Far.refl _ _)
  have hF' := Lib.hid hF
  have hh0' := Lib.hid hh0
  have hW' := Lib.hid hW
  clear hP hs hs2 hok hh0 hW hF hX hPW hI hIW hN hfit
  go_enter Try.func6, Try.ntmps6
  go_upto_region 1 with fail
  rw [← hh0'.out, ← hW'.out]
  go_wp2_with fail
  refine C1.mono ?_
  rintro e w1 ⟨pv1, T1, rfl, ho1, hm1, hf1⟩
  have E1 := LU.out pv1 T1 w1 ho1.prods hm1 hf1
  have hm1' := Lib.hid hm1
  have hf1' := Lib.hid hf1
  clear C1 ho1 hm1 hf1 a0 a1
  go_wp2_with fail
  refine E1.mono ?_
  rintro e w2 ⟨hf2, hcase⟩
  have hf2' := Lib.hid (hf1'.out.then hf2)
  obtain ⟨kD, hkD⟩ : ∃ k, k = w2.heap.size := ⟨_, rfl⟩
  have hkD' := Lib.hid hkD
  clear E1 hf2
  rcases hcase with ⟨hfr, rfl⟩ | ⟨hfr, pv2, T2, E, U, rfl, hP2, hm2, hcE, hlE, hcU, hfU, hlU⟩
  · have hfr' := Lib.hid hfr
    obtain ⟨w3, hw3⟩ : ∃ w3, w3 = w2.alloc (.cells #[.int .i64 0, .slice none 0 0] 24) := ⟨_, rfl⟩
    have hf3' := Lib.hid (hf2'.out.then (hw3 ▸ alloc_far0 _ _ : Far (fun _ => False) w2 w3))
    have hD3 : Hid (Bk w3 kD 24 #[.int .i64 0, .slice none 0 0]) := Lib.hid (hw3 ▸ Bk.new hkD)
    have hw3' := Lib.hid hw3
    clear hfr hw3 hkD
    go_upto_region 2 with fail
    rw [← hkD'.out, ← hw3'.out]
    go_wp2_with fail
    refine (head13_any _).mono ?_
    rintro e w7 ⟨rfl, hf7⟩
    have hf7' := Lib.hid (hf3'.out.then hf7)
    have hD7 := Lib.hid (hD3.out.far' hf7 id)
    obtain ⟨a0, a1⟩ := HK.out w7 hf7'.out
    have R7 := RC.out w7 hf7'.out
    clear hf7
    go_wp2_with fail
    refine R7.mono ?_
    rintro e w8 ⟨rfl, hf8⟩
    have hf8' := Lib.hid (hf7'.out.then hf8)
    have hD8 := Lib.hid (hD7.out.far' hf8 id)
    clear R7 hf8 a0 a1
    obtain ⟨a0, a1⟩ := HK.out w8 hf8'.out
    have U8 := RU.out w8 hf8'.out
    go_wp2_with fail
    refine U8.mono ?_
    rintro e w9 ⟨hf9, hcase⟩
    have hf9' := Lib.hid (hf8'.out.then hf9)
    have hD9 := Lib.hid (hD8.out.far' hf9 id)
    clear U8 hf9 a0 a1
    rcases hcase with ⟨_, rfl⟩ | ⟨hfr2, _⟩
    · obtain ⟨kW, hkW⟩ : ∃ k, k = w9.heap.size := ⟨_, rfl⟩
      obtain ⟨w10, hw10⟩ : ∃ w10, w10 = w9.alloc (.cells #[.int .i64 0, .slice none 0 0] 24) := ⟨_, rfl⟩
      have hf90 : Far (fun _ => False) w9 w10 := hw10 ▸ alloc_far0 _ _
      have hf10' := Lib.hid (hf9'.out.then hf90)
      have hW10 : Bk w10 kW 24 #[.int .i64 0, .slice none 0 0] := hw10 ▸ Bk.new hkW
      have hD10 := hD9.out.far' hf90 id
      have d0 : w10.cell? ⟨kD, 0, none⟩ = some (.int .i64 0) := hD10.cell 0
      have d1 : w10.cell? ⟨kD, 1, none⟩ = some (.slice none 0 0) := hD10.cell 1
      have v0 : w10.cell? ⟨kW, 0, none⟩ = some (.int .i64 0) := hW10.cell 0
      have v1 : w10.cell? ⟨kW, 1, none⟩ = some (.slice none 0 0) := hW10.cell 1
      have SM := same_yes 0 (.slice none 0 0) (.slice none 0 0) [] [] w10 ⟨Src.nil _ _, fun t ht => by cases ht⟩ ⟨Src.nil _ _, fun t ht => by cases ht⟩ rfl ⟨⟨by simp, fun t ht => by cases ht⟩, by simp, fun t ht => by cases ht⟩
      have hkW' := Lib.hid hkW
      have hw10' := Lib.hid hw10
      clear hkW hw10 hf90 hW10 hD10
      go_upto_region 7 with fail
      rw [← hkW'.out, ← hw10'.out]
      go_wp2_with fail
      refine SM.mono ?_
      rintro e w11 ⟨rfl, hf11⟩
      have hf11' := Lib.hid (hf10'.out.then hf11)
      clear SM hf11 d0 d1 v0 v1
      go_wp2_with fail
      go_ret
      exact ⟨rfl, hF'.out.then hf11'.out⟩
    · exact absurd hfr2 hfr'.out
  · have hfr' := Lib.hid hfr
    obtain ⟨po, pc, rfl⟩ := Src.form hP2.1
    obtain ⟨w3, hw3⟩ : ∃ w3, w3 = w2.alloc (.cells #[.int .i64 (S : Int), .slice po T2.length pc] 24) := ⟨_, rfl⟩
    have hf23 : Far (fun _ => False) w2 w3 := hw3 ▸ alloc_far0 _ _
    have hP3 := Lib.hid (hP2.move hf23)
    have hf3' := Lib.hid (hf2'.out.then hf23)
    have hD3 : Hid (Bk w3 kD 24 #[.int .i64 (S : Int), .slice po T2.length pc]) := Lib.hid (hw3 ▸ Bk.new hkD)
    have hw3' := Lib.hid hw3
    have HS := Lib.hid (fun (s : Nat → Int) (V : Nat → Bool) (hc : ClosedS T s) (hl : LeastS T s) (vc : ClosedU (T.filter (pS s)) V) (vf : ∀ j, FromIn n f j → V j = true) (vl : LeastU (T.filter (pS s)) (FromIn n f) V) => clean_same (S := S) hm1'.out hm2 hcE hlE hcU hfU hlU hc hl vc vf vl)
    clear hfr hw3 hkD hP2 hm2 hcE hlE hcU hfU hlU hf23
    go_upto_region 2 with fail
    rw [← hkD'.out, ← hw3'.out]
    go_wp2_with fail
    refine (head13_any _).mono ?_
    rintro e w7 ⟨rfl, hf7⟩
    have hf7' := Lib.hid (hf3'.out.then hf7)
    have hD7 := Lib.hid (hD3.out.far' hf7 id)
    have hP7 := Lib.hid (hP3.out.move hf7)
    obtain ⟨a0, a1⟩ := HK.out w7 hf7'.out
    have R7 := RC.out w7 hf7'.out
    clear hf7
    go_wp2_with fail
    refine R7.mono ?_
    rintro e w8 ⟨rfl, hf8⟩
    have hf8' := Lib.hid (hf7'.out.then hf8)
    have hD8 := Lib.hid (hD7.out.far' hf8 id)
    have hP8 := Lib.hid (hP7.out.move hf8)
    clear R7 hf8 a0 a1
    obtain ⟨a0, a1⟩ := HK.out w8 hf8'.out
    have U8 := RU.out w8 hf8'.out
    go_wp2_with fail
    refine U8.mono ?_
    rintro e w9 ⟨hf9, hcase⟩
    have hf9' := Lib.hid (hf8'.out.then hf9)
    have hD9 := Lib.hid (hD8.out.far' hf9 id)
    have hP9 := Lib.hid (hP8.out.move hf9)
    clear U8 hf9 a0 a1
    rcases hcase with ⟨hfr2, _⟩ | ⟨_, pv3, s, V, rfl, hP3', hcS, hlS, _, hcV, hfV, hlV⟩
    · exact absurd hfr'.out hfr2
    · have hpl := HS.out s V hcS hlS hcV hfV hlV
      have hfit2 : Fits T2 := fits_of (by
          have := congrArg List.length hpl
          rw [List.length_map, List.length_map] at this
          have h1 := List.length_filter_le (pU V) (T.filter (pS s))
          have h2 := List.length_filter_le (pS s) T
          have := hfit'.out.1.1
          omega) fun t ht => by
        obtain ⟨u, hu, _, e2⟩ := pl_some hpl ht
        rw [← e2]
        exact hfit'.out.1.2 u (mem_filt (mem_filt hu))
      obtain ⟨M, hM⟩ : ∃ M, M = (T.filter (pS s)).filter (pU V) := ⟨_, rfl⟩
      rw [← hM] at hpl hP3'
      obtain ⟨qo, qc, rfl⟩ := Src.form hP3'.1
      obtain ⟨kW, hkW⟩ : ∃ k, k = w9.heap.size := ⟨_, rfl⟩
      obtain ⟨w10, hw10⟩ : ∃ w10, w10 = w9.alloc (.cells #[.int .i64 (S : Int), .slice qo M.length qc] 24) := ⟨_, rfl⟩
      have hf90 : Far (fun _ => False) w9 w10 := hw10 ▸ alloc_far0 _ _
      have hf10' := Lib.hid (hf9'.out.then hf90)
      have hW10 : Bk w10 kW 24 #[.int .i64 (S : Int), .slice qo M.length qc] := hw10 ▸ Bk.new hkW
      have hD10 := hD9.out.far' hf90 id
      have d0 : w10.cell? ⟨kD, 0, none⟩ = some (.int .i64 (S : Int)) := hD10.cell 0
      have d1 : w10.cell? ⟨kD, 1, none⟩ = some (.slice po T2.length pc) := hD10.cell 1
      have v0 : w10.cell? ⟨kW, 0, none⟩ = some (.int .i64 (S : Int)) := hW10.cell 0
      have v1 : w10.cell? ⟨kW, 1, none⟩ = some (.slice qo M.length qc) := hW10.cell 1
      have SM := same_yes (S : Int) (.slice po T2.length pc) (.slice qo M.length qc) T2 M w10 (hP9.out.move hf90) (hP3'.move hf90) hpl.symm hfit2
      have hkW' := Lib.hid hkW
      have hw10' := Lib.hid hw10
      clear hkW hw10 hf90 hW10 hD10 hpl hM hP3' hcS hlS hcV hfV hlV hfit2
      go_upto_region 7 with fail
      rw [← hkW'.out, ← hw10'.out]
      go_wp2_with fail
      refine SM.mono ?_
      rintro e w11 ⟨rfl, hf11⟩
      have hf11' := Lib.hid (hf10'.out.then hf11)
      clear SM hf11 d0 d1 v0 v1
      go_wp2_with fail
      go_ret
      exact ⟨rfl, hF'.out.then hf11'.out⟩
end
end Go.Proofs.Ytbckikcfcclioaa
