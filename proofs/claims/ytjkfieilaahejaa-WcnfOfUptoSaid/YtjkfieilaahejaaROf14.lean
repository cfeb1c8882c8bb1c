/-
  The document's Of: what it answers.
-/
import Derived.Test.YtjkfieilaahejaaRAny14
import Derived.Test.YtjkfieilaahejaaRMath14
import Derived.Test.YtjkfieilaahejaaSorted12
import Derived.Test.YtjkfieilaahejaaTot
import Derived.Test.YtjkfieilaahejaaRefCheckC
namespace Go.Proofs.Ytjkfieilaahejaa
open Go.RowKit
set_option linter.unusedVariables false
set_option linter.unusedSimpArgs false
theorem RM.low {w : World} {B B0 gL cL : Nat} {qv : Value} {s : Fs} (h : RM w B gL cL qv [] s) (hb : B0 ≤ B) : RM w B0 gL cL qv [] s :=
  ⟨row_base h.row hb, row_base h.lab hb, (fun t ht => by cases ht), h.pl, Nat.le_trans hb h.hi⟩
theorem ofR_step {T : List Tr} {t : Tr} {i : Nat} {s0 s : Fs} (ht : T[i]? = some t) (h : ofF ((T.take i).map pl) s0 = some s) :
    (1024 < (addR s t.1 t.2.2).n → ofF (T.map pl) s0 = none) ∧ ((addR s t.1 t.2.2).n ≤ 1024 → ofF ((T.take (i + 1)).map pl) s0 = some (addR s t.1 t.2.2) ∧ (addR s t.1 t.2.2).ps.length ≤ s.ps.length + (t.2.2.length + 3) * 3) := by
  have htk : T.take (i + 1) = T.take i ++ [t] := by
    obtain ⟨h1, h2⟩ := List.getElem?_eq_some_iff.1 ht
    rw [List.take_succ_eq_append_getElem h1, h2]
  have hs := ofF_snoc (pl t) _ _ _ h
  rw [show (T.take i).map pl ++ [pl t] = (T.take (i + 1)).map pl by rw [htk, List.map_append]; rfl] at hs
  have hs : ofF ((T.take (i + 1)).map pl) s0 = if 1024 < (formF s t.1 t.2.2).n then none else some (formF s t.1 t.2.2) := hs
  obtain ⟨h1, h2⟩ := addR_form s t.1 t.2.2
  refine ⟨fun hb => ?_, fun hb => ?_⟩
  · have hf : 1024 < (formF s t.1 t.2.2).n := by
      by_cases hc : 1024 < (formF s t.1 t.2.2).n
      · exact hc
      · have := h2 (by omega)
        rw [this] at hb
        exact hb
    rw [if_pos hf] at hs
    have := ofF_app_none _ ((T.drop (i + 1)).map pl) _ hs
    rwa [← List.map_append, List.take_append_drop] at this
  · have hf : (formF s t.1 t.2.2).n ≤ 1024 := by
      by_cases hc : 1024 < (formF s t.1 t.2.2).n
      · have := h1 hc
        omega
      · omega
    rw [if_neg (by omega)] at hs
    rw [h2 hf]
    exact ⟨hs, (formF_len s t.1 t.2.2).2⟩
section
set_option maxHeartbeats 8000000
set_option maxRecDepth 100000
theorem rof_no (S : Int) (pv : Value) (T : List Tr) (w : World) (hP : Prods w pv T) (hfit : Fits T) (hok : ¬ CnfOK S T) :
    Calls Try.prog 20 #[.agg #[.int .i64 S, pv]] w fun e w' => Far (fun _ => False) w w' ∧ e = .returned (.tuple #[.agg #[.int .i64 0, .slice none 0 0], .int .i64 220]) := by
  obtain ⟨h0, hh0⟩ : ∃ h, h = w.heap.size := ⟨_, rfl⟩
  obtain ⟨kR, hkR⟩ : ∃ k, k = h0 + 1 := ⟨_, rfl⟩
  obtain ⟨ao, ac, rfl⟩ := Src.form hP.1
  obtain ⟨w0, hw0⟩ : ∃ w0, w0 = (w.alloc (.cells #[.int .i64 S, .slice ao T.length ac] 24)).alloc (.cells #[.int .i64 0, .slice none 0 0] 24) := ⟨_, rfl⟩
  have hA0 : Bk w0 h0 24 #[.int .i64 S, .slice ao T.length ac] := hw0 ▸ (Bk.new hh0).alloc _
  have hR0 : Bk w0 kR 24 #[.int .i64 0, .slice none 0 0] := hw0 ▸ Bk.new (by simp [hkR, hh0])
  have hF0 : Far (fun _ => False) w w0 := hw0 ▸ ((Far.refl _ w).alloc _).alloc _
  have a0 : w0.cell? ⟨h0, 0, none⟩ = some (.int .i64 S) := hA0.cell 0
  have a1 : w0.cell? ⟨h0, 1, none⟩ = some (.slice ao T.length ac) := hA0.cell 1
  have CK := rcheck_any S (.slice ao T.length ac) T w0 (hP.move hF0) hfit.2.1 hfit.2.2
  rw [pcode_no hok] at CK
  have hkw := Lib.hid (show w.heap.size ≤ kR by omega)
  have hh0' := Lib.hid hh0
  have hkR' := Lib.hid hkR
  have hw0' := Lib.hid hw0
  have hR0' := Lib.hid hR0
  have hF0' := Lib.hid hF0
  clear hP hfit hok hh0 hkR hw0 hA0 hR0 hF0
  go_enter Try.func20, Try.ntmps20
  go_upto_region 1 with fail
  rw [← hh0'.out, ← hkR'.out, ← hw0'.out]
  go_wp2_with fail
  refine CK.mono ?_
  rintro e w1 ⟨rfl, hf1⟩
  have hF1 := Lib.hid (hF0'.out.then hf1)
  have hR1 := Lib.hid (hR0'.out.far' hf1 id)
  have r0 : w1.cell? ⟨kR, 0, none⟩ = some (.int .i64 0) := hR1.out.cell 0
  have r1 : w1.cell? ⟨kR, 1, none⟩ = some (.slice none 0 0) := hR1.out.cell 1
  have z0 : w1.frozen? ⟨kR, 0, none⟩ = false := hR1.out.free 0
  have z1 : w1.frozen? ⟨kR, 1, none⟩ = false := hR1.out.free 1
  clear CK hf1 a0 a1
  go_wp2_with fail
  have hS5 := (Far.refl (fun k => k = kR) w1).set ⟨kR, 0, none⟩ (.int .i64 0) (fun _ => rfl)
  have hS6 := hS5.set ⟨kR, 1, none⟩ (.slice none 0 0) (fun _ => rfl)
  have hB6 : Bk ((w1.setCell ⟨kR, 0, none⟩ (.int .i64 0)).setCell ⟨kR, 1, none⟩ (.slice none 0 0)) kR 24 #[.int .i64 0, .slice none 0 0] := (hR1.out.set 0 (.int .i64 0)).set 1 _
  have hF6 := Lib.hid (hF1.out.out hS6 fun k hk e => by have := hkw.out; omega)
  clear r0 r1 z0 z1 hS5 hS6
  generalize ((w1.setCell ⟨kR, 0, none⟩ (.int .i64 0)).setCell ⟨kR, 1, none⟩ (.slice none 0 0)) = W6 at *
  have c0 : W6.cell? ⟨kR, 0, none⟩ = some (.int .i64 0) := hB6.cell 0
  have c1 : W6.cell? ⟨kR, 1, none⟩ = some (.slice none 0 0) := hB6.cell 1
  exact bodyPost_ret (v := .tuple #[.agg #[.int .i64 0, .slice none 0 0], .int .i64 220]) (by simp [results, Try.f20, go_sem, c0, c1]) rfl ⟨hF6.out, rfl⟩
theorem rof_yes (S : Nat) (pv : Value) (T : List Tr) (w : World) (hP : Prods w pv T) (hl : T.length ≤ 1073741824) (hN : tot T ≤ 1073741824) (hok : CnfOK (S : Int) T) :
    Calls Try.prog 20 #[.agg #[.int .i64 (S : Int), pv]] w fun e w' => Far (fun _ => False) w w' ∧ ((ofF (T.map pl) (Fs0 S) = none ∧ e = .returned (.tuple #[.agg #[.int .i64 0, .slice none 0 0], .int .i64 240])) ∨ (∃ s Q ao c, ofF (T.map pl) (Fs0 S) = some s ∧ e = .returned (.tuple #[.agg #[.int .i64 (s.n : Int), .slice ao (sortL Q).length c], .int .i64 0]) ∧ Prods w' (.slice ao (sortL Q).length c) (sortL Q) ∧ Q.map pl = s.ps)) := by
  have hs2 : ∀ t ∈ T, t.2.2.length ≤ 1073741824 := fun t ht => by have := tot_mem ht; omega
  have hfit : Fits T := fits_of (by omega) fun t ht => by have := hs2 t ht; omega
  have hS2 : S ≤ 1024 := by have := hok.1.2; omega
  obtain ⟨B, hB⟩ : ∃ h, h = w.heap.size := ⟨_, rfl⟩
  obtain ⟨h0, hh0⟩ : ∃ h, h = B := ⟨_, rfl⟩
  obtain ⟨kR, hkR⟩ : ∃ k, k = h0 + 1 := ⟨_, rfl⟩
  obtain ⟨ao, ac, rfl⟩ := Src.form hP.1
  obtain ⟨w0, hw0⟩ : ∃ w0, w0 = (w.alloc (.cells #[.int .i64 (S : Int), .slice ao T.length ac] 24)).alloc (.cells #[.int .i64 0, .slice none 0 0] 24) := ⟨_, rfl⟩
  have hA0 : Bk w0 h0 24 #[.int .i64 (S : Int), .slice ao T.length ac] := hw0 ▸ (Bk.new (by omega)).alloc _
  have hR0 : Bk w0 kR 24 #[.int .i64 0, .slice none 0 0] := hw0 ▸ Bk.new (by simp [hkR, hh0, hB])
  have hF0 : Far (fun _ => False) w w0 := hw0 ▸ ((Far.refl _ w).alloc _).alloc _
  have a0 : w0.cell? ⟨h0, 0, none⟩ = some (.int .i64 (S : Int)) := hA0.cell 0
  have a1 : w0.cell? ⟨h0, 1, none⟩ = some (.slice ao T.length ac) := hA0.cell 1
  have CK := rcheck_any (S : Int) (.slice ao T.length ac) T w0 (hP.move hF0) hfit.2.1 hfit.2.2
  rw [pcode_yes hok] at CK
  have hkw := Lib.hid (show B ≤ h0 ∧ B ≤ kR ∧ w.heap.size = B ∧ h0 ≠ kR by omega)
  have hP' := Lib.hid hP
  have hs2' := Lib.hid hs2
  have hok' := Lib.hid hok
  have hN' := Lib.hid hN
  have hkR' := Lib.hid (show h0 = w.heap.size ∧ kR = w.heap.size + 1 by omega)
  have hw0' := Lib.hid hw0
  have hA0' := Lib.hid hA0
  have hR0' := Lib.hid hR0
  have hF0' := Lib.hid hF0
  clear hP hfit hs2 hok hN hh0 hkR hw0 hA0 hR0 hF0 hB
  go_enter Try.func20, Try.ntmps20
  go_upto_region 1 with fail
  rw [← hkR'.out.2, ← hkR'.out.1, ← hw0'.out]
  go_wp2_with fail
  refine CK.mono ?_
  rintro e w1 ⟨rfl, hf1⟩
  have hF1 := Lib.hid (hF0'.out.then hf1)
  have hR1 := Lib.hid (hR0'.out.far' hf1 id)
  have hA1 := Lib.hid (hA0'.out.far' hf1 id)
  clear CK hf1 a0 a1
  have a0 : w1.cell? ⟨h0, 0, none⟩ = some (.int .i64 (S : Int)) := hA1.out.cell 0
  go_wp2_with fail
  refine (begin_any S w1).mono ?_
  rintro e w2 ⟨gL, cL, rfl, hM2, hf2⟩
  obtain ⟨fb, hfb⟩ : ∃ i, i = w2.heap.size := ⟨_, rfl⟩
  obtain ⟨W, hW⟩ : ∃ W, W = w2.alloc (.cells #[.int .i64 (S : Int), .slice none 0 0, .slice (some ⟨gL, 0, none⟩) 16 cL, .int .i64 (-1)] 70) := ⟨_, rfl⟩
  have hf2W : Far (fun _ => False) w2 W := hW ▸ alloc_far0 _ _
  have hf3 : Far (fun _ => False) w1 W := hf2.then hf2W
  have hB1 : B ≤ w1.heap.size := by have := hF1.out.size; have := hkw.out; omega
  have hBf : B ≤ fb := by have := hf2.size; omega
  have hne := Lib.hid (show h0 ≠ fb ∧ kR ≠ fb from ⟨by have := hA1.out.lt; have := hf2.size; omega, by have := hR1.out.lt; have := hf2.size; omega⟩)
  have hXW := Lib.hid (show Bk W fb 70 #[.int .i64 ((Fs0 S).n : Int), .slice none ([] : List Tr).length 0, .slice (some ⟨gL, 0, none⟩) 16 cL, .int .i64 (eI (Fs0 S).e)] from hW ▸ Bk.new hfb)
  have hMW := Lib.hid (show RM W B gL cL (.slice none ([] : List Tr).length 0) [] (Fs0 S) from (hM2.move hf2W).low hB1)
  have hAW := Lib.hid (hA1.out.far' hf3 id)
  have hRW := Lib.hid (hR1.out.far' hf3 id)
  have hFW := Lib.hid ((hF1.out.then hf3).mono (G := fun k => B ≤ k) fun _ _ q => q.elim)
  have hfb' := Lib.hid hfb
  have hW' := Lib.hid hW
  have hBf' := Lib.hid hBf
  clear hM2 hf2 hf2W hf3 hB1 hW a0 hfb hBf
  go_upto_region 4 with fail
  rw [← hfb'.out, ← hW'.out]
  go_wp2_with fail
  go_loopw [5] (fun iv wr => ∃ (i : Nat) (q : Option Addr) (c : Nat) (T' : List Tr) (s : Fs), iv = .int .i64 i ∧ i ≤ T.length ∧ Hid (Bk wr fb 70 #[.int .i64 (s.n : Int), .slice q T'.length c, .slice (some ⟨gL, 0, none⟩) 16 cL, .int .i64 (eI s.e)]) ∧ Hid (RM wr B gL cL (.slice q T'.length c) T' s) ∧ Hid (Bk wr h0 24 #[.int .i64 (S : Int), .slice ao T.length ac]) ∧ Hid (Bk wr kR 24 #[.int .i64 0, .slice none 0 0]) ∧ Hid (Far (fun k => B ≤ k) w wr) ∧ Hid (ofF ((T.take i).map pl) (Fs0 S) = some s) ∧ Hid (s.n ≤ 1024 ∧ s.ps.length ≤ (tot (T.take i) + 3 * i) * 3)) (fun iv _ => T.length - (intOf iv).toNat)
  case atStart => exact ⟨0, none, 0, [], Fs0 S, rfl, Nat.zero_le _, hXW, hMW, hAW, hRW, hFW, Lib.hid rfl, Lib.hid ⟨hS2, Nat.zero_le _⟩⟩
  case round =>
    obtain ⟨i, q, c, T', s, rfl, hi, hX, hM, hA, hR, hF, hof, hbd⟩ := hrel
    have hWr := Lib.hid ((Far.refl (fun _ => False) w).out hF.out fun k hk q => by have := hkw.out; omega)
    have hTl : T'.length = s.ps.length := by rw [← hM.out.pl, List.length_map]
    have hTb : T'.length ≤ 20000000000 := by have := hbd.out.2; have := tot_take T i; have := hN'.out; omega
    have a1 : wr.cell? ⟨h0, 1, none⟩ = some (.slice ao T.length ac) := hA.out.cell 1
    by_cases hlt : i < T.length
    · have e1 : decide ((i : Int) < (T.length : Int)) = true := by rw [decide_eq_true_eq]; omega
      have hii : (i : Int) < (T.length : Int) := by omega
      obtain ⟨t, ht⟩ : ∃ t, T[i]? = some t := ⟨T[i], List.getElem?_eq_getElem hlt⟩
      have hmem := List.mem_of_getElem? ht
      have hsym := (hok'.out.2 t hmem).2
      have hl2 := hs2'.out t hmem
      have hstep := Lib.hid (ofR_step ht hof.out)
      obtain ⟨bb, off, c', he, hbl, d0, d1, hbd2⟩ := hP'.out.prod ht
      simp only [Value.slice.injEq] at he
      obtain ⟨rfl, _, rfl⟩ := he
      have htot : tot (T.take (i + 1)) = tot (T.take i) + t.2.2.length := by
        obtain ⟨h1, h2⟩ := List.getElem?_eq_some_iff.1 ht
        rw [List.take_succ_eq_append_getElem h1, h2, tot_app]
        simp [tot]
      have htot' := Lib.hid htot
      obtain ⟨q0, qb, l⟩ := t
      dsimp only at d0 d1 hbd2 hl2 hsym htot'
      have hqb := (QB.old hbd2 (Far.refl _ w)).go hF.out fun k hk q => by have := hkw.out; omega
      rw [hkw.out.2.2.1] at hqb
      obtain ⟨bo, bc, rfl⟩ := Src.form hbd2
      have c0 : wr.cell? ⟨bb, off + i * 2, none⟩ = some (.int .i64 q0) := (hWr.out.cell hbl).trans d0
      have c1 : wr.cell? ⟨bb, off + i * 2 + 1, none⟩ = some (.slice bo l.length bc) := (hWr.out.cell hbl).trans d1
      have AD : Hid (Calls Try.prog 40 #[.agg #[.int .i64 (s.n : Int), .slice q T'.length c, .slice (some ⟨gL, 0, none⟩) 16 cL, .int .i64 (eI s.e)], .agg #[.int .i64 q0, .slice bo l.length bc]] wr.drew fun e w' => ∃ u, e = .returned u ∧ ∃ q4 T4, u = .agg #[.int .i64 ((addR s q0 l).n : Int), q4, .slice (some ⟨gL, 0, none⟩) 16 cL, .int .i64 (eI (addR s q0 l).e)] ∧ RM w' B gL cL q4 T4 (addR s q0 l) ∧ Far (OF (.slice q T'.length c) gL) wr.drew w') := Lib.hid ((radd_any B gL cL (.slice q T'.length c) T' s q0 (.slice bo l.length bc) l wr.drew (hM.out.move (drew_far _)) (hqb.go (drew_far wr) fun _ _ q => q.elim) (by omega) (by have := hbd.out.1; omega) fun x hx => ⟨(hsym x hx).1, (hsym x hx).2.1⟩).mono fun e w' ⟨q4, T4, he, h2⟩ => ⟨_, he, q4, T4, rfl, h2⟩)
      obtain ⟨s4, hs4⟩ : ∃ s4, s4 = addR s q0 l := ⟨_, rfl⟩
      rw [← hs4] at AD
      have hst : Hid ((1024 < s4.n → ofF (T.map pl) (Fs0 S) = none) ∧ (s4.n ≤ 1024 → ofF ((T.take (i + 1)).map pl) (Fs0 S) = some s4 ∧ s4.ps.length ≤ (tot (T.take (i + 1)) + 3 * (i + 1)) * 3)) := Lib.hid (by
        have h1 := hstep.out
        dsimp only at h1
        rw [← hs4] at h1
        refine ⟨h1.1, fun h => ⟨(h1.2 h).1, ?_⟩⟩
        have h2 := (h1.2 h).2
        have h3 := hbd.out.2
        have h4 := htot'.out
        omega)
      have z0 : wr.cell? ⟨fb, 0, none⟩ = some (.int .i64 (s.n : Int)) := hX.out.cell 0
      have z1 : wr.cell? ⟨fb, 1, none⟩ = some (.slice q T'.length c) := hX.out.cell 1
      have z2 : wr.cell? ⟨fb, 2, none⟩ = some (.slice (some ⟨gL, 0, none⟩) 16 cL) := hX.out.cell 2
      have z3 : wr.cell? ⟨fb, 3, none⟩ = some (.int .i64 (eI s.e)) := hX.out.cell 3
      have hnf := Lib.hid (show ¬ OF (.slice q T'.length c) gL fb ∧ ¬ OF (.slice q T'.length c) gL h0 ∧ ¬ OF (.slice q T'.length c) gL kR ∧ (∀ k, OF (.slice q T'.length c) gL k → B ≤ k) from ⟨hM.out.ne hX.out (by decide) (by decide), hM.out.ne hA.out (by decide) (by decide), hM.out.ne hR.out (by decide) (by decide), fun k q => q.elim (fun e => (hM.out.row.lt k e).1) fun e => e ▸ (hM.out.lab.lt gL rfl).1⟩)
      have hbbl : bb < wr.heap.size := Nat.lt_of_lt_of_le hbl hWr.out.size
      clear hs4 hstep hsym hl2 hbd2 d0 d1 hbl htot htot' hmem ht hqb hTl hof
      go_wp2_with fail
      go_region_law
        (first
          | (refine step_call rfl 40 #[.agg #[.int .i64 (s.n : Int), .slice q T'.length c, .slice (some ⟨gL, 0, none⟩) 16 cL, .int .i64 (eI s.e)], .agg #[.int .i64 q0, .slice bo l.length bc]] ?_ AD.out ?_; (go_simp); rintro u4 w4 ⟨q4, T4, rfl, hM4, hf4⟩; obtain ⟨q4o, q4c, rfl⟩ := Src.form (Src.own hM4.row); have FW4 := Lib.hid (((drew_far wr).mono (G := OF (.slice q T'.length c) gL) fun _ _ h => h.elim).trans hf4 fun _ _ h => h); have hX4 := Lib.hid (hX.out.far' FW4.out hnf.out.1); have f0 : w4.frozen? ⟨fb, 0, none⟩ = false := hX4.out.free 0; have f1 : w4.frozen? ⟨fb, 1, none⟩ = false := hX4.out.free 1; have f2 : w4.frozen? ⟨fb, 2, none⟩ = false := hX4.out.free 2; have f3 : w4.frozen? ⟨fb, 3, none⟩ = false := hX4.out.free 3; have k0 : w4.cell? ⟨fb, 0, none⟩ = some (.int .i64 (s.n : Int)) := hX4.out.cell 0; have k1 : w4.cell? ⟨fb, 1, none⟩ = some (.slice q T'.length c) := hX4.out.cell 1; have k2 : w4.cell? ⟨fb, 2, none⟩ = some (.slice (some ⟨gL, 0, none⟩) 16 cL) := hX4.out.cell 2; have k3 : w4.cell? ⟨fb, 3, none⟩ = some (.int .i64 (eI s.e)) := hX4.out.cell 3; have hM4' := Lib.hid hM4; clear hM4 hf4))
      all_goals
        obtain ⟨hX6, hM6, hS6⟩ := form_shut (.int .i64 (s4.n : Int)) (.slice q4o T4.length q4c) (.slice (some ⟨gL, 0, none⟩) 16 cL) (.int .i64 (eI s4.e)) hX4.out hM4'.out hBf'.out
        obtain ⟨W6, hW6⟩ : ∃ W6, W6 = ((((w4.setCell ⟨fb, 0, none⟩ (.int .i64 (s4.n : Int))).setCell ⟨fb, 1, none⟩ (.slice q4o T4.length q4c)).setCell ⟨fb, 2, none⟩ (.slice (some ⟨gL, 0, none⟩) 16 cL)).setCell ⟨fb, 3, none⟩ (.int .i64 (eI s4.e))) := ⟨_, rfl⟩
        rw [← hW6] at hX6 hM6 hS6 ⊢
        have hX6' := Lib.hid hX6
        have hM6' := Lib.hid hM6
        have hA6 := Lib.hid ((hA.out.far' FW4.out hnf.out.2.1).far' hS6 hne.out.1)
        have hR6 := Lib.hid ((hR.out.far' FW4.out hnf.out.2.2.1).far' hS6 hne.out.2)
        have hF6 := Lib.hid ((hF.out.trans (FW4.out.mono (G := fun k => B ≤ k) fun k _ q => hnf.out.2.2.2 k q) fun _ _ q => q).trans (hS6.mono (G := fun k => B ≤ k) fun k _ e => by have := hBf'.out; omega) fun _ _ q => q)
        clear hX6 hM6 hS6 hW6 f0 f1 f2 f3 k0 k1 k2 k3 z0 z1 z2 z3 c0 c1 a1 FW4 hX4 hM4'
        have n0 : W6.cell? ⟨fb, 0, none⟩ = some (.int .i64 (s4.n : Int)) := hX6'.out.cell 0
        by_cases hbig : 1024 < s4.n
        · have e2 : decide ((1024 : Int) < (s4.n : Int)) = true := by rw [decide_eq_true_eq]; omega
          have e2' : decide ((s4.n : Int) > 1024) = true := by rw [decide_eq_true_eq]; omega
          have hnone := Lib.hid (hst.out.1 hbig)
          have r0 : W6.cell? ⟨kR, 0, none⟩ = some (.int .i64 0) := hR6.out.cell 0
          have r1 : W6.cell? ⟨kR, 1, none⟩ = some (.slice none 0 0) := hR6.out.cell 1
          have y0 : W6.frozen? ⟨kR, 0, none⟩ = false := hR6.out.free 0
          have y1 : W6.frozen? ⟨kR, 1, none⟩ = false := hR6.out.free 1
          clear hbig
          go_wp2_with fail
          have hS5 := (Far.refl (fun k => k = kR) W6).set ⟨kR, 0, none⟩ (.int .i64 0) (fun _ => rfl)
          have hS7 := hS5.set ⟨kR, 1, none⟩ (.slice none 0 0) (fun _ => rfl)
          have hB7 : Bk ((W6.setCell ⟨kR, 0, none⟩ (.int .i64 0)).setCell ⟨kR, 1, none⟩ (.slice none 0 0)) kR 24 #[.int .i64 0, .slice none 0 0] := (hR6.out.set 0 (.int .i64 0)).set 1 _
          have hF7 := (hF6.out.trans (hS7.mono (G := fun k => B ≤ k) fun k _ e => by have := hkw.out; omega) fun _ _ q => q)
          obtain ⟨W7, hW7⟩ : ∃ W7, W7 = ((W6.setCell ⟨kR, 0, none⟩ (.int .i64 0)).setCell ⟨kR, 1, none⟩ (.slice none 0 0)) := ⟨_, rfl⟩
          rw [← hW7] at hB7 hF7 ⊢
          have hF8 := Lib.hid ((Far.refl (fun _ => False) w).out hF7 fun k hk q => by have := hkw.out; omega)
          clear r0 r1 y0 y1 hS5 hS7 hW7 hF7
          have m0 : W7.cell? ⟨kR, 0, none⟩ = some (.int .i64 0) := hB7.cell 0
          have m1 : W7.cell? ⟨kR, 1, none⟩ = some (.slice none 0 0) := hB7.cell 1
          exact bodyPost_ret (v := .tuple #[.agg #[.int .i64 0, .slice none 0 0], .int .i64 240]) (by simp [results, Try.f20, go_sem, m0, m1]) rfl ⟨hF8.out, .inl ⟨hnone.out, rfl⟩⟩
        · have e2 : decide ((1024 : Int) < (s4.n : Int)) = false := by rw [decide_eq_false_iff_not]; omega
          have e2' : decide ((s4.n : Int) > 1024) = false := by rw [decide_eq_false_iff_not]; omega
          have hsome := Lib.hid (hst.out.2 (by omega))
          have hn4 : s4.n ≤ 1024 := by omega
          clear hbig
          go_wp2_with fail
          go_roundw
          case rel => exact ⟨i + 1, q4o, q4c, T4, s4, by go_num, by omega, hX6', hM6', hA6, hR6, hF6, Lib.hid hsome.out.1, Lib.hid ⟨hn4, hsome.out.2⟩⟩
          case measure => simp [intOf]; omega
    · have e1 : decide ((i : Int) < (T.length : Int)) = false := by rw [decide_eq_false_iff_not]; omega
      have e2 : decide (i < T.length) = false := by rw [decide_eq_false_iff_not]; exact hlt
      have hin : i = T.length := by omega
      have hofT := Lib.hid (show ofF (T.map pl) (Fs0 S) = some s by have := hof.out; rwa [hin, List.take_length] at this)
      obtain ⟨ho1, ho2, ho3⟩ := ofF_ok _ (Fs0_ok S) hS2 (cnf_pl hok'.out) hofT.out
      have hfitD : Fits T' := fits_of (by omega) fun t ht => by have := weak_len (ho1.1 _ (hM.out.pl ▸ List.mem_map_of_mem ht)).2.1; dsimp only [pl] at this; omega
      have hD : Prods wr (.slice q T'.length c) T' := ⟨Src.own hM.out.row, fun t ht => (hM.out.bod t ht).1⟩
      have SO := rsorted_own (s.n : Int) (.slice q T'.length c) T' wr hD hfitD
      have n0 : wr.cell? ⟨fb, 0, none⟩ = some (.int .i64 (s.n : Int)) := hX.out.cell 0
      have n1 : wr.cell? ⟨fb, 1, none⟩ = some (.slice q T'.length c) := hX.out.cell 1
      clear hof hbd hin ho1 ho2 ho3 hfitD hD hTl hTb
      go_wp2_with fail
      refine SO.mono ?_
      rintro e w9 ⟨⟨ro, rc, rfl, hO9⟩, hf9⟩
      have hR9 := Lib.hid (hR.out.far' hf9 id)
      have hM9 := Lib.hid (hM.out.move hf9)
      have hO9' := Lib.hid hO9
      have hF9 := Lib.hid (hWr.out.then hf9)
      have r0 : w9.cell? ⟨kR, 0, none⟩ = some (.int .i64 0) := hR9.out.cell 0
      have r1 : w9.cell? ⟨kR, 1, none⟩ = some (.slice none 0 0) := hR9.out.cell 1
      have y0 : w9.frozen? ⟨kR, 0, none⟩ = false := hR9.out.free 0
      have y1 : w9.frozen? ⟨kR, 1, none⟩ = false := hR9.out.free 1
      clear SO hO9 hf9 n0 n1 a1
      go_wp2_with fail
      have hS5 := (Far.refl (fun k => k = kR) w9).set ⟨kR, 0, none⟩ (.int .i64 (s.n : Int)) (fun _ => rfl)
      have hS7 := hS5.set ⟨kR, 1, none⟩ (.slice ro (sortL T').length rc) (fun _ => rfl)
      have hB7 : Bk ((w9.setCell ⟨kR, 0, none⟩ (.int .i64 (s.n : Int))).setCell ⟨kR, 1, none⟩ (.slice ro (sortL T').length rc)) kR 24 #[.int .i64 (s.n : Int), .slice ro (sortL T').length rc] := (hR9.out.set 0 (.int .i64 (s.n : Int))).set 1 _
      have hM7 := hM9.out.go hS7 fun k _ e => by subst e; exact ⟨hkw.out.2.1, noSym_bk hR9.out (by decide), own_ne hM9.out.row hR9.out (by decide), fun e => own_ne hM9.out.lab hR9.out (by decide) (e ▸ rfl)⟩
      have hrow := row_far hO9'.out.1 hS7 fun k hk e => by subst e; exact own_ne hO9'.out.1 hR9.out (by decide) hk
      obtain ⟨W7, hW7⟩ : ∃ W7, W7 = ((w9.setCell ⟨kR, 0, none⟩ (.int .i64 (s.n : Int))).setCell ⟨kR, 1, none⟩ (.slice ro (sortL T').length rc)) := ⟨_, rfl⟩
      have hF8 := Lib.hid (hF9.out.out hS7 fun k hk e => by have := hkw.out; omega)
      rw [← hW7] at hB7 hM7 hrow hF8 ⊢
      have hmT : ∀ t ∈ sortL T', t ∈ T' := fun t ht => (sortL_len T' T'.length (Nat.le_refl _)).2 t (by rwa [List.take_length])
      have hP7 : Prods W7 (.slice ro (sortL T').length rc) (sortL T') := ⟨Src.own hrow, fun t ht => (hM7.bod t (hmT t ht)).1⟩
      have hP7' := Lib.hid hP7
      have hpl7 := Lib.hid hM7.pl
      clear r0 r1 y0 y1 hS5 hS7 hW7 hM7 hrow hmT hP7
      have m0 : W7.cell? ⟨kR, 0, none⟩ = some (.int .i64 (s.n : Int)) := hB7.cell 0
      have m1 : W7.cell? ⟨kR, 1, none⟩ = some (.slice ro (sortL T').length rc) := hB7.cell 1
      exact bodyPost_ret (v := .tuple #[.agg #[.int .i64 (s.n : Int), .slice ro (sortL T').length rc], .int .i64 0]) (by simp [results, Try.f20, go_sem, m0, m1]) rfl ⟨hF8.out, .inr ⟨s, T', ro, rc, hofT.out, rfl, hP7'.out, hpl7.out⟩⟩
end
end Go.Proofs.Ytjkfieilaahejaa
