/-
  wcnf.Of: what it answers.
-/
import Derived.Test.YtjkfieilaahejaaForm14
import Derived.Test.YtjkfieilaahejaaSortOk
import Derived.Test.YtjkfieilaahejaaFormMath14
import Derived.Test.YtjkfieilaahejaaTot
namespace Go.Proofs.Ytjkfieilaahejaa
open Go.RowKit
open Go.Maps (Keyed)
set_option linter.unusedVariables false
set_option linter.unusedSimpArgs false
section
set_option maxHeartbeats 8000000
set_option maxRecDepth 100000
theorem wof_no (S : Int) (pv : Value) (T : List Tr) (w : World) (hP : Prods w pv T) (hfit : Fits T) (hok : ¬ CnfOK S T) :
    Calls Try.prog 16 #[.agg #[.int .i64 S, pv]] w fun e w' => Far (fun _ => False) w w' ∧ e = .returned (.tuple #[.agg #[.int .i64 0, .slice none 0 0], .int .i64 220]) := by
  obtain ⟨h0, hh0⟩ : ∃ h, h = w.heap.size := ⟨_, rfl⟩
  obtain ⟨kR, hkR⟩ : ∃ k, k = h0 + 1 := ⟨_, rfl⟩
  obtain ⟨ao, ac, rfl⟩ := Src.form hP.1
  obtain ⟨w0, hw0⟩ : ∃ w0, w0 = (w.alloc (.cells #[.int .i64 S, .slice ao T.length ac] 24)).alloc (.cells #[.int .i64 0, .slice none 0 0] 24) := ⟨_, rfl⟩
  have hA0 : Bk w0 h0 24 #[.int .i64 S, .slice ao T.length ac] := hw0 ▸ (Bk.new hh0).alloc _
  have hR0 : Bk w0 kR 24 #[.int .i64 0, .slice none 0 0] := hw0 ▸ Bk.new (by simp [hkR, hh0])
  have hF0 : Far (fun _ => False) w w0 := hw0 ▸ ((Far.refl _ w).alloc _).alloc _
  have a0 : w0.cell? ⟨h0, 0, none⟩ = some (.int .i64 S) := hA0.cell 0
  have a1 : w0.cell? ⟨h0, 1, none⟩ = some (.slice ao T.length ac) := hA0.cell 1
  have CK := check_any S (.slice ao T.length ac) T w0 (hP.move hF0) hfit.2.1 hfit.2.2
  rw [pcode_no hok] at CK
  have hkw := Lib.hid (show w.heap.size ≤ kR by omega)
  have hh0' := Lib.hid hh0
  have hkR' := Lib.hid hkR
  have hw0' := Lib.hid hw0
  have hR0' := Lib.hid hR0
  have hF0' := Lib.hid hF0
  clear hP hfit hok hh0 hkR hw0 hA0 hR0 hF0
  go_enter Try.func16, Try.ntmps16
  go_upto_region 1 with fail
  rw [← hh0'.out, ← hkR'.out, ← hw0'.out]
  go_wp2_with fail
  refine CK.mono ?_
  rintro e w1 ⟨rfl, hf1⟩
  have hF1 := Lib.hid (hF0'.out.then hf1)
  have hR1 := Lib.hid (hR0'.out.far' hf1 id)
  have r0 : w1.cell? ⟨kR, 0, none⟩ = some (.int .i64 0) := hR1.out.cell 0
  have r1 : w1.cell? ⟨kR, 1, none⟩ = some (.slice none 0 0) := hR1.out.cell 1
  have z0 : w1.frozen? ⟨kR, 0, none⟩ = false := hR1.out.free 0
  have z1 : w1.frozen? ⟨kR, 1, none⟩ = false := hR1.out.free 1
  clear CK hf1 a0 a1
  go_wp2_with fail
  have hS5 := (Far.refl (fun k => k = kR) w1).set ⟨kR, 0, none⟩ (.int .i64 0) (fun _ => rfl)
  have hS6 := hS5.set ⟨kR, 1, none⟩ (.slice none 0 0) (fun _ => rfl)
  have hB6 : Bk ((w1.setCell ⟨kR, 0, none⟩ (.int .i64 0)).setCell ⟨kR, 1, none⟩ (.slice none 0 0)) kR 24 #[.int .i64 0, .slice none 0 0] := (hR1.out.set 0 (.int .i64 0)).set 1 _
  have hF6 := Lib.hid (hF1.out.out hS6 fun k hk e => by have := hkw.out; omega)
  clear r0 r1 z0 z1 hS5 hS6
  generalize ((w1.setCell ⟨kR, 0, none⟩ (.int .i64 0)).setCell ⟨kR, 1, none⟩ (.slice none 0 0)) = W6 at *
  have c0 : W6.cell? ⟨kR, 0, none⟩ = some (.int .i64 0) := hB6.cell 0
  have c1 : W6.cell? ⟨kR, 1, none⟩ = some (.slice none 0 0) := hB6.cell 1
  exact bodyPost_ret (v := .tuple #[.agg #[.int .i64 0, .slice none 0 0], .int .i64 220]) (by simp [results, Try.f16, go_sem, c0, c1]) rfl ⟨hF6.out, rfl⟩
theorem wof_yes (S : Nat) (pv : Value) (T : List Tr) (w : World) (hP : Prods w pv T) (hl : T.length ≤ 1073741824) (hN : tot T ≤ 1073741824) (hok : CnfOK (S : Int) T) :
    Calls Try.prog 16 #[.agg #[.int .i64 (S : Int), pv]] w fun e w' => Far (fun _ => False) w w' ∧ ((ofF (T.map pl) (Fs0 S) = none ∧ e = .returned (.tuple #[.agg #[.int .i64 0, .slice none 0 0], .int .i64 240])) ∨ (∃ s R ao c, ofF (T.map pl) (Fs0 S) = some s ∧ e = .returned (.tuple #[.agg #[.int .i64 (s.n : Int), .slice ao R.length c], .int .i64 0]) ∧ PO w' (.slice ao R.length c) R ∧ Up (R.map pl) ∧ (∀ x, x ∈ R.map pl ↔ x ∈ s.ps) ∧ Fits R ∧ CnfOK (s.n : Int) R ∧ R.length ≤ s.ps.length ∧ s.ps.length ≤ (tot T + 3 * T.length) * 3)) := by
  have hs2 : ∀ t ∈ T, t.2.2.length ≤ 1073741824 := fun t ht => by have := tot_mem ht; omega
  have hfit : Fits T := fits_of (by omega) fun t ht => by have := hs2 t ht; omega
  have hS1 : 1 ≤ S := by have := hok.1.1; omega
  have hS2 : S ≤ 1024 := by have := hok.1.2; omega
  obtain ⟨h0, hh0⟩ : ∃ h, h = w.heap.size := ⟨_, rfl⟩
  obtain ⟨kR, hkR⟩ : ∃ k, k = h0 + 1 := ⟨_, rfl⟩
  obtain ⟨ao, ac, rfl⟩ := Src.form hP.1
  obtain ⟨w0, hw0⟩ : ∃ w0, w0 = (w.alloc (.cells #[.int .i64 (S : Int), .slice ao T.length ac] 24)).alloc (.cells #[.int .i64 0, .slice none 0 0] 24) := ⟨_, rfl⟩
  have hA0 : Bk w0 h0 24 #[.int .i64 (S : Int), .slice ao T.length ac] := hw0 ▸ (Bk.new hh0).alloc _
  have hR0 : Bk w0 kR 24 #[.int .i64 0, .slice none 0 0] := hw0 ▸ Bk.new (by simp [hkR, hh0])
  have hF0 : Far (fun _ => False) w w0 := hw0 ▸ ((Far.refl _ w).alloc _).alloc _
  have a0 : w0.cell? ⟨h0, 0, none⟩ = some (.int .i64 (S : Int)) := hA0.cell 0
  have a1 : w0.cell? ⟨h0, 1, none⟩ = some (.slice ao T.length ac) := hA0.cell 1
  have CK := check_any (S : Int) (.slice ao T.length ac) T w0 (hP.move hF0) hfit.2.1 hfit.2.2
  rw [pcode_yes hok] at CK
  have hkw := Lib.hid (show w.heap.size ≤ kR by omega)
  have hP' := Lib.hid hP
  have hfit' := Lib.hid hfit
  have hs2' := Lib.hid hs2
  have hok' := Lib.hid hok
  have hN' := Lib.hid hN
  have hh0' := Lib.hid hh0
  have hkR' := Lib.hid hkR
  have hw0' := Lib.hid hw0
  have hA0' := Lib.hid hA0
  have hR0' := Lib.hid hR0
  have hF0' := Lib.hid hF0
  clear hP hfit hs2 hok hN hh0 hkR hw0 hA0 hR0 hF0
  go_enter Try.func16, Try.ntmps16
  go_upto_region 1 with fail
  rw [← hh0'.out, ← hkR'.out, ← hw0'.out]
  go_wp2_with fail
  refine CK.mono ?_
  rintro e w1 ⟨rfl, hf1⟩
  have hF1 := Lib.hid (hF0'.out.then hf1)
  have hR1 := hR0'.out.far' hf1 id
  have hA1 := hA0'.out.far' hf1 id
  have a0' : w1.cell? ⟨h0, 0, none⟩ = some (.int .i64 (S : Int)) := hA1.cell 0
  have a1' : w1.cell? ⟨h0, 1, none⟩ = some (.slice ao T.length ac) := hA1.cell 1
  have lA := hA1.lt
  have lR := hR1.lt
  obtain ⟨cB, hcB⟩ : ∃ k, k = w1.heap.size := ⟨_, rfl⟩
  obtain ⟨mB, hmB⟩ : ∃ k, k = cB + 1 := ⟨_, rfl⟩
  obtain ⟨fB, hfB⟩ : ∃ k, k = mB + 1 := ⟨_, rfl⟩
  obtain ⟨w2, hw2⟩ : ∃ w2, w2 = w1.alloc (.cells #[.int .i64 (S : Int)] 60) := ⟨_, rfl⟩
  obtain ⟨w3, hw3⟩ : ∃ w3, w3 = w2.alloc (.map #[] 0) := ⟨_, rfl⟩
  obtain ⟨W, hW⟩ : ∃ W, W = w3.alloc (.cells #[.func (.func 33) #[.pointer (some ⟨cB, 0, none⟩)] #[], .map (some mB), .int .i64 (-1), .slice none 0 0] 65) := ⟨_, rfl⟩
  have z2 : w2.heap.size = mB := by rw [hw2]; simp [hmB, hcB]
  have z3 : w3.heap.size = fB := by rw [hw3]; simp [hfB, z2]
  have hF1W : Far (fun _ => False) w1 W := hW ▸ (hw3 ▸ (hw2 ▸ alloc_far0 _ _ : Far (fun _ => False) w1 w2).alloc _ : Far (fun _ => False) w1 w3).alloc _
  obtain ⟨av, hav⟩ : ∃ av : Nat → Prop, av = fun k => k < cB := ⟨_, rfl⟩
  have hMW : FM W (fB + 1) fB cB mB av (Fs0 S) := by
    refine ⟨.slice none 0 0, [], ?_⟩
    subst hav
    exact {
      f := hW ▸ Bk.new z3.symm
      c := hW ▸ (hw3 ▸ (hw2 ▸ Bk.new hcB : Bk w2 cB 60 #[.int .i64 (S : Int)]).alloc _ : Bk w3 cB 60 #[.int .i64 (S : Int)]).alloc _
      m := by
        refine ⟨fun _ => none, 0, ?_, Nat.zero_le _, fun j => rfl⟩
        have := Tally.made w2 3
        rw [z2, ← hw3] at this
        rw [hW]
        exact this.alloc _
      row := World.ownsRow_nil _ _ _ _
      bod := fun t ht => by cases ht
      pl := rfl
      nf := by omega
      nq := fun k e => by cases e
      lo := by omega
      ne := by omega
      hi := by rw [hW]; simp; omega }
  have hA := Lib.hid (hA1.far' hF1W id)
  have hR := Lib.hid (hR1.far' hF1W id)
  have hFW := Lib.hid (hF1.out.then hF1W)
  have hzW := Lib.hid (show W.heap.size = fB + 1 by rw [hW]; simp; omega)
  have havA : av h0 := by rw [hav]; show h0 < cB; omega
  have havR : av kR := by rw [hav]; show kR < cB; omega
  have havw : ∀ k, k < w.heap.size → av k := fun k hk => by rw [hav]; show k < cB; have := hF1.out.size; omega
  have havW : ∀ k, av k → k < W.heap.size := fun k q => by rw [hav] at q; have : k < cB := q; have := hzW.out; omega
  have hnc : cB ≠ kR ∧ kR ≠ cB ∧ fB ≠ kR ∧ kR ≠ fB := by omega
  have hnc' := Lib.hid hnc
  clear hnc
  have hcB' := Lib.hid hcB
  have hmB' := Lib.hid hmB
  have hfB' := Lib.hid hfB
  have hw2' := Lib.hid hw2
  have hw3' := Lib.hid hw3
  have hW' := Lib.hid hW
  have z2' := Lib.hid z2
  have z3' := Lib.hid z3
  have hMW' := Lib.hid hMW
  have havw' := Lib.hid havw
  have havW' := Lib.hid havW
  clear CK hf1 hR1 hA1 hcB hmB hfB hw2 hw3 hW z2 z3 hF1W hav hMW havw havW a0 a1
  have hmm := @run_makeMap Try.prog 63 w2
  rw [z2'.out, ← hw3'.out] at hmm
  go_upto_region 5 with fail
  rw [← hcB'.out, ← hw2'.out]
  clear a0' a1'
  go_upto_region 6 with fail
  rw [z3'.out, ← hW'.out]
  clear hmm
  have a1 : W.cell? ⟨h0, 1, none⟩ = some (.slice ao T.length ac) := hA.out.cell 1
  go_wp2_with fail
  clear a1
  go_loopw [24] (fun iv wr => ∃ (i : Nat) (s : Fs), iv = .int .i64 i ∧ i ≤ T.length ∧ Hid (FM wr (fB + 1) fB cB mB av s) ∧ Far (fun k => ¬ av k) W wr ∧ Hid (ofF ((T.take i).map pl) (Fs0 S) = some s) ∧ Hid (s.n ≤ 1024 ∧ s.ps.length ≤ (tot (T.take i) + 3 * i) * 3)) (fun iv _ => T.length - (intOf iv).toNat)
  case atStart => exact ⟨0, Fs0 S, rfl, Nat.zero_le _, hMW', Far.refl _ _, Lib.hid rfl, Lib.hid ⟨hS2, Nat.zero_le _⟩⟩
  case round =>
    obtain ⟨i, s, rfl, hi, hMr, hfw, hof, hbd⟩ := hrel
    have hWr := hFW.out.out hfw fun k hk q => q (havw'.out k hk)
    by_cases hlt : i < T.length
    · have e1 : decide ((i : Int) < (T.length : Int)) = true := by rw [decide_eq_true_eq]; omega
      have hii : (i : Int) < (T.length : Int) := by omega
      obtain ⟨t, ht⟩ : ∃ t, T[i]? = some t := ⟨T[i], List.getElem?_eq_getElem hlt⟩
      have hmem := List.mem_of_getElem? ht
      have hsym := (hok'.out.2 t hmem).2
      have hl2 := hs2'.out t hmem
      have hl16 := hfit'.out.1.2 t hmem
      obtain ⟨bb, off, c, he, hbl, d0, d1, hbd2⟩ := hP'.out.prod ht
      simp only [Value.slice.injEq] at he
      obtain ⟨rfl, _, rfl⟩ := he
      have hta := tot_at ht
      have htk : T.take (i + 1) = T.take i ++ [t] := by
        obtain ⟨h1, h2⟩ := List.getElem?_eq_some_iff.1 ht
        rw [List.take_succ_eq_append_getElem h1, h2]
      have hof2 := ofF_snoc (pl t) _ _ _ hof.out
      have hof3 : ∀ s9, formF s (pl t).1 (pl t).2 = s9 → ofF ((T.take (i + 1)).map pl) (Fs0 S) = if 1024 < s9.n then none else some s9 := fun s9 h => by
        rw [htk, List.map_append, ← h]; exact hof2
      have htot : tot (T.take (i + 1)) = tot (T.take i) + t.2.2.length := by rw [htk, tot_app]; simp [tot]
      have hflen : ∀ s9, formF s (pl t).1 (pl t).2 = s9 → s9.ps.length ≤ s.ps.length + ((pl t).2.length + 3) * 3 := fun s9 h => h ▸ (formF_len s (pl t).1 (pl t).2).2
      have hall : ofF ((T.take (i + 1)).map pl) (Fs0 S) = none → ofF (T.map pl) (Fs0 S) = none := fun h => by
        have := ofF_app_none _ ((T.drop (i + 1)).map pl) _ h
        rwa [← List.map_append, List.take_append_drop] at this
      have htt := tot_take T i
      have hNN := hN'.out
      obtain ⟨q0, qb, l⟩ := t
      dsimp only at d0 d1 hbd2 hl2 hl16 hta htot hsym
      obtain ⟨bo, bc, rfl⟩ := Src.form hbd2
      have c0 : wr.cell? ⟨bb, off + i * 2, none⟩ = some (.int .i64 q0) := (hWr.cell hbl).trans d0
      have c1 : wr.cell? ⟨bb, off + i * 2 + 1, none⟩ = some (.slice bo l.length bc) := (hWr.cell hbl).trans d1
      obtain ⟨ax, hax⟩ : ∃ ax, ax = wr.heap.size := ⟨_, rfl⟩
      obtain ⟨wa, hwa⟩ : ∃ wa, wa = wr.alloc (.cells #[.int .i64 q0, .slice bo l.length bc] 44) := ⟨_, rfl⟩
      have hfa : Far (fun _ => False) wr wa := hwa ▸ alloc_far0 _ _
      have hXa : Bk wa ax 44 #[.int .i64 q0, .slice bo l.length bc] := hwa ▸ Bk.new hax
      have x0 : wa.cell? ⟨ax, 0, none⟩ = some (.int .i64 q0) := hXa.cell 0
      have x1 : wa.cell? ⟨ax, 1, none⟩ = some (.slice bo l.length bc) := hXa.cell 1
      have hfwa := Lib.hid (hfw.trans (hfa.mono (G := fun k => ¬ av k) fun _ _ q => q.elim) fun _ _ q => q)
      have FO := form_any (fB + 1) fB cB mB av s q0 (.slice bo l.length bc) l wa (hMr.out.move hfa) (hbd2.move (hWr.then hfa)) hl16 (fun x hx => ⟨(hsym x hx).1, (hsym x hx).2.1⟩) (by have := hbd.out.2; omega) (by have := hbd.out.1; omega) fun k q => Nat.lt_of_lt_of_le (havW'.out k q) hfwa.out.size
      obtain ⟨s9, hs9⟩ : ∃ s9, s9 = formF s q0 l := ⟨_, rfl⟩
      rw [← hs9] at FO
      have hof3 := hof3 s9 hs9.symm
      have hflen : s9.ps.length ≤ s.ps.length + (l.length + 3) * 3 := hflen s9 hs9.symm
      have hax' := Lib.hid hax
      have hwa' := Lib.hid hwa
      have hof3' := Lib.hid hof3
      have hall' := Lib.hid hall
      have hbd9 := Lib.hid (show s9.ps.length ≤ (tot (T.take (i + 1)) + 3 * (i + 1)) * 3 by have := hbd.out.2; omega)
      clear hof hof2 hof3 hbd hfw hWr hmem hsym hbl d0 d1 hbd2 ht hta htk htot hflen hall htt hNN hMr hax hwa hfa hXa hs9
      go_upto_region 9 with fail
      rw [← hax'.out, ← hwa'.out]
      clear c0 c1
      go_wp2_with fail
      refine FO.mono ?_
      rintro e w9 ⟨rfl, hM9, hf9⟩
      have hf9' := Lib.hid (hfwa.out.trans hf9 fun _ _ q => q)
      have n0 : w9.cell? ⟨cB, 0, none⟩ = some (.int .i64 (s9.n : Int)) := hM9.cells.2.2.2.1.cell 0
      have hM9' := Lib.hid hM9
      clear FO hM9 hf9 x0 x1
      by_cases hbig : 1024 < s9.n
      · have e2 : decide ((s9.n : Int) > 1024) = true := by rw [decide_eq_true_eq]; omega
        have hnone := Lib.hid (hall'.out (by rw [hof3'.out, if_pos hbig]))
        have hR9 := Lib.hid (hR.out.far' hf9'.out fun q => q havR)
        have r0 : w9.cell? ⟨kR, 0, none⟩ = some (.int .i64 0) := hR9.out.cell 0
        have r1 : w9.cell? ⟨kR, 1, none⟩ = some (.slice none 0 0) := hR9.out.cell 1
        have z0 : w9.frozen? ⟨kR, 0, none⟩ = false := hR9.out.free 0
        have z1 : w9.frozen? ⟨kR, 1, none⟩ = false := hR9.out.free 1
        have hF9 := Lib.hid (hFW.out.out hf9'.out fun k hk q => q (havw'.out k hk))
        clear hbig
        go_wp2_with fail
        have hS5 := (Far.refl (fun k => k = kR) w9).set ⟨kR, 0, none⟩ (.int .i64 0) (fun _ => rfl)
        have hS6 := hS5.set ⟨kR, 1, none⟩ (.slice none 0 0) (fun _ => rfl)
        have hB6 : Bk ((w9.setCell ⟨kR, 0, none⟩ (.int .i64 0)).setCell ⟨kR, 1, none⟩ (.slice none 0 0)) kR 24 #[.int .i64 0, .slice none 0 0] := (hR9.out.set 0 (.int .i64 0)).set 1 _
        have hF6 := Lib.hid (hF9.out.out hS6 fun k hk e => by have := hkw.out; omega)
        clear r0 r1 z0 z1 hS5 hS6 n0
        generalize ((w9.setCell ⟨kR, 0, none⟩ (.int .i64 0)).setCell ⟨kR, 1, none⟩ (.slice none 0 0)) = W6 at *
        have c0 : W6.cell? ⟨kR, 0, none⟩ = some (.int .i64 0) := hB6.cell 0
        have c1 : W6.cell? ⟨kR, 1, none⟩ = some (.slice none 0 0) := hB6.cell 1
        exact bodyPost_ret (v := .tuple #[.agg #[.int .i64 0, .slice none 0 0], .int .i64 240]) (by simp [results, Try.f16, go_sem, c0, c1]) rfl ⟨hF6.out, .inl ⟨hnone.out, rfl⟩⟩
      · have e2 : decide ((s9.n : Int) > 1024) = false := by rw [decide_eq_false_iff_not]; omega
        have hsome := Lib.hid (show ofF ((T.take (i + 1)).map pl) (Fs0 S) = some s9 by rw [hof3'.out, if_neg hbig])
        have hb9 := Lib.hid (show s9.n ≤ 1024 ∧ s9.ps.length ≤ (tot (T.take (i + 1)) + 3 * (i + 1)) * 3 from ⟨by omega, hbd9.out⟩)
        clear hbig
        go_wp2_with fail
        go_roundw
        case rel => exact ⟨i + 1, s9, by go_num, by omega, hM9', hf9'.out, hsome, hb9⟩
        case measure => simp [intOf]; omega
    · have e1 : decide ((i : Int) < (T.length : Int)) = false := by rw [decide_eq_false_iff_not]; omega
      have hin : i = T.length := by omega
      have hofT := Lib.hid (show ofF (T.map pl) (Fs0 S) = some s by have := hof.out; rwa [hin, List.take_length] at this)
      have hsn := hbd.out.1
      have hsp : s.ps.length ≤ (tot T + 3 * T.length) * 3 := by have := hbd.out.2; rwa [hin, List.take_length] at this
      obtain ⟨qv, D, hm⟩ := hMr.out
      have hD : Prods wr qv D := ⟨Src.own hm.row, fun t ht => (hm.bod t ht).1⟩
      obtain ⟨qo, qc, rfl⟩ := Src.form hD.1
      have hDl : D.length = s.ps.length := by rw [← hm.pl, List.length_map]
      obtain ⟨ho1, ho2, ho3⟩ := ofF_ok _ (Fs0_ok S) hS2 (cnf_pl hok'.out) hofT.out
      have hmD : ∀ t ∈ D, pl t ∈ s.ps := fun t ht => hm.pl ▸ List.mem_map_of_mem ht
      have hokD : CnfOK (s.n : Int) D := ⟨⟨by have : S ≤ s.n := ho2; omega, by omega⟩, fun t ht => ⟨(ho1.1 _ (hmD t ht)).1, (ho1.1 _ (hmD t ht)).2.2⟩⟩
      have hfitD : Fits D := fits_of (by have := hN'.out; omega) fun t ht => by have := weak_len (ho1.1 _ (hmD t ht)).2.1; dsimp only [pl] at this; omega
      have hDl' := Lib.hid hDl
      have hsp' := Lib.hid hsp
      have n0 : wr.cell? ⟨cB, 0, none⟩ = some (.int .i64 (s.n : Int)) := hm.c.cell 0
      have f3 : wr.cell? ⟨fB, 3, none⟩ = some (.slice qo D.length qc) := hm.f.cell 3
      have hRr := Lib.hid (hR.out.far' hfw fun q => q havR)
      have r0 : wr.cell? ⟨kR, 0, none⟩ = some (.int .i64 0) := hRr.out.cell 0
      have r1 : wr.cell? ⟨kR, 1, none⟩ = some (.slice none 0 0) := hRr.out.cell 1
      have z0 : wr.frozen? ⟨kR, 0, none⟩ = false := hRr.out.free 0
      have z1 : wr.frozen? ⟨kR, 1, none⟩ = false := hRr.out.free 1
      have HK := Lib.hid (fun w' (hf : Far (fun _ => False) wr w') => (show w'.cell? ⟨cB, 0, none⟩ = some (.int .i64 (s.n : Int)) ∧ w'.cell? ⟨fB, 3, none⟩ = some (.slice qo D.length qc) ∧ w'.cell? ⟨kR, 0, none⟩ = some (.int .i64 0) ∧ w'.cell? ⟨kR, 1, none⟩ = some (.slice none 0 0) ∧ w'.frozen? ⟨kR, 0, none⟩ = false ∧ w'.frozen? ⟨kR, 1, none⟩ = false from ⟨(hm.c.far' hf id).cell 0, (hm.f.far' hf id).cell 3, (hRr.out.far' hf id).cell 0, (hRr.out.far' hf id).cell 1, (hRr.out.far' hf id).free 0, (hRr.out.far' hf id).free 1⟩))
      have SO := Lib.hid (fun w' (hf : Far (fun _ => False) wr w') => sort_ok (s.n : Int) (.slice qo D.length qc) D w' (hD.move hf) hfitD hokD)
      have hWr' := Lib.hid hWr
      have hpl := Lib.hid hm.pl
      clear hof hbd hfw hWr hMr hm hD hin hokD hfitD hsp hDl ho1 ho2 ho3 hmD
      obtain ⟨nc1, nc2, nc3, nc4⟩ := hnc'.out
      go_upto_region 13 with fail
      go_region_held3 (fun w' => w'.cell? ⟨cB, 0, none⟩ = some (.int .i64 (s.n : Int)) ∧ w'.cell? ⟨fB, 3, none⟩ = some (.slice qo D.length qc)) (go_keep)
        (first
          | (go_at_call 23; refine (SO.out _ (drew_far wr)).mono ?_; rintro e w9 ⟨⟨R, ro, rc, rfl, hRp, hRu, hRf, hRo⟩, hf9⟩; have hf9' := Lib.hid ((drew_far wr).then hf9); obtain ⟨b0, b1, b2, b3, b4, b5⟩ := HK.out w9 hf9'.out; have hRp' := Lib.hid hRp; have hRu' := Lib.hid hRu; have hRf' := Lib.hid hRf; have hRo' := Lib.hid hRo; clear hf9 hRp hRu hRf hRo))
      all_goals
        go_wp2_with fail
        have hS5 := (Far.refl (fun k => k = kR) w9).set ⟨kR, 0, none⟩ (.int .i64 (s.n : Int)) (fun _ => rfl)
        have hS6 := hS5.set ⟨kR, 1, none⟩ (.slice ro R.length rc) (fun _ => rfl)
        have hB6 : Bk ((w9.setCell ⟨kR, 0, none⟩ (.int .i64 (s.n : Int))).setCell ⟨kR, 1, none⟩ (.slice ro R.length rc)) kR 24 #[.int .i64 (s.n : Int), .slice ro R.length rc] := ((hRr.out.far' hf9'.out id).set 0 (.int .i64 (s.n : Int))).set 1 _
        have hF6 := Lib.hid ((hWr'.out.then hf9'.out).out hS6 fun k hk e => by have := hkw.out; omega)
        have hP6 := Lib.hid (hRp'.out.cnf (hRr.out.far' hf9'.out id) (by intro x e; cases e) hS6)
        clear b0 b1 b2 b3 b4 b5 hS5 hS6
        generalize ((w9.setCell ⟨kR, 0, none⟩ (.int .i64 (s.n : Int))).setCell ⟨kR, 1, none⟩ (.slice ro R.length rc)) = W6 at *
        have c0 : W6.cell? ⟨kR, 0, none⟩ = some (.int .i64 (s.n : Int)) := hB6.cell 0
        have c1 : W6.cell? ⟨kR, 1, none⟩ = some (.slice ro R.length rc) := hB6.cell 1
        exact bodyPost_ret (v := .tuple #[.agg #[.int .i64 (s.n : Int), .slice ro R.length rc], .int .i64 0]) (by simp [results, Try.f16, go_sem, c0, c1]) rfl ⟨hF6.out, .inr ⟨s, R, ro, rc, hofT.out, rfl, hP6.out, hRu'.out.1, (fun x => by have := hRu'.out.2.1 x; rwa [hpl.out] at this), hRf'.out, hRo'.out, by have := hRu'.out.2.2; have := hDl'.out; omega, hsp'.out⟩⟩
end
end Go.Proofs.Ytjkfieilaahejaa
