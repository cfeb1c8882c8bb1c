/-
  The document's sorted productions.
-/
import Derived.Test.YtjkfieilaahejaaInsert
namespace Go.Proofs.Ytjkfieilaahejaa
open Go.RowKit
set_option linter.unusedVariables false
set_option linter.unusedSimpArgs false
theorem insL_mem : ∀ {L : List Tr} {p t : Tr}, t ∈ insL L p → t = p ∨ t ∈ L
  | [], p, t, h => by simp [insL] at h; exact .inl h
  | x :: L, p, t, h => by
    unfold insL at h
    split at h
    · rcases List.mem_cons.1 h with e | h
      · exact .inr (by simp [e])
      · rcases insL_mem h with e | e
        · exact .inl e
        · exact .inr (by simp [e])
    · split at h
      · rcases List.mem_cons.1 h with e | h
        · exact .inl e
        · exact .inr h
      · exact .inr h
theorem insL_up : ∀ {L : List Tr} (p : Tr), Up (L.map pl) → Up ((insL L p).map pl) ∧ ∀ x, x ∈ (insL L p).map pl ↔ x = pl p ∨ x ∈ L.map pl
  | [], p, _ => ⟨by simp [insL, Up], fun x => by simp [insL]⟩
  | y :: L, p, h => by
    have h' := List.pairwise_cons.1 (show ((y :: L).map pl).Pairwise _ from h)
    obtain ⟨i1, i2⟩ := insL_up (L := L) p h'.2
    unfold insL
    by_cases a : lessT y p = true
    · rw [if_pos a]
      refine ⟨List.pairwise_cons.2 ⟨fun z hz => ?_, i1⟩, fun x => ?_⟩
      · rcases (i2 z).1 hz with e | e
        · rw [e]; exact of_decide_eq_true a
        · exact h'.1 z e
      · rw [List.map_cons, List.mem_cons, i2, List.map_cons, List.mem_cons]
        constructor
        · rintro (e | e | e)
          · exact .inr (.inl e)
          · exact .inl e
          · exact .inr (.inr e)
        · rintro (e | e | e)
          · exact .inr (.inl e)
          · exact .inl e
          · exact .inr (.inr e)
    · rw [if_neg a]
      have ha : ¬ ordP (pl y) (pl p) < 0 := fun e => a (decide_eq_true e)
      by_cases b : lessT p y = true
      · rw [if_pos b]
        have hb : ordP (pl p) (pl y) < 0 := of_decide_eq_true b
        refine ⟨List.pairwise_cons.2 ⟨fun z hz => ?_, h⟩, fun x => by rw [List.map_cons, List.mem_cons]⟩
        rcases List.mem_cons.1 (show z ∈ pl y :: L.map pl from hz) with e | e
        · rw [e]; exact hb
        · exact tot_le_lt (by omega) (h'.1 z e)
      · rw [if_neg b]
        have hb : ¬ ordP (pl p) (pl y) < 0 := fun e => b (decide_eq_true e)
        have e0 : pl y = pl p := ordP_zero (by have := tot_ordP.turn (pl p) (pl y); omega)
        refine ⟨h, fun x => ⟨.inr, ?_⟩⟩
        rintro (e | e)
        · rw [e, List.map_cons, e0]; simp
        · exact e
def sortL (T : List Tr) : List Tr := T.foldl insL []
theorem fold_up : ∀ (T acc : List Tr), Up (acc.map pl) → Up ((T.foldl insL acc).map pl) ∧ ∀ x, x ∈ (T.foldl insL acc).map pl ↔ x ∈ acc.map pl ∨ x ∈ T.map pl
  | [], acc, h => ⟨h, fun x => by simp⟩
  | t :: T, acc, h => by
    obtain ⟨h1, h2⟩ := insL_up t h
    obtain ⟨h3, h4⟩ := fold_up T (insL acc t) h1
    refine ⟨h3, fun x => ?_⟩
    rw [List.foldl_cons, h4, h2, List.map_cons, List.mem_cons]
    constructor
    · rintro ((e | e) | e)
      · exact .inr (.inl e)
      · exact .inl e
      · exact .inr (.inr e)
    · rintro (e | e | e)
      · exact .inl (.inr e)
      · exact .inl (.inl e)
      · exact .inr e
theorem sortL_canon (T : List Tr) : Up ((sortL T).map pl) ∧ ∀ x, x ∈ (sortL T).map pl ↔ x ∈ T.map pl := by
  obtain ⟨h1, h2⟩ := fold_up T [] List.Pairwise.nil
  exact ⟨h1, fun x => by unfold sortL; rw [h2]; simp⟩
theorem sortL_succ {T : List Tr} {i : Nat} {t : Tr} (h : T[i]? = some t) : sortL (T.take (i + 1)) = insL (sortL (T.take i)) t := by
  obtain ⟨hl, he⟩ := List.getElem?_eq_some_iff.1 h
  unfold sortL
  rw [List.take_succ_eq_append_getElem hl, he, List.foldl_append]
  rfl
theorem sortL_len (T : List Tr) : ∀ i, i ≤ T.length → (sortL (T.take i)).length ≤ i ∧ ∀ t ∈ sortL (T.take i), t ∈ T
  | 0, _ => by simp [sortL]
  | i + 1, h => by
    obtain ⟨h1, h2⟩ := sortL_len T i (by omega)
    have ht : T[i]? = some T[i] := List.getElem?_eq_getElem (by omega)
    rw [sortL_succ ht]
    refine ⟨?_, fun t hm => ?_⟩
    · have := insL_len (sortL (T.take i)) T[i]; omega
    · rcases insL_mem hm with e | e
      · rw [e]; exact List.getElem_mem _
      · exact h2 t e
section
set_option maxHeartbeats 4000000
set_option maxRecDepth 100000
theorem rsorted_own (S : Int) (pv : Value) (T : List Tr) (w : World) (hP : Prods w pv T) (hfi : Fits T) :
    Calls Try.prog 41 #[.agg #[.int .i64 S, pv]] w fun e w' => (∃ ao c, e = .returned (.agg #[.int .i64 S, .slice ao (sortL T).length c]) ∧ OwnP w' w.heap.size (.slice ao (sortL T).length c) (sortL T)) ∧ Far (fun _ => False) w w' := by
  obtain ⟨h, hh⟩ : ∃ h, h = w.heap.size := ⟨_, rfl⟩
  obtain ⟨kR, hkR⟩ : ∃ k, k = h + 1 := ⟨_, rfl⟩
  obtain ⟨kO, hkO⟩ : ∃ k, k = kR + 1 := ⟨_, rfl⟩
  obtain ⟨w0, hw0⟩ : ∃ w0, w0 = (w.alloc (.cells #[.int .i64 S, pv] 24)).alloc (.cells #[.int .i64 0, .slice none 0 0] 24) := ⟨_, rfl⟩
  obtain ⟨w1, hw1⟩ : ∃ w1, w1 = w0.alloc (.cells #[.int .i64 S, .slice none 0 0] 24) := ⟨_, rfl⟩
  have hA0 : Bk w0 h 24 #[.int .i64 S, pv] := hw0 ▸ (Bk.new hh).alloc _
  have hR0 : Bk w0 kR 24 #[.int .i64 0, .slice none 0 0] := hw0 ▸ Bk.new (by simp [hkR, hh])
  have hz0 : w0.heap.size = kO := by rw [hw0]; simp [hkO, hkR, hh]
  have hA : Bk w1 h 24 #[.int .i64 S, pv] := hw1 ▸ hA0.alloc _
  have hR : Bk w1 kR 24 #[.int .i64 0, .slice none 0 0] := hw1 ▸ hR0.alloc _
  have hO : Bk w1 kO 24 #[.int .i64 S, .slice none 0 0] := hw1 ▸ Bk.new hz0.symm
  have hF : Far (fun _ => False) w w1 := hw1 ▸ (hw0 ▸ ((Far.refl _ w).alloc _).alloc _ : Far (fun _ => False) w w0).alloc _
  have hz1 : w1.heap.size = kO + 1 := by rw [hw1]; simp [hz0]
  have a0 : w0.cell? ⟨h, 0, none⟩ = some (.int .i64 S) := hA0.cell 0
  have a1 : w1.cell? ⟨h, 1, none⟩ = some pv := hA.cell 1
  have hP1 := Lib.hid hP
  have hOB := Lib.hid (show ∀ t ∈ T, OB w1 w.heap.size t.2.1 t.2.2 from fun t ht => (Body.old (hP.2 t ht) (Nat.le_refl _)).move hF)
  obtain ⟨ao, pc, rfl⟩ := Src.form hP.1
  have hs' : T.length ≤ 4398046510976 := by have := hfi.1.1; omega
  have hb' := Lib.hid hfi.2.2
  have hh' := Lib.hid hh
  have hkR' := Lib.hid hkR
  have hkO' := Lib.hid hkO
  have hw0' := Lib.hid hw0
  have hw1' := Lib.hid hw1
  have hz0' := Lib.hid hz0
  have hz1' := Lib.hid hz1
  have hA' := Lib.hid hA
  have hR' := Lib.hid hR
  have hO' := Lib.hid hO
  have hF' := Lib.hid hF
  clear hP hfi hh hkR hkO hw0 hw1 hz0 hz1 hA hR hO hF hA0 hR0
  go_enter Try.func41, Try.ntmps41
  go_upto_region 1 with fail
  rw [← hh'.out, ← hkR'.out, ← hw0'.out]
  go_upto_region 2 with fail
  rw [hz0'.out, ← hw1'.out]
  clear a0
  go_wp2_with fail
  clear a1
  go_loopw [4] (fun iv wr => ∃ (i : Nat) (qo : Option Addr) (qc : Nat) (D : List Tr), iv = .int .i64 i ∧ i ≤ T.length ∧ D = sortL (T.take i) ∧ Bk wr kO 24 #[.int .i64 S, .slice qo D.length qc] ∧ OwnP wr h (.slice qo D.length qc) D ∧ Far (fun k => k = kO) w1 wr) (fun iv _ => T.length - (intOf iv).toNat)
  case atStart => exact ⟨0, none, 0, [], rfl, Nat.zero_le _, rfl, hO'.out, ⟨World.ownsRow_nil _ _ _ _, fun t ht => by cases ht⟩, Far.refl _ _⟩
  case round =>
    obtain ⟨i, qo, qc, D, rfl, hi, hD, hOr, hown, hfw⟩ := hrel
    have hx : h ≠ kO ∧ kR ≠ kO := by have := hkR'.out; have := hkO'.out; omega
    have a1 : wr.cell? ⟨h, 1, none⟩ = some (.slice ao T.length pc) := (hA'.out.far' hfw hx.1).cell 1
    by_cases hlt : i < T.length
    · have e1 : decide ((i : Int) < (T.length : Int)) = true := by rw [decide_eq_true_eq]; omega
      have hii : (i : Int) < (T.length : Int) := by omega
      obtain ⟨t, ht⟩ : ∃ t, T[i]? = some t := ⟨T[i], List.getElem?_eq_getElem hlt⟩
      have hfx : Far (fun _ => False) w wr := hF'.out.out hfw (fun k hk e => by have := hh'.out; have := hkR'.out; have := hkO'.out; omega)
      obtain ⟨b, off, c, he, hbl, c0, c1, hbd⟩ := hP1.out.prod ht
      simp only [Value.slice.injEq] at he
      obtain ⟨rfl, _, rfl⟩ := he
      rw [← hfx.cell (p := ⟨b, _, none⟩) hbl] at c0 c1
      have hto : OB wr w.heap.size t.2.1 t.2.2 := (hOB.out t (List.mem_of_getElem? ht)).far hfw (fun k e => by have := hh'.out; have := hkR'.out; have := hkO'.out; omega) (fun hr k hk e => by subst e; exact own_ne hr hO'.out sym_ne_cnf hk)
      have hl2 := hb'.out t (List.mem_of_getElem? ht)
      obtain ⟨hlD, hmD⟩ := sortL_len T i (by omega)
      rw [← hD] at hlD hmD
      have hD2 := Lib.hid (show insL D t = sortL (T.take (i + 1)) by rw [hD, ← sortL_succ ht])
      have hfd := drew_far wr
      have INS := Lib.hid (insert_any w.heap.size (.slice qo D.length qc) D t wr.drew (hown.prods.move hfd) (fun u hu => (hh'.out ▸ hown.2 u hu : OB wr w.heap.size u.2.1 u.2.2).move hfd) (hto.move hfd) (by have := hfx.size; exact this) (by omega) (fun u hu => hb'.out u (hmD u hu)) hl2)
      obtain ⟨h0, tv, l⟩ := t
      simp only [] at c0 c1 hbd hto hl2
      obtain ⟨bo, bc, rfl⟩ := Src.form hbd
      have q1 : wr.cell? ⟨kO, 1, none⟩ = some (.slice qo D.length qc) := hOr.cell 1
      have hOr' := Lib.hid hOr
      have hfw' := Lib.hid hfw
      have hkl := Lib.hid (show w.heap.size ≤ kO by have := hh'.out; have := hkR'.out; have := hkO'.out; omega)
      clear hOr hown hfw hfx hbd hto hl2 hlD hmD hD ht hx hbl hfd
      go_wp2_with fail
      go_region_law
        (first
          | (refine step_call rfl 55 #[.slice qo D.length qc, .agg #[.int .i64 h0, .slice bo l.length bc]] ?_ INS.out ?_; (go_simp); rintro v4 w4 ⟨ho4, hf4⟩; obtain ⟨vo, vc, rfl⟩ := Src.form (Src.own ho4.1); have FW4 := Lib.hid ((drew_far wr).then hf4); have hO4 := Lib.hid (hOr'.out.far' FW4.out id); have u0 : w4.cell? ⟨kO, 1, none⟩ = some (.slice qo D.length qc) := hO4.out.cell 1; have u1 := hO4.out.free 1; have ho4' := Lib.hid ho4; clear ho4 hf4))
      all_goals
        have hS5 := Lib.hid ((Far.refl (fun k => k = kO) w4).set ⟨kO, 1, none⟩ (.slice vo (insL D (h0, Value.slice bo l.length bc, l)).length vc) (fun _ => rfl))
        have hP6 := Lib.hid (ho4'.out.far hS5.out fun k e => ⟨by subst e; exact hkl.out, _, _, e ▸ hO4.out, prod_ne_cnf, sym_ne_cnf⟩)
        go_wp2_with fail
        go_roundw
        case rel => exact ⟨i + 1, vo, vc, _, by go_num, by omega, hD2.out, hO4.out.set 1 _, hh'.out ▸ hP6.out, (hfw'.out.trans FW4.out fun _ _ h => h.elim).trans hS5.out fun _ _ h => h⟩
        case measure => simp [intOf]; omega
    · have e1 : decide ((i : Int) < (T.length : Int)) = false := by rw [decide_eq_false_iff_not]; omega
      have hin : i = T.length := by omega
      rw [hin, List.take_length] at hD
      subst hD
      have hRr := hR'.out.far' hfw hx.2
      have o0 : wr.cell? ⟨kO, 0, none⟩ = some (.int .i64 S) := hOr.cell 0
      have o1 : wr.cell? ⟨kO, 1, none⟩ = some (.slice qo (sortL T).length qc) := hOr.cell 1
      have r0 : wr.cell? ⟨kR, 0, none⟩ = some (.int .i64 0) := hRr.cell 0
      have r1 : wr.cell? ⟨kR, 1, none⟩ = some (.slice none 0 0) := hRr.cell 1
      have z0 : wr.frozen? ⟨kR, 0, none⟩ = false := hRr.free 0
      have z1 : wr.frozen? ⟨kR, 1, none⟩ = false := hRr.free 1
      have hfx := Lib.hid (hF'.out.out hfw (fun k hk e => by have := hh'.out; have := hkR'.out; have := hkO'.out; omega))
      have hown' := Lib.hid hown
      have hRr' := Lib.hid hRr
      have hkw := Lib.hid (show h ≤ kR ∧ w.heap.size ≤ kR by have := hh'.out; have := hkR'.out; have := hkO'.out; omega)
      clear hown hOr hfw hRr hx hin
      go_wp2_with fail
      have hS5 := (Far.refl (fun k => k = kR) wr).set ⟨kR, 0, none⟩ (.int .i64 S) (fun _ => rfl)
      have hS6 := hS5.set ⟨kR, 1, none⟩ (.slice qo (sortL T).length qc) (fun _ => rfl)
      have hP6 := Lib.hid (hown'.out.far hS6 fun k e => ⟨by subst e; exact hkw.out.1, _, _, e ▸ hRr'.out, prod_ne_cnf, sym_ne_cnf⟩)
      have hB6 : Bk ((wr.setCell ⟨kR, 0, none⟩ (.int .i64 S)).setCell ⟨kR, 1, none⟩ (.slice qo (sortL T).length qc)) kR 24 #[.int .i64 S, .slice qo (sortL T).length qc] := (hRr'.out.set 0 (.int .i64 S)).set 1 _
      have hF6 := Lib.hid (hfx.out.out hS6 fun k hk e => by have := hkw.out; omega)
      clear o0 o1 r0 r1 z0 z1 hS5 hS6
      generalize ((wr.setCell ⟨kR, 0, none⟩ (.int .i64 S)).setCell ⟨kR, 1, none⟩ (.slice qo (sortL T).length qc)) = W6 at *
      have c0 : W6.cell? ⟨kR, 0, none⟩ = some (.int .i64 S) := hB6.cell 0
      have c1 : W6.cell? ⟨kR, 1, none⟩ = some (.slice qo (sortL T).length qc) := hB6.cell 1
      exact bodyPost_ret (v := .agg #[.int .i64 S, .slice qo (sortL T).length qc]) (by simp [results, Try.f41, go_sem, c0, c1]) rfl ⟨⟨_, _, rfl, hh'.out ▸ hP6.out⟩, hF6.out⟩
theorem rsorted_any (S : Int) (pv : Value) (T : List Tr) (w : World) (hP : Prods w pv T) (hfi : Fits T) :
    Calls Try.prog 41 #[.agg #[.int .i64 S, pv]] w fun e w' => (∃ ao c, e = .returned (.agg #[.int .i64 S, .slice ao (sortL T).length c]) ∧ Prods w' (.slice ao (sortL T).length c) (sortL T)) ∧ Far (fun _ => False) w w' :=
  (rsorted_own S pv T w hP hfi).mono fun e w' ⟨⟨ao, c, he, ho⟩, hf⟩ => ⟨⟨ao, c, he, ho.prods⟩, hf⟩
end
end Go.Proofs.Ytjkfieilaahejaa
