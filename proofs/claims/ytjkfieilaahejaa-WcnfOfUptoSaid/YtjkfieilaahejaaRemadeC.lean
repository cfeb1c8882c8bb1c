/-
  Productions made anew, each body copied; a store to a cell of another type leaves them.
-/
import Derived.Test.YtjkfieilaahejaaCompactW
import Derived.Test.YtjkfieilaahejaaGood13
namespace Go.Proofs.Ytjkfieilaahejaa
open Go.RowKit
set_option linter.unusedVariables false
set_option linter.unusedSimpArgs false
theorem row_up {w : World} {base base' e size n : Nat} {v : Value} {xs : List Value} (h : w.ownsRow base e size v n xs) (hb : base' ≤ base) : w.ownsRow base' e size v n xs := ⟨h.1, h.2.imp id fun ⟨g, cap, cur, e, hg, r⟩ => ⟨g, cap, cur, e, Nat.le_trans hb hg, r⟩⟩
/-- What Sort and Turn answer where the productions may not be. -/
def noCnf : Value := .tuple #[.agg #[.int .i64 0, .slice none 0 0], .int .i64 220]
theorem Body.cnf {w w' : World} {v : Value} {l : List Sy} {k : Nat} {a : Int} {b : Value} {t : TypeId} (h : Body w v l) (hk : Bk w k t #[.int .i64 a, b]) (hb : ∀ x, b ≠ .bool x) (hf : Far (fun i => i = k) w w') : Body w' v l := by
  have hn : ∀ a n c, v = .slice (some a) n c → l ≠ [] → a.block ≠ k := by
    intro p n c e hl hpk
    obtain ⟨s, hs⟩ : ∃ s, l[0]? = some s := by
      cases l with
      | nil => exact absurd rfl hl
      | cons s r => exact ⟨s, rfl⟩
    obtain ⟨g, off, c', e', _, h0, _⟩ := h.sym hs
    rw [e'] at e
    cases e
    subst hpk
    rw [Nat.zero_mul, Nat.add_zero, hk.cell] at h0
    match off, h0 with
    | 0, h0 => simp at h0
    | 1, h0 => simp at h0; exact hb _ h0
    | n + 2, h0 => simp at h0
  obtain ⟨h1, h2 | ⟨p, c, e, h2⟩⟩ := h
  · exact ⟨h1, .inl h2⟩
  · refine ⟨h1, .inr ⟨p, c, e, fun j u hu => ?_⟩⟩
    have hl : l ≠ [] := fun e => by
      have := (List.getElem?_eq_some_iff.1 hu).1
      rw [scells_len, e] at this; simp at this
    obtain ⟨hlt, hc⟩ := h2 j u hu
    exact ⟨Nat.lt_of_lt_of_le hlt hf.size, (cell_eq (by rw [add_block]; exact hf.block _ hlt (hn p _ c e hl))).trans hc⟩
/-- The productions can be read behind a store to a box of another kind. -/
theorem OwnP.shut {w w' : World} {B : Nat} {v : Value} {T : List Tr} {k : Nat} {a : Int} {b : Value} (h : OwnP w B v T) (hk : Bk w k 24 #[.int .i64 a, b]) (hb : ∀ x, b ≠ .bool x) (hf : Far (fun i => i = k) w w') : Prods w' v T :=
  ⟨Src.own (row_far h.1 hf fun i hi e => by subst e; exact own_ne h.1 hk prod_ne_cnf hi), fun t ht => (h.2 t ht).body.cnf hk hb hf⟩
/-- Productions in a row of the call's own. -/
def PO (w : World) (v : Value) (T : List Tr) : Prop := Prods w v T ∧ ∃ B, w.ownsRow B 44 2 v T.length (tcells T)
theorem PO.cnf {w w' : World} {v : Value} {T : List Tr} {k : Nat} {a : Int} {b : Value} (h : PO w v T) (hk : Bk w k 24 #[.int .i64 a, b]) (hb : ∀ x, b ≠ .bool x) (hf : Far (fun i => i = k) w w') : PO w' v T := by
  obtain ⟨B, hr⟩ := h.2
  have hr' := row_far hr hf fun i hi e => by subst e; exact own_ne hr hk prod_ne_cnf hi
  exact ⟨⟨Src.own hr', fun t ht => (h.1.2 t ht).cnf hk hb hf⟩, B, hr'⟩
theorem PO.move {w w' : World} {v : Value} {T : List Tr} (h : PO w v T) (hf : Far (fun _ => False) w w') : PO w' v T := ⟨h.1.move hf, h.2.elim fun B hr => ⟨B, row_far hr hf fun _ _ q => q⟩⟩
section
set_option maxHeartbeats 4000000
set_option maxRecDepth 100000
theorem remade_copy (S : Int) (pv : Value) (T : List Tr) (w : World) (hP : Prods w pv T) (hs : T.length * 32 ≤ 140737488351232) (hs2 : ∀ t ∈ T, t.2.2.length * 16 ≤ 140737488351232) :
    Calls Try.prog 44 #[.agg #[.int .i64 S, pv], .func (.func 45) #[] #[]] w fun e w' => ∃ pv' T', e = .returned (.agg #[.int .i64 S, pv']) ∧ OwnP w' w.heap.size pv' T' ∧ T'.map pl = T.map (fun t => (t.1, t.2.2)) ∧ Far (fun _ => False) w w' := by
  obtain ⟨h, hh⟩ : ∃ h, h = w.heap.size := ⟨_, rfl⟩
  obtain ⟨kR, hkR⟩ : ∃ k, k = h + 1 := ⟨_, rfl⟩
  obtain ⟨kO, hkO⟩ : ∃ k, k = kR + 1 := ⟨_, rfl⟩
  obtain ⟨w0, hw0⟩ : ∃ w0, w0 = (w.alloc (.cells #[.int .i64 S, pv] 24)).alloc (.cells #[.int .i64 0, .slice none 0 0] 24) := ⟨_, rfl⟩
  obtain ⟨w1, hw1⟩ : ∃ w1, w1 = w0.alloc (.cells #[.int .i64 S, .slice none 0 0] 24) := ⟨_, rfl⟩
  have hA0 : Bk w0 h 24 #[.int .i64 S, pv] := hw0 ▸ (Bk.new hh).alloc _
  have hR0 : Bk w0 kR 24 #[.int .i64 0, .slice none 0 0] := hw0 ▸ Bk.new (by simp [hkR, hh])
  have hz0 : w0.heap.size = kO := by rw [hw0]; simp [hkO, hkR, hh]
  have hA : Bk w1 h 24 #[.int .i64 S, pv] := hw1 ▸ hA0.alloc _
  have hR : Bk w1 kR 24 #[.int .i64 0, .slice none 0 0] := hw1 ▸ hR0.alloc _
  have hO : Bk w1 kO 24 #[.int .i64 S, .slice none 0 0] := hw1 ▸ Bk.new hz0.symm
  have hF : Far (fun _ => False) w w1 := hw1 ▸ (hw0 ▸ ((Far.refl _ w).alloc _).alloc _ : Far (fun _ => False) w w0).alloc _
  have hz1 : w1.heap.size = kO + 1 := by rw [hw1]; simp [hz0]
  have a0 : w0.cell? ⟨h, 0, none⟩ = some (.int .i64 S) := hA0.cell 0
  have a1 : w1.cell? ⟨h, 1, none⟩ = some pv := hA.cell 1
  have hP1 := Lib.hid hP
  obtain ⟨ao, pc, rfl⟩ := Src.form hP.1
  have hs' : T.length ≤ 4398046510976 := by omega
  have hs2' := Lib.hid hs2
  have hh' := Lib.hid hh
  have hkR' := Lib.hid hkR
  have hkO' := Lib.hid hkO
  have hw0' := Lib.hid hw0
  have hw1' := Lib.hid hw1
  have hz0' := Lib.hid hz0
  have hz1' := Lib.hid hz1
  have hA' := Lib.hid hA
  have hR' := Lib.hid hR
  have hO' := Lib.hid hO
  have hF' := Lib.hid hF
  clear hP hs2 hh hkR hkO hw0 hw1 hz0 hz1 hA hR hO hF hA0 hR0 hs
  go_enter Try.func44, Try.ntmps44
  go_upto_region 1 with fail
  rw [← hh'.out, ← hkR'.out, ← hw0'.out]
  go_upto_region 2 with fail
  rw [hz0'.out, ← hw1'.out]
  clear a0
  go_wp2_with fail
  clear a1
  go_loopw [14] (fun iv wr => ∃ (i : Nat) (qv : Value) (T' : List Tr), iv = .int .i64 i ∧ i ≤ T.length ∧ Bk wr kO 24 #[.int .i64 S, qv] ∧ OwnP wr h qv T' ∧ T'.map pl = (T.take i).map (fun t => (t.1, t.2.2)) ∧ Far (fun k => k = kO) w1 wr) (fun iv _ => T.length - (intOf iv).toNat)
  case atStart => exact ⟨0, .slice none 0 0, [], rfl, Nat.zero_le _, hO'.out, ⟨World.ownsRow_nil _ _ _ _, fun t ht => by cases ht⟩, by simp, Far.refl _ _⟩
  case round =>
    obtain ⟨i, qv, T', rfl, hi, hOr, hown, hmap, hfw⟩ := hrel
    have hx : h ≠ kO ∧ kR ≠ kO := by have := hkR'.out; have := hkO'.out; omega
    have hlen : T'.length = i := by have := congrArg List.length hmap; simp at this; omega
    by_cases hlt : i < T.length
    · have e1 : decide ((i : Int) < (T.length : Int)) = true := by rw [decide_eq_true_eq]; omega
      have hii : (i : Int) < (T.length : Int) := by omega
      obtain ⟨t, ht⟩ : ∃ t, T[i]? = some t := ⟨T[i], List.getElem?_eq_getElem hlt⟩
      have hfx : Far (fun _ => False) w wr := hF'.out.out hfw (fun k hk e => by have := hh'.out; have := hkR'.out; have := hkO'.out; omega)
      obtain ⟨b, off, c, he, hbl, c0, c1, hbd⟩ := hP1.out.prod ht
      simp only [Value.slice.injEq] at he
      obtain ⟨rfl, _, rfl⟩ := he
      rw [← hfx.cell (p := ⟨b, _, none⟩) hbl] at c0 c1
      have hbr := hbd.move hfx
      have hl16 : t.2.2.length * 16 ≤ 140737488351232 := hs2'.out t (List.mem_of_getElem? ht)
      have hTt := List.take_succ_eq_append_getElem hlt
      rw [(List.getElem?_eq_some_iff.1 ht).2] at hTt
      obtain ⟨h0, tv, l⟩ := t
      simp only [] at c0 c1 hbr hl16 hbd
      obtain ⟨bo, bc, rfl⟩ := Src.form hbd
      obtain ⟨ax, hax⟩ : ∃ ax, ax = wr.heap.size := ⟨_, rfl⟩
      obtain ⟨wa, hwa⟩ : ∃ wa, wa = wr.alloc (.cells #[.int .i64 h0, .slice bo l.length bc] 44) := ⟨_, rfl⟩
      have hfa : Far (fun _ => False) wr wa := hwa ▸ (Far.refl _ wr).alloc _
      have hX : Bk wa ax 44 #[.int .i64 h0, .slice bo l.length bc] := hwa ▸ Bk.new hax
      have hOa := hOr.far' hfa id
      have hoa := hown.move hfa
      have x0 : wa.cell? ⟨ax, 0, none⟩ = some (.int .i64 h0) := hX.cell 0
      have x1 : wa.cell? ⟨ax, 1, none⟩ = some (.slice bo l.length bc) := hX.cell 1
      have q0 : wa.cell? ⟨kO, 1, none⟩ = some qv := hOa.cell 1
      have hXl := hX.lt
      have hOl := hOa.lt
      have hRa := (hR'.out.far' hfw hx.2).far' hfa id
      have hAa := (hA'.out.far' hfw hx.1).far' hfa id
      have hqn := Lib.hid (show ∀ k, qv.ownBlock = some k → w1.heap.size ≤ k from fun k hk => by
        have h1 := (hown.1.lt k hk).1
        have n1 : k ≠ h := fun e => own_ne hoa.1 hAa prod_ne_cnf (e ▸ hk)
        have n2 : k ≠ kR := fun e => own_ne hoa.1 hRa prod_ne_cnf (e ▸ hk)
        have n3 : k ≠ kO := fun e => own_ne hoa.1 hOa prod_ne_cnf (e ▸ hk)
        have hz := hz1'.out
        have := hkR'.out; have := hkO'.out; omega)
      have hqax := Lib.hid (show qv.ownBlock ≠ some ax from fun e => by have := (hown.1.lt _ e).2; omega)
      have hqk := Lib.hid (own_ne hoa.1 hOa prod_ne_cnf)
      have hh0 : h ≤ wa.heap.size := by have := hAa.lt; omega
      have CL := Lib.hid (clone_any (.slice bo l.length bc) l wa.drew ((hbr.move hfa).move (drew_far _)) hl16)
      obtain ⟨pi, pz, pi1, pi2, pi3, pi4, pi5⟩ := info3 info_prod
      have A7 : 0 < 2 := by decide
      have B4 : T'.length + 1 ≤ maxLen := by unfold maxLen; omega
      have B5 : (T'.length + 1) * 32 ≤ 140737488355328 := by omega
      have hkl := Lib.hid (show w.heap.size ≤ kO by have := hh'.out; have := hkR'.out; have := hkO'.out; omega)
      have hoa' := Lib.hid hoa
      have hOa' := Lib.hid hOa
      have hX' := Lib.hid hX
      have hfwa := Lib.hid (hfw.trans hfa fun _ _ h => h.elim)
      have hmap' := Lib.hid hmap
      have hTt' := Lib.hid hTt
      have hax' := Lib.hid hax
      have hwa' := Lib.hid hwa
      have hno : ax ≠ kO := by have := hOr.lt; omega
      have hno' : kO ≠ ax := fun e => hno e.symm
      clear hOr hown hmap hx hlen hfx hbr hTt hbd ht hfw hfa hX hOa hoa hRa hAa hax hwa hbl
      go_upto_region 5 with fail
      rw [← hax'.out, ← hwa'.out]
      clear c0 c1
      go_region_law
        (first
          | (refine step_app rfl (.tmp 19) (.tmp 27) 22 rfl h 44 pi pz 2 32 Try.underlying22 pi1 pi2 pi3 pi4 pi5 A7 qv T'.length _ rfl B1'.out (.slice (some ⟨w4.heap.size, 0, none⟩) 1 1) 1 _ rfl B2'.out B3'.out B4 B5 B6 ?_; intro v2 w5 ho5 hg5; obtain ⟨vo2, vc2, rfl⟩ := Src.form (Src.own ho5); have hO5 := Bk.grown (w := (w4.alloc (.cells #[.int .i64 h0, .slice vo l.length vc] 44))) (Bk.alloc hO4.out _) hg5 hqk.out; have hX5 := Bk.grown (w := (w4.alloc (.cells #[.int .i64 h0, .slice vo l.length vc] 44))) (Bk.alloc hX4.out _) hg5 hqax.out; have u0 := hO5.cell 1; have u1 := hO5.free 1; have y0 := hX5.cell 0; have y1 := hX5.cell 1; have ho5' := Lib.hid ho5; have hg5' := Lib.hid hg5; have hO5' := Lib.hid hO5; clear ho5 hg5 hO5 hX5; simp at u0 y0 y1)
          | (refine step_call rfl 45 #[.slice bo l.length bc] ?_ CL.out ?_; (go_simp); rintro v4 w4 ⟨ho4, hf4⟩; skip; obtain ⟨vo, vc, rfl⟩ := Src.form (Src.own ho4); have FW4 := Lib.hid ((drew_far wa).then hf4); have hO4 := Lib.hid (hOa'.out.far' FW4.out id); have hX4 := Lib.hid (hX'.out.far' FW4.out id); have r0 : w4.cell? ⟨ax, 0, none⟩ = some (.int .i64 h0) := hX4.out.cell 0; have r1 : w4.cell? ⟨ax, 1, none⟩ = some (.slice bo l.length bc) := hX4.out.cell 1; have r2 : w4.cell? ⟨kO, 1, none⟩ = some qv := hO4.out.cell 1; have l1 : kO < w4.heap.size := hO4.out.lt; have l2 : ax < w4.heap.size := hX4.out.lt; have n1 : kO ≠ w4.heap.size := (by omega); have n2 : ax ≠ w4.heap.size := (by omega); have n3 : w4.heap.size ≠ ax := (by omega); have ho4' := Lib.hid (row_zero ho4); have hP4 := Lib.hid (hoa'.out.move FW4.out); have B1' := Lib.hid (hP4.out.1.alloc (.cells #[.int .i64 h0, .slice vo l.length vc] 44)); have B2' := Lib.hid (src_new w4 44 [.int .i64 h0, .slice vo l.length vc]); have B3' := Lib.hid (show ∀ u ∈ [Value.int .i64 h0, .slice vo l.length vc], u.oneCell' = true by simp [Value.oneCell']); have B6 : h ≤ (w4.alloc (.cells #[.int .i64 h0, .slice vo l.length vc] 44)).heap.size := (by have := FW4.out.size; simp; omega); clear ho4 hf4))
      all_goals
        have hP5 := Lib.hid (own_push (t := (h0, Value.slice vo l.length vc, l)) (hP4.out.move ((Far.refl _ w4).alloc _)) (.inr (row_far ho4'.out ((Far.refl (fun _ => False) w4).alloc _) (fun _ _ h => h))) (grown_far hg5'.out) ho5'.out)
        have hF5 := Lib.hid ((hfwa.out.trans (FW4.out.then ((Far.refl _ w4).alloc _)) (fun _ _ h => h.elim)).trans (grown_far hg5'.out) fun k hk e => by have := hqn.out k e; omega)
        have hS5 := Lib.hid ((Far.refl (fun k => k = kO) w5).set ⟨kO, 1, none⟩ (.slice vo2 (T'.length + 1) vc2) (fun _ => rfl))
        have hP6 := Lib.hid (hP5.out.far hS5.out fun k e => ⟨by subst e; have := hh'.out; exact this ▸ hkl.out, _, _, e ▸ hO5'.out, prod_ne_cnf, sym_ne_cnf⟩)
        have hm6 := Lib.hid (show (T' ++ [((h0, Value.slice vo l.length vc, l) : Tr)]).map pl = (T.take (i + 1)).map (fun t => (t.1, t.2.2)) by rw [hTt'.out, List.map_append, List.map_append, hmap'.out]; rfl)
        go_wp2_with fail
        go_roundw
        case rel => exact ⟨i + 1, _, _, by go_num, by omega, hO5'.out.set 1 _, hP6.out, hm6.out, hF5.out.trans hS5.out fun _ _ h => h⟩
        case measure => simp [intOf]; omega
    · have e1 : decide ((i : Int) < (T.length : Int)) = false := by rw [decide_eq_false_iff_not]; omega
      have hin : i = T.length := by omega
      have hmap2 := Lib.hid (show T'.map pl = T.map (fun t => (t.1, t.2.2)) by rw [hmap, hin, List.take_length])
      have hRr := hR'.out.far' hfw hx.2
      have o0 : wr.cell? ⟨kO, 0, none⟩ = some (.int .i64 S) := hOr.cell 0
      have o1 : wr.cell? ⟨kO, 1, none⟩ = some qv := hOr.cell 1
      have r0 : wr.cell? ⟨kR, 0, none⟩ = some (.int .i64 0) := hRr.cell 0
      have r1 : wr.cell? ⟨kR, 1, none⟩ = some (.slice none 0 0) := hRr.cell 1
      have z0 : wr.frozen? ⟨kR, 0, none⟩ = false := hRr.free 0
      have z1 : wr.frozen? ⟨kR, 1, none⟩ = false := hRr.free 1
      obtain ⟨qo, qc, rfl⟩ := Src.form (Src.own hown.1)
      have hfx := Lib.hid (hF'.out.out hfw (fun k hk e => by have := hh'.out; have := hkR'.out; have := hkO'.out; omega))
      have hown' := Lib.hid hown
      have hRr' := Lib.hid hRr
      have hkw := Lib.hid (show h ≤ kR ∧ w.heap.size ≤ kR by have := hh'.out; have := hkR'.out; omega)
      clear hmap hown hOr hfw hRr hx hin hlen
      go_wp2_with fail
      have hS5 := (Far.refl (fun k => k = kR) wr).set ⟨kR, 0, none⟩ (.int .i64 S) (fun _ => rfl)
      have hS6 := hS5.set ⟨kR, 1, none⟩ (.slice qo T'.length qc) (fun _ => rfl)
      have hP6 := Lib.hid (hown'.out.far hS6 fun k e => ⟨by subst e; exact hkw.out.1, _, _, e ▸ hRr'.out, prod_ne_cnf, sym_ne_cnf⟩)
      have hB6 : Bk ((wr.setCell ⟨kR, 0, none⟩ (.int .i64 S)).setCell ⟨kR, 1, none⟩ (.slice qo T'.length qc)) kR 24 #[.int .i64 S, .slice qo T'.length qc] := (hRr'.out.set 0 (.int .i64 S)).set 1 _
      have hF6 := Lib.hid (hfx.out.out hS6 fun k hk e => by have := hkw.out; omega)
      clear o0 o1 r0 r1 z0 z1 hS5 hS6
      generalize ((wr.setCell ⟨kR, 0, none⟩ (.int .i64 S)).setCell ⟨kR, 1, none⟩ (.slice qo T'.length qc)) = W6 at *
      have c0 : W6.cell? ⟨kR, 0, none⟩ = some (.int .i64 S) := hB6.cell 0
      have c1 : W6.cell? ⟨kR, 1, none⟩ = some (.slice qo T'.length qc) := hB6.cell 1
      exact bodyPost_ret (v := .agg #[.int .i64 S, .slice qo T'.length qc]) (by simp [results, Try.f44, go_sem, c0, c1]) rfl ⟨_, T', rfl, hh'.out ▸ hP6.out, hmap2.out, hF6.out⟩
end
end Go.Proofs.Ytjkfieilaahejaa
