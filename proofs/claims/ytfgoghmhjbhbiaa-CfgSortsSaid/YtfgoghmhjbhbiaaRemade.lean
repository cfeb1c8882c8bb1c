/-
  Productions made anew, each body copied, or turned over.
-/
import Derived.Test.YtfgoghmhjbhbiaaReverseP
namespace Go.Proofs.Ytfgoghmhjbhbiaa
open Go.RowKit
set_option linter.unusedVariables false
set_option linter.unusedSimpArgs false
theorem step_call {P : Program} {w : World} {ops : Array Oper} {o : Oper} {a : Act} {K : Act → World → Prop} {Q : Exit → Act → World → Prop} {E : Prop} {R : Value → World → Prop} (hgd : o.guard = none) (f : FuncId) (args : Array Value)
    (hr : (execOp a.eval o).run P w = .ok (.enter f args) w) (hc : Calls P f args w fun e w' => ∃ v, e = .returned v ∧ R v w') (h : ∀ v w', R v w' → K (a.put o.dst v) w') : if Region.wanted o (yielded ops a.tmps) = true then Oper.wp P o a w K Q else E := by
  have hw : Region.wanted o (yielded ops a.tmps) = true := by simp [Region.wanted, hgd]
  rw [if_pos hw]
  unfold Oper.wp
  rw [hr]
  exact hc.mono fun e w' ⟨v, he, hR⟩ => by subst he; exact h v w' hR
theorem row_up {w : World} {base base' e size n : Nat} {v : Value} {xs : List Value} (h : w.ownsRow base e size v n xs) (hb : base' ≤ base) : w.ownsRow base' e size v n xs := ⟨h.1, h.2.imp id fun ⟨g, cap, cur, e, hg, r⟩ => ⟨g, cap, cur, e, Nat.le_trans hb hg, r⟩⟩
section
set_option maxHeartbeats 4000000
set_option maxRecDepth 100000
theorem turn1_any (v : Value) (l : List Sy) (w : World) (hB : Body w v l) (hs : l.length * 16 ≤ 140737488351232) :
    Calls Try.prog 30 #[v] w fun e w' => ∃ v', e = .returned v' ∧ w'.ownsRow w.heap.size 47 2 v' l.reverse.length (scells l.reverse) ∧ Far (fun _ => False) w w' := by
  have CL := clone_any v l w hB hs
  have RV := Lib.hid (fun v' w' (hr : SRow w' w.heap.size v' l) => reverse_any w.heap.size v' l w' hr (by unfold maxLen; omega))
  clear hB hs
  go_enter Try.func30, Try.ntmps30
  go_wp2_with fail
  refine CL.mono ?_
  rintro e w2 ⟨v2, rfl, ho2, hf2⟩
  have R2 := RV.out v2 w2 ho2
  have hlt := Lib.hid (show ∀ k, v2.ownBlock = some k → w.heap.size ≤ k from fun k hk => (ho2.lt k hk).1)
  have hf2' := Lib.hid hf2
  obtain ⟨vo, vc, rfl⟩ := Src.form (Src.own ho2)
  clear CL ho2 hf2
  go_wp2_with fail
  refine R2.mono ?_
  rintro e w3 ⟨rfl, ho3, hf3⟩
  have ho3' := Lib.hid ho3
  have hf3' := Lib.hid (hf2'.out.trans hf3 fun k hk e => by have := hlt.out k e; omega)
  clear R2 ho3 hf3
  go_wp2_with fail
  go_ret
  exact ⟨_, rfl, ho3'.out, hf3'.out⟩
theorem remade_copy (S : Int) (pv : Value) (T : List Tr) (w : World) (hP : Prods w pv T) (hs : T.length * 32 ≤ 140737488351232) (hs2 : ∀ t ∈ T, t.2.2.length * 16 ≤ 140737488351232) :
    Calls Try.prog 24 #[.agg #[.int .i64 S, pv], .func (.func 25) #[] #[]] w fun e w' => ∃ pv' T', e = .returned (.agg #[.int .i64 S, pv']) ∧ OwnP w' w.heap.size pv' T' ∧ T'.map pl = T.map (fun t => (t.1, t.2.2)) ∧ Far (fun _ => False) w w' := by
  obtain ⟨h, hh⟩ : ∃ h, h = w.heap.size := ⟨_, rfl⟩
  obtain ⟨kR, hkR⟩ : ∃ k, k = h + 1 := ⟨_, rfl⟩
  obtain ⟨kO, hkO⟩ : ∃ k, k = kR + 1 := ⟨_, rfl⟩
  obtain ⟨w0, hw0⟩ : ∃ w0, w0 = (w.alloc (.cells #[.int .i64 S, pv] 24)).alloc (.cells #[.int .i64 0, .slice none 0 0] 24) := ⟨_, rfl⟩
  obtain ⟨w1, hw1⟩ : ∃ w1, w1 = w0.alloc (.cells #[.int .i64 S, .slice none 0 0] 24) := ⟨_, rfl⟩
  have hA0 : Bk w0 h 24 #[.int .i64 S, pv] := hw0 ▸ (Bk.new hh).alloc _
  have hR0 : Bk w0 kR 24 #[.int .i64 0, .slice none 0 0] := hw0 ▸ Bk.new (by simp [hkR, hh])
  have hz0 : w0.heap.size = kO := by rw [hw0]; simp [hkO, hkR, hh]
  have hA : Bk w1 h 24 #[.int .i64 S, pv] := hw1 ▸ hA0.alloc _
  have hR : Bk w1 kR 24 #[.int .i64 0, .slice none 0 0] := hw1 ▸ hR0.alloc _
  have hO : Bk w1 kO 24 #[.int .i64 S, .slice none 0 0] := hw1 ▸ Bk.new hz0.symm
  have hF : Far (fun _ => False) w w1 := hw1 ▸ (hw0 ▸ ((Far.refl _ w).alloc _).alloc _ : Far (fun _ => False) w w0).alloc _
  have hz1 : w1.heap.size = kO + 1 := by rw [hw1]; simp [hz0]
  have a0 : w0.cell? ⟨h, 0, none⟩ = some (.int .i64 S) := hA0.cell 0
  have a1 : w1.cell? ⟨h, 1, none⟩ = some pv := hA.cell 1
  have hP1 := Lib.hid hP
  obtain ⟨ao, pc, rfl⟩ := Src.form hP.1
  have hs' : T.length ≤ 4398046510976 := by omega
  have hs2' := Lib.hid hs2
  have hh' := Lib.hid hh
  have hkR' := Lib.hid hkR
  have hkO' := Lib.hid hkO
  have hw0' := Lib.hid hw0
  have hw1' := Lib.hid hw1
  have hz0' := Lib.hid hz0
  have hz1' := Lib.hid hz1
  have hA' := Lib.hid hA
  have hR' := Lib.hid hR
  have hO' := Lib.hid hO
  have hF' := Lib.hid hF
  clear hP hs2 hh hkR hkO hw0 hw1 hz0 hz1 hA hR hO hF hA0 hR0 hs
  go_enter Try.func24, Try.ntmps24
  go_upto_region 1 with fail
  rw [← hh'.out, ← hkR'.out, ← hw0'.out]
  go_upto_region 2 with fail
  rw [hz0'.out, ← hw1'.out]
  clear a0
  go_wp2_with fail
  clear a1
  go_loopw [14] (fun iv wr => ∃ (i : Nat) (qv : Value) (T' : List Tr), iv = .int .i64 i ∧ i ≤ T.length ∧ Bk wr kO 24 #[.int .i64 S, qv] ∧ OwnP wr h qv T' ∧ T'.map pl = (T.take i).map (fun t => (t.1, t.2.2)) ∧ Far (fun k => k = kO) w1 wr) (fun iv _ => T.length - (intOf iv).toNat)
  case atStart => exact ⟨0, .slice none 0 0, [], rfl, Nat.zero_le _, hO'.out, ⟨World.ownsRow_nil _ _ _ _, fun t ht => by cases ht⟩, by simp, Far.refl _ _⟩
  case round =>
    obtain ⟨i, qv, T', rfl, hi, hOr, hown, hmap, hfw⟩ := hrel
    have hx : h ≠ kO ∧ kR ≠ kO := by have := hkR'.out; have := hkO'.out; omega
    have hlen : T'.length = i := by have := congrArg List.length hmap; simp at this; omega
    by_cases hlt : i < T.length
    · have e1 : decide ((i : Int) < (T.length : Int)) = true := by rw [decide_eq_true_eq]; omega
      have hii : (i : Int) < (T.length : Int) := by omega
      obtain ⟨t, ht⟩ : ∃ t, T[i]? = some t := ⟨T[i], List.getElem?_eq_getElem hlt⟩
      have hfx : Far (fun _ => False) w wr := hF'.out.out hfw (fun k hk e => by have := hh'.out; have := hkR'.out; have := hkO'.out; omega)
      obtain ⟨b, off, c, he, hbl, c0, c1, hbd⟩ := hP1.out.prod ht
      simp only [Value.slice.injEq] at he
      obtain ⟨rfl, _, rfl⟩ := he
      rw [← hfx.cell (p := ⟨b, _, none⟩) hbl] at c0 c1
      have hbr := hbd.move hfx
      have hl16 : t.2.2.length * 16 ≤ 140737488351232 := hs2'.out t (List.mem_of_getElem? ht)
      have hTt := List.take_succ_eq_append_getElem hlt
      rw [(List.getElem?_eq_some_iff.1 ht).2] at hTt
      obtain ⟨h0, tv, l⟩ := t
      simp only [] at c0 c1 hbr hl16 hbd
      obtain ⟨bo, bc, rfl⟩ := Src.form hbd
      obtain ⟨ax, hax⟩ : ∃ ax, ax = wr.heap.size := ⟨_, rfl⟩
      obtain ⟨wa, hwa⟩ : ∃ wa, wa = wr.alloc (.cells #[.int .i64 h0, .slice bo l.length bc] 37) := ⟨_, rfl⟩
      have hfa : Far (fun _ => False) wr wa := hwa ▸ (Far.refl _ wr).alloc _
      have hX : Bk wa ax 37 #[.int .i64 h0, .slice bo l.length bc] := hwa ▸ Bk.new hax
      have hOa := hOr.far' hfa id
      have hoa := hown.move hfa
      have x0 : wa.cell? ⟨ax, 0, none⟩ = some (.int .i64 h0) := hX.cell 0
      have x1 : wa.cell? ⟨ax, 1, none⟩ = some (.slice bo l.length bc) := hX.cell 1
      have q0 : wa.cell? ⟨kO, 1, none⟩ = some qv := hOa.cell 1
      have hXl := hX.lt
      have hOl := hOa.lt
      have hRa := (hR'.out.far' hfw hx.2).far' hfa id
      have hAa := (hA'.out.far' hfw hx.1).far' hfa id
      have hqn := Lib.hid (show ∀ k, qv.ownBlock = some k → w1.heap.size ≤ k from fun k hk => by
        have h1 := (hown.1.lt k hk).1
        have n1 : k ≠ h := fun e => own_ne hoa.1 hAa prod_ne_cnf (e ▸ hk)
        have n2 : k ≠ kR := fun e => own_ne hoa.1 hRa prod_ne_cnf (e ▸ hk)
        have n3 : k ≠ kO := fun e => own_ne hoa.1 hOa prod_ne_cnf (e ▸ hk)
        have hz := hz1'.out
        have := hkR'.out; have := hkO'.out; omega)
      have hqax := Lib.hid (show qv.ownBlock ≠ some ax from fun e => by have := (hown.1.lt _ e).2; omega)
      have hqk := Lib.hid (own_ne hoa.1 hOa prod_ne_cnf)
      have hh0 : h ≤ wa.heap.size := by have := hAa.lt; omega
      have CL := Lib.hid (clone_any (.slice bo l.length bc) l wa.drew ((hbr.move hfa).move (drew_far _)) hl16)
      obtain ⟨pi, pz, pi1, pi2, pi3, pi4, pi5⟩ := info3 info_prod
      have A7 : 0 < 2 := by decide
      have B4 : T'.length + 1 ≤ maxLen := by unfold maxLen; omega
      have B5 : (T'.length + 1) * 32 ≤ 140737488355328 := by omega
      have hkl := Lib.hid (show w.heap.size ≤ kO by have := hh'.out; have := hkR'.out; have := hkO'.out; omega)
      have hoa' := Lib.hid hoa
      have hOa' := Lib.hid hOa
      have hX' := Lib.hid hX
      have hfwa := Lib.hid (hfw.trans hfa fun _ _ h => h.elim)
      have hmap' := Lib.hid hmap
      have hTt' := Lib.hid hTt
      have hax' := Lib.hid hax
      have hwa' := Lib.hid hwa
      have hno : ax ≠ kO := by have := hOr.lt; omega
      have hno' : kO ≠ ax := fun e => hno e.symm
      clear hOr hown hmap hx hlen hfx hbr hTt hbd ht hfw hfa hX hOa hoa hRa hAa hax hwa hbl
      go_upto_region 5 with fail
      rw [← hax'.out, ← hwa'.out]
      clear c0 c1
      go_region_law
        (first
          | (refine step_app rfl (.tmp 19) (.tmp 27) 22 rfl h 37 pi pz 2 32 Try.underlying22 pi1 pi2 pi3 pi4 pi5 A7 qv T'.length _ rfl B1'.out (.slice (some ⟨w4.heap.size, 0, none⟩) 1 1) 1 _ rfl B2'.out B3'.out B4 B5 B6 ?_; intro v2 w5 ho5 hg5; obtain ⟨vo2, vc2, rfl⟩ := Src.form (Src.own ho5); have hO5 := Bk.grown (w := (w4.alloc (.cells #[.int .i64 h0, .slice vo l.length vc] 37))) (Bk.alloc hO4.out _) hg5 hqk.out; have hX5 := Bk.grown (w := (w4.alloc (.cells #[.int .i64 h0, .slice vo l.length vc] 37))) (Bk.alloc hX4.out _) hg5 hqax.out; have u0 := hO5.cell 1; have u1 := hO5.free 1; have y0 := hX5.cell 0; have y1 := hX5.cell 1; have ho5' := Lib.hid ho5; have hg5' := Lib.hid hg5; have hO5' := Lib.hid hO5; clear ho5 hg5 hO5 hX5; simp at u0 y0 y1)
          | (refine step_call rfl 25 #[.slice bo l.length bc] ?_ CL.out ?_; (go_simp); rintro v4 w4 ⟨ho4, hf4⟩; skip; obtain ⟨vo, vc, rfl⟩ := Src.form (Src.own ho4); have FW4 := Lib.hid ((drew_far wa).then hf4); have hO4 := Lib.hid (hOa'.out.far' FW4.out id); have hX4 := Lib.hid (hX'.out.far' FW4.out id); have r0 : w4.cell? ⟨ax, 0, none⟩ = some (.int .i64 h0) := hX4.out.cell 0; have r1 : w4.cell? ⟨ax, 1, none⟩ = some (.slice bo l.length bc) := hX4.out.cell 1; have r2 : w4.cell? ⟨kO, 1, none⟩ = some qv := hO4.out.cell 1; have l1 : kO < w4.heap.size := hO4.out.lt; have l2 : ax < w4.heap.size := hX4.out.lt; have n1 : kO ≠ w4.heap.size := (by omega); have n2 : ax ≠ w4.heap.size := (by omega); have n3 : w4.heap.size ≠ ax := (by omega); have ho4' := Lib.hid (row_zero ho4); have hP4 := Lib.hid (hoa'.out.move FW4.out); have B1' := Lib.hid (hP4.out.1.alloc (.cells #[.int .i64 h0, .slice vo l.length vc] 37)); have B2' := Lib.hid (src_new w4 37 [.int .i64 h0, .slice vo l.length vc]); have B3' := Lib.hid (show ∀ u ∈ [Value.int .i64 h0, .slice vo l.length vc], u.oneCell' = true by simp [Value.oneCell']); have B6 : h ≤ (w4.alloc (.cells #[.int .i64 h0, .slice vo l.length vc] 37)).heap.size := (by have := FW4.out.size; simp; omega); clear ho4 hf4))
      all_goals
        have hP5 := Lib.hid (own_push (t := (h0, Value.slice vo l.length vc, l)) (hP4.out.move ((Far.refl _ w4).alloc _)) (.inr (row_far ho4'.out ((Far.refl (fun _ => False) w4).alloc _) (fun _ _ h => h))) (grown_far hg5'.out) ho5'.out)
        have hF5 := Lib.hid ((hfwa.out.trans (FW4.out.then ((Far.refl _ w4).alloc _)) (fun _ _ h => h.elim)).trans (grown_far hg5'.out) fun k hk e => by have := hqn.out k e; omega)
        have hS5 := Lib.hid ((Far.refl (fun k => k = kO) w5).set ⟨kO, 1, none⟩ (.slice vo2 (T'.length + 1) vc2) (fun _ => rfl))
        have hP6 := Lib.hid (hP5.out.far hS5.out fun k e => ⟨by subst e; have := hh'.out; exact this ▸ hkl.out, _, _, e ▸ hO5'.out, prod_ne_cnf, sym_ne_cnf⟩)
        have hm6 := Lib.hid (show (T' ++ [((h0, Value.slice vo l.length vc, l) : Tr)]).map pl = (T.take (i + 1)).map (fun t => (t.1, t.2.2)) by rw [hTt'.out, List.map_append, List.map_append, hmap'.out]; rfl)
        go_wp2_with fail
        go_roundw
        case rel => exact ⟨i + 1, _, _, by go_num, by omega, hO5'.out.set 1 _, hP6.out, hm6.out, hF5.out.trans hS5.out fun _ _ h => h⟩
        case measure => simp [intOf]; omega
    · have e1 : decide ((i : Int) < (T.length : Int)) = false := by rw [decide_eq_false_iff_not]; omega
      have hin : i = T.length := by omega
      have hmap2 := Lib.hid (show T'.map pl = T.map (fun t => (t.1, t.2.2)) by rw [hmap, hin, List.take_length])
      have hRr := hR'.out.far' hfw hx.2
      have o0 : wr.cell? ⟨kO, 0, none⟩ = some (.int .i64 S) := hOr.cell 0
      have o1 : wr.cell? ⟨kO, 1, none⟩ = some qv := hOr.cell 1
      have r0 : wr.cell? ⟨kR, 0, none⟩ = some (.int .i64 0) := hRr.cell 0
      have r1 : wr.cell? ⟨kR, 1, none⟩ = some (.slice none 0 0) := hRr.cell 1
      have z0 : wr.frozen? ⟨kR, 0, none⟩ = false := hRr.free 0
      have z1 : wr.frozen? ⟨kR, 1, none⟩ = false := hRr.free 1
      obtain ⟨qo, qc, rfl⟩ := Src.form (Src.own hown.1)
      have hfx := Lib.hid (hF'.out.out hfw (fun k hk e => by have := hh'.out; have := hkR'.out; have := hkO'.out; omega))
      have hown' := Lib.hid hown
      have hRr' := Lib.hid hRr
      have hkw := Lib.hid (show h ≤ kR ∧ w.heap.size ≤ kR by have := hh'.out; have := hkR'.out; omega)
      clear hmap hown hOr hfw hRr hx hin hlen
      go_wp2_with fail
      have hS5 := (Far.refl (fun k => k = kR) wr).set ⟨kR, 0, none⟩ (.int .i64 S) (fun _ => rfl)
      have hS6 := hS5.set ⟨kR, 1, none⟩ (.slice qo T'.length qc) (fun _ => rfl)
      have hP6 := Lib.hid (hown'.out.far hS6 fun k e => ⟨by subst e; exact hkw.out.1, _, _, e ▸ hRr'.out, prod_ne_cnf, sym_ne_cnf⟩)
      have hB6 : Bk ((wr.setCell ⟨kR, 0, none⟩ (.int .i64 S)).setCell ⟨kR, 1, none⟩ (.slice qo T'.length qc)) kR 24 #[.int .i64 S, .slice qo T'.length qc] := (hRr'.out.set 0 (.int .i64 S)).set 1 _
      have hF6 := Lib.hid (hfx.out.out hS6 fun k hk e => by have := hkw.out; omega)
      clear o0 o1 r0 r1 z0 z1 hS5 hS6
      generalize ((wr.setCell ⟨kR, 0, none⟩ (.int .i64 S)).setCell ⟨kR, 1, none⟩ (.slice qo T'.length qc)) = W6 at *
      have c0 : W6.cell? ⟨kR, 0, none⟩ = some (.int .i64 S) := hB6.cell 0
      have c1 : W6.cell? ⟨kR, 1, none⟩ = some (.slice qo T'.length qc) := hB6.cell 1
      exact bodyPost_ret (v := .agg #[.int .i64 S, .slice qo T'.length qc]) (by simp [results, Try.f24, go_sem, c0, c1]) rfl ⟨_, T', rfl, hh'.out ▸ hP6.out, hmap2.out, hF6.out⟩
theorem remade_turn (S : Int) (pv : Value) (T : List Tr) (w : World) (hP : Prods w pv T) (hs : T.length * 32 ≤ 140737488351232) (hs2 : ∀ t ∈ T, t.2.2.length * 16 ≤ 140737488351232) :
    Calls Try.prog 24 #[.agg #[.int .i64 S, pv], .func (.func 30) #[] #[]] w fun e w' => ∃ pv' T', e = .returned (.agg #[.int .i64 S, pv']) ∧ OwnP w' w.heap.size pv' T' ∧ T'.map pl = T.map (fun t => (t.1, t.2.2.reverse)) ∧ Far (fun _ => False) w w' := by
  obtain ⟨h, hh⟩ : ∃ h, h = w.heap.size := ⟨_, rfl⟩
  obtain ⟨kR, hkR⟩ : ∃ k, k = h + 1 := ⟨_, rfl⟩
  obtain ⟨kO, hkO⟩ : ∃ k, k = kR + 1 := ⟨_, rfl⟩
  obtain ⟨w0, hw0⟩ : ∃ w0, w0 = (w.alloc (.cells #[.int .i64 S, pv] 24)).alloc (.cells #[.int .i64 0, .slice none 0 0] 24) := ⟨_, rfl⟩
  obtain ⟨w1, hw1⟩ : ∃ w1, w1 = w0.alloc (.cells #[.int .i64 S, .slice none 0 0] 24) := ⟨_, rfl⟩
  have hA0 : Bk w0 h 24 #[.int .i64 S, pv] := hw0 ▸ (Bk.new hh).alloc _
  have hR0 : Bk w0 kR 24 #[.int .i64 0, .slice none 0 0] := hw0 ▸ Bk.new (by simp [hkR, hh])
  have hz0 : w0.heap.size = kO := by rw [hw0]; simp [hkO, hkR, hh]
  have hA : Bk w1 h 24 #[.int .i64 S, pv] := hw1 ▸ hA0.alloc _
  have hR : Bk w1 kR 24 #[.int .i64 0, .slice none 0 0] := hw1 ▸ hR0.alloc _
  have hO : Bk w1 kO 24 #[.int .i64 S, .slice none 0 0] := hw1 ▸ Bk.new hz0.symm
  have hF : Far (fun _ => False) w w1 := hw1 ▸ (hw0 ▸ ((Far.refl _ w).alloc _).alloc _ : Far (fun _ => False) w w0).alloc _
  have hz1 : w1.heap.size = kO + 1 := by rw [hw1]; simp [hz0]
  have a0 : w0.cell? ⟨h, 0, none⟩ = some (.int .i64 S) := hA0.cell 0
  have a1 : w1.cell? ⟨h, 1, none⟩ = some pv := hA.cell 1
  have hP1 := Lib.hid hP
  obtain ⟨ao, pc, rfl⟩ := Src.form hP.1
  have hs' : T.length ≤ 4398046510976 := by omega
  have hs2' := Lib.hid hs2
  have hh' := Lib.hid hh
  have hkR' := Lib.hid hkR
  have hkO' := Lib.hid hkO
  have hw0' := Lib.hid hw0
  have hw1' := Lib.hid hw1
  have hz0' := Lib.hid hz0
  have hz1' := Lib.hid hz1
  have hA' := Lib.hid hA
  have hR' := Lib.hid hR
  have hO' := Lib.hid hO
  have hF' := Lib.hid hF
  clear hP hs2 hh hkR hkO hw0 hw1 hz0 hz1 hA hR hO hF hA0 hR0 hs
  go_enter Try.func24, Try.ntmps24
  go_upto_region 1 with fail
  rw [← hh'.out, ← hkR'.out, ← hw0'.out]
  go_upto_region 2 with fail
  rw [hz0'.out, ← hw1'.out]
  clear a0
  go_wp2_with fail
  clear a1
  go_loopw [14] (fun iv wr => ∃ (i : Nat) (qv : Value) (T' : List Tr), iv = .int .i64 i ∧ i ≤ T.length ∧ Bk wr kO 24 #[.int .i64 S, qv] ∧ OwnP wr h qv T' ∧ T'.map pl = (T.take i).map (fun t => (t.1, t.2.2.reverse)) ∧ Far (fun k => k = kO) w1 wr) (fun iv _ => T.length - (intOf iv).toNat)
  case atStart => exact ⟨0, .slice none 0 0, [], rfl, Nat.zero_le _, hO'.out, ⟨World.ownsRow_nil _ _ _ _, fun t ht => by cases ht⟩, by simp, Far.refl _ _⟩
  case round =>
    obtain ⟨i, qv, T', rfl, hi, hOr, hown, hmap, hfw⟩ := hrel
    have hx : h ≠ kO ∧ kR ≠ kO := by have := hkR'.out; have := hkO'.out; omega
    have hlen : T'.length = i := by have := congrArg List.length hmap; simp at this; omega
    by_cases hlt : i < T.length
    · have e1 : decide ((i : Int) < (T.length : Int)) = true := by rw [decide_eq_true_eq]; omega
      have hii : (i : Int) < (T.length : Int) := by omega
      obtain ⟨t, ht⟩ : ∃ t, T[i]? = some t := ⟨T[i], List.getElem?_eq_getElem hlt⟩
      have hfx : Far (fun _ => False) w wr := hF'.out.out hfw (fun k hk e => by have := hh'.out; have := hkR'.out; have := hkO'.out; omega)
      obtain ⟨b, off, c, he, hbl, c0, c1, hbd⟩ := hP1.out.prod ht
      simp only [Value.slice.injEq] at he
      obtain ⟨rfl, _, rfl⟩ := he
      rw [← hfx.cell (p := ⟨b, _, none⟩) hbl] at c0 c1
      have hbr := hbd.move hfx
      have hl16 : t.2.2.length * 16 ≤ 140737488351232 := hs2'.out t (List.mem_of_getElem? ht)
      have hTt := List.take_succ_eq_append_getElem hlt
      rw [(List.getElem?_eq_some_iff.1 ht).2] at hTt
      obtain ⟨h0, tv, l⟩ := t
      simp only [] at c0 c1 hbr hl16 hbd
      obtain ⟨bo, bc, rfl⟩ := Src.form hbd
      obtain ⟨ax, hax⟩ : ∃ ax, ax = wr.heap.size := ⟨_, rfl⟩
      obtain ⟨wa, hwa⟩ : ∃ wa, wa = wr.alloc (.cells #[.int .i64 h0, .slice bo l.length bc] 37) := ⟨_, rfl⟩
      have hfa : Far (fun _ => False) wr wa := hwa ▸ (Far.refl _ wr).alloc _
      have hX : Bk wa ax 37 #[.int .i64 h0, .slice bo l.length bc] := hwa ▸ Bk.new hax
      have hOa := hOr.far' hfa id
      have hoa := hown.move hfa
      have x0 : wa.cell? ⟨ax, 0, none⟩ = some (.int .i64 h0) := hX.cell 0
      have x1 : wa.cell? ⟨ax, 1, none⟩ = some (.slice bo l.length bc) := hX.cell 1
      have q0 : wa.cell? ⟨kO, 1, none⟩ = some qv := hOa.cell 1
      have hXl := hX.lt
      have hOl := hOa.lt
      have hRa := (hR'.out.far' hfw hx.2).far' hfa id
      have hAa := (hA'.out.far' hfw hx.1).far' hfa id
      have hqn := Lib.hid (show ∀ k, qv.ownBlock = some k → w1.heap.size ≤ k from fun k hk => by
        have h1 := (hown.1.lt k hk).1
        have n1 : k ≠ h := fun e => own_ne hoa.1 hAa prod_ne_cnf (e ▸ hk)
        have n2 : k ≠ kR := fun e => own_ne hoa.1 hRa prod_ne_cnf (e ▸ hk)
        have n3 : k ≠ kO := fun e => own_ne hoa.1 hOa prod_ne_cnf (e ▸ hk)
        have hz := hz1'.out
        have := hkR'.out; have := hkO'.out; omega)
      have hqax := Lib.hid (show qv.ownBlock ≠ some ax from fun e => by have := (hown.1.lt _ e).2; omega)
      have hqk := Lib.hid (own_ne hoa.1 hOa prod_ne_cnf)
      have hh0 : h ≤ wa.heap.size := by have := hAa.lt; omega
      have CL := Lib.hid (turn1_any (.slice bo l.length bc) l wa.drew ((hbr.move hfa).move (drew_far _)) hl16)
      obtain ⟨pi, pz, pi1, pi2, pi3, pi4, pi5⟩ := info3 info_prod
      have A7 : 0 < 2 := by decide
      have B4 : T'.length + 1 ≤ maxLen := by unfold maxLen; omega
      have B5 : (T'.length + 1) * 32 ≤ 140737488355328 := by omega
      have hkl := Lib.hid (show w.heap.size ≤ kO by have := hh'.out; have := hkR'.out; have := hkO'.out; omega)
      have hoa' := Lib.hid hoa
      have hOa' := Lib.hid hOa
      have hX' := Lib.hid hX
      have hfwa := Lib.hid (hfw.trans hfa fun _ _ h => h.elim)
      have hmap' := Lib.hid hmap
      have hTt' := Lib.hid hTt
      have hax' := Lib.hid hax
      have hwa' := Lib.hid hwa
      have hno : ax ≠ kO := by have := hOr.lt; omega
      have hno' : kO ≠ ax := fun e => hno e.symm
      clear hOr hown hmap hx hlen hfx hbr hTt hbd ht hfw hfa hX hOa hoa hRa hAa hax hwa hbl
      go_upto_region 5 with fail
      rw [← hax'.out, ← hwa'.out]
      clear c0 c1
      go_region_law
        (first
          | (refine step_app rfl (.tmp 19) (.tmp 27) 22 rfl h 37 pi pz 2 32 Try.underlying22 pi1 pi2 pi3 pi4 pi5 A7 qv T'.length _ rfl B1'.out (.slice (some ⟨w4.heap.size, 0, none⟩) 1 1) 1 _ rfl B2'.out B3'.out B4 B5 B6 ?_; intro v2 w5 ho5 hg5; obtain ⟨vo2, vc2, rfl⟩ := Src.form (Src.own ho5); have hO5 := Bk.grown (w := (w4.alloc (.cells #[.int .i64 h0, .slice vo l.length vc] 37))) (Bk.alloc hO4.out _) hg5 hqk.out; have hX5 := Bk.grown (w := (w4.alloc (.cells #[.int .i64 h0, .slice vo l.length vc] 37))) (Bk.alloc hX4.out _) hg5 hqax.out; have u0 := hO5.cell 1; have u1 := hO5.free 1; have y0 := hX5.cell 0; have y1 := hX5.cell 1; have ho5' := Lib.hid ho5; have hg5' := Lib.hid hg5; have hO5' := Lib.hid hO5; clear ho5 hg5 hO5 hX5; simp at u0 y0 y1)
          | (refine step_call rfl 30 #[.slice bo l.length bc] ?_ CL.out ?_; (go_simp); rintro v4 w4 ⟨ho4, hf4⟩; rw [List.length_reverse] at ho4; obtain ⟨vo, vc, rfl⟩ := Src.form (Src.own ho4); have FW4 := Lib.hid ((drew_far wa).then hf4); have hO4 := Lib.hid (hOa'.out.far' FW4.out id); have hX4 := Lib.hid (hX'.out.far' FW4.out id); have r0 : w4.cell? ⟨ax, 0, none⟩ = some (.int .i64 h0) := hX4.out.cell 0; have r1 : w4.cell? ⟨ax, 1, none⟩ = some (.slice bo l.length bc) := hX4.out.cell 1; have r2 : w4.cell? ⟨kO, 1, none⟩ = some qv := hO4.out.cell 1; have l1 : kO < w4.heap.size := hO4.out.lt; have l2 : ax < w4.heap.size := hX4.out.lt; have n1 : kO ≠ w4.heap.size := (by omega); have n2 : ax ≠ w4.heap.size := (by omega); have n3 : w4.heap.size ≠ ax := (by omega); have ho4' := Lib.hid (row_zero ho4); have hP4 := Lib.hid (hoa'.out.move FW4.out); have B1' := Lib.hid (hP4.out.1.alloc (.cells #[.int .i64 h0, .slice vo l.length vc] 37)); have B2' := Lib.hid (src_new w4 37 [.int .i64 h0, .slice vo l.length vc]); have B3' := Lib.hid (show ∀ u ∈ [Value.int .i64 h0, .slice vo l.length vc], u.oneCell' = true by simp [Value.oneCell']); have B6 : h ≤ (w4.alloc (.cells #[.int .i64 h0, .slice vo l.length vc] 37)).heap.size := (by have := FW4.out.size; simp; omega); clear ho4 hf4))
      all_goals
        have hP5 := Lib.hid (own_push (t := (h0, Value.slice vo l.length vc, l.reverse)) (hP4.out.move ((Far.refl _ w4).alloc _)) (.inr (by have := row_far ho4'.out ((Far.refl (fun _ => False) w4).alloc (.cells #[.int .i64 h0, .slice vo l.length vc] 37)) (fun _ _ h => h); simpa only [List.length_reverse] using this)) (grown_far hg5'.out) ho5'.out)
        have hF5 := Lib.hid ((hfwa.out.trans (FW4.out.then ((Far.refl _ w4).alloc _)) (fun _ _ h => h.elim)).trans (grown_far hg5'.out) fun k hk e => by have := hqn.out k e; omega)
        have hS5 := Lib.hid ((Far.refl (fun k => k = kO) w5).set ⟨kO, 1, none⟩ (.slice vo2 (T'.length + 1) vc2) (fun _ => rfl))
        have hP6 := Lib.hid (hP5.out.far hS5.out fun k e => ⟨by subst e; have := hh'.out; exact this ▸ hkl.out, _, _, e ▸ hO5'.out, prod_ne_cnf, sym_ne_cnf⟩)
        have hm6 := Lib.hid (show (T' ++ [((h0, Value.slice vo l.length vc, l.reverse) : Tr)]).map pl = (T.take (i + 1)).map (fun t => (t.1, t.2.2.reverse)) by rw [hTt'.out, List.map_append, List.map_append, hmap'.out]; rfl)
        go_wp2_with fail
        go_roundw
        case rel => exact ⟨i + 1, _, _, by go_num, by omega, hO5'.out.set 1 _, hP6.out, hm6.out, hF5.out.trans hS5.out fun _ _ h => h⟩
        case measure => simp [intOf]; omega
    · have e1 : decide ((i : Int) < (T.length : Int)) = false := by rw [decide_eq_false_iff_not]; omega
      have hin : i = T.length := by omega
      have hmap2 := Lib.hid (show T'.map pl = T.map (fun t => (t.1, t.2.2.reverse)) by rw [hmap, hin, List.take_length])
      have hRr := hR'.out.far' hfw hx.2
      have o0 : wr.cell? ⟨kO, 0, none⟩ = some (.int .i64 S) := hOr.cell 0
      have o1 : wr.cell? ⟨kO, 1, none⟩ = some qv := hOr.cell 1
      have r0 : wr.cell? ⟨kR, 0, none⟩ = some (.int .i64 0) := hRr.cell 0
      have r1 : wr.cell? ⟨kR, 1, none⟩ = some (.slice none 0 0) := hRr.cell 1
      have z0 : wr.frozen? ⟨kR, 0, none⟩ = false := hRr.free 0
      have z1 : wr.frozen? ⟨kR, 1, none⟩ = false := hRr.free 1
      obtain ⟨qo, qc, rfl⟩ := Src.form (Src.own hown.1)
      have hfx := Lib.hid (hF'.out.out hfw (fun k hk e => by have := hh'.out; have := hkR'.out; have := hkO'.out; omega))
      have hown' := Lib.hid hown
      have hRr' := Lib.hid hRr
      have hkw := Lib.hid (show h ≤ kR ∧ w.heap.size ≤ kR by have := hh'.out; have := hkR'.out; omega)
      clear hmap hown hOr hfw hRr hx hin hlen
      go_wp2_with fail
      have hS5 := (Far.refl (fun k => k = kR) wr).set ⟨kR, 0, none⟩ (.int .i64 S) (fun _ => rfl)
      have hS6 := hS5.set ⟨kR, 1, none⟩ (.slice qo T'.length qc) (fun _ => rfl)
      have hP6 := Lib.hid (hown'.out.far hS6 fun k e => ⟨by subst e; exact hkw.out.1, _, _, e ▸ hRr'.out, prod_ne_cnf, sym_ne_cnf⟩)
      have hB6 : Bk ((wr.setCell ⟨kR, 0, none⟩ (.int .i64 S)).setCell ⟨kR, 1, none⟩ (.slice qo T'.length qc)) kR 24 #[.int .i64 S, .slice qo T'.length qc] := (hRr'.out.set 0 (.int .i64 S)).set 1 _
      have hF6 := Lib.hid (hfx.out.out hS6 fun k hk e => by have := hkw.out; omega)
      clear o0 o1 r0 r1 z0 z1 hS5 hS6
      generalize ((wr.setCell ⟨kR, 0, none⟩ (.int .i64 S)).setCell ⟨kR, 1, none⟩ (.slice qo T'.length qc)) = W6 at *
      have c0 : W6.cell? ⟨kR, 0, none⟩ = some (.int .i64 S) := hB6.cell 0
      have c1 : W6.cell? ⟨kR, 1, none⟩ = some (.slice qo T'.length qc) := hB6.cell 1
      exact bodyPost_ret (v := .agg #[.int .i64 S, .slice qo T'.length qc]) (by simp [results, Try.f24, go_sem, c0, c1]) rfl ⟨_, T', rfl, hh'.out ▸ hP6.out, hmap2.out, hF6.out⟩
end
end Go.Proofs.Ytfgoghmhjbhbiaa
