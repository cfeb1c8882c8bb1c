/-
  Productions of the call's own: appended to, kept; productions copied.
-/
import Derived.Test.YteojbnkjphghkaaDoorCnf
namespace Go.Proofs.YteojbnkjphghkaaDoor
open Go.RowKit
set_option linter.unusedVariables false
set_option linter.unusedSimpArgs false
theorem drew_far (w : World) : Far (fun _ => False) w w.drew := (Far.refl _ w).drew
theorem Far.out {F : Nat → Prop} {a b c : World} (h : Far (fun _ => False) a b) (k : Far F b c) (hF : ∀ i, i < a.heap.size → ¬ F i) : Far (fun _ => False) a c := h.trans k fun i hi hf => hF i hi hf
/-- A body that lies below block B, or is a row of the call's own. -/
def OB (w : World) (B : Nat) (v : Value) (l : List Sy) : Prop := (Body w v l ∧ ∀ a n c, v = .slice (some a) n c → 0 < l.length → a.block < B) ∨ w.ownsRow 0 50 2 v l.length (scells l)
/-- Productions of the call's own. -/
def OwnP (w : World) (B : Nat) (v : Value) (T : List Tr) : Prop := w.ownsRow B 48 2 v T.length (tcells T) ∧ ∀ t ∈ T, OB w B t.2.1 t.2.2
theorem OB.body {w : World} {B : Nat} {v : Value} {l : List Sy} (h : OB w B v l) : Body w v l := h.elim And.left Src.own
theorem OwnP.prods {w : World} {B : Nat} {v : Value} {T : List Tr} (h : OwnP w B v T) : Prods w v T := ⟨Src.own h.1, fun t ht => (h.2 t ht).body⟩
theorem rows_ne {w : World} {b1 s1 n1 b2 s2 n2 : Nat} {e1 e2 : TypeId} {v1 v2 : Value} {x1 x2 : List Value} (h1 : w.ownsRow b1 e1 s1 v1 n1 x1) (h2 : w.ownsRow b2 e2 s2 v2 n2 x2) (hne : e1 ≠ e2) {k : Nat} (hk : v1.ownBlock = some k) : v2.ownBlock ≠ some k := by
  rcases h1.2 with ⟨rfl, _⟩ | ⟨g, cap, cur, rfl, _, hg, _⟩
  · cases hk
  · have : g = k := Option.some.inj hk
    subst this
    intro he
    exact own_ne h2 (show Bk w g e1 cur from hg) (fun e => hne e.symm) he
theorem row_far {w w' : World} {F : Nat → Prop} {base e size n : Nat} {v : Value} {xs : List Value} (h : w.ownsRow base e size v n xs) (hf : Far F w w') (hF : ∀ k, v.ownBlock = some k → ¬ F k) : w'.ownsRow base e size v n xs := row_same h fun k hk hk2 => hf.block k hk2 (hF k hk)
theorem OB.far {w w' : World} {F : Nat → Prop} {B : Nat} {v : Value} {l : List Sy} (h : OB w B v l) (hf : Far F w w') (hB : ∀ k, F k → B ≤ k) (hR : w.ownsRow 0 50 2 v l.length (scells l) → ∀ k, v.ownBlock = some k → ¬ F k) : OB w' B v l := by
  rcases h with ⟨⟨h1, h2 | ⟨a, c, e, h2⟩⟩, h3⟩ | h
  · exact .inl ⟨⟨h1, .inl h2⟩, h3⟩
  · refine .inl ⟨⟨h1, .inr ⟨a, c, e, fun j x hx => ?_⟩⟩, h3⟩
    have hpos : 0 < l.length := by
      have := (List.getElem?_eq_some_iff.1 hx).1
      rw [scells_len] at this; omega
    obtain ⟨hl, hc⟩ := h2 j x hx
    have := h3 a _ c e hpos
    exact ⟨Nat.lt_of_lt_of_le hl hf.size, (cell_eq (by rw [add_block]; exact hf.block _ hl fun hg => by have := hB _ hg; omega)).trans hc⟩
  · exact .inr (row_far h hf (hR h))
theorem OB.move {w w' : World} {B : Nat} {v : Value} {l : List Sy} (h : OB w B v l) (hf : Far (fun _ => False) w w') : OB w' B v l := h.far hf (fun _ h => h.elim) fun _ _ _ h => h
theorem OwnP.move {w w' : World} {B : Nat} {v : Value} {T : List Tr} (h : OwnP w B v T) (hf : Far (fun _ => False) w w') : OwnP w' B v T := ⟨row_far h.1 hf fun _ _ h => h, fun t ht => (h.2 t ht).move hf⟩
/-- A store to, a change of blocks of other types leaves them. -/
theorem OwnP.far {w w' : World} {F : Nat → Prop} {B : Nat} {v : Value} {T : List Tr} (h : OwnP w B v T) (hf : Far F w w') (hF : ∀ k, F k → B ≤ k ∧ ∃ t cs, Bk w k t cs ∧ 48 ≠ t ∧ 50 ≠ t) : OwnP w' B v T := by
  refine ⟨row_far h.1 hf fun k hk hFk => ?_, fun t ht => (h.2 t ht).far hf (fun k hk => (hF k hk).1) fun hr k hk hFk => ?_⟩
  · obtain ⟨_, t, cs, hb, h1, _⟩ := hF k hFk
    exact own_ne h.1 hb h1 hk
  · obtain ⟨_, t, cs, hb, _, h2⟩ := hF k hFk
    exact own_ne hr hb h2 hk
theorem prod_ne_sym : (48 : TypeId) ≠ 50 := by decide
theorem prod_ne_cnf : (48 : TypeId) ≠ 24 := by decide
theorem sym_ne_cnf : (50 : TypeId) ≠ 24 := by decide
/-- Behind the append of one production. -/
theorem own_push {w w5 : World} {B : Nat} {v v' : Value} {T : List Tr} {t : Tr} (h : OwnP w B v T) (ht : OB w B t.2.1 t.2.2) (hf : Far (fun k => v.ownBlock = some k) w w5) (ho : w5.ownsRow B 48 2 v' (T.length + 1) (tcells T ++ [.int .i64 t.1, t.2.1])) : OwnP w5 B v' (T ++ [t]) := by
  refine ⟨by rw [List.length_append, tcells_app]; exact ho, fun u hu => ?_⟩
  have hb : OB w B u.2.1 u.2.2 := by
    rcases List.mem_append.1 hu with h1 | h1
    · exact h.2 u h1
    · rw [List.mem_singleton.1 h1]; exact ht
  exact hb.far hf (fun k hk => (h.1.lt k hk).1) fun hr k hk hFk => rows_ne h.1 hr prod_ne_sym hFk hk
theorem grown_far {w w' : World} {v : Value} (hg : w.grownBy w' v.ownBlock) : Far (fun k => v.ownBlock = some k) w w' := (Far.refl _ w).grown hg fun k _ e => e
theorem row_zero {w : World} {base e size n : Nat} {v : Value} {xs : List Value} (h : w.ownsRow base e size v n xs) : w.ownsRow 0 e size v n xs := ⟨h.1, h.2.imp id fun ⟨g, cap, cur, e, _, r⟩ => ⟨g, cap, cur, e, Nat.zero_le _, r⟩⟩
section
set_option maxHeartbeats 2000000
set_option maxRecDepth 100000
theorem copy_any (S : Int) (pv : Value) (T : List Tr) (w : World) (hP : Prods w pv T) (hs : T.length * 32 ≤ 140737488351232) (hs2 : ∀ t ∈ T, t.2.2.length * 16 ≤ 140737488351232) :
    Calls Tryd.prog 10 #[.agg #[.int .i64 S, pv]] w fun e w' => ∃ pv' T', e = .returned (.agg #[.int .i64 S, pv']) ∧ OwnP w' w.heap.size pv' T' ∧ T'.map pl = T.map pl ∧ Far (fun _ => False) w w' := by
  obtain ⟨h, hh⟩ : ∃ h, h = w.heap.size := ⟨_, rfl⟩
  obtain ⟨kR, hkR⟩ : ∃ k, k = h + 1 := ⟨_, rfl⟩
  obtain ⟨kO, hkO⟩ : ∃ k, k = kR + 1 := ⟨_, rfl⟩
  obtain ⟨w0, hw0⟩ : ∃ w0, w0 = (w.alloc (.cells #[.int .i64 S, pv] 24)).alloc (.cells #[.int .i64 0, .slice none 0 0] 24) := ⟨_, rfl⟩
  obtain ⟨w1, hw1⟩ : ∃ w1, w1 = w0.alloc (.cells #[.int .i64 S, .slice none 0 0] 24) := ⟨_, rfl⟩
  have hA0 : Bk w0 h 24 #[.int .i64 S, pv] := hw0 ▸ (Bk.new hh).alloc _
  have hR0 : Bk w0 kR 24 #[.int .i64 0, .slice none 0 0] := hw0 ▸ Bk.new (by simp [hkR, hh])
  have hz0 : w0.heap.size = kO := by rw [hw0]; simp [hkO, hkR, hh]
  have hA : Bk w1 h 24 #[.int .i64 S, pv] := hw1 ▸ hA0.alloc _
  have hR : Bk w1 kR 24 #[.int .i64 0, .slice none 0 0] := hw1 ▸ hR0.alloc _
  have hO : Bk w1 kO 24 #[.int .i64 S, .slice none 0 0] := hw1 ▸ Bk.new hz0.symm
  have hF : Far (fun _ => False) w w1 := hw1 ▸ (hw0 ▸ ((Far.refl _ w).alloc _).alloc _ : Far (fun _ => False) w w0).alloc _
  have a0 : w0.cell? ⟨h, 0, none⟩ = some (.int .i64 S) := hA0.cell 0
  have hP1 := Lib.hid hP
  obtain ⟨ao, pc, rfl⟩ := Src.form hP.1
  have hs' : T.length ≤ 4398046510976 := by omega
  have hs2' := Lib.hid hs2
  have hh' := Lib.hid hh
  have hkR' := Lib.hid hkR
  have hkO' := Lib.hid hkO
  have hw0' := Lib.hid hw0
  have hw1' := Lib.hid hw1
  have hz0' := Lib.hid hz0
  have hA' := Lib.hid hA
  have hR' := Lib.hid hR
  have hO' := Lib.hid hO
  have hF' := Lib.hid hF
  clear hP hs2 hh hkR hkO hw0 hw1 hz0 hA hR hO hF hA0 hR0 hs
  go_enter Tryd.func10, Tryd.ntmps10
  go_upto_region 1 with fail
  rw [← hh'.out, ← hkR'.out, ← hw0'.out]
  go_upto_region 2 with fail
  rw [hz0'.out, ← hw1'.out]
  clear a0
  go_wp2_with fail
  go_loopw [4] (fun iv wr => ∃ (i : Nat) (qv : Value) (T' : List Tr), iv = .int .i64 i ∧ i ≤ T.length ∧ Bk wr kO 24 #[.int .i64 S, qv] ∧ OwnP wr h qv T' ∧ T'.map pl = (T.take i).map pl ∧ Far (fun k => k = kO) w1 wr) (fun iv _ => T.length - (intOf iv).toNat)
  case atStart => exact ⟨0, .slice none 0 0, [], rfl, Nat.zero_le _, hO'.out, ⟨World.ownsRow_nil _ _ _ _, fun t ht => by cases ht⟩, by simp, Far.refl _ _⟩
  case round =>
    obtain ⟨i, qv, T', rfl, hi, hOr, hown, hmap, hfw⟩ := hrel
    have hx : h ≠ kO ∧ kR ≠ kO := by have := hkR'.out; have := hkO'.out; omega
    have hAr := hA'.out.far' hfw hx.1
    have a1 : wr.cell? ⟨h, 1, none⟩ = some (.slice ao T.length pc) := hAr.cell 1
    have hlen : T'.length = i := by have := congrArg List.length hmap; simp at this; omega
    by_cases hlt : i < T.length
    · have e1 : decide ((i : Int) < (T.length : Int)) = true := by rw [decide_eq_true_eq]; omega
      have hii : (i : Int) < (T.length : Int) := by omega
      obtain ⟨t, ht⟩ : ∃ t, T[i]? = some t := ⟨T[i], List.getElem?_eq_getElem hlt⟩
      have hfx : Far (fun _ => False) w wr := hF'.out.out hfw (fun k hk e => by have := hh'.out; have := hkR'.out; have := hkO'.out; omega)
      obtain ⟨b, off, c, he, hbl, c0, c1, hbd⟩ := hP1.out.prod ht
      simp only [Value.slice.injEq] at he
      obtain ⟨rfl, _, rfl⟩ := he
      rw [← hfx.cell (p := ⟨b, _, none⟩) hbl] at c0 c1
      have hbr := hbd.move hfx
      have hl16 : t.2.2.length * 16 ≤ 140737488351232 := hs2'.out t (List.mem_of_getElem? ht)
      have hTt := List.take_succ_eq_append_getElem hlt
      have hTe : T[i] = t := (List.getElem?_eq_some_iff.1 ht).2
      rw [hTe] at hTt
      have hTt' := Lib.hid hTt
      obtain ⟨si, sz, si1, si2, si3, si4, si5⟩ := info3 info_sym
      obtain ⟨pi, pz, pi1, pi2, pi3, pi4, pi5⟩ := info3 info_prod
      have A1 := Lib.hid (World.ownsRow_nil wr wr.heap.size 50 2)
      have A2 := Lib.hid hbr
      have A3 := Lib.hid (scells_one t.2.2)
      have A4 : 0 + t.2.2.length ≤ maxLen := by unfold maxLen; omega
      have A5 : (0 + t.2.2.length) * 16 ≤ 140737488355328 := by omega
      have A6 : wr.heap.size ≤ wr.heap.size := Nat.le_refl _
      have A7 : 0 < 2 := by decide
      have hfw' := Lib.hid hfw
      have hOr' := Lib.hid hOr
      have hown' := Lib.hid hown
      have hmap' := Lib.hid hmap
      have hx' := Lib.hid hx
      have hkl := Lib.hid (show w.heap.size ≤ kO by have := hh'.out; have := hkR'.out; have := hkO'.out; omega)
      have hlen' := Lib.hid hlen
      have hbl' := Lib.hid hbl
      clear hfw hOr hown hmap hx hlen hfx hbr hTt hTe hbd ht hAr
      go_upto_region 7 with (at_builtin; refine wpList_app rfl _ _ 46 rfl wr.heap.size 50 si sz 2 16 Tryd.underlying46 si1 si2 si3 si4 si5 A7 _ 0 _ rfl A1.out t.2.1 t.2.2.length _ rfl A2.out A3.out A4 A5 A6 ?_; intro v1 wb ho1 hg1)
      have hfb : Far (fun _ => False) wr wb := (Far.refl _ wr).grown hg1 (fun k _ e => by cases e)
      rw [Nat.zero_add, List.nil_append] at ho1
      obtain ⟨vo, vc, rfl⟩ := Src.form (Src.own ho1)
      have hOb := hOr'.out.far' hfb id
      have hob := hown'.out.move hfb
      have hAb := (hA'.out.far' hfw'.out hx'.out.1).far' hfb id
      have hln := hlen'.out
      have q0 : wb.cell? ⟨kO, 1, none⟩ = some qv := hOb.cell 1
      have q1 : wb.frozen? ⟨kO, 1, none⟩ = false := hOb.free 1
      have q2 : wb.cell? ⟨h, 1, none⟩ = some (.slice (some ⟨b, off, none⟩) T.length pc) := hAb.cell 1
      have hbl3 : b < wr.heap.size := Nat.lt_of_lt_of_le hbl'.out (by have := (hF'.out.out hfw'.out (fun k hk e => by have := hkl.out; omega)).size; exact this)
      rw [← hfb.cell (p := ⟨b, _, none⟩) hbl3] at c0 c1
      have B1 : (wb.alloc (.cells #[.int .i64 t.1, .slice vo t.2.2.length vc] 48)).drew.ownsRow h 48 2 qv T'.length (tcells T') := hob.1.alloc _
      have B2 : Src (wb.alloc (.cells #[.int .i64 t.1, .slice vo t.2.2.length vc] 48)).drew 2 (.slice (some ⟨wb.heap.size, 0, none⟩) 1 1) 1 [.int .i64 t.1, .slice vo t.2.2.length vc] := Src.move (src_new wb 48 [.int .i64 t.1, .slice vo t.2.2.length vc]) (drew_far _)
      have B3 : ∀ u ∈ [Value.int .i64 t.1, .slice vo t.2.2.length vc], u.oneCell' = true := by simp [Value.oneCell']
      have B4 : T'.length + 1 ≤ maxLen := by unfold maxLen; omega
      have B5 : (T'.length + 1) * 32 ≤ 140737488355328 := by omega
      have B6 : h ≤ (wb.alloc (.cells #[.int .i64 t.1, .slice vo t.2.2.length vc] 48)).drew.heap.size := by have := hob.1; have := hAb.lt; simp [World.drew]; omega
      have hqk := own_ne hob.1 hOb prod_ne_cnf
      have hRb := (hR'.out.far' hfw'.out hx'.out.2).far' hfb id
      have hqn := Lib.hid (show ∀ k, qv.ownBlock = some k → w1.heap.size ≤ k from fun k hk => by
        have h1 := (hob.1.lt k hk).1
        have n1 : k ≠ h := fun e => own_ne hob.1 hAb prod_ne_cnf (e ▸ hk)
        have n2 : k ≠ kR := fun e => own_ne hob.1 hRb prod_ne_cnf (e ▸ hk)
        have n3 : k ≠ kO := fun e => hqk (e ▸ hk)
        have hz : w1.heap.size = kO + 1 := by rw [hw1'.out]; simp [hz0'.out]
        have := hkR'.out; have := hkO'.out; omega)
      clear hRb
      have l1 : kO < wb.heap.size := hOb.lt
      have l2 : h < wb.heap.size := hAb.lt
      have l3 : b < wb.heap.size := Nat.lt_of_lt_of_le hbl3 hfb.size
      have hob' := Lib.hid hob
      have hOb' := Lib.hid hOb
      have ho1' := Lib.hid ho1
      have hfb' := Lib.hid hfb
      have hqk' := Lib.hid hqk
      have B1' := Lib.hid B1
      have B2' := Lib.hid B2
      have B3' := Lib.hid B3
      clear hob hOb ho1 hfb hqk B1 B2 B3 hAb hg1 A1 A2 A3 hln
      go_region_law (refine step_app rfl (.tmp 25) (.tmp 34) 22 rfl h 48 pi pz 2 32 Tryd.underlying22 pi1 pi2 pi3 pi4 pi5 A7 qv T'.length _ rfl B1'.out (.slice (some ⟨wb.heap.size, 0, none⟩) 1 1) 1 _ rfl B2'.out B3'.out B4 B5 B6 ?_; intro v2 w5 ho5 hg5; obtain ⟨vo2, vc2, rfl⟩ := Src.form (Src.own ho5); have hO5 := Bk.grown (w := (wb.alloc (.cells #[.int .i64 t.1, .slice vo t.2.2.length vc] 48)).drew) (Bk.alloc hOb'.out _) hg5 hqk'.out; have u0 := hO5.cell 1; have u1 := hO5.free 1; have ho5' := Lib.hid ho5; have hg5' := Lib.hid hg5; have hO5' := Lib.hid hO5; clear ho5 hg5 hO5; simp at u0)
      all_goals (go_wp2_with fail)
      all_goals
        have hP5 := Lib.hid (own_push (t := (t.1, Value.slice vo t.2.2.length vc, t.2.2)) (hob'.out.move ((Far.refl _ wb).alloc _).drew) (.inr (row_zero (row_far ho1'.out ((Far.refl (fun _ => False) wb).alloc _).drew fun _ _ h => h))) (grown_far hg5'.out) ho5'.out)
        have hF5 := Lib.hid (((hfw'.out.trans (hfb'.out.then ((Far.refl _ wb).alloc _).drew) (fun _ _ h => h.elim))).trans (grown_far hg5'.out) fun k hk e => by have := hqn.out k e; omega)
        have hS5 := Lib.hid ((Far.refl (fun k => k = kO) w5).set ⟨kO, 1, none⟩ (.slice vo2 (T'.length + 1) vc2) (fun _ => rfl))
        have hP6 := Lib.hid (hP5.out.far hS5.out fun k e => ⟨by subst e; have := hh'.out; exact this ▸ hkl.out, _, _, e ▸ hO5'.out, prod_ne_cnf, sym_ne_cnf⟩)
        have hm6 := Lib.hid (show (T' ++ [((t.1, Value.slice vo t.2.2.length vc, t.2.2) : Tr)]).map pl = (T.take (i + 1)).map pl by rw [hTt'.out, List.map_append, List.map_append, hmap'.out]; rfl)
        clear u0 u1 q0 q1 q2 c0 c1
        go_roundw
        case rel => exact ⟨i + 1, _, _, by go_num, by omega, hO5'.out.set 1 _, hP6.out, hm6.out, hF5.out.trans hS5.out fun _ _ h => h⟩
        case measure => simp [intOf]; omega
    · have e1 : decide ((i : Int) < (T.length : Int)) = false := by rw [decide_eq_false_iff_not]; omega
      have hin : i = T.length := by omega
      have hmap2 := Lib.hid (show T'.map pl = T.map pl by rw [hmap, hin, List.take_length])
      have hRr := hR'.out.far' hfw hx.2
      have o0 : wr.cell? ⟨kO, 0, none⟩ = some (.int .i64 S) := hOr.cell 0
      have o1 : wr.cell? ⟨kO, 1, none⟩ = some qv := hOr.cell 1
      have r0 : wr.cell? ⟨kR, 0, none⟩ = some (.int .i64 0) := hRr.cell 0
      have r1 : wr.cell? ⟨kR, 1, none⟩ = some (.slice none 0 0) := hRr.cell 1
      have z0 : wr.frozen? ⟨kR, 0, none⟩ = false := hRr.free 0
      have z1 : wr.frozen? ⟨kR, 1, none⟩ = false := hRr.free 1
      obtain ⟨qo, qc, rfl⟩ := Src.form (Src.own hown.1)
      have hfx := Lib.hid (hF'.out.out hfw (fun k hk e => by have := hh'.out; have := hkR'.out; have := hkO'.out; omega))
      have hown' := Lib.hid hown
      have hRr' := Lib.hid hRr
      have hkw := Lib.hid (show h ≤ kR ∧ w.heap.size ≤ kR by have := hh'.out; have := hkR'.out; omega)
      clear hmap hown hOr hfw hAr hRr hx hin hlen
      go_wp2_with fail
      have hS5 := (Far.refl (fun k => k = kR) wr).set ⟨kR, 0, none⟩ (.int .i64 S) (fun _ => rfl)
      have hS6 := hS5.set ⟨kR, 1, none⟩ (.slice qo T'.length qc) (fun _ => rfl)
      have hP6 := Lib.hid (hown'.out.far hS6 fun k e => ⟨by subst e; exact hkw.out.1, _, _, e ▸ hRr'.out, prod_ne_cnf, sym_ne_cnf⟩)
      have hB6 : Bk ((wr.setCell ⟨kR, 0, none⟩ (.int .i64 S)).setCell ⟨kR, 1, none⟩ (.slice qo T'.length qc)) kR 24 #[.int .i64 S, .slice qo T'.length qc] := (hRr'.out.set 0 (.int .i64 S)).set 1 _
      have hF6 := Lib.hid (hfx.out.out hS6 fun k hk e => by have := hkw.out; omega)
      clear o0 o1 r0 r1 z0 z1 hS5 hS6
      generalize ((wr.setCell ⟨kR, 0, none⟩ (.int .i64 S)).setCell ⟨kR, 1, none⟩ (.slice qo T'.length qc)) = W6 at *
      have c0 : W6.cell? ⟨kR, 0, none⟩ = some (.int .i64 S) := hB6.cell 0
      have c1 : W6.cell? ⟨kR, 1, none⟩ = some (.slice qo T'.length qc) := hB6.cell 1
      exact bodyPost_ret (v := .agg #[.int .i64 S, .slice qo T'.length qc]) (by simp [results, Tryd.f10, go_sem, c0, c1]) rfl ⟨_, T', rfl, hh'.out ▸ hP6.out, hmap2.out, hF6.out⟩
end
end Go.Proofs.YteojbnkjphghkaaDoor
