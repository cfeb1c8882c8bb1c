/-
  The document's turned productions.
-/
import Derived.Test.YtfgoghmhjbhbiaaSorted12
namespace Go.Proofs.Ytfgoghmhjbhbiaa
open Go.RowKit
set_option linter.unusedVariables false
set_option linter.unusedSimpArgs false
section
set_option maxHeartbeats 4000000
set_option maxRecDepth 100000
theorem rturn_any (S : Int) (pv : Value) (T : List Tr) (w : World) (hP : Prods w pv T) (hs : T.length * 32 ≤ 140737488351232) (hs2 : ∀ t ∈ T, t.2.2.length * 16 ≤ 140737488351232) :
    Calls Try.prog 16 #[.agg #[.int .i64 S, pv]] w fun e w' => ∃ pv' T', e = .returned (.agg #[.int .i64 S, pv']) ∧ OwnP w' w.heap.size pv' T' ∧ T'.map pl = T.map (fun t => (t.1, t.2.2.reverse)) ∧ Far (fun _ => False) w w' := by
  obtain ⟨h, hh⟩ : ∃ h, h = w.heap.size := ⟨_, rfl⟩
  obtain ⟨kR, hkR⟩ : ∃ k, k = h + 1 := ⟨_, rfl⟩
  obtain ⟨kO, hkO⟩ : ∃ k, k = kR + 1 := ⟨_, rfl⟩
  obtain ⟨w0, hw0⟩ : ∃ w0, w0 = (w.alloc (.cells #[.int .i64 S, pv] 24)).alloc (.cells #[.int .i64 0, .slice none 0 0] 24) := ⟨_, rfl⟩
  obtain ⟨w1, hw1⟩ : ∃ w1, w1 = w0.alloc (.cells #[.int .i64 S, .slice none 0 0] 24) := ⟨_, rfl⟩
  have hA0 : Bk w0 h 24 #[.int .i64 S, pv] := hw0 ▸ (Bk.new hh).alloc _
  have hR0 : Bk w0 kR 24 #[.int .i64 0, .slice none 0 0] := hw0 ▸ Bk.new (by simp [hkR, hh])
  have hz0 : w0.heap.size = kO := by rw [hw0]; simp [hkO, hkR, hh]
  have hA : Bk w1 h 24 #[.int .i64 S, pv] := hw1 ▸ hA0.alloc _
  have hR : Bk w1 kR 24 #[.int .i64 0, .slice none 0 0] := hw1 ▸ hR0.alloc _
  have hO : Bk w1 kO 24 #[.int .i64 S, .slice none 0 0] := hw1 ▸ Bk.new hz0.symm
  have hF : Far (fun _ => False) w w1 := hw1 ▸ (hw0 ▸ ((Far.refl _ w).alloc _).alloc _ : Far (fun _ => False) w w0).alloc _
  have a0 : w0.cell? ⟨h, 0, none⟩ = some (.int .i64 S) := hA0.cell 0
  have hP1 := Lib.hid hP
  obtain ⟨ao, pc, rfl⟩ := Src.form hP.1
  have hs' : T.length ≤ 4398046510976 := by omega
  have hs2' := Lib.hid hs2
  have hh' := Lib.hid hh
  have hkR' := Lib.hid hkR
  have hkO' := Lib.hid hkO
  have hw0' := Lib.hid hw0
  have hw1' := Lib.hid hw1
  have hz0' := Lib.hid hz0
  have hA' := Lib.hid hA
  have hR' := Lib.hid hR
  have hO' := Lib.hid hO
  have hF' := Lib.hid hF
  clear hP hs2 hh hkR hkO hw0 hw1 hz0 hA hR hO hF hA0 hR0 hs
  go_enter Try.func16, Try.ntmps16
  go_upto_region 1 with fail
  rw [← hh'.out, ← hkR'.out, ← hw0'.out]
  go_upto_region 2 with fail
  rw [hz0'.out, ← hw1'.out]
  clear a0
  go_wp2_with fail
  go_loopw [4] (fun iv wr => ∃ (i : Nat) (qv : Value) (T' : List Tr), iv = .int .i64 i ∧ i ≤ T.length ∧ Bk wr kO 24 #[.int .i64 S, qv] ∧ OwnP wr h qv T' ∧ T'.map pl = (T.take i).map (fun t => (t.1, t.2.2.reverse)) ∧ Far (fun k => k = kO) w1 wr) (fun iv _ => T.length - (intOf iv).toNat)
  case atStart => exact ⟨0, .slice none 0 0, [], rfl, Nat.zero_le _, hO'.out, ⟨World.ownsRow_nil _ _ _ _, fun t ht => by cases ht⟩, by simp, Far.refl _ _⟩
  case round =>
    obtain ⟨i, qv, T', rfl, hi, hOr, hown, hmap, hfw⟩ := hrel
    have hx : h ≠ kO ∧ kR ≠ kO := by have := hkR'.out; have := hkO'.out; omega
    have hAr := hA'.out.far' hfw hx.1
    have a1 : wr.cell? ⟨h, 1, none⟩ = some (.slice ao T.length pc) := hAr.cell 1
    have hlen : T'.length = i := by have := congrArg List.length hmap; simp at this; omega
    by_cases hlt : i < T.length
    · have e1 : decide ((i : Int) < (T.length : Int)) = true := by rw [decide_eq_true_eq]; omega
      have hii : (i : Int) < (T.length : Int) := by omega
      obtain ⟨t, ht⟩ : ∃ t, T[i]? = some t := ⟨T[i], List.getElem?_eq_getElem hlt⟩
      have hfx : Far (fun _ => False) w wr := hF'.out.out hfw (fun k hk e => by have := hh'.out; have := hkR'.out; have := hkO'.out; omega)
      obtain ⟨b, off, c, he, hbl, c0, c1, hbd⟩ := hP1.out.prod ht
      simp only [Value.slice.injEq] at he
      obtain ⟨rfl, _, rfl⟩ := he
      rw [← hfx.cell (p := ⟨b, _, none⟩) hbl] at c0 c1
      have hbr := hbd.move hfx
      have hl16 : t.2.2.length * 16 ≤ 140737488351232 := hs2'.out t (List.mem_of_getElem? ht)
      have hTt := List.take_succ_eq_append_getElem hlt
      have hTe : T[i] = t := (List.getElem?_eq_some_iff.1 ht).2
      rw [hTe] at hTt
      have hTt' := Lib.hid hTt
      obtain ⟨si, sz, si1, si2, si3, si4, si5⟩ := info3 info_sym
      obtain ⟨pi, pz, pi1, pi2, pi3, pi4, pi5⟩ := info3 info_prod
      have A7 : 0 < 2 := by decide
      have hfw' := Lib.hid hfw
      have hOr' := Lib.hid hOr
      have hown' := Lib.hid hown
      have hmap' := Lib.hid hmap
      have hx' := Lib.hid hx
      have hkl := Lib.hid (show w.heap.size ≤ kO by have := hh'.out; have := hkR'.out; have := hkO'.out; omega)
      have hlen' := Lib.hid hlen
      have hbl' := Lib.hid hbl
      clear hfw hOr hown hmap hx hlen hfx hTt hTe hbd ht hAr
      obtain ⟨wo, rfl⟩ : ∃ wo, wo = wr := ⟨_, rfl⟩
      have hbr' := Lib.hid hbr
      have hbl3 : b < wo.heap.size := Nat.lt_of_lt_of_le hbl'.out (by have := (hF'.out.out hfw'.out (fun k hk e => by have := hkl.out; omega)).size; exact this)
      have hl62 : t.2.2.length ≤ 8796093022208 := by omega
      have hwl : IntKind.i64.wrap ((t.2.2.length : Int) - 1) = (t.2.2.length : Int) - 1 := wrap_in (by omega)
      clear hbr
      obtain ⟨to_, tc_, etv⟩ := Src.form hbr'.out
      rw [etv] at c1 hbr'
      have c1' := Lib.hid c1
      have c0' := Lib.hid c0
      have hl16' := Lib.hid hl16
      clear hl16
      go_upto_region 7 with fail
      clear hwl c0 c1
      go_loopw [5, 6] (fun bv jv wr => ∃ (m : Nat) (vo : Option Addr) (vc : Nat), bv = .slice vo m vc ∧ jv = .int .i64 ((t.2.2.length : Int) - 1 - m) ∧ m ≤ t.2.2.length ∧ wr.ownsRow wo.heap.size 47 2 (.slice vo m vc) m (scells (t.2.2.reverse.take m)) ∧ Far (fun _ => False) wo wr) (fun _ jv _ => (intOf jv + 1).toNat)
      case atStart => exact ⟨0, none, 0, rfl, by simp, Nat.zero_le _, World.ownsRow_nil _ _ _ _, Far.refl _ _⟩
      case round =>
        obtain ⟨m, vo, vc, rfl, rfl, hm, ho1, hfb⟩ := hrel
        by_cases hml : m < t.2.2.length
        · obtain ⟨k, hk⟩ : ∃ k : Nat, t.2.2.length - 1 - m = k := ⟨_, rfl⟩
          have hjk : ((t.2.2.length : Int) - 1 - m) = (k : Int) := by omega
          rw [hjk]
          have e2 : decide ((k : Int) ≥ 0) = true := by rw [decide_eq_true_eq]; omega
          have e3 : (0 : Int) ≤ (k : Int) := by omega
          have e4 : (k : Int) < (t.2.2.length : Int) := by omega
          obtain ⟨s, hs⟩ : ∃ s, t.2.2[k]? = some s := ⟨t.2.2[k]'(by omega), List.getElem?_eq_getElem (by omega)⟩
          have hrev : t.2.2.reverse.take (m + 1) = t.2.2.reverse.take m ++ [s] := by
            have hlr : m < t.2.2.reverse.length := by rw [List.length_reverse]; exact hml
            rw [List.take_succ_eq_append_getElem hlr]
            have : t.2.2.reverse[m] = s := by
              have h1 := List.getElem?_reverse (l := t.2.2) hml
              rw [hk, hs, List.getElem?_eq_getElem hlr] at h1
              exact Option.some.inj h1
            rw [this]
          obtain ⟨g, off2, c2, hg, hgl, d0, d1⟩ := (hbr'.out.move hfb).sym hs
          simp only [Value.slice.injEq] at hg
          obtain ⟨rfl, _, rfl⟩ := hg
          have c1 : wr.cell? ⟨b, off + i * 2 + 1, none⟩ = some (.slice (some ⟨g, off2, none⟩) t.2.2.length tc_) := (hfb.cell hbl3).trans c1'.out
          have a1 : wr.cell? ⟨h, 1, none⟩ = some (.slice (some ⟨b, off, none⟩) T.length pc) := ((hA'.out.far' hfw'.out hx'.out.1).far' hfb id).cell 1
          obtain ⟨s0, s1⟩ := s
          simp only [] at d0 d1
          have hwj : IntKind.i64.wrap ((k : Int) - 1) = (k : Int) - 1 := wrap_in (by omega)
          have A1 := Lib.hid (ho1.alloc (.cells #[.bool s0, .int .i64 s1] 47))
          have A2 := Lib.hid (World.news_of_block (w := wr.alloc (.cells #[.bool s0, .int .i64 s1] 47)) (cs := #[.bool s0, .int .i64 s1]) (t := 47) (fr := (0, 0)) (heap_alloc_new wr _))
          have A3 : ∀ u ∈ [Value.bool s0, .int .i64 s1], u.oneCell' = true := by simp [Value.oneCell']
          have A4 : m + 1 ≤ maxLen := by unfold maxLen; omega
          have A5 : (m + 1) * 16 ≤ 140737488355328 := by have := hl16'.out; omega
          have A6 : wo.heap.size ≤ (wr.alloc (.cells #[.bool s0, .int .i64 s1] 47)).heap.size := by have := hfb.size; simp; omega
          have hfb' := Lib.hid hfb
          have ho1' := Lib.hid ho1
          have hrev' := Lib.hid hrev
          have hjk' := Lib.hid hjk
          clear hfb ho1 hrev hjk hs hbl3
          go_upto_region 8 with (at_builtin; refine wpList_append_lies _ rfl _ _ 35 rfl wo.heap.size 47 si sz 2 16 Try.underlying35 si1 si2 si3 si4 si5 (by decide) (.slice vo m vc) m _ rfl A1.out ⟨wr.heap.size, 0, none⟩ 1 1 _ rfl rfl A2.out A3 (by decide) A4 A5 A6 _ rfl ?_; intro fg fcap w7 ho7 hg7 hat7 hl7)
          have hR7 : Far (fun k => (Value.slice vo m vc).ownBlock = some k) wr w7 := ((Far.refl _ wr).alloc _).grown hg7 fun k _ e => e
          have hW7 := Lib.hid (hfb'.out.trans hR7 fun k hk e => by have := (ho1'.out.lt k e).1; omega)
          have hP7 := Lib.hid (show w7.ownsRow wo.heap.size 47 2 (.slice (some ⟨fg, 0, none⟩) (m + 1) fcap) (m + 1) (scells (t.2.2.reverse.take (m + 1))) by rw [hrev'.out]; unfold scells; rw [List.flatMap_append]; exact ho7)
          clear hR7 ho7 hg7 hat7 A1 A2 A3 A4 A5 A6 c1 a1 d0 d1
          go_wp2_with fail
          go_roundw
          case rel => exact ⟨m + 1, some ⟨fg, 0, none⟩, fcap, rfl, by rw [← hjk'.out]; congr 1; omega, by omega, hP7.out, hW7.out⟩
          case measure => simp [intOf] <;> omega
        · have hml2 : m = t.2.2.length := by omega
          subst hml2
          have hjk : ((t.2.2.length : Int) - 1 - t.2.2.length) = -1 := by omega
          rw [hjk]
          have e2 : decide ((-1 : Int) ≥ 0) = false := by decide
          rw [List.take_of_length_le (by rw [List.length_reverse]; exact Nat.le_refl _)] at ho1
          obtain ⟨wb, rfl⟩ : ∃ wb, wb = wr := ⟨_, rfl⟩
          have c0 := c0'.out
          have c1 := c1'.out
          have hOb := hOr'.out.far' hfb id
          have hob := hown'.out.move hfb
          have hAb := (hA'.out.far' hfw'.out hx'.out.1).far' hfb id
          have hln := hlen'.out
          have q0 : wb.cell? ⟨kO, 1, none⟩ = some qv := hOb.cell 1
          have q1 : wb.frozen? ⟨kO, 1, none⟩ = false := hOb.free 1
          have q2 : wb.cell? ⟨h, 1, none⟩ = some (.slice (some ⟨b, off, none⟩) T.length pc) := hAb.cell 1
          rw [← hfb.cell (p := ⟨b, _, none⟩) hbl3] at c0 c1
          have B1 : (wb.alloc (.cells #[.int .i64 t.1, .slice vo t.2.2.length vc] 37)).drew.ownsRow h 37 2 qv T'.length (tcells T') := hob.1.alloc _
          have B2 : Src (wb.alloc (.cells #[.int .i64 t.1, .slice vo t.2.2.length vc] 37)).drew 2 (.slice (some ⟨wb.heap.size, 0, none⟩) 1 1) 1 [.int .i64 t.1, .slice vo t.2.2.length vc] := Src.move (src_new wb 37 [.int .i64 t.1, .slice vo t.2.2.length vc]) (drew_far _)
          have B3 : ∀ u ∈ [Value.int .i64 t.1, .slice vo t.2.2.length vc], u.oneCell' = true := by simp [Value.oneCell']
          have B4 : T'.length + 1 ≤ maxLen := by unfold maxLen; omega
          have B5 : (T'.length + 1) * 32 ≤ 140737488355328 := by omega
          have B6 : h ≤ (wb.alloc (.cells #[.int .i64 t.1, .slice vo t.2.2.length vc] 37)).drew.heap.size := by have := hob.1; have := hAb.lt; simp [World.drew]; omega
          have hqk := own_ne hob.1 hOb prod_ne_cnf
          have hRb := (hR'.out.far' hfw'.out hx'.out.2).far' hfb id
          have hqn := Lib.hid (show ∀ k, qv.ownBlock = some k → w1.heap.size ≤ k from fun k hk => by
            have h1 := (hob.1.lt k hk).1
            have n1 : k ≠ h := fun e => own_ne hob.1 hAb prod_ne_cnf (e ▸ hk)
            have n2 : k ≠ kR := fun e => own_ne hob.1 hRb prod_ne_cnf (e ▸ hk)
            have n3 : k ≠ kO := fun e => hqk (e ▸ hk)
            have hz : w1.heap.size = kO + 1 := by rw [hw1'.out]; simp [hz0'.out]
            have := hkR'.out; have := hkO'.out; omega)
          clear hRb
          have l1 : kO < wb.heap.size := hOb.lt
          have l2 : h < wb.heap.size := hAb.lt
          have l3 : b < wb.heap.size := Nat.lt_of_lt_of_le hbl3 hfb.size
          have hob' := Lib.hid hob
          have hOb' := Lib.hid hOb
          have ho1' := Lib.hid ho1
          have hfb' := Lib.hid hfb
          have hqk' := Lib.hid hqk
          have B1' := Lib.hid B1
          have B2' := Lib.hid B2
          have B3' := Lib.hid B3
          clear hob hOb ho1 hfb hqk B1 B2 B3 hAb hln
          go_wp2_with fail
          go_region_law (refine step_app rfl (.tmp 42) (.tmp 51) 22 rfl h 37 pi pz 2 32 Try.underlying22 pi1 pi2 pi3 pi4 pi5 A7 qv T'.length _ rfl B1'.out (.slice (some ⟨wb.heap.size, 0, none⟩) 1 1) 1 _ rfl B2'.out B3'.out B4 B5 B6 ?_; intro v2 w5 ho5 hg5; obtain ⟨vo2, vc2, rfl⟩ := Src.form (Src.own ho5); have hO5 := Bk.grown (w := (wb.alloc (.cells #[.int .i64 t.1, .slice vo t.2.2.length vc] 37)).drew) (Bk.alloc hOb'.out _) hg5 hqk'.out; have u0 := hO5.cell 1; have u1 := hO5.free 1; have ho5' := Lib.hid ho5; have hg5' := Lib.hid hg5; have hO5' := Lib.hid hO5; clear ho5 hg5 hO5; simp at u0)
          all_goals (go_wp2_with fail)
          all_goals
            have hP5 := Lib.hid (own_push (t := (t.1, Value.slice vo t.2.2.length vc, t.2.2.reverse)) (hob'.out.move ((Far.refl _ wb).alloc _).drew) (.inr (by have := row_zero (row_far ho1'.out ((Far.refl (fun _ => False) wb).alloc (.cells #[.int .i64 t.1, .slice vo t.2.2.length vc] 37)).drew fun _ _ h => h); rw [List.length_reverse]; exact this)) (grown_far hg5'.out) ho5'.out)
            have hF5 := Lib.hid (((hfw'.out.trans (hfb'.out.then ((Far.refl _ wb).alloc _).drew) (fun _ _ h => h.elim))).trans (grown_far hg5'.out) fun k hk e => by have := hqn.out k e; omega)
            have hS5 := Lib.hid ((Far.refl (fun k => k = kO) w5).set ⟨kO, 1, none⟩ (.slice vo2 (T'.length + 1) vc2) (fun _ => rfl))
            have hP6 := Lib.hid (hP5.out.far hS5.out fun k e => ⟨by subst e; have := hh'.out; exact this ▸ hkl.out, _, _, e ▸ hO5'.out, prod_ne_cnf, sym_ne_cnf⟩)
            have hm6 := Lib.hid (show (T' ++ [((t.1, Value.slice vo t.2.2.length vc, t.2.2.reverse) : Tr)]).map pl = (T.take (i + 1)).map (fun t => (t.1, t.2.2.reverse)) by rw [hTt'.out, List.map_append, List.map_append, hmap'.out]; rfl)
            clear u0 u1 q0 q1 q2 c0 c1
            go_roundw
            case rel => exact ⟨i + 1, _, _, by go_num, by omega, hO5'.out.set 1 _, hP6.out, hm6.out, hF5.out.trans hS5.out fun _ _ h => h⟩
            case measure => simp [intOf]; omega
    · have e1 : decide ((i : Int) < (T.length : Int)) = false := by rw [decide_eq_false_iff_not]; omega
      have hin : i = T.length := by omega
      have hmap2 := Lib.hid (show T'.map pl = T.map (fun t => (t.1, t.2.2.reverse)) by rw [hmap, hin, List.take_length])
      have hRr := hR'.out.far' hfw hx.2
      have o0 : wr.cell? ⟨kO, 0, none⟩ = some (.int .i64 S) := hOr.cell 0
      have o1 : wr.cell? ⟨kO, 1, none⟩ = some qv := hOr.cell 1
      have r0 : wr.cell? ⟨kR, 0, none⟩ = some (.int .i64 0) := hRr.cell 0
      have r1 : wr.cell? ⟨kR, 1, none⟩ = some (.slice none 0 0) := hRr.cell 1
      have z0 : wr.frozen? ⟨kR, 0, none⟩ = false := hRr.free 0
      have z1 : wr.frozen? ⟨kR, 1, none⟩ = false := hRr.free 1
      obtain ⟨qo, qc, rfl⟩ := Src.form (Src.own hown.1)
      have hfx := Lib.hid (hF'.out.out hfw (fun k hk e => by have := hh'.out; have := hkR'.out; have := hkO'.out; omega))
      have hown' := Lib.hid hown
      have hRr' := Lib.hid hRr
      have hkw := Lib.hid (show h ≤ kR ∧ w.heap.size ≤ kR by have := hh'.out; have := hkR'.out; omega)
      clear hmap hown hOr hfw hAr hRr hx hin hlen
      go_wp2_with fail
      have hS5 := (Far.refl (fun k => k = kR) wr).set ⟨kR, 0, none⟩ (.int .i64 S) (fun _ => rfl)
      have hS6 := hS5.set ⟨kR, 1, none⟩ (.slice qo T'.length qc) (fun _ => rfl)
      have hP6 := Lib.hid (hown'.out.far hS6 fun k e => ⟨by subst e; exact hkw.out.1, _, _, e ▸ hRr'.out, prod_ne_cnf, sym_ne_cnf⟩)
      have hB6 : Bk ((wr.setCell ⟨kR, 0, none⟩ (.int .i64 S)).setCell ⟨kR, 1, none⟩ (.slice qo T'.length qc)) kR 24 #[.int .i64 S, .slice qo T'.length qc] := (hRr'.out.set 0 (.int .i64 S)).set 1 _
      have hF6 := Lib.hid (hfx.out.out hS6 fun k hk e => by have := hkw.out; omega)
      clear o0 o1 r0 r1 z0 z1 hS5 hS6
      generalize ((wr.setCell ⟨kR, 0, none⟩ (.int .i64 S)).setCell ⟨kR, 1, none⟩ (.slice qo T'.length qc)) = W6 at *
      have c0 : W6.cell? ⟨kR, 0, none⟩ = some (.int .i64 S) := hB6.cell 0
      have c1 : W6.cell? ⟨kR, 1, none⟩ = some (.slice qo T'.length qc) := hB6.cell 1
      exact bodyPost_ret (v := .agg #[.int .i64 S, .slice qo T'.length qc]) (by simp [results, Try.f16, go_sem, c0, c1]) rfl ⟨_, T', rfl, hh'.out ▸ hP6.out, hmap2.out, hF6.out⟩
end
end Go.Proofs.Ytfgoghmhjbhbiaa
