/-
  A production put into productions.
-/
import Derived.Test.YtjkfieilaahejaaRefLess
namespace Go.Proofs.Ytjkfieilaahejaa
open Go.RowKit
set_option linter.unusedVariables false
set_option linter.unusedSimpArgs false
def lessT (x y : Tr) : Bool := decide (ordP (pl x) (pl y) < 0)
def insL : List Tr → Tr → List Tr
  | [], p => [p]
  | x :: L, p => if lessT x p then x :: insL L p else if lessT p x then p :: x :: L else x :: L
def restL (d : Bool) (M : List Tr) (p : Tr) : List Tr := if d then M else insL M p
theorem insL_len : ∀ (L : List Tr) (p : Tr), (insL L p).length ≤ L.length + 1
  | [], p => by simp [insL]
  | x :: L, p => by
    have := insL_len L p
    unfold insL
    split
    · simp; omega
    · split <;> simp
theorem Body.old {w : World} {v : Value} {l : List Sy} {B : Nat} (h : Body w v l) (hB : w.heap.size ≤ B) : OB w B v l := .inl ⟨h, fun a n c e hl => by
  obtain ⟨s, hs⟩ : ∃ s, l[0]? = some s := ⟨l[0], List.getElem?_eq_getElem hl⟩
  obtain ⟨b, off, c', e', hb, _⟩ := h.sym hs
  rw [e'] at e
  cases e
  exact Nat.lt_of_lt_of_le hb hB⟩
/-- A list of the call's own, its bodies old. -/
structure RB (w : World) (B B0 : Nat) (v : Value) (D : List Tr) : Prop where
  row : w.ownsRow B 44 2 v D.length (tcells D)
  old : ∀ t ∈ D, OB w B0 t.2.1 t.2.2
theorem RB.move {w w' : World} {B B0 : Nat} {v : Value} {D : List Tr} (h : RB w B B0 v D) (hf : Far (fun _ => False) w w') : RB w' B B0 v D := ⟨row_far h.row hf fun _ _ h => h, fun t ht => (h.old t ht).move hf⟩
theorem RB.push {w w5 : World} {B B0 : Nat} {v v' : Value} {D : List Tr} {t : Tr} (h : RB w B B0 v D) (hb : B0 ≤ B) (ht : OB w B0 t.2.1 t.2.2) (hf : Far (fun k => v.ownBlock = some k) w w5) (ho : w5.ownsRow B 44 2 v' (D.length + 1) (tcells D ++ [.int .i64 t.1, t.2.1])) : RB w5 B B0 v' (D ++ [t]) := by
  refine ⟨by rw [List.length_append, tcells_app]; exact ho, fun u hu => ?_⟩
  have hb' : OB w B0 u.2.1 u.2.2 := by
    rcases List.mem_append.1 hu with h1 | h1
    · exact h.old u h1
    · rw [List.mem_singleton.1 h1]; exact ht
  exact hb'.far hf (fun k hk => Nat.le_trans hb (h.row.lt k hk).1) fun hr k hk hFk => rows_ne h.row hr prod_ne_sym hFk hk
theorem RB.own {w : World} {B B0 : Nat} {v : Value} {D : List Tr} (h : RB w B B0 v D) (hb : B0 ≤ B) : OwnP w B0 v D := ⟨row_up h.row hb, h.old⟩
section
set_option maxHeartbeats 8000000
set_option maxRecDepth 100000
theorem insert_any (B0 : Nat) (lv : Value) (L : List Tr) (p : Tr) (w : World) (hL : Prods w lv L) (hLo : ∀ t ∈ L, OB w B0 t.2.1 t.2.2) (hp : OB w B0 p.2.1 p.2.2) (hB0 : B0 ≤ w.heap.size) (hs : L.length ≤ 4398046510976) (hs2 : ∀ t ∈ L, t.2.2.length ≤ maxLen) (hs3 : p.2.2.length ≤ maxLen) :
    Calls Try.prog 55 #[lv, .agg #[.int .i64 p.1, p.2.1]] w fun e w' => ∃ v', e = .returned v' ∧ OwnP w' B0 v' (insL L p) ∧ Far (fun _ => False) w w' := by
  obtain ⟨p0, pv, pb⟩ := p
  simp only [] at hp hs3
  obtain ⟨kP, hkP⟩ : ∃ k, k = w.heap.size := ⟨_, rfl⟩
  obtain ⟨ao, ac, rfl⟩ := Src.form hL.1
  obtain ⟨po, pc, rfl⟩ := Src.form hp.body
  obtain ⟨w1, hw1⟩ : ∃ w1, w1 = w.alloc (.cells #[.int .i64 p0, .slice po pb.length pc] 44) := ⟨_, rfl⟩
  have hA : Bk w1 kP 44 #[.int .i64 p0, .slice po pb.length pc] := hw1 ▸ Bk.new hkP
  have hF : Far (fun _ => False) w w1 := hw1 ▸ (Far.refl _ w).alloc _
  have hL1 := Lib.hid (hL.move hF)
  have hLo1 := Lib.hid (show ∀ t ∈ L, OB w1 B0 t.2.1 t.2.2 from fun t ht => (hLo t ht).move hF)
  have hp1 := Lib.hid (hp.move hF)
  have hB1 : B0 ≤ w1.heap.size := Nat.le_trans hB0 hF.size
  have hkP' := Lib.hid hkP
  have hw1' := Lib.hid hw1
  have hA' := Lib.hid hA
  have hF' := Lib.hid hF
  have hs2' := Lib.hid hs2
  have hs3' := Lib.hid hs3
  have hB1' := Lib.hid hB1
  unfold maxLen at hs3
  clear hL hLo hp hkP hw1 hA hF hs2 hB1 hB0
  go_enter Try.func55, Try.ntmps55
  go_upto_region 1 with fail
  rw [← hkP'.out, ← hw1'.out]
  go_wp2_with fail
  go_loopw [5, 6, 7] (fun ov dv iv wr => ∃ (i : Nat) (d : Bool) (D : List Tr) (oo : Option Addr) (oc : Nat), ov = .slice oo D.length oc ∧ dv = .bool d ∧ iv = .int .i64 i ∧ i ≤ L.length ∧ RB wr w1.heap.size B0 (.slice oo D.length oc) D ∧ D ++ restL d (L.drop i) (p0, .slice po pb.length pc, pb) = insL L (p0, .slice po pb.length pc, pb) ∧ D.length ≤ i + (if d then 1 else 0) ∧ Far (fun _ => False) w1 wr) (fun _ _ iv _ => L.length - (intOf iv).toNat)
  case atStart => exact ⟨0, false, [], none, 0, rfl, rfl, rfl, Nat.zero_le _, ⟨World.ownsRow_nil _ _ _ _, fun t ht => by cases ht⟩, rfl, Nat.zero_le _, Far.refl _ _⟩
  case round =>
    obtain ⟨i, d, D, oo, oc, rfl, rfl, rfl, hi, hR, hD, hDl, hfw⟩ := hrel
    have hDl1 : D.length ≤ i + 1 := by split at hDl <;> omega
    have x0 : wr.cell? ⟨kP, 0, none⟩ = some (.int .i64 p0) := (hA'.out.far' hfw id).cell 0
    have x1 : wr.cell? ⟨kP, 1, none⟩ = some (.slice po pb.length pc) := (hA'.out.far' hfw id).cell 1
    by_cases hlt : i < L.length
    · have e1 : decide ((i : Int) < (L.length : Int)) = true := by rw [decide_eq_true_eq]; omega
      have hii : (i : Int) < (L.length : Int) := by omega
      obtain ⟨t, ht⟩ : ∃ t, L[i]? = some t := ⟨L[i], List.getElem?_eq_getElem hlt⟩
      have hdr : L.drop i = t :: L.drop (i + 1) := by rw [List.drop_eq_getElem_cons hlt, (List.getElem?_eq_some_iff.1 ht).2]
      have hmem := List.mem_of_getElem? ht
      obtain ⟨b, off, c, he, hbl, c0, c1, hbd⟩ := (hL1.out.move hfw).prod ht
      simp only [Value.slice.injEq] at he
      obtain ⟨rfl, _, rfl⟩ := he
      have hto := (hLo1.out t hmem).move hfw
      have hl2 := hs2'.out t hmem
      rw [hdr] at hD
      obtain ⟨h0, tv, l⟩ := t
      simp only [] at c0 c1 hbd hto hl2
      obtain ⟨bo, bc, rfl⟩ := Src.form hbd
      have hAr := hA'.out.far' hfw id
      have HK := Lib.hid (show ∀ w2, Far (fun _ => False) wr w2 → w2.cell? ⟨b, off + i * 2, none⟩ = some (.int .i64 h0) ∧ w2.cell? ⟨b, off + i * 2 + 1, none⟩ = some (.slice bo l.length bc) ∧ w2.cell? ⟨kP, 0, none⟩ = some (.int .i64 p0) ∧ w2.cell? ⟨kP, 1, none⟩ = some (.slice po pb.length pc) from fun w2 hf => ⟨(hf.cell hbl).trans c0, (hf.cell hbl).trans c1, (hAr.far' hf id).cell 0, (hAr.far' hf id).cell 1⟩)
      have hpr := (hp1.out.move hfw).body
      have LE1 := Lib.hid (fun w' (hf : Far (fun _ => False) wr w') => rless_any h0 p0 (.slice bo l.length bc) (.slice po pb.length pc) l pb w' (hbd.move hf) (hpr.move hf) hl2 hs3'.out)
      have LE2 := Lib.hid (fun w' (hf : Far (fun _ => False) wr w') => rless_any p0 h0 (.slice po pb.length pc) (.slice bo l.length bc) pb l w' (hpr.move hf) (hbd.move hf) hs3'.out hl2)
      have hRr := Lib.hid hR
      have hto' := Lib.hid hto
      have hfw' := Lib.hid hfw
      have hDl' := Lib.hid hDl
      have hD' := Lib.hid hD
      have ht' := Lib.hid ht
      clear hR hto hfw hDl hD hbd hpr ht hdr hmem hl2 hAr hbl
      obtain ⟨q1, hq1⟩ : ∃ q, q = decide (ordP (h0, l) (p0, pb) < 0) := ⟨_, rfl⟩
      obtain ⟨q2, hq2⟩ : ∃ q, q = decide (ordP (p0, pb) (h0, l) < 0) := ⟨_, rfl⟩
      obtain ⟨g, hg⟩ : ∃ g, g = (!d && !q1) := ⟨_, rfl⟩
      rw [← hq1] at LE1
      rw [← hq2] at LE2
      have hq1' := Lib.hid (show lessT (h0, Value.slice bo l.length bc, l) (p0, Value.slice po pb.length pc, pb) = q1 from hq1.symm)
      have hq2' := Lib.hid (show lessT (p0, Value.slice po pb.length pc, pb) (h0, Value.slice bo l.length bc, l) = q2 from hq2.symm)
      have hg' := Lib.hid hg
      clear hq1 hq2 hg
      go_upto_region 6 with fail
      go_cut [24] (fun tv wc => tv = .bool g ∧ Far (fun _ => False) wr wc)
      case first =>
        cases d with
        | true =>
          have hgf : g = false := by have := hg'.out; simpa using this
          subst hgf
          go_wp2_with fail
          go_quiet (fail)
          go_wp2_with fail
          go_meet
          exact ⟨rfl, (Far.refl _ wr).drewN _⟩
        | false =>
          have hgf : g = !q1 := by have := hg'.out; simpa using this
          subst hgf
          go_region_held3 (fun w' => w'.cell? ⟨b, off + i * 2, none⟩ = some (.int .i64 h0) ∧ w'.cell? ⟨b, off + i * 2 + 1, none⟩ = some (.slice bo l.length bc) ∧ w'.cell? ⟨kP, 0, none⟩ = some (.int .i64 p0) ∧ w'.cell? ⟨kP, 1, none⟩ = some (.slice po pb.length pc)) (go_keep)
            (first
              | (go_at_call 71; refine (LE1.out _ (drew_far wr)).mono ?_; rintro e w9 ⟨rfl, hf9⟩; obtain ⟨r0, r1, r2, r3⟩ := HK.out w9 ((drew_far wr).then hf9); have hf9' := Lib.hid ((drew_far wr).then hf9); clear hf9))
          all_goals
            go_wp2_with fail
            go_meet
            exact ⟨rfl, hf9'.out⟩
      case rest =>
        obtain ⟨rfl, hfc⟩ := hcut
        clear c0 c1 x0 x1
        have hfc' := Lib.hid hfc
        have hFc := Lib.hid (hfw'.out.then hfc)
        have hRc := Lib.hid (hRr.out.move hfc)
        obtain ⟨r0, r1, r2, r3⟩ := HK.out wc hfc
        clear hfc
        cases g with
        | false =>
          have hD2 := Lib.hid (show D ++ (h0, Value.slice bo l.length bc, l) :: restL d (L.drop (i + 1)) (p0, Value.slice po pb.length pc, pb) = insL L (p0, Value.slice po pb.length pc, pb) by
            rw [← hD'.out]
            cases d with
            | true => rfl
            | false =>
              have : q1 = true := by have := hg'.out; simpa using this
              show _ = D ++ insL _ _
              conv => rhs; unfold insL
              rw [if_pos (hq1'.out.trans this)]
              rfl)
          clear r0 r1 r2 r3
          obtain ⟨b', off', c', he', _, y0, y1, _⟩ := (hL1.out.move hFc.out).prod ht'.out
          simp only [Value.slice.injEq, Option.some.injEq, Addr.mk.injEq] at he'
          obtain ⟨⟨rfl, rfl, _⟩, _, rfl⟩ := he'
          dsimp only at y0 y1
          have hto2 := Lib.hid ((hLo1.out _ (List.mem_of_getElem? ht'.out)).move hFc.out)
          obtain ⟨inf9, iz9, i1, i2, i3, i4, i5⟩ := info3 info_prod
          have A1 := Lib.hid (hRc.out.row.alloc (.cells #[Value.int .i64 h0, Value.slice bo l.length bc] 44))
          have A2 := Lib.hid (World.news_of_block (w := wc.alloc (.cells #[Value.int .i64 h0, Value.slice bo l.length bc] 44)) (cs := #[Value.int .i64 h0, Value.slice bo l.length bc]) (t := 44) (fr := (0, 0)) (heap_alloc_new wc _))
          have A3 : ∀ u ∈ [Value.int .i64 h0, Value.slice bo l.length bc], u.oneCell' = true := by simp [Value.oneCell']
          have A4 : D.length + 1 ≤ maxLen := by unfold maxLen; omega
          have A5 : (D.length + 1) * 32 ≤ 140737488355328 := by omega
          have A6 : w1.heap.size ≤ (wc.alloc (.cells #[Value.int .i64 h0, Value.slice bo l.length bc] 44)).heap.size := by have := hFc.out.size; simp; omega
          go_wp2_with (at_builtin; refine wpList_append_lies _ rfl _ _ 22 rfl w1.heap.size 44 inf9 _ 2 32 Try.underlying22 i1 i2 i3 i4 i5 (by decide) (.slice oo D.length oc) D.length _ rfl A1.out ⟨wc.heap.size, 0, none⟩ 1 1 _ rfl rfl A2.out A3 (by decide) A4 A5 A6 _ rfl ?_; intro fg9 fcap9 w9 ho7 hg7 hat7 hl7)
          have hR7 : Far (fun k => (Value.slice oo D.length oc).ownBlock = some k) wc w9 := ((Far.refl _ wc).alloc _).grown hg7 fun k _ e => e
          have hW9 := Lib.hid (hFc.out.trans hR7 fun k hk e => by have := (hRc.out.row.lt k e).1; omega)
          have hP9 := Lib.hid (hRc.out.push (t := (h0, Value.slice bo l.length bc, l)) hB1'.out hto2.out hR7 ho7)
          clear hR7 ho7 hg7 hat7 A1 A2 A3 A4 A5 A6 i1 i2 i3 i4 i5
          go_wp2_with fail
          go_roundw
          case rel => exact ⟨i + 1, d, D ++ [(h0, Value.slice bo l.length bc, l)], some ⟨fg9, 0, none⟩, fcap9, by simp, rfl, by go_num, by omega, by rw [List.length_append]; exact hP9.out, by rw [List.append_assoc]; exact hD2.out, by have := hDl'.out; rw [List.length_append, List.length_singleton]; omega, hW9.out⟩
          case measure => simp [intOf]; omega
        | true =>
          obtain ⟨rfl, rfl⟩ : d = false ∧ q1 = false := by
            have := hg'.out
            cases d <;> cases q1 <;> simp at this ⊢
          have hDl0 : D.length ≤ i := by have := hDl'.out; simpa using this
          have hD2 := Lib.hid (show D ++ (if lessT (p0, Value.slice po pb.length pc, pb) (h0, Value.slice bo l.length bc, l) then (p0, Value.slice po pb.length pc, pb) :: (h0, Value.slice bo l.length bc, l) :: L.drop (i + 1) else (h0, Value.slice bo l.length bc, l) :: L.drop (i + 1)) = insL L (p0, Value.slice po pb.length pc, pb) by
            rw [← hD'.out]
            show _ = D ++ insL _ _
            conv => rhs; unfold insL
            rw [if_neg (show ¬ lessT (h0, Value.slice bo l.length bc, l) (p0, Value.slice po pb.length pc, pb) = true from fun e => by rw [hq1'.out] at e; cases e)])
          go_wp2_with fail
          go_cut [30] (fun tv wd => tv = .bool q2 ∧ Far (fun _ => False) wr wd)
          case first =>
            go_region_held3 (fun w' => w'.cell? ⟨b, off + i * 2, none⟩ = some (.int .i64 h0) ∧ w'.cell? ⟨b, off + i * 2 + 1, none⟩ = some (.slice bo l.length bc) ∧ w'.cell? ⟨kP, 0, none⟩ = some (.int .i64 p0) ∧ w'.cell? ⟨kP, 1, none⟩ = some (.slice po pb.length pc)) (go_keep)
              (first
                | (go_at_call 71; refine (LE2.out _ (hfc'.out.drew)).mono ?_; rintro e w10 ⟨rfl, hf10⟩; obtain ⟨s0, s1, s2, s3⟩ := HK.out w10 (hfc'.out.drew.then hf10); have hf10' := Lib.hid (hfc'.out.drew.then hf10); clear hf10))
            all_goals
              go_wp2_with fail
              go_meet
              exact ⟨rfl, hf10'.out⟩
          case rest =>
            obtain ⟨rfl, hfd⟩ := hcut
            clear r0 r1 r2 r3
            obtain ⟨s0, s1, s2, s3⟩ := HK.out wc hfd
            have hFd := Lib.hid (hfw'.out.then hfd)
            have hRd := Lib.hid (hRr.out.move hfd)
            clear hfd
            cases q2 with
            | true =>
              rw [if_pos hq2'.out] at hD2
              clear s0 s1
              obtain ⟨inf7, iz7, i1, i2, i3, i4, i5⟩ := info3 info_prod
              have A1 := Lib.hid (hRd.out.row.alloc (.cells #[Value.int .i64 p0, Value.slice po pb.length pc] 44))
              have A2 := Lib.hid (World.news_of_block (w := wc.alloc (.cells #[Value.int .i64 p0, Value.slice po pb.length pc] 44)) (cs := #[Value.int .i64 p0, Value.slice po pb.length pc]) (t := 44) (fr := (0, 0)) (heap_alloc_new wc _))
              have A3 : ∀ u ∈ [Value.int .i64 p0, Value.slice po pb.length pc], u.oneCell' = true := by simp [Value.oneCell']
              have A4 : D.length + 1 ≤ maxLen := by unfold maxLen; omega
              have A5 : (D.length + 1) * 32 ≤ 140737488355328 := by omega
              have A6 : w1.heap.size ≤ (wc.alloc (.cells #[Value.int .i64 p0, Value.slice po pb.length pc] 44)).heap.size := by have := hFd.out.size; simp; omega
              go_upto_region 9 with (at_builtin; refine wpList_append_lies _ rfl _ _ 22 rfl w1.heap.size 44 inf7 _ 2 32 Try.underlying22 i1 i2 i3 i4 i5 (by decide) (.slice oo D.length oc) D.length _ rfl A1.out ⟨wc.heap.size, 0, none⟩ 1 1 _ rfl rfl A2.out A3 (by decide) A4 A5 A6 _ rfl ?_; intro fg7 fcap7 w7 ho7 hg7 hat7 hl7)
              have hR7 : Far (fun k => (Value.slice oo D.length oc).ownBlock = some k) wc w7 := ((Far.refl _ wc).alloc _).grown hg7 fun k _ e => e
              have hW7 := Lib.hid (hFd.out.trans hR7 fun k hk e => by have := (hRd.out.row.lt k e).1; omega)
              have hP7 := Lib.hid (hRd.out.push (t := (p0, Value.slice po pb.length pc, pb)) hB1'.out (hp1.out.move hFd.out) hR7 ho7)
              clear hR7 ho7 hg7 hat7 A1 A2 A3 A4 A5 A6 i1 i2 i3 i4 i5
              have hl7 : (D ++ [(p0, Value.slice po pb.length pc, pb)]).length = D.length + 1 := by simp
              have hP7' := Lib.hid (show RB w7 w1.heap.size B0 (.slice (some ⟨fg7, 0, none⟩) (D ++ [(p0, Value.slice po pb.length pc, pb)]).length fcap7) (D ++ [(p0, Value.slice po pb.length pc, pb)]) by rw [hl7]; exact hP7.out)
              clear s2 s3
              rw [← hl7]
              generalize hD7 : D ++ [(p0, Value.slice po pb.length pc, pb)] = D7 at *
              have hl7' := Lib.hid hl7
              have hD7' := Lib.hid hD7
              clear hl7 hD7
              have hl8 : D7.length ≤ i + 1 := by have := hl7'.out; omega
              obtain ⟨b', off', c', he', _, y0, y1, _⟩ := (hL1.out.move hW7.out).prod ht'.out
              simp only [Value.slice.injEq, Option.some.injEq, Addr.mk.injEq] at he'
              obtain ⟨⟨rfl, rfl, _⟩, _, rfl⟩ := he'
              dsimp only at y0 y1
              have hto2 := Lib.hid ((hLo1.out _ (List.mem_of_getElem? ht'.out)).move hW7.out)
              obtain ⟨inf9, iz9, i1, i2, i3, i4, i5⟩ := info3 info_prod
              have A1 := Lib.hid (hP7'.out.row.alloc (.cells #[Value.int .i64 h0, Value.slice bo l.length bc] 44))
              have A2 := Lib.hid (World.news_of_block (w := w7.alloc (.cells #[Value.int .i64 h0, Value.slice bo l.length bc] 44)) (cs := #[Value.int .i64 h0, Value.slice bo l.length bc]) (t := 44) (fr := (0, 0)) (heap_alloc_new w7 _))
              have A3 : ∀ u ∈ [Value.int .i64 h0, Value.slice bo l.length bc], u.oneCell' = true := by simp [Value.oneCell']
              have A4 : D7.length + 1 ≤ maxLen := by unfold maxLen; omega
              have A5 : (D7.length + 1) * 32 ≤ 140737488355328 := by omega
              have A6 : w1.heap.size ≤ (w7.alloc (.cells #[Value.int .i64 h0, Value.slice bo l.length bc] 44)).heap.size := by have := hW7.out.size; simp; omega
              go_wp2_with (at_builtin; refine wpList_append_lies _ rfl _ _ 22 rfl w1.heap.size 44 inf9 _ 2 32 Try.underlying22 i1 i2 i3 i4 i5 (by decide) (.slice (some ⟨fg7, 0, none⟩) D7.length fcap7) D7.length _ rfl A1.out ⟨w7.heap.size, 0, none⟩ 1 1 _ rfl rfl A2.out A3 (by decide) A4 A5 A6 _ rfl ?_; intro fg9 fcap9 w9 ho7 hg7 hat7 hl7)
              have hR7 : Far (fun k => (Value.slice (some ⟨fg7, 0, none⟩) D7.length fcap7).ownBlock = some k) w7 w9 := ((Far.refl _ w7).alloc _).grown hg7 fun k _ e => e
              have hW9 := Lib.hid (hW7.out.trans hR7 fun k hk e => by have := (hP7'.out.row.lt k e).1; omega)
              have hP9 := Lib.hid (hP7'.out.push (t := (h0, Value.slice bo l.length bc, l)) hB1'.out hto2.out hR7 ho7)
              clear hR7 ho7 hg7 hat7 A1 A2 A3 A4 A5 A6 i1 i2 i3 i4 i5
              go_wp2_with fail
              go_roundw
              case rel => exact ⟨i + 1, true, D7 ++ [(h0, Value.slice bo l.length bc, l)], some ⟨fg9, 0, none⟩, fcap9, by simp, rfl, by go_num, by omega, by rw [List.length_append]; exact hP9.out, by rw [List.append_assoc]; exact (by rw [← hD7'.out, List.append_assoc]; exact hD2.out), by rw [List.length_append, List.length_singleton, hl7'.out]; simp; omega, hW9.out⟩
              case measure => simp [intOf]; omega
            | false =>
              rw [if_neg (show ¬ lessT (p0, Value.slice po pb.length pc, pb) (h0, Value.slice bo l.length bc, l) = true from fun e => by rw [hq2'.out] at e; cases e)] at hD2
              clear s0 s1 s2 s3
              obtain ⟨b', off', c', he', _, y0, y1, _⟩ := (hL1.out.move hFd.out).prod ht'.out
              simp only [Value.slice.injEq, Option.some.injEq, Addr.mk.injEq] at he'
              obtain ⟨⟨rfl, rfl, _⟩, _, rfl⟩ := he'
              dsimp only at y0 y1
              have hto2 := Lib.hid ((hLo1.out _ (List.mem_of_getElem? ht'.out)).move hFd.out)
              obtain ⟨inf9, iz9, i1, i2, i3, i4, i5⟩ := info3 info_prod
              have A1 := Lib.hid (hRd.out.row.alloc (.cells #[Value.int .i64 h0, Value.slice bo l.length bc] 44))
              have A2 := Lib.hid (World.news_of_block (w := wc.alloc (.cells #[Value.int .i64 h0, Value.slice bo l.length bc] 44)) (cs := #[Value.int .i64 h0, Value.slice bo l.length bc]) (t := 44) (fr := (0, 0)) (heap_alloc_new wc _))
              have A3 : ∀ u ∈ [Value.int .i64 h0, Value.slice bo l.length bc], u.oneCell' = true := by simp [Value.oneCell']
              have A4 : D.length + 1 ≤ maxLen := by unfold maxLen; omega
              have A5 : (D.length + 1) * 32 ≤ 140737488355328 := by omega
              have A6 : w1.heap.size ≤ (wc.alloc (.cells #[Value.int .i64 h0, Value.slice bo l.length bc] 44)).heap.size := by have := hFd.out.size; simp; omega
              go_wp2_with (at_builtin; refine wpList_append_lies _ rfl _ _ 22 rfl w1.heap.size 44 inf9 _ 2 32 Try.underlying22 i1 i2 i3 i4 i5 (by decide) (.slice oo D.length oc) D.length _ rfl A1.out ⟨wc.heap.size, 0, none⟩ 1 1 _ rfl rfl A2.out A3 (by decide) A4 A5 A6 _ rfl ?_; intro fg9 fcap9 w9 ho7 hg7 hat7 hl7)
              have hR7 : Far (fun k => (Value.slice oo D.length oc).ownBlock = some k) wc w9 := ((Far.refl _ wc).alloc _).grown hg7 fun k _ e => e
              have hW9 := Lib.hid (hFd.out.trans hR7 fun k hk e => by have := (hRd.out.row.lt k e).1; omega)
              have hP9 := Lib.hid (hRd.out.push (t := (h0, Value.slice bo l.length bc, l)) hB1'.out hto2.out hR7 ho7)
              clear hR7 ho7 hg7 hat7 A1 A2 A3 A4 A5 A6 i1 i2 i3 i4 i5
              go_wp2_with fail
              go_roundw
              case rel => exact ⟨i + 1, true, D ++ [(h0, Value.slice bo l.length bc, l)], some ⟨fg9, 0, none⟩, fcap9, by simp, rfl, by go_num, by omega, by rw [List.length_append]; exact hP9.out, by rw [List.append_assoc]; exact hD2.out, by rw [List.length_append, List.length_singleton]; simp; omega, hW9.out⟩
              case measure => simp [intOf]; omega
    · have e1 : decide ((i : Int) < (L.length : Int)) = false := by rw [decide_eq_false_iff_not]; omega
      have hRr := Lib.hid hR
      have hfw' := Lib.hid hfw
      rw [List.drop_eq_nil_of_le (by omega)] at hD
      have hD' := Lib.hid hD
      have hB := Lib.hid (show B0 ≤ w1.heap.size from hB1'.out)
      clear hR hfw hD hDl
      cases d with
      | true =>
        go_wp2_with fail
        go_ret
        exact ⟨_, rfl, by have := hRr.out.own hB.out; rwa [show insL L (p0, Value.slice po pb.length pc, pb) = D by rw [← hD'.out]; exact List.append_nil _], hF'.out.then hfw'.out⟩
      | false =>
        obtain ⟨inf, iz, i1, i2, i3, i4, i5⟩ := info3 info_prod
        have A1 := Lib.hid (hRr.out.row.alloc (.cells #[.int .i64 p0, .slice po pb.length pc] 44))
        have A2 := Lib.hid (World.news_of_block (w := wr.alloc (.cells #[.int .i64 p0, .slice po pb.length pc] 44)) (cs := #[.int .i64 p0, .slice po pb.length pc]) (t := 44) (fr := (0, 0)) (heap_alloc_new wr _))
        have A3 : ∀ u ∈ [Value.int .i64 p0, .slice po pb.length pc], u.oneCell' = true := by simp [Value.oneCell']
        have A4 : D.length + 1 ≤ maxLen := by unfold maxLen; omega
        have A5 : (D.length + 1) * 32 ≤ 140737488355328 := by omega
        have A6 : w1.heap.size ≤ (wr.alloc (.cells #[.int .i64 p0, .slice po pb.length pc] 44)).heap.size := by have := hfw'.out.size; simp; omega
        go_wp2_with (at_builtin; refine wpList_append_lies _ rfl _ _ 22 rfl w1.heap.size 44 inf _ 2 32 Try.underlying22 i1 i2 i3 i4 i5 (by decide) (.slice oo D.length oc) D.length _ rfl A1.out ⟨wr.heap.size, 0, none⟩ 1 1 _ rfl rfl A2.out A3 (by decide) A4 A5 A6 _ rfl ?_; intro fg fcap w7 ho7 hg7 hat7 hl7)
        have hR7 : Far (fun k => (Value.slice oo D.length oc).ownBlock = some k) wr w7 := ((Far.refl _ wr).alloc _).grown hg7 fun k _ e => e
        have hW7 := Lib.hid (hfw'.out.trans hR7 fun k hk e => by have := (hRr.out.row.lt k e).1; omega)
        have hP7 := Lib.hid (hRr.out.push (t := (p0, Value.slice po pb.length pc, pb)) hB1'.out (hp1.out.move hfw'.out) hR7 ho7)
        clear hR7 ho7 hg7 hat7 A1 A2 A3 A4 A5 A6
        go_wp2_with fail
        go_ret
        exact ⟨_, rfl, by have := hP7.out.own hB.out; rwa [show D ++ [(p0, Value.slice po pb.length pc, pb)] = insL L (p0, Value.slice po pb.length pc, pb) from hD'.out] at this, hF'.out.then hW7.out⟩
end
end Go.Proofs.Ytjkfieilaahejaa
