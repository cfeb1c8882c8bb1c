/-
  The program's Heads: the sequence of the productions with a head.
-/
import Derived.Test.YtfgoghmhjbhbiaaSameBody
import Derived.Test.YtfgoghmhjbhbiaaRangeOk
namespace Go.Proofs.Ytfgoghmhjbhbiaa
open Go.RowKit Go.Shelf
set_option linter.unusedVariables false
set_option linter.unusedSimpArgs false
/-- The places and bodies of the productions with a head, among the first m. -/
def fnd (nt : Int) (T : List Tr) : Nat → List (Int × List Sy)
  | 0 => []
  | m + 1 => fnd nt T m ++ match T[m]? with
    | some t => if t.1 == nt then [((m : Int), t.2.2)] else []
    | none => []
theorem fnd_succ {nt : Int} {T : List Tr} {m : Nat} {t : Tr} (h : T[m]? = some t) : fnd nt T (m + 1) = fnd nt T m ++ if t.1 == nt then [((m : Int), t.2.2)] else [] := by
  show fnd nt T m ++ _ = _
  rw [h]
theorem fnd_len (nt : Int) (T : List Tr) : ∀ m, (fnd nt T m).length ≤ m
  | 0 => Nat.le_refl _
  | m + 1 => by
    have ih := fnd_len nt T m
    unfold fnd
    rw [List.length_append]
    cases T[m]? with
    | none => simp; omega
    | some t => dsimp only; split <;> simp <;> omega
theorem fnd_mem (nt : Int) (T : List Tr) : ∀ m, ∀ x ∈ fnd nt T m, ∃ (i : Nat) (t : Tr), x.1 = i ∧ i < m ∧ T[i]? = some t ∧ t.2.2 = x.2
  | 0 => fun x hx => by cases hx
  | m + 1 => fun x hx => by
    unfold fnd at hx
    rcases List.mem_append.1 hx with h | h
    · obtain ⟨i, t, h1, h2, h3⟩ := fnd_mem nt T m x h
      exact ⟨i, t, h1, by omega, h3⟩
    · cases ht : T[m]? with
      | none => rw [ht] at h; cases h
      | some t =>
        rw [ht] at h
        dsimp only at h
        split at h
        · rw [List.mem_singleton.1 h]
          exact ⟨m, t, rfl, by omega, ht, rfl⟩
        · cases h
theorem found_ne_sym : (47 : TypeId) ≠ 59 := by decide
theorem info_found : (Try.prog.info? 59).map (fun i => (i.zero.map (·.cells.size), i.size, i.bytes)) = some (some 2, 2, 32) := by kernel_rfl
/-- Founds of the call's own. -/
def OwnH (w : World) (B : Nat) (v : Value) (U : List Tr) : Prop := w.ownsRow B 59 2 v U.length (tcells U) ∧ ∀ t ∈ U, w.ownsRow B 47 2 t.2.1 t.2.2.length (scells t.2.2)
theorem OwnH.prods {w : World} {B : Nat} {v : Value} {U : List Tr} (h : OwnH w B v U) : Prods w v U := ⟨Src.own h.1, fun t ht => Src.own (h.2 t ht)⟩
theorem OwnH.far {w w' : World} {F : Nat → Prop} {B : Nat} {v : Value} {U : List Tr} (h : OwnH w B v U) (hf : Far F w w') (hF : ∀ k, F k → k < B) : OwnH w' B v U :=
  ⟨row_far h.1 hf fun k hk e => by have := (h.1.lt k hk).1; have := hF k e; omega, fun t ht => row_far (h.2 t ht) hf fun k hk e => by have := ((h.2 t ht).lt k hk).1; have := hF k e; omega⟩
theorem OwnH.move {w w' : World} {B : Nat} {v : Value} {U : List Tr} (h : OwnH w B v U) (hf : Far (fun _ => False) w w') : OwnH w' B v U := h.far hf fun _ h => h.elim
theorem OwnH.keep {w w' : World} {K : Nat → Prop} {B : Nat} {v : Value} {U : List Tr} (h : OwnH w B v U) (k : KeepK K w w') (hK : ∀ i, B ≤ i → i < w.heap.size → K i) : OwnH w' B v U :=
  ⟨row_same h.1 fun i hi hl => k i (hK i (h.1.lt i hi).1 hl), fun t ht => row_same (h.2 t ht) fun i hi hl => k i (hK i ((h.2 t ht).lt i hi).1 hl)⟩
theorem OwnH.push {w w5 : World} {B : Nat} {v v' : Value} {U : List Tr} {t : Tr} (h : OwnH w B v U) (ht : w.ownsRow B 47 2 t.2.1 t.2.2.length (scells t.2.2)) (hf : Far (fun k => v.ownBlock = some k) w w5) (ho : w5.ownsRow B 59 2 v' (U.length + 1) (tcells U ++ [.int .i64 t.1, t.2.1])) : OwnH w5 B v' (U ++ [t]) := by
  refine ⟨by rw [List.length_append, tcells_app]; exact ho, fun u hu => ?_⟩
  have hb : w.ownsRow B 47 2 u.2.1 u.2.2.length (scells u.2.2) := by
    rcases List.mem_append.1 hu with h1 | h1
    · exact h.2 u h1
    · rw [List.mem_singleton.1 h1]; exact ht
  exact row_far hb hf fun k hk e => rows_ne hb h.1 found_ne_sym hk e
theorem rowUp {w : World} {base base' e size n : Nat} {v : Value} {xs : List Value} (h : w.ownsRow base e size v n xs) (hb : base' ≤ base) : w.ownsRow base' e size v n xs := ⟨h.1, h.2.imp id fun ⟨g, cap, cur, e, hg, r⟩ => ⟨g, cap, cur, e, Nat.le_trans hb hg, r⟩⟩
theorem step_call {P : Program} {w : World} {ops : Array Oper} {o : Oper} {a : Act} {K : Act → World → Prop} {Q : Exit → Act → World → Prop} {E : Prop} {R : Value → World → Prop} (hgd : o.guard = none) (f : FuncId) (args : Array Value)
    (hr : (execOp a.eval o).run P w = .ok (.enter f args) w) (hc : Calls P f args w fun e w' => ∃ v, e = .returned v ∧ R v w') (h : ∀ v w', R v w' → K (a.put o.dst v) w') : if Region.wanted o (yielded ops a.tmps) = true then Oper.wp P o a w K Q else E := by
  have hw : Region.wanted o (yielded ops a.tmps) = true := by simp [Region.wanted, hgd]
  rw [if_pos hw]
  unfold Oper.wp
  rw [hr]
  exact hc.mono fun e w' ⟨v, he, hR⟩ => by subst he; exact h v w' hR
section
set_option maxHeartbeats 4000000
set_option maxRecDepth 100000
theorem heads_any (S : Int) (pv : Value) (T : List Tr) (nt : Int) (w : World) (hP : Prods w pv T) (hs : T.length * 32 ≤ 140737488351232) (hs2 : ∀ t ∈ T, t.2.2.length * 16 ≤ 140737488351232) :
    Calls Try.prog 17 #[.agg #[.int .i64 S, pv], .int .i64 nt] w fun e w' => ∃ kL B qv U, e = .returned (.func (.func 34) #[] #[.pointer (some ⟨kL, 0, none⟩)]) ∧ w.heap.size ≤ kL ∧ kL < B ∧ Bk w' kL 57 #[qv] ∧ OwnH w' B qv U ∧ U.map pl = fnd nt T T.length ∧ Far (fun _ => False) w w' := by
  obtain ⟨h0, hh0⟩ : ∃ h, h = w.heap.size := ⟨_, rfl⟩
  obtain ⟨h1, hh1⟩ : ∃ k, k = h0 + 1 := ⟨_, rfl⟩
  obtain ⟨ao, pc, rfl⟩ := Src.form hP.1
  obtain ⟨w0, hw0⟩ : ∃ w0, w0 = w.alloc (.cells #[.int .i64 S, .slice ao T.length pc] 24) := ⟨_, rfl⟩
  obtain ⟨W, hW⟩ : ∃ W, W = w0.alloc (.cells #[.slice none 0 0] 57) := ⟨_, rfl⟩
  have z0 : w0.heap.size = h1 := by rw [hw0]; simp [hh1, hh0]
  have z1 : W.heap.size = h1 + 1 := by rw [hW]; simp [z0]
  have hA : Bk W h0 24 #[.int .i64 S, .slice ao T.length pc] := hW ▸ (hw0 ▸ Bk.new hh0 : Bk w0 h0 24 #[.int .i64 S, .slice ao T.length pc]).alloc _
  have hL : Bk W h1 57 #[.slice none 0 0] := hW ▸ Bk.new z0.symm
  have hF : Far (fun _ => False) w W := hW ▸ (hw0 ▸ (Far.refl _ w).alloc _ : Far (fun _ => False) w w0).alloc _
  have hP0 := Lib.hid hP
  have a1 : W.cell? ⟨h0, 1, none⟩ = some (.slice ao T.length pc) := hA.cell 1
  have hs' : T.length ≤ 4398046510976 := by omega
  obtain ⟨B, hB⟩ : ∃ B, B = W.heap.size := ⟨_, rfl⟩
  have hB1 : h1 < B := by omega
  have hs2' := Lib.hid hs2
  have hh0' := Lib.hid hh0
  have hh1' := Lib.hid hh1
  have hw0' := Lib.hid hw0
  have hW' := Lib.hid hW
  have hL' := Lib.hid hL
  have hF' := Lib.hid hF
  have hB' := Lib.hid hB
  clear hP hs2 hh0 hh1 hw0 hW z0 z1 hA hL hF hs hB
  go_enter Try.func17, Try.ntmps17
  go_upto_region 2 with fail
  rw [← hh0'.out, ← hh1'.out, ← hw0'.out, ← hW'.out]
  go_wp2_with fail
  clear a1
  go_loopw [11] (fun iv wr => ∃ (i : Nat) (qv : Value) (U : List Tr), iv = .int .i64 i ∧ i ≤ T.length ∧ Bk wr h1 57 #[qv] ∧ OwnH wr B qv U ∧ U.map pl = fnd nt T i ∧ Far (fun k => k = h1) W wr) (fun iv _ => T.length - (intOf iv).toNat)
  case atStart => exact ⟨0, .slice none 0 0, [], rfl, Nat.zero_le _, hL'.out, ⟨World.ownsRow_nil _ _ _ _, fun t ht => by cases ht⟩, rfl, Far.refl _ _⟩
  case round =>
    obtain ⟨i, qv, U, rfl, hi, hLr, hown, hmap, hfw⟩ := hrel
    by_cases hlt : i < T.length
    · have e1 : decide ((i : Int) < (T.length : Int)) = true := by rw [decide_eq_true_eq]; omega
      have hii : (i : Int) < (T.length : Int) := by omega
      obtain ⟨t, ht⟩ : ∃ t, T[i]? = some t := ⟨T[i], List.getElem?_eq_getElem hlt⟩
      have hfx : Far (fun _ => False) w wr := hF'.out.out hfw (fun k hk e => by have := hh0'.out; have := hh1'.out; omega)
      obtain ⟨b, off, c, he, hbl, c0, c1, hbd⟩ := (hP0.out.move hfx).prod ht
      simp only [Value.slice.injEq] at he
      obtain ⟨rfl, _, rfl⟩ := he
      have hl16 : t.2.2.length * 16 ≤ 140737488351232 := hs2'.out t (List.mem_of_getElem? ht)
      have hsu := fnd_succ (nt := nt) ht
      have hUl : U.length ≤ i := by
        have h1 := congrArg List.length hmap
        have h2 := fnd_len nt T i
        rw [List.length_map] at h1
        omega
      obtain ⟨p0, tv, l⟩ := t
      simp only [] at c0 c1 hbd hl16 hsu
      obtain ⟨bo, bc, rfl⟩ := Src.form hbd
      obtain ⟨ax, hax⟩ : ∃ ax, ax = wr.heap.size := ⟨_, rfl⟩
      obtain ⟨wa, hwa⟩ : ∃ wa, wa = wr.alloc (.cells #[.int .i64 p0, .slice bo l.length bc] 37) := ⟨_, rfl⟩
      have hfa : Far (fun _ => False) wr wa := hwa ▸ (Far.refl _ wr).alloc _
      have hX : Bk wa ax 37 #[.int .i64 p0, .slice bo l.length bc] := hwa ▸ Bk.new hax
      have hLa := Lib.hid (hLr.far' hfa id)
      have hoa := Lib.hid (hown.move hfa)
      have x0 : wa.cell? ⟨ax, 0, none⟩ = some (.int .i64 p0) := hX.cell 0
      have x1 : wa.cell? ⟨ax, 1, none⟩ = some (.slice bo l.length bc) := hX.cell 1
      have q0 : wa.cell? ⟨h1, 0, none⟩ = some qv := hLa.out.cell 0
      have hXl := hX.lt
      have hLl := hLa.out.lt
      have hBa : B ≤ wa.heap.size := by have h1 := hfw.size; have h2 := hfa.size; have h3 := hB'.out; omega
      have CL := Lib.hid (clone_any (.slice bo l.length bc) l wa.drew ((hbd.move hfa).move (drew_far _)) hl16)
      have hqax := Lib.hid (show qv.ownBlock ≠ some ax from fun e => by have := (hown.1.lt _ e).2; omega)
      have hqk := Lib.hid (show qv.ownBlock ≠ some h1 from fun e => by have := (hown.1.lt _ e).1; omega)
      have hqB := Lib.hid (show ∀ k, qv.ownBlock = some k → B ≤ k from fun k e => (hown.1.lt k e).1)
      obtain ⟨pi, pz, pi1, pi2, pi3, pi4, pi5⟩ := info3 info_found
      have A7 : 0 < 2 := by decide
      have B4 : U.length + 1 ≤ maxLen := by unfold maxLen; omega
      have B5 : (U.length + 1) * 32 ≤ 140737488355328 := by omega
      have hX' := Lib.hid hX
      have hfwa := Lib.hid (hfw.trans hfa fun _ _ h => h.elim)
      have hmap' := Lib.hid hmap
      have hax' := Lib.hid hax
      have hwa' := Lib.hid hwa
      have hno : ax ≠ h1 := by have := hLr.lt; omega
      have hno' : h1 ≠ ax := fun e => hno e.symm
      clear hLr hown hmap hfx hbd ht hfw hfa hX hax hwa hbl
      cases hq : p0 == nt with
      | true =>
        have hsu' := Lib.hid (show fnd nt T (i + 1) = fnd nt T i ++ [((i : Int), l)] by rw [hsu, hq]; rfl)
        clear hsu
        go_upto_region 5 with fail
        rw [← hax'.out, ← hwa'.out]
        clear c0 c1
        go_upto_region 6 with fail
        clear hq
        go_region_law
          (first
            | (refine step_app rfl (.tmp 20) (.tmp 26) 57 rfl B 59 pi pz 2 32 Try.underlying57 pi1 pi2 pi3 pi4 pi5 A7 qv U.length _ rfl B1'.out (.slice (some ⟨w4.heap.size, 0, none⟩) 1 1) 1 _ rfl B2'.out B3'.out B4 B5 B6 ?_; intro v2 w5 ho5 hg5; obtain ⟨vo2, vc2, rfl⟩ := Src.form (Src.own ho5); have hL5 := Bk.grown (w := (w4.alloc (.cells #[.int .i64 (i : Int), .slice vo l.length vc] 59))) (Bk.alloc hL4.out _) hg5 hqk.out; have u0 := hL5.cell 0; have u1 := hL5.free 0; have ho5' := Lib.hid ho5; have hg5' := Lib.hid hg5; have hL5' := Lib.hid hL5; clear ho5 hg5 hL5; simp at u0)
            | (refine step_call rfl 25 #[.slice bo l.length bc] ?_ CL.out ?_; (go_simp); rintro v4 w4 ⟨ho4, hf4⟩; skip; obtain ⟨vo, vc, rfl⟩ := Src.form (Src.own ho4); have FW4 := Lib.hid ((drew_far wa).then hf4); have hL4 := Lib.hid (hLa.out.far' FW4.out id); have hX4 := Lib.hid (hX'.out.far' FW4.out id); have r0 : w4.cell? ⟨ax, 0, none⟩ = some (.int .i64 p0) := hX4.out.cell 0; have r1 : w4.cell? ⟨ax, 1, none⟩ = some (.slice bo l.length bc) := hX4.out.cell 1; have r2 : w4.cell? ⟨h1, 0, none⟩ = some qv := hL4.out.cell 0; have l1 : h1 < w4.heap.size := hL4.out.lt; have l2 : ax < w4.heap.size := hX4.out.lt; have n1 : h1 ≠ w4.heap.size := (by omega); have n2 : ax ≠ w4.heap.size := (by omega); have n3 : w4.heap.size ≠ ax := (by omega); have ho4' := Lib.hid (rowUp (base' := B) ho4 (by have := (drew_far wa).size; omega)); have hP4 := Lib.hid (hoa.out.move FW4.out); have B1' := Lib.hid (hP4.out.1.alloc (.cells #[.int .i64 (i : Int), .slice vo l.length vc] 59)); have B2' := Lib.hid (src_new w4 59 [.int .i64 (i : Int), .slice vo l.length vc]); have B3' := Lib.hid (show ∀ u ∈ [Value.int .i64 (i : Int), .slice vo l.length vc], u.oneCell' = true by simp [Value.oneCell']); have B6 : B ≤ (w4.alloc (.cells #[.int .i64 (i : Int), .slice vo l.length vc] 59)).heap.size := (by have := FW4.out.size; simp; omega); clear ho4 hf4))
        all_goals
          have hP5 := Lib.hid (OwnH.push (t := ((i : Int), Value.slice vo l.length vc, l)) (hP4.out.move ((Far.refl _ w4).alloc _)) (row_far ho4'.out ((Far.refl (fun _ => False) w4).alloc _) (fun _ _ h => h)) (grown_far hg5'.out) ho5'.out)
          have hF5 := Lib.hid ((hfwa.out.trans (FW4.out.then ((Far.refl _ w4).alloc _)) (fun _ _ h => h.elim)).trans (grown_far hg5'.out) fun k hk e => by have := hqB.out k e; have := hB'.out; omega)
          have hS5 := Lib.hid ((Far.refl (fun k => k = h1) w5).set ⟨h1, 0, none⟩ (.slice vo2 (U.length + 1) vc2) (fun _ => rfl))
          have hP6 := Lib.hid (hP5.out.far hS5.out fun k e => by subst e; exact hB1)
          have hm6 := Lib.hid (show (U ++ [(((i : Int), Value.slice vo l.length vc, l) : Tr)]).map pl = fnd nt T (i + 1) by rw [hsu'.out, List.map_append, hmap'.out]; rfl)
          go_wp2_with fail
          go_roundw
          case rel => exact ⟨i + 1, _, _, by go_num, by omega, hL5'.out.set 0 _, hP6.out, hm6.out, hF5.out.trans hS5.out fun _ _ h => h⟩
          case measure => simp [intOf]; omega
      | false =>
        have hsu' := Lib.hid (show fnd nt T (i + 1) = fnd nt T i by rw [hsu, hq]; exact List.append_nil _)
        clear hsu
        go_upto_region 5 with fail
        rw [← hax'.out, ← hwa'.out]
        clear c0 c1
        go_wp2_with fail
        go_roundw
        case rel => exact ⟨i + 1, qv, U, by go_num, by omega, hLa.out, hoa.out, hmap'.out.trans hsu'.out.symm, hfwa.out⟩
        case measure => simp [intOf]; omega
    · have e1 : decide ((i : Int) < (T.length : Int)) = false := by rw [decide_eq_false_iff_not]; omega
      have hin : i = T.length := by omega
      have hmap2 := Lib.hid (show U.map pl = fnd nt T T.length by rw [hmap, hin])
      have hfx := Lib.hid (show Far (fun _ => False) w wr from hF'.out.out hfw (fun k hk e => by have := hh0'.out; have := hh1'.out; omega))
      have hLr' := Lib.hid hLr
      have hown' := Lib.hid hown
      clear hLr hown hmap hfw
      go_wp2_with fail
      go_ret
      exact ⟨h1, B, qv, U, rfl, by have := hh0'.out; have := hh1'.out; omega, hB1, hLr'.out, hown'.out, hmap2.out, hfx.out⟩
end
end Go.Proofs.Ytfgoghmhjbhbiaa
