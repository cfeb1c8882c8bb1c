/-
  The program's Packs: a sequence of a spot's packs, and a loop over it.
-/
import Derived.Test.YteoglnbmmgoibaaGreatDoorIdx22
import Derived.Test.YteoglnbmmgoibaaGreatDoorRangeKit
namespace Go.Proofs.YteoglnbmmgoibaaGreatDoor
open Go.RowKit Go.Shelf
set_option linter.unusedVariables false
set_option linter.unusedSimpArgs false
attribute [local go_sem] Oper.semAt_some
/-- A pack, as the loop's variable gets it. -/
def pkv (x : Pk) : Value := .agg #[.int .i64 x.1, .int .i64 x.2.1, .int .i64 x.2.2.1, .int .i64 x.2.2.2.1, .int .i64 x.2.2.2.2]
/-- Packs that lie in the blocks K. -/
def PkIn (K : Nat → Prop) (w : World) (sv : Value) (P : List Pk) : Prop := ∃ ao c, sv = .slice ao P.length c ∧ ∀ (j : Nat) (x : Pk), P[j]? = some x → ∃ b off, ao = some ⟨b, off, none⟩ ∧ K b ∧
  w.cell? ⟨b, off + j * 5, none⟩ = some (.int .i64 x.1) ∧ w.cell? ⟨b, off + j * 5 + 1, none⟩ = some (.int .i64 x.2.1) ∧ w.cell? ⟨b, off + j * 5 + 2, none⟩ = some (.int .i64 x.2.2.1) ∧ w.cell? ⟨b, off + j * 5 + 3, none⟩ = some (.int .i64 x.2.2.2.1) ∧ w.cell? ⟨b, off + j * 5 + 4, none⟩ = some (.int .i64 x.2.2.2.2)
theorem PkIn.keep {K : Nat → Prop} {w w' : World} {sv : Value} {P : List Pk} (h : PkIn K w sv P) (k : KeepK K w w') : PkIn K w' sv P := by
  obtain ⟨ao, c, e, h⟩ := h
  refine ⟨ao, c, e, fun j x hx => ?_⟩
  obtain ⟨b, off, e1, hb, c0, c1, c2, c3, c4⟩ := h j x hx
  have q := fun i => cell_eq (w := w) (w' := w') (p := ⟨b, i, none⟩) (k b hb)
  exact ⟨b, off, e1, hb, (q _).trans c0, (q _).trans c1, (q _).trans c2, (q _).trans c3, (q _).trans c4⟩
theorem Packs.in {K : Nat → Prop} {w : World} {sv : Value} {P : List Pk} (h : Packs w sv P) (hK : ∀ b off n c, sv = .slice (some ⟨b, off, none⟩) n c → K b) : PkIn K w sv P := by
  obtain ⟨ao, c, rfl⟩ := Src.form h
  refine ⟨ao, c, rfl, fun j x hx => ?_⟩
  obtain ⟨b, off, c', e, hb, cs⟩ := h.pack hx
  simp only [Value.slice.injEq] at e
  obtain ⟨rfl, _, rfl⟩ := e
  exact ⟨b, off, rfl, hK b off _ _ rfl, cs⟩
theorem keepK_lt {K : Nat → Prop} {A B : World} (h : KeepK K A B) {k : Nat} (hk : K k) (hl : k < A.heap.size) : k < B.heap.size := by
  have := h k hk
  rw [Array.getElem?_eq_getElem hl] at this
  exact (Array.getElem?_eq_some_iff.1 this).1
theorem keepK_alloc {K : Nat → Prop} {A B : World} (h : KeepK K A B) (hK : ∀ k, K k → k < A.heap.size) (o : Obj) : KeepK K A (B.alloc o) := fun k hk => (heap_alloc_old B o (keepK_lt h hk (hK k hk))).trans (h k hk)
set_option maxRecDepth 100000 in
set_option maxHeartbeats 4000000 in
theorem vals_stops (n : Nat) (hn : 1 ≤ n) (K : Nat → Prop) (bs : Nat) (sv : Value) (P : List Pk) (hP : P.length * 40 ≤ 140737488351232) (w0 : World) (hKl : ∀ k, K k → k < w0.heap.size) (hbs : Bk w0 bs 23 #[sv]) (hKb : K bs) (hp : PkIn K w0 sv P) :
    SeqStopsK Fence.wide n Tryz.prog 33 #[.pointer (some ⟨bs, 0, none⟩)] (fun x => #[pkv x]) (KeepK K) (fun xs => xs = P) (fun pre => pre <+: P) P.length w0 := fun l J Jx W hW hJ hJx hY h0 => by
  have k0 : KeepK K w0 W := fun k hk => hW.block k (hKl k hk)
  have hKW := Lib.hid (show ∀ k, K k → k < W.heap.size from fun k hk => Nat.lt_of_lt_of_le (hKl k hk) hW.size)
  have d : Bk W bs 23 #[sv] := hbs.keep k0 hKb
  obtain ⟨ao, ac, rfl, hcs⟩ := hp.keep k0
  have dc : W.cell? ⟨bs, 0, none⟩ = some (.slice ao P.length ac) := d.cell 0
  have hp' := Lib.hid (show PkIn K W (.slice ao P.length ac) P from ⟨ao, ac, rfl, hcs⟩)
  have HY := Lib.hid hY
  have HJ := Lib.hid hJ
  have hPl : P.length ≤ 3518437208783 := by omega
  clear hY hbs hJ hJx hW k0 hp hcs d hP hKl
  refine callsIn_of_wp Tryz.func33 rfl trivial ?_ rfl
  simp only [Tryz.ntmps33, List.size_toArray, List.length_cons, List.length_nil, Nat.reduceAdd, Nat.reduceSub, Array.replicate_succ, Array.replicate_zero, List.push_toArray, List.append_toArray, List.nil_append, List.cons_append]
  gi_wp2
  gi_loopw [7] (fun iv wr => ∃ i : Nat, iv = .int .i64 i ∧ i ≤ P.length ∧ J (P.take i) wr ∧ KeepK K W wr) (fun iv _ => P.length - (intOf iv).toNat)
  case atStart => exact ⟨0, rfl, Nat.zero_le _, h0, fun _ _ => rfl⟩
  case round =>
    clear h0 dc
    obtain ⟨i, rfl, hi, hJi, hk⟩ := hrel
    by_cases hlt : i < P.length
    · have e1 : decide ((i : Int) < (P.length : Int)) = true := by rw [decide_eq_true_eq]; omega
      have hii : (i : Int) < (P.length : Int) := by omega
      obtain ⟨x, hx⟩ : ∃ x, P[i]? = some x := ⟨P[i], List.getElem?_eq_getElem hlt⟩
      obtain ⟨ao', ac', he, hc⟩ := hp'.out.keep hk
      simp only [Value.slice.injEq, true_and] at he
      obtain ⟨rfl, rfl⟩ := he
      obtain ⟨b, off, rfl, hb, c0, c1, c2, c3, c4⟩ := hc i x hx
      have htk : P.take i ++ [x] = P.take (i + 1) := by
        obtain ⟨h1, h2⟩ := List.getElem?_eq_some_iff.1 hx
        rw [← h2, List.take_succ_eq_append_getElem h1]
      obtain ⟨fn, tmps, assign, body, hy, hR⟩ := HY.out (P.take i) x (wr.alloc (.cells #[.int .i64 x.1, .int .i64 x.2.1, .int .i64 x.2.2.1, .int .i64 x.2.2.2.1, .int .i64 x.2.2.2.2] 42)) (HJ.out _ _ _ none hJi (World.grownBy_alloc _ _ none) (fun r e => by cases e)) (by rw [List.length_take]; omega)
      rw [htk] at hR
      have hk1 := Lib.hid (keepK_alloc hk hKW.out (.cells #[.int .i64 x.1, .int .i64 x.2.1, .int .i64 x.2.2.1, .int .i64 x.2.2.2.1, .int .i64 x.2.2.2.2] 42))
      obtain ⟨x0, x1, x2, x3, x4⟩ := x
      unfold pkv at hy
      dsimp only at hy hR c0 c1 c2 c3 c4 hk1
      clear hJi hc hx htk hk
      gi_wp2
      refine hR.mono ?_
      rintro e W3 (⟨rfl, hJ3, hk3⟩ | ⟨rfl, hJx3⟩)
      · have hk4 := Lib.hid (keepK_t hk1.out hk3)
        clear hk3 hy hR c0 c1 c2 c3 c4
        gi_wp2
        go_roundw
        case rel => exact ⟨i + 1, by go_num, by omega, hJ3, hk4.out⟩
        case measure => simp [intOf]; omega
      · clear hy hR c0 c1 c2 c3 c4
        gi_wp2
        refine bodyPost_ret (results_none rfl _ _ _) rfl ?_
        exact ⟨⟨_, rfl⟩, .inr ⟨_, List.take_prefix _ _, hJx3⟩⟩
    · have e1 : decide ((i : Int) < (P.length : Int)) = false := by rw [decide_eq_false_iff_not]; omega
      have hin : i = P.length := by omega
      rw [hin, List.take_length] at hJi
      gi_wp2
      go_end0
      exact ⟨⟨_, rfl⟩, .inl ⟨_, rfl, hJi⟩⟩
section
set_option maxHeartbeats 4000000
set_option maxRecDepth 100000
theorem values_of (ao : Option Addr) (n c : Nat) (w : World) : Calls Tryz.prog 22 #[.slice ao n c] w fun e w' =>
    e = .returned (.func (.func 33) #[] #[.pointer (some ⟨w.heap.size, 0, none⟩)]) ∧ w' = w.alloc (.cells #[.slice ao n c] 23) := by
  go_enter Tryz.func22, Tryz.ntmps22
  go_wp2_with fail
  go_ret
  exact ⟨rfl, rfl⟩
theorem spacks_any (v pv : Value) (F : List Fc) (P : List Pk) (s : Int) (w : World) (hP : Facts w v F) (hQ : Packs w pv P) (hs2 : P.length * 40 ≤ 140737488351232) :
    Calls Tryz.prog 12 #[.agg #[v, pv], .int .i64 s] w fun e w' => (∃ bs ao c, e = .returned (.func (.func 33) #[] #[.pointer (some ⟨bs, 0, none⟩)]) ∧ w.heap.size ≤ bs ∧ Bk w' bs 23 #[.slice ao (ofSpot P s).length c] ∧ (∀ b off, ao = some ⟨b, off, none⟩ → w.heap.size ≤ b ∧ b < w'.heap.size) ∧ Packs w' (.slice ao (ofSpot P s).length c) (ofSpot P s)) ∧ Far (fun _ => False) w w' := by
  obtain ⟨h, hh⟩ : ∃ h, h = w.heap.size := ⟨_, rfl⟩
  obtain ⟨ao, ac, rfl⟩ := Src.form hP
  obtain ⟨bo, bc, rfl⟩ := Src.form hQ
  obtain ⟨W, hW⟩ : ∃ W, W = w.alloc (.cells #[.slice ao F.length ac, .slice bo P.length bc] 25) := ⟨_, rfl⟩
  have hA : Bk W h 25 #[.slice ao F.length ac, .slice bo P.length bc] := hW ▸ Bk.new hh
  have hF : Far (fun _ => False) w W := hW ▸ (Far.refl _ w).alloc _
  obtain ⟨pi, pz, pi1, pi2, pi3, pi4, pi5⟩ := info3 info_pack
  have hQ1 := Lib.hid (hQ.move hF)
  have a1 : W.cell? ⟨h, 1, none⟩ = some (.slice bo P.length bc) := hA.cell 1
  have hs3 : P.length ≤ 3518437208783 := by omega
  have hh' := Lib.hid hh
  have hW' := Lib.hid hW
  have hF' := Lib.hid hF
  clear hP hQ hh hW hA hF hs2
  go_enter Tryz.func12, Tryz.ntmps12
  go_upto_region 1 with fail
  rw [← hh'.out, ← hW'.out]
  go_wp2_with fail
  clear a1
  go_loopw [5, 11] (fun ov iv wr => ∃ (i : Nat) (oo : Option Addr) (oc : Nat) (D : List Pk), ov = .slice oo D.length oc ∧ iv = .int .i64 i ∧ i ≤ P.length ∧ D = ofSpot (P.take i) s ∧ wr.ownsRow W.heap.size 42 5 (.slice oo D.length oc) D.length (pcells D) ∧ Far (fun _ => False) W wr) (fun _ iv _ => P.length - (intOf iv).toNat)
  case atStart => exact ⟨0, none, 0, [], rfl, rfl, Nat.zero_le _, rfl, World.ownsRow_nil _ _ _ _, Far.refl _ _⟩
  case round =>
    obtain ⟨i, oo, oc, D, rfl, rfl, hi, hD, hown, hfw⟩ := hrel
    have hDl : D.length ≤ P.length := by
      rw [hD]
      have := ofSpot_len (P.take i) s
      rw [List.length_take] at this
      omega
    by_cases hlt : i < P.length
    · have e1 : decide ((i : Int) < (P.length : Int)) = true := by rw [decide_eq_true_eq]; omega
      have hii : (i : Int) < (P.length : Int) := by omega
      obtain ⟨p, hp⟩ : ∃ p, P[i]? = some p := ⟨P[i], List.getElem?_eq_getElem hlt⟩
      obtain ⟨b, off, c, he, hbl, c0, c1, c2, c3, c4⟩ := (hQ1.out.move hfw).pack hp
      simp only [Value.slice.injEq] at he
      obtain ⟨rfl, _, rfl⟩ := he
      have hsu := ofSpot_succ hp s
      rw [← hD] at hsu
      obtain ⟨q0, q1, q2, q3, q4⟩ := p
      dsimp only at c0 c1 c2 c3 c4 hsu
      obtain ⟨k1, hk1⟩ : ∃ k, k = wr.heap.size := ⟨_, rfl⟩
      obtain ⟨w1, hw1⟩ : ∃ w1, w1 = wr.alloc (.cells #[.int .i64 q0, .int .i64 q1, .int .i64 q2, .int .i64 q3, .int .i64 q4] 42) := ⟨_, rfl⟩
      have hB1 : Bk w1 k1 42 #[.int .i64 q0, .int .i64 q1, .int .i64 q2, .int .i64 q3, .int .i64 q4] := hw1 ▸ Bk.new hk1
      have hf1 : Far (fun _ => False) W w1 := hw1 ▸ hfw.alloc _
      have hown1 : w1.ownsRow W.heap.size 42 5 (.slice oo D.length oc) D.length (pcells D) := hw1 ▸ hown.alloc _
      have g0 : w1.cell? ⟨k1, 0, none⟩ = some (.int .i64 q0) := hB1.cell 0
      have g1 : w1.cell? ⟨k1, 1, none⟩ = some (.int .i64 q1) := hB1.cell 1
      have g2 : w1.cell? ⟨k1, 2, none⟩ = some (.int .i64 q2) := hB1.cell 2
      have g3 : w1.cell? ⟨k1, 3, none⟩ = some (.int .i64 q3) := hB1.cell 3
      have g4 : w1.cell? ⟨k1, 4, none⟩ = some (.int .i64 q4) := hB1.cell 4
      have hk1' := Lib.hid hk1
      have hw1' := Lib.hid hw1
      have hown' := Lib.hid hown1
      have hfw' := Lib.hid hf1
      clear hk1 hw1 hown hown1 hf1 hB1 hfw
      cases hq : q0 == s with
      | true =>
        have hsu' := Lib.hid (show D ++ [(q0, q1, q2, q3, q4)] = ofSpot (P.take (i + 1)) s by rw [hsu, hq]; rfl)
        have A1 := Lib.hid (hown'.out.alloc (.cells #[.int .i64 q0, .int .i64 q1, .int .i64 q2, .int .i64 q3, .int .i64 q4] 42))
        have A2 := Lib.hid (World.news_of_block (w := w1.alloc (.cells #[.int .i64 q0, .int .i64 q1, .int .i64 q2, .int .i64 q3, .int .i64 q4] 42)) (cs := #[.int .i64 q0, .int .i64 q1, .int .i64 q2, .int .i64 q3, .int .i64 q4]) (t := 42) (fr := (0, 0)) (heap_alloc_new w1 _))
        have A3 : ∀ u ∈ [Value.int .i64 q0, .int .i64 q1, .int .i64 q2, .int .i64 q3, .int .i64 q4], u.oneCell' = true := by simp [Value.oneCell']
        have A4 : D.length + 1 ≤ maxLen := by unfold maxLen; omega
        have A5 : (D.length + 1) * 40 ≤ 140737488355328 := by omega
        have A6 : W.heap.size ≤ (w1.alloc (.cells #[.int .i64 q0, .int .i64 q1, .int .i64 q2, .int .i64 q3, .int .i64 q4] 42)).heap.size := by have := hfw'.out.size; simp; omega
        clear hsu hp hD
        go_upto_region 5 with fail
        rw [← hk1'.out, ← hw1'.out]
        clear c0 c1 c2 c3 c4
        go_upto_region 7 with (at_builtin; refine wpList_append_lies _ rfl _ _ 23 rfl W.heap.size 42 pi _ 5 40 Tryz.underlying23 pi1 pi2 pi3 pi4 pi5 (by decide) (.slice oo D.length oc) D.length _ rfl A1.out ⟨w1.heap.size, 0, none⟩ 1 1 _ rfl rfl A2.out A3 (by decide) A4 A5 A6 _ rfl ?_; intro fg fcap w7 ho7 hg7 hat7 hl7)
        have hR7 : Far (fun k => (Value.slice oo D.length oc).ownBlock = some k) w1 w7 := ((Far.refl _ w1).alloc _).grown hg7 fun k _ e => e
        have hW7 := Lib.hid (hfw'.out.trans hR7 fun k hk e => by have := (hown'.out.lt k e).1; omega)
        have hP7 := Lib.hid (show w7.ownsRow W.heap.size 42 5 (.slice (some ⟨fg, 0, none⟩) (D ++ [(q0, q1, q2, q3, q4)]).length fcap) (D ++ [(q0, q1, q2, q3, q4)]).length (pcells (D ++ [(q0, q1, q2, q3, q4)])) by rw [List.length_append]; unfold pcells; rw [List.flatMap_append]; exact ho7)
        clear hR7 ho7 hg7 hat7 A1 A2 A3 A4 A5 A6 hq g0 g1 g2 g3 g4
        go_wp2_with fail
        go_roundw
        case rel => exact ⟨i + 1, some ⟨fg, 0, none⟩, fcap, D ++ [(q0, q1, q2, q3, q4)], by simp, by go_num, by omega, hsu'.out, hP7.out, hW7.out⟩
        case measure => simp [intOf]; omega
      | false =>
        have hsu' := Lib.hid (show D = ofSpot (P.take (i + 1)) s by rw [hsu, hq]; exact (List.append_nil _).symm)
        clear hsu hp hD
        go_upto_region 5 with fail
        rw [← hk1'.out, ← hw1'.out]
        clear c0 c1 c2 c3 c4
        go_wp2_with fail
        go_roundw
        case rel => exact ⟨i + 1, oo, oc, D, rfl, by go_num, by omega, hsu'.out, hown'.out, hfw'.out⟩
        case measure => simp [intOf]; omega
    · have e1 : decide ((i : Int) < (P.length : Int)) = false := by rw [decide_eq_false_iff_not]; omega
      have hin : i = P.length := by omega
      rw [hin, List.take_length] at hD
      subst hD
      have hown' := Lib.hid hown
      have hfw' := Lib.hid hfw
      clear hown hfw
      go_wp2_with fail
      refine (values_of _ _ _ _).mono ?_
      rintro e w8 ⟨rfl, rfl⟩
      have hPk : Packs wr (.slice oo (ofSpot P s).length oc) (ofSpot P s) := Src.own hown'.out
      have hlt8 := Lib.hid (show ∀ b off, oo = some ⟨b, off, none⟩ → W.heap.size ≤ b ∧ b < wr.heap.size from fun b off e => by subst e; exact hown'.out.lt b rfl)
      have hPk' := Lib.hid (hPk.move (alloc_far0 wr (.cells #[.slice oo (ofSpot P s).length oc] 23)))
      clear hPk
      go_wp2_with fail
      go_ret
      refine ⟨⟨wr.heap.size, oo, oc, rfl, (hF'.out.then hfw'.out).size, Bk.new rfl, fun b off e => ?_, hPk'.out⟩, (hF'.out.then hfw'.out).alloc _⟩
      have h1 := hlt8.out b off e
      have h2 := hF'.out.size
      simp
      omega
end
end Go.Proofs.YteoglnbmmgoibaaGreatDoor
