/-
  cfg.Sort: what it answers.
-/
import Derived.Test.YtjkfieilaahejaaRemadeC
import Derived.Test.YtjkfieilaahejaaCompactW
import Derived.Shelf.SlSortCmp.NoneTotal
namespace Go.Proofs.Ytjkfieilaahejaa
open Go.RowKit Go.Sort Go.Shelf
set_option linter.unusedVariables false
set_option linter.unusedSimpArgs false
/-- The list in its order: what the library leaves. -/
def SortOf (T T' : List Tr) : Prop := T'.Perm T ∧ T'.Pairwise (fun x y => ordP (pl x) (pl y) ≤ 0)
theorem sort_all (B : Nat) (pv : Value) (T : List Tr) (w : World) (hP : OwnP w B pv T) (hs : T.length ≤ 4398046510976) (hs2 : ∀ t ∈ T, t.2.2.length ≤ maxLen) :
    Calls Try.prog 46 #[pv, .func (.func 47) #[] #[]] w fun e w' => e = .returned (.tuple #[]) ∧ ∃ T', SortOf T T' ∧ OwnP w' B pv T' ∧ Far (fun k => pv.ownBlock = some k) w w' := by
  by_cases h0 : T = []
  · subst h0
    obtain ⟨ao, c, rfl⟩ := Src.form (Src.own hP.1)
    have hS := AnyF.slices_SortFunc_none (P := Try.prog) { Try.sortP with } ao c (.func (.func 47) #[] #[]) w
    refine Calls.mono hS ?_
    rintro e w' ⟨rfl, rfl⟩
    exact ⟨rfl, [], ⟨List.Perm.refl _, List.Pairwise.nil⟩, hP, Far.refl _ _⟩
  · refine (sort_any B pv T w hP hs hs2 h0).mono ?_
    rintro e w' ⟨he, T', h1, h2, h3, h4⟩
    exact ⟨he, T', ⟨h1, h2⟩, h3, h4⟩
section
set_option maxHeartbeats 4000000
set_option maxRecDepth 100000
theorem csort_any (S : Int) (pv : Value) (T : List Tr) (w : World) (hP : Prods w pv T) (hs : T.length * 32 ≤ 140737488351232) (hs2 : ∀ t ∈ T, t.2.2.length * 16 ≤ 140737488351232) :
    Calls Try.prog 23 #[.agg #[.int .i64 S, pv]] w fun e w' => ((¬ CnfOK S T ∧ e = .returned noCnf) ∨ (CnfOK S T ∧ ∃ pv' T1 T2, e = .returned (.tuple #[.agg #[.int .i64 S, pv'], .int .i64 0]) ∧ T1.map pl = T.map pl ∧ SortOf T1 T2 ∧ PO w' pv' (dd T2 T2.length))) ∧ Far (fun _ => False) w w' := by
  obtain ⟨h, hh⟩ : ∃ h, h = w.heap.size := ⟨_, rfl⟩
  obtain ⟨kR, hkR⟩ : ∃ k, k = h + 1 := ⟨_, rfl⟩
  obtain ⟨ao, pc, rfl⟩ := Src.form hP.1
  obtain ⟨w0, hw0⟩ : ∃ w0, w0 = w.alloc (.cells #[.int .i64 S, .slice ao T.length pc] 24) := ⟨_, rfl⟩
  obtain ⟨w1, hw1⟩ : ∃ w1, w1 = w0.alloc (.cells #[.int .i64 0, .slice none 0 0] 24) := ⟨_, rfl⟩
  have hz0 : w0.heap.size = kR := by rw [hw0]; simp [hkR, hh]
  have hA : Bk w1 h 24 #[.int .i64 S, .slice ao T.length pc] := hw1 ▸ ((hw0 ▸ Bk.new hh : Bk w0 h 24 #[.int .i64 S, .slice ao T.length pc]).alloc _)
  have hR : Bk w1 kR 24 #[.int .i64 0, .slice none 0 0] := hw1 ▸ Bk.new hz0.symm
  have hF : Far (fun _ => False) w w1 := hw1 ▸ (hw0 ▸ (Far.refl _ w).alloc _ : Far (fun _ => False) w w0).alloc _
  have a0 : w1.cell? ⟨h, 0, none⟩ = some (.int .i64 S) := hA.cell 0
  have a1 : w1.cell? ⟨h, 1, none⟩ = some (.slice ao T.length pc) := hA.cell 1
  have hm1 : T.length ≤ maxLen := by unfold maxLen; omega
  have hm2 : ∀ t ∈ T, t.2.2.length ≤ maxLen := fun t ht => by have := hs2 t ht; unfold maxLen; omega
  have CK := check_any S (.slice ao T.length pc) T w1 (hP.move hF) hm1 hm2
  have RM := Lib.hid (fun w' (hf : Far (fun _ => False) w1 w') => remade_copy S (.slice ao T.length pc) T w' ((hP.move hF).move hf) hs hs2)
  have hmm := Lib.hid (show ∀ T' : List Tr, T'.map pl = T.map pl → T'.length ≤ 4398046510976 ∧ ∀ t ∈ T', t.2.2.length ≤ maxLen from fun T' h => ⟨by have := congrArg List.length h; simp only [List.length_map] at this; omega, fun t ht => by
    have : pl t ∈ T.map pl := by rw [← h]; exact List.mem_map_of_mem ht
    obtain ⟨u, hu, e⟩ := List.mem_map.1 this
    have h2 : u.2.2 = t.2.2 := show (pl u).2 = (pl t).2 by rw [e]
    rw [← h2]; exact hm2 u hu⟩)
  have hh' := Lib.hid hh
  have hkR' := Lib.hid hkR
  have hw0' := Lib.hid hw0
  have hw1' := Lib.hid hw1
  have hz0' := Lib.hid hz0
  have hA' := Lib.hid hA
  have hR' := Lib.hid hR
  have hF' := Lib.hid hF
  clear hP hs hs2 hh hkR hw0 hw1 hz0 hA hR hF hm1 hm2
  go_enter Try.func23, Try.ntmps23
  go_upto_region 1 with fail
  rw [← hh'.out, ← hkR'.out, ← hw0'.out, ← hw1'.out]
  go_wp2_with fail
  refine CK.mono ?_
  rintro e w2 ⟨rfl, hf2⟩
  have hf2' := Lib.hid hf2
  by_cases hok : CnfOK S T
  · have hok' := Lib.hid hok
    rw [pcode_yes hok]
    have R2 := RM.out w2 hf2
    have a0 : w2.cell? ⟨h, 0, none⟩ = some (.int .i64 S) := (hA'.out.far' hf2 id).cell 0
    have a1 : w2.cell? ⟨h, 1, none⟩ = some (.slice ao T.length pc) := (hA'.out.far' hf2 id).cell 1
    clear hf2 hok CK
    go_wp2_with fail
    refine R2.mono ?_
    rintro e w3 ⟨pv3, T3, rfl, ho3, hm3, hf3⟩
    obtain ⟨qo, qc, rfl⟩ := Src.form (Src.own ho3.1)
    have hszB := Lib.hid hf3.size
    have hf3' := Lib.hid (hf2'.out.then hf3)
    have ho3' := Lib.hid ho3
    have hm3' := Lib.hid hm3
    clear R2 ho3 hm3 hf3 a0 a1
    go_upto_region 5 with fail
    obtain ⟨kO, hkO⟩ : ∃ k, k = w3.heap.size := ⟨_, rfl⟩
    obtain ⟨w4, hw4⟩ : ∃ w4, w4 = w3.alloc (.cells #[.int .i64 S, .slice qo T3.length qc] 24) := ⟨_, rfl⟩
    rw [← hkO, ← hw4]
    have hO4 : Bk w4 kO 24 #[.int .i64 S, .slice qo T3.length qc] := hw4 ▸ Bk.new hkO
    have hf34 : Far (fun _ => False) w3 w4 := hw4 ▸ (Far.refl _ w3).alloc _
    have ho4 := ho3'.out.move hf34
    have hB0 : w.heap.size ≤ kR ∧ kR < w2.heap.size ∧ w2.heap.size ≤ kO := by
      have h1 := (hR'.out.far' hf2'.out id).lt
      have h2 := hf3'.out.size
      have h3 := hkR'.out
      have h4 := hh'.out
      have h5 : w2.heap.size ≤ w3.heap.size := hszB.out
      omega
    have hR4 := (hR'.out.far' hf3'.out id).far' hf34 id
    have hF4 := (hF'.out.then hf3'.out).then hf34
    obtain ⟨hl3, hb3⟩ := hmm.out T3 hm3'.out
    have SO := sort_all w2.heap.size (.slice qo T3.length qc) T3 w4 ho4 hl3 hb3
    have o1 : w4.cell? ⟨kO, 1, none⟩ = some (.slice qo T3.length qc) := hO4.cell 1
    have hO4' := Lib.hid hO4
    have ho4' := Lib.hid ho4
    have hB0' := Lib.hid hB0
    have hR4' := Lib.hid hR4
    have hF4' := Lib.hid hF4
    have hl3' := Lib.hid hl3
    have hb3' := Lib.hid hb3
    clear hO4 hf34 ho4 hB0 hR4 hF4 hl3 hb3 hkO hw4
    go_wp2_with fail
    refine SO.mono ?_
    rintro e w5 ⟨rfl, T5, hso, ho5, hf5⟩
    have hlen5 : T5.length = T3.length := hso.1.length_eq
    have hown4 := Lib.hid (fun k (hk : (Value.slice qo T3.length qc).ownBlock = some k) => (ho4'.out.1.lt k hk).1)
    have hO5 := hO4'.out.far' hf5 (fun e => own_ne ho4'.out.1 hO4'.out prod_ne_cnf e)
    have hR5 := hR4'.out.far' hf5 (fun e => own_ne ho4'.out.1 hR4'.out prod_ne_cnf e)
    have hF5 := hF4'.out.out hf5 (fun k hk e => by have := hown4.out k e; have := hB0'.out; omega)
    have CM := compact_any w2.heap.size (.slice qo T3.length qc) T5 w5 ho5 (by rw [hlen5]; exact hl3'.out) (fun t ht => hb3'.out t (hso.1.mem_iff.1 ht))
    have o1 : w5.cell? ⟨kO, 1, none⟩ = some (.slice qo T3.length qc) := hO5.cell 1
    have hO5' := Lib.hid hO5
    have ho5' := Lib.hid ho5
    have hso' := Lib.hid hso
    have hR5' := Lib.hid hR5
    have hF5' := Lib.hid hF5
    clear SO hso ho5 hf5 hlen5 hO5 hR5 hF5
    go_upto_region 6 with fail
    go_wp2_with fail
    refine CM.mono ?_
    rintro e w6 ⟨pv6, rfl, ho6, hf6⟩
    obtain ⟨uo, uc, rfl⟩ := Src.form (Src.own ho6.1)
    have hO6 := hO5'.out.far' hf6 (fun e => own_ne ho5'.out.1 hO5'.out prod_ne_cnf e)
    have hR6 := hR5'.out.far' hf6 (fun e => own_ne ho5'.out.1 hR5'.out prod_ne_cnf e)
    have hF6 := hF5'.out.out hf6 (fun k hk e => by have := (ho5'.out.1.lt k e).1; have := hB0'.out; omega)
    have f1 : w6.frozen? ⟨kO, 1, none⟩ = false := hO6.free 1
    have o1 : w6.cell? ⟨kO, 1, none⟩ = some (.slice qo T3.length qc) := hO6.cell 1
    have hO6' := Lib.hid hO6
    have ho6' := Lib.hid ho6
    have hR6' := Lib.hid hR6
    have hF6' := Lib.hid hF6
    clear CM ho6 hf6 hO6 hR6 hF6
    go_upto_region 7 with fail
    obtain ⟨w7, hw7⟩ : ∃ w7, w7 = w6.setCell ⟨kO, 1, none⟩ (.slice uo (dd T5 T5.length).length uc) := ⟨_, rfl⟩
    rw [← hw7]
    have hf67 : Far (fun k => k = kO) w6 w7 := hw7 ▸ (Far.refl (fun k => k = kO) w6).set _ _ (fun _ => rfl)
    have hO7 : Bk w7 kO 24 #[.int .i64 S, .slice uo (dd T5 T5.length).length uc] := hw7 ▸ hO6'.out.set 1 _
    have hR7 := hR6'.out.far' hf67 (fun e => by have := hB0'.out; omega)
    have ho7 := ho6'.out.far hf67 fun k e => ⟨by subst e; exact hB0'.out.2.2, _, _, e ▸ hO6'.out, prod_ne_cnf, sym_ne_cnf⟩
    have hF7 := hF6'.out.out hf67 (fun k hk e => by have := hB0'.out; omega)
    have c0 : w7.cell? ⟨kO, 0, none⟩ = some (.int .i64 S) := hO7.cell 0
    have c1 : w7.cell? ⟨kO, 1, none⟩ = some (.slice uo (dd T5 T5.length).length uc) := hO7.cell 1
    have b0 : w7.cell? ⟨kR, 0, none⟩ = some (.int .i64 0) := hR7.cell 0
    have b1 : w7.cell? ⟨kR, 1, none⟩ = some (.slice none 0 0) := hR7.cell 1
    have z0 : w7.frozen? ⟨kR, 0, none⟩ = false := hR7.free 0
    have z1 : w7.frozen? ⟨kR, 1, none⟩ = false := hR7.free 1
    have ho7' := Lib.hid ho7
    have hR7' := Lib.hid hR7
    have hF7' := Lib.hid hF7
    clear hf67 hO7 hR7 ho7 hF7 hw7 f1 o1
    go_wp2_with fail
    have hS5 := (Far.refl (fun k => k = kR) w7).set ⟨kR, 0, none⟩ (.int .i64 S) (fun _ => rfl)
    have hS6 := hS5.set ⟨kR, 1, none⟩ (.slice uo (dd T5 T5.length).length uc) (fun _ => rfl)
    have hP6 := Lib.hid (PO.cnf ⟨ho7'.out.prods, _, ho7'.out.1⟩ hR7'.out (fun x e => by cases e) hS6)
    have hB6 : Bk ((w7.setCell ⟨kR, 0, none⟩ (.int .i64 S)).setCell ⟨kR, 1, none⟩ (.slice uo (dd T5 T5.length).length uc)) kR 24 #[.int .i64 S, .slice uo (dd T5 T5.length).length uc] := (hR7'.out.set 0 (.int .i64 S)).set 1 _
    have hF6 := Lib.hid (hF7'.out.out hS6 fun k hk e => by have := hB0'.out; omega)
    clear b0 b1 z0 z1 hS5 hS6 c0 c1
    generalize ((w7.setCell ⟨kR, 0, none⟩ (.int .i64 S)).setCell ⟨kR, 1, none⟩ (.slice uo (dd T5 T5.length).length uc)) = W6 at *
    have c0 : W6.cell? ⟨kR, 0, none⟩ = some (.int .i64 S) := hB6.cell 0
    have c1 : W6.cell? ⟨kR, 1, none⟩ = some (.slice uo (dd T5 T5.length).length uc) := hB6.cell 1
    exact bodyPost_ret (v := .tuple #[.agg #[.int .i64 S, .slice uo (dd T5 T5.length).length uc], .int .i64 0]) (by simp [results, Try.f23, go_sem, c0, c1]) rfl ⟨.inr ⟨hok'.out, _, T3, T5, rfl, hm3'.out, hso'.out, hP6.out⟩, hF6.out⟩
  · have hok' := Lib.hid hok
    rw [pcode_no hok]
    have b0 : w2.cell? ⟨kR, 0, none⟩ = some (.int .i64 0) := (hR'.out.far' hf2 id).cell 0
    have b1 : w2.cell? ⟨kR, 1, none⟩ = some (.slice none 0 0) := (hR'.out.far' hf2 id).cell 1
    have z0 : w2.frozen? ⟨kR, 0, none⟩ = false := (hR'.out.far' hf2 id).free 0
    have z1 : w2.frozen? ⟨kR, 1, none⟩ = false := (hR'.out.far' hf2 id).free 1
    have hR2' := Lib.hid (hR'.out.far' hf2 id)
    clear hf2 hok CK a0 a1
    go_wp2_with fail
    have hS5 := (Far.refl (fun k => k = kR) w2).set ⟨kR, 0, none⟩ (.int .i64 0) (fun _ => rfl)
    have hS6 := hS5.set ⟨kR, 1, none⟩ (.slice none 0 0) (fun _ => rfl)
    have hB6 : Bk ((w2.setCell ⟨kR, 0, none⟩ (.int .i64 0)).setCell ⟨kR, 1, none⟩ (.slice none 0 0)) kR 24 #[.int .i64 0, .slice none 0 0] := (hR2'.out.set 0 (.int .i64 0)).set 1 _
    have hF6 := Lib.hid ((hF'.out.then hf2'.out).out hS6 fun k hk e => by have := hkR'.out; have := hh'.out; omega)
    clear b0 b1 z0 z1 hS5 hS6
    generalize ((w2.setCell ⟨kR, 0, none⟩ (.int .i64 0)).setCell ⟨kR, 1, none⟩ (.slice none 0 0)) = W6 at *
    have c0 : W6.cell? ⟨kR, 0, none⟩ = some (.int .i64 0) := hB6.cell 0
    have c1 : W6.cell? ⟨kR, 1, none⟩ = some (.slice none 0 0) := hB6.cell 1
    exact bodyPost_ret (v := noCnf) (by simp [results, Try.f23, go_sem, c0, c1, noCnf]) rfl ⟨.inl ⟨hok'.out, rfl⟩, hF6.out⟩
end
end Go.Proofs.Ytjkfieilaahejaa
