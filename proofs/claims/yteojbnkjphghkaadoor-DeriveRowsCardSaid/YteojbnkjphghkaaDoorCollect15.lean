/-
  slices.Collect of the places.
-/
import Derived.Test.YteojbnkjphghkaaDoorAllSeqB15
import Derived.Test.YteojbnkjphghkaaDoorRows13
import Derived.Maps.OwnIn
namespace Go.Proofs.YteojbnkjphghkaaDoor
open Go.RowKit Go.Shelf
set_option linter.unusedVariables false
set_option linter.unusedSimpArgs false
/-- Numbers as cells. -/
def ncells (l : List Nat) : List Value := l.map fun (x : Nat) => .int .i64 (x : Int)
theorem info_int1 : ∃ i, Tryd.prog.info? 3 = some i ∧ i.zero = some (.int .i64 0) ∧ i.size = 1 ∧ i.bytes = 8 := by
  have : (Tryd.prog.info? 3).map (fun i => (i.zero, i.size, i.bytes)) = some (some (.int .i64 0), 1, 8) := by kernel_rfl
  obtain ⟨i, hi, h0, h1, h2⟩ := info_parts this
  exact ⟨i, hi, h0, h1, h2⟩
section
set_option maxHeartbeats 4000000
set_option maxRecDepth 100000
attribute [local go_sem] Oper.semAt_some
theorem appendseq_any (h : Nat) (p : Nat × Nat) (hp : Wd p) (w : World) (hX : Bk w h 79 #[.int .u64 (p.1 : Int), .int .u64 (p.2 : Int)]) (hT : Tab w) :
    Calls Tryd.prog 50 #[.slice none 0 0, .func (.func 51) #[] #[.pointer (some ⟨h, 0, none⟩)]] w fun e w' => ∃ v xs, e = .returned v ∧ Upto p.1 p.2 128 xs ∧ Src w' 1 v xs.length (ncells xs) ∧ Far (fun _ => False) w w' := by
  obtain ⟨kS, hkS⟩ : ∃ k, k = w.heap.size := ⟨_, rfl⟩
  obtain ⟨W, hW⟩ : ∃ W, W = w.alloc (.cells #[.slice none 0 0] 25) := ⟨_, rfl⟩
  have hF : Far (fun _ => False) w W := hW ▸ afar _ _
  have hS : Bk W kS 25 #[.slice none 0 0] := hW ▸ Bk.new hkS
  have hXW := hX.far' hF id
  have hTW : Tab W := hT.stays (hF.below (Nat.le_refl _) fun _ _ h => h)
  have zW : W.heap.size = kS + 1 := by rw [hW]; simp [hkS]
  have hkS' := Lib.hid (show w.heap.size = kS by omega)
  have hW' := Lib.hid hW
  have hF' := Lib.hid hF
  have hz' := Lib.hid zW
  have hTl := Lib.hid (show 0 < kS by rw [hkS]; exact hT.lt)
  clear hkS hW hX hT hF zW
  refine (callsIn_wide (n := 10)).1 (callsIn_of_wp_marks Tryd.func50 rfl trivial (wpIn_wide.2 ?_) rfl)
  simp only [Tryd.ntmps50, List.size_toArray, List.length_cons, List.length_nil, Nat.reduceAdd, Nat.reduceSub, Array.replicate_succ, Array.replicate_zero, List.push_toArray, List.append_toArray, List.nil_append, List.cons_append]
  go_upto_region 1 with fail
  rw [hkS'.out, ← hW'.out]
  go_wp2_with fail
  refine range_plB (q := 5) h p hp hXW hTW rfl
    (fun pre A => ∃ oo oc, Bk A kS 25 #[.slice oo pre.length oc] ∧ A.ownsRow (kS + 1) 3 1 (.slice oo pre.length oc) pre.length (ncells pre) ∧ Far (fun k => k = kS) W A)
    ?own ⟨none, 0, hS, World.ownsRow_nil _ _ _ _, Far.refl _ _⟩ ?assign ?body ?done
  case own =>
    rintro pre A C row ⟨oo, oc, h1, h2, h3⟩ hg hr
    refine ⟨oo, oc, bk_other h1 (grown_F hg) (fun k e => (hr k e).2), row_far h2 (grown_F hg) fun k hk e => ?_, h3.trans (grown_F hg) fun k hk e => absurd (hr k e).1 (by omega)⟩
    obtain ⟨_, cs, hb⟩ := own_type h2 hk
    obtain ⟨o, ho, hc⟩ := (hr k e).2
    rw [show A.heap[k]? = _ from hb] at ho
    cases ho
    cases hc
  case assign =>
    intro Lq t V KK hKK
    simp only [List.setIfInBounds_toArray, List.set_cons_zero, List.set_cons_succ] at hKK ⊢
    gi_wp2
    exact hKK
  case body =>
    rintro Lq pre t V hLq ⟨oo, oc, h1, h2, h3⟩ hm h128 hpl
    simp only [List.setIfInBounds_toArray, List.set_cons_zero, List.set_cons_succ]
    obtain ⟨pi, pi1, pz, pi4, pi5⟩ := info_int1
    have e0 : V.cell? ⟨kS, 0, none⟩ = some (.slice oo pre.length oc) := h1.cell 0
    have A7 : 0 < 1 := by decide
    have C1 := Lib.hid (World.ownsRow.alloc h2 (.cells #[.int .i64 (t : Int)] 3))
    have C7 := Lib.hid (World.news_of_block (w := V.alloc (.cells #[.int .i64 (t : Int)] 3)) (cs := #[.int .i64 (t : Int)]) (t := 3) (fr := (0, 0)) (heap_alloc_new V _))
    have C3 := Lib.hid (show ∀ u ∈ [(.int .i64 (t : Int) : Value)], u.oneCell' = true by simp [Value.oneCell'])
    have C4 : pre.length + 1 ≤ maxLen := by unfold maxLen; omega
    have C5 : (pre.length + 1) * 8 ≤ 140737488355328 := by omega
    have C6 : kS + 1 ≤ (V.alloc (.cells #[.int .i64 (t : Int)] 3)).heap.size := by have := h3.size; have := hz'.out; simp; omega
    have H1 := Lib.hid h1
    have H2 := Lib.hid h2
    have H3 := Lib.hid h3
    have h3z := Lib.hid (show kS + 1 ≤ V.heap.size by have := h3.size; have := hz'.out; omega)
    clear h1 h2 h3 hm
    gi_wp2_with (gi_at_builtin; go_loud (refine wpListIn_append_own_at _ rfl _ _ 25 rfl (kS + 1) 3 pi (.int .i64 0) 1 8 Tryd.underlying25 pi1 pz pi4 pi5 rfl A7 (.slice oo pre.length oc) pre.length _ rfl C1.out ⟨V.heap.size, 0, none⟩ 1 1 [.int .i64 (t : Int)] rfl rfl C7.out C3.out C4 C5 C6 ?_); intro v2 w5 ho5 hg5 _ hat; obtain ⟨bo2, bc2, rfl⟩ := Src.form (Src.own ho5); have ho5' := Lib.hid ho5; have hat' := Lib.hid hat; have hg5' := Lib.hid hg5; have hM5 := Lib.hid (Bk.grown (w := V.alloc (.cells #[.int .i64 (t : Int)] 3)) (Bk.alloc H1.out _) hg5 (fun e => own_ne H2.out H1.out (by decide) e)); have g1 : w5.cell? ⟨kS, 0, none⟩ = some (.slice oo pre.length oc) := hM5.out.cell 0; have g2 : w5.frozen? ⟨kS, 0, none⟩ = false := hM5.out.free 0; clear ho5 hg5 hat)
    obtain ⟨V2, hV2⟩ : ∃ V2, V2 = w5.setCell ⟨kS, 0, none⟩ (.slice bo2 (pre.length + 1) bc2) := ⟨_, rfl⟩
    rw [← hV2]
    have hown := fun q (e : (Value.slice oo pre.length oc).ownBlock = some q) => own_type H2.out e
    have fa : Far (fun k => k = kS ∨ (Value.slice oo pre.length oc).ownBlock = some k) V V2 := hV2 ▸ ((((afar V _).mono (G := fun k => k = kS ∨ (Value.slice oo pre.length oc).ownBlock = some k) fun _ _ q => q.elim).trans ((grown_F hg5'.out).mono (G := fun k => k = kS ∨ (Value.slice oo pre.length oc).ownBlock = some k) fun _ _ q => .inr q) fun _ _ q => q).set ⟨kS, 0, none⟩ (.slice bo2 (pre.length + 1) bc2) fun _ => .inl rfl)
    have hc : ∀ k, (k = kS ∨ (Value.slice oo pre.length oc).ownBlock = some k) → ∃ t cs, Bk V k t cs := fun k hk => by
      rcases hk with rfl | e
      · exact ⟨_, _, H1.out⟩
      · obtain ⟨_, cs, hb⟩ := hown k e
        exact ⟨_, _, hb⟩
    have hS9 : Far (fun k => k = kS) w5 V2 := hV2 ▸ (Far.refl (fun k => k = kS) w5).set ⟨kS, 0, none⟩ _ fun _ => rfl
    have hn9 : pre.length + 1 = (pre ++ [t]).length := by rw [List.length_append]; rfl
    have hc9 : ncells pre ++ [Value.int .i64 (t : Int)] = ncells (pre ++ [t]) := by simp [ncells]
    have hM6 : Bk V2 kS 25 #[.slice bo2 (pre.length + 1) bc2] := hV2 ▸ hM5.out.set 0 _
    have hO6 : V2.ownsRow (kS + 1) 3 1 (.slice bo2 (pre.length + 1) bc2) (pre.length + 1) (ncells pre ++ [Value.int .i64 (t : Int)]) := row_far ho5'.out hS9 fun k hk e => by
      have := (own_type ho5'.out hk).1
      omega
    rw [hc9] at hO6
    rw [hn9] at hM6 hO6
    have hnd : ∀ k o, V.heap[k]? = some o → o.isCells = false → ¬ (k = kS ∨ (Value.slice oo pre.length oc).ownBlock = some k) := fun k o ho hcc hk => by
      obtain ⟨_, _, hb⟩ := hc k hk
      rw [show V.heap[k]? = _ from hb] at ho
      cases ho
      cases hcc
    refine ⟨⟨fa.size, fun k o hk ho hcc => (fa.block k (Array.getElem?_eq_some_iff.1 ho).1 (hnd k o ho hcc)).trans ho⟩, ⟨fun k hk => ?_, fa.size⟩, bo2, bc2, hM6, hO6, H3.out.trans fa fun k hk e => ?_⟩
    · rw [show k = _ from hk]
      refine fa.block _ (by have := hTl.out; have := h3z.out; omega) fun e => ?_
      rcases e with e | e
      · have := hTl.out; omega
      · have := (hown _ e).1; have := hTl.out; omega
    · rcases e with e | e
      · exact e
      · have := (hown k e).1
        have := hz'.out
        omega
  case done =>
    rintro Dd xs V hDd hU ⟨oo, oc, h1, h2, h3⟩ hKD
    have hmk := Lib.hid (Marks.cons (Marks.nil W W.heap.size) (Marks.nil V W.heap.size) hDd hDd hKD)
    have e0 : V.cell? ⟨kS, 0, none⟩ = some (.slice oo xs.length oc) := h1.cell 0
    have H2 := Lib.hid h2
    have H3 := Lib.hid h3
    have HU := Lib.hid hU
    clear h1 h2 h3 hU
    go_wp2_with fail
    refine leave_marks hmk.out fun W' hfW => ?_
    have hrow := row_far H2.out hfW fun k hk e => by
      obtain ⟨_, cs, hb⟩ := own_type H2.out hk
      have := e.2
      rw [show V.heap[k]? = _ from hb] at this
      cases this
    refine ⟨.slice oo xs.length oc, by simp [results, Tryd.f50, go_sem], _, xs, rfl, HU.out, Src.own hrow, (hF'.out.out H3.out fun k hk e => by have := hkS'.out; omega).out hfW fun k hk e => by have := e.1; have := hz'.out; have := hkS'.out; omega⟩
theorem collect_any (h : Nat) (p : Nat × Nat) (hp : Wd p) (w : World) (hX : Bk w h 79 #[.int .u64 (p.1 : Int), .int .u64 (p.2 : Int)]) (hT : Tab w) :
    Calls Tryd.prog 33 #[.func (.func 51) #[] #[.pointer (some ⟨h, 0, none⟩)]] w fun e w' => ∃ v xs, e = .returned v ∧ Upto p.1 p.2 128 xs ∧ Src w' 1 v xs.length (ncells xs) ∧ Far (fun _ => False) w w' := by
  have AP := appendseq_any h p hp w hX hT
  clear hX hT hp
  go_enter Tryd.func33, Tryd.ntmps33
  go_wp2_with fail
  refine AP.mono ?_
  rintro e w2 ⟨v, xs, rfl, hU, hs, hf⟩
  have hU' := Lib.hid hU
  have hs' := Lib.hid hs
  have hf' := Lib.hid hf
  clear AP hU hs hf
  go_wp2_with fail
  go_ret
  exact ⟨v, xs, rfl, hU'.out, hs'.out, hf'.out⟩
end
end Go.Proofs.YteojbnkjphghkaaDoor
