/-
  The law CommandVerbs.
-/
import Derived.Test.YtjmgheogpglpnaaDoorHead30
namespace Go.Proofs.YtjmgheogpglpnaaDoor
open Go.RowKit Go.Shelf
set_option linter.unusedVariables false
set_option linter.unusedSimpArgs false
attribute [local go_sem] Oper.semAt_some
section
set_option maxHeartbeats 2000000
set_option maxRecDepth 100000
theorem rword_at (i : Nat) (hi : i < 10) (w : World) : Calls Tryd.prog 19 #[.int .i64 ((i : Int) + 1)] w fun e w' => e = .returned (st (wordV (i + 1))) ∧ w' = w := by
  have : i = 0 ∨ i = 1 ∨ i = 2 ∨ i = 3 ∨ i = 4 ∨ i = 5 ∨ i = 6 ∨ i = 7 ∨ i = 8 ∨ i = 9 := by omega
  rcases this with rfl | rfl | rfl | rfl | rfl | rfl | rfl | rfl | rfl | rfl
  all_goals
    go_enter Tryd.func19, Tryd.ntmps19
    go_wp2_with fail
    go_ret
    exact ⟨rfl, rfl⟩
theorem verbs_law (m : Int) (w : World) : Calls Tryd.prog 6 #[.int .i64 m] w fun e w' => e = .returned (.bool true) ∧ Far (fun _ => False) w w' := by
  obtain ⟨h0, hh0⟩ : ∃ h, h = w.heap.size := ⟨_, rfl⟩
  obtain ⟨h1, hh1⟩ : ∃ h, h = h0 + 1 := ⟨_, rfl⟩
  obtain ⟨wa, hwa⟩ : ∃ W, W = w.alloc (.cells #[.int .i64 m] 3) := ⟨_, rfl⟩
  obtain ⟨wb, hwb⟩ : ∃ W, W = wa.alloc (.cells #[.bool false] 4) := ⟨_, rfl⟩
  have z0 : wa.heap.size = h1 := by rw [hwa]; simp [hh1, hh0]
  have z1 : wb.heap.size = h1 + 1 := by rw [hwb]; simp [z0]
  have hA : Bk wb h0 3 #[.int .i64 m] := hwb ▸ (hwa ▸ Bk.new hh0 : Bk wa h0 3 #[.int .i64 m]).alloc _
  have hB : Bk wb h1 4 #[.bool false] := hwb ▸ Bk.new z0.symm
  have hF : Far (fun _ => False) w wb := hwb ▸ (hwa ▸ (Far.refl _ w).alloc _ : Far (fun _ => False) w wa).alloc _
  have hh0' := Lib.hid hh0
  have hh1' := Lib.hid hh1
  have hwa' := Lib.hid hwa
  have hwb' := Lib.hid hwb
  have hA' := Lib.hid hA
  have hB' := Lib.hid hB
  have hF' := Lib.hid hF
  have z1' := Lib.hid z1
  clear hh0 hh1 hwa hwb z0 z1 hA hB hF
  refine (callsIn_wide (n := 10)).1 (callsIn_of_wp_marks Tryd.func6 rfl trivial (wpIn_wide.2 ?_) rfl)
  simp only [Tryd.ntmps6, List.size_toArray, List.length_cons, List.length_nil, Nat.reduceAdd, Nat.reduceSub, Array.replicate_succ, Array.replicate_zero, List.push_toArray, List.append_toArray, List.nil_append, List.cons_append]
  go_upto_region 1 with fail
  rw [← hh0'.out, ← hh1'.out, ← hwa'.out, ← hwb'.out]
  go_wp2_with fail
  refine (head_any _).mono ?_
  rintro e w2 ⟨rfl, hf2⟩
  have hf2' := Lib.hid (hF'.out.then hf2)
  have hA2 := Lib.hid (hA'.out.far' hf2 id)
  have hB2 := Lib.hid (hB'.out.far' hf2 id)
  have hz2 := Lib.hid hf2.size
  clear hf2
  go_wp2_with fail
  refine (verbs_any _).mono ?_
  rintro e w3 ⟨rfl, rfl⟩
  obtain ⟨hk, hhk⟩ : ∃ h, h = w2.heap.size := ⟨_, rfl⟩
  rw [← hhk]
  obtain ⟨W0, hW0⟩ : ∃ W, W = w2.alloc (.cells #[.int .i64 0] 3) := ⟨_, rfl⟩
  rw [← hW0]
  have hK0 : Bk W0 hk 3 #[.int .i64 0] := hW0 ▸ Bk.new hhk
  have hA0 := Lib.hid (show Bk W0 h0 3 #[.int .i64 m] from hW0 ▸ hA2.out.alloc _)
  have hB0 := Lib.hid (show Bk W0 h1 4 #[.bool false] from hW0 ▸ hB2.out.alloc _)
  have hF0 := Lib.hid (show Far (fun _ => False) w W0 from hW0 ▸ hf2'.out.alloc _)
  have hs0 := Lib.hid (show W0.heap.size = hk + 1 by rw [hW0]; simp [hhk])
  have hkk := Lib.hid (show h1 < hk by have := hz2.out; have := z1'.out; omega)
  clear hhk hW0
  go_wp2_with fail
  refine (wpIn_wide (n := 10)).1 ?_
  refine range_ok (by decide) rfl (enters_of Tryd.func31 (by kernel_rfl) rfl) (verbs_seq (10 - 1) (by decide) W0) keepC_t (fun W l o o' hl h ho => keepC_put W l o o' hl h ho) (fun _ => rfl)
    (fun pre W => Far (fun k => k = hk) W0 W ∧ Bk W hk 3 #[.int .i64 (pre.length : Int)])
    (fun c pre W => c = .ret ∧ Far (fun k => k = hk ∨ k = h1) W0 W ∧ Bk W h1 4 #[.bool true])
    ?own ?ownx ⟨Far.refl _ _, hK0⟩ (fun pre y a' W => VOk pre y W ∧ a' = { tmps := #[.int .i64 m, .pointer (some ⟨h0, 0, none⟩), .pointer (some ⟨h1, 0, none⟩), .pointer (some ⟨hk, 0, none⟩), .int .i64 ((y : Int) + 1), .string ⟨(wordV (y + 1)).toArray⟩, .bool true, .bool false, .func (.func 31) #[] #[], .int .i64 ((y : Int) + 1), .string ⟨(wordV (y + 1)).toArray⟩, undef, undef, undef, undef, undef, undef, undef, undef, undef, undef, undef, undef, undef, undef, undef, undef, undef, undef, undef, undef], defers := [] })
    (fun pre y a' s A B row hs hg hr => hs) ?assign ?body ?done ?stop
  case own => exact fun s A B row hs hg hr => ⟨far_own hs.1 hg hr, hs.2.kept hg hr⟩
  case ownx =>
    rintro c s A B row ⟨e, h1, h2⟩ hg hr
    exact ⟨e, far_own h1 hg hr, h2.kept hg hr⟩
  case assign =>
    intro l pre y W KK hI hok hK
    have hK' := hK _ W (KeepsFrom.refl _ _) (fun _ _ _ _ h => h) hI ⟨hok, rfl⟩
    simp only [vencs, st, List.zip_toArray, List.zip_cons_cons, List.zip_nil_right, List.foldl_toArray', List.foldl_cons, List.foldl_nil, List.setIfInBounds_toArray, List.set_cons_succ, List.set_cons_zero]
    gi_wp2
    exact hK'
  case body =>
    rintro l pre y a' W hl ⟨hG, hN⟩ ⟨⟨rfl, hy⟩, rfl⟩
    have b0 := Lib.hid (hA0.out.far' hG (by have := hkk.out; have := hh1'.out; omega))
    have b1 := Lib.hid (hB0.out.far' hG (by have := hkk.out; omega))
    rw [List.length_range] at hN
    have hN' := Lib.hid hN
    have c0 : W.cell? ⟨h0, 0, none⟩ = some (.int .i64 m) := b0.out.cell 0
    have c1 : W.cell? ⟨hk, 0, none⟩ = some (.int .i64 (y : Int)) := hN.cell 0
    have f1 := hN.free 0
    have hne0 : h0 ≠ hk := by have := hkk.out; have := hh1'.out; omega
    have hne1 : h1 ≠ hk := by have := hkk.out; omega
    have hne2 : hk ≠ h1 := fun e => hne1 e.symm
    have hyy : (y : Int) < 10 := by omega
    obtain ⟨W1, hW1⟩ : ∃ V, V = W.setCell ⟨hk, 0, none⟩ (.int .i64 ((y : Int) + 1)) := ⟨_, rfl⟩
    have hS1 : Far (fun k => k = hk) W W1 := hW1 ▸ (Far.refl (fun k => k = hk) W).set ⟨hk, 0, none⟩ (.int .i64 ((y : Int) + 1)) (fun _ => rfl)
    have n1 := Lib.hid (show Bk W1 hk 3 #[.int .i64 ((y : Int) + 1)] from hW1 ▸ hN.set 0 (.int .i64 ((y : Int) + 1)))
    have a1 := Lib.hid (b0.out.far' hS1 hne0)
    have r1 := Lib.hid (b1.out.far' hS1 hne1)
    have RW := rword_at y hy W1
    unfold st at RW
    have q1 : W1.cell? ⟨hk, 0, none⟩ = some (.int .i64 ((y : Int) + 1)) := n1.out.cell 0
    have q0 : W1.cell? ⟨h0, 0, none⟩ = some (.int .i64 m) := a1.out.cell 0
    have HD := head_any W1
    have hl1 : h1 < W1.heap.size := r1.out.lt
    have hG' := Lib.hid hG
    have hS1' := Lib.hid hS1
    have eqs : ((⟨(wordV (y + 1)).toArray⟩ : ByteArray).toList == (⟨(wordV (y + 1)).toArray⟩ : ByteArray).toList) = true := by simp
    clear hG hN hS1
    by_cases hm : (y : Int) + 1 = m
    · have e3 : ((y : Int) + 1 == m) = true := by simpa using hm
      subst hm
      subst hW1
      gi_wp2_with (first
        | (refine ⟨trivial, ?_⟩; refine (CallsIn.inRound l (callsIn_wide.2 RW)).mono ?_; rintro e V2 ⟨rfl, rfl⟩)
        | (refine ⟨trivial, ?_⟩; refine (CallsIn.inRound l (callsIn_wide.2 HD)).mono ?_; rintro e V2 ⟨rfl, hf2⟩; have r2 := r1.out.far' hf2 id; have g0 : V2.cell? ⟨h1, 0, none⟩ = some (.bool false) := r2.cell 0; have g1 := r2.free 0; have hf2' := Lib.hid hf2; have r2' := Lib.hid r2; clear hf2 r2))
      have hS := Lib.hid ((hf2'.out.mono (G := fun k => k = hk ∨ k = h1) fun _ _ h => h.elim).set ⟨h1, 0, none⟩ (.bool true) (fun _ => .inr rfl))
      have hT := Lib.hid ((hS1'.out.mono (G := fun k => k = hk ∨ k = h1) fun k _ h => .inl h).trans hS.out fun _ _ h => h)
      refine ⟨keeps_far hT.out fun k hk' => ?_, rfl, (hG'.out.mono (G := fun k => k = hk ∨ k = h1) fun k _ h => .inl h).trans hT.out fun _ _ h => h, r2'.out.set 0 (.bool true)⟩
      rcases hk' with rfl | rfl
      · exact ⟨_, _, hN'.out⟩
      · exact ⟨_, _, b1.out⟩
    · have e3 : ((y : Int) + 1 == m) = false := by simpa using hm
      subst hW1
      gi_wp2_with (refine ⟨trivial, ?_⟩; refine (CallsIn.inRound l (callsIn_wide.2 RW)).mono ?_; rintro e V2 ⟨rfl, rfl⟩)
      refine ⟨keeps_far hS1'.out fun k hk' => ?_, KeepC.of_far hS1'.out fun k e => ?_, hG'.out.trans hS1'.out fun _ _ h => h, ?_⟩
      · subst hk'; exact ⟨_, _, hN'.out⟩
      · have := hs0.out; omega
      · rw [List.length_append, List.length_range]
        exact n1.out
  case done =>
    rintro D xs W hD rfl ⟨hG, hN⟩ hK
    rw [List.length_range] at hN
    have hDn : D ≠ h1 := by have := hkk.out; have := hs0.out; omega
    have b1 := Lib.hid (hB0.out.far' hG (by have := hkk.out; omega))
    have hN' := Lib.hid hN
    have hK' := Lib.hid hK
    have hG' := Lib.hid hG
    clear hG hN hK
    go_wp2_with fail
    refine (head_any _).mono ?_
    rintro e V2 ⟨rfl, hf2⟩
    have r2 := Lib.hid (b1.out.far' hf2 id)
    have n2 := Lib.hid (hN'.out.far' hf2 id)
    have g0 : V2.cell? ⟨h1, 0, none⟩ = some (.bool false) := r2.out.cell 0
    have g1 := r2.out.free 0
    have g2 : V2.cell? ⟨hk, 0, none⟩ = some (.int .i64 10) := n2.out.cell 0
    have hKV : V2.heap[D]? = some (.deferred (some [])) := (hf2.block D (Array.getElem?_eq_some_iff.1 hK'.out).1 id).trans hK'.out
    have hKS := Lib.hid ((heap_setCell_other V2 ⟨h1, 0, none⟩ D (.bool true) hDn).trans hKV)
    have R1 := Lib.hid (show Bk ((V2.setCell ⟨h1, 0, none⟩ (.bool true)).putObj D (.deferred none)) h1 4 #[.bool true] from (World.putObj_heap_other (fun e => hDn e.symm)).trans (r2.out.set 0 (.bool true)))
    have hZ := Lib.hid (show Far (fun k => w.heap.size ≤ k) w ((V2.setCell ⟨h1, 0, none⟩ (.bool true)).putObj D (.deferred none)) from
      ((((hF0.out.mono (G := fun k => w.heap.size ≤ k) fun _ _ h => h.elim).trans (hG'.out.mono (G := fun k => w.heap.size ≤ k) fun k _ e => by have := hkk.out; have := hh1'.out; have := hh0'.out; omega) fun _ _ h => h).trans (hf2.mono (G := fun k => w.heap.size ≤ k) fun _ _ h => h.elim) fun _ _ h => h).set ⟨h1, 0, none⟩ (.bool true) (fun _ => by have := hh1'.out; have := hh0'.out; show w.heap.size ≤ h1; omega)).grown (grownBy_putObj' _ D (.deferred none)) (fun k hk e => by cases e; have := hF0.out.size; omega))
    clear hf2 hKV
    go_wp2_with fail
    refine ⟨by simp, .inl ⟨D, _, rfl, run_takeDeferred hKS.out, ?_⟩⟩
    refine ⟨.bool true, ?_, rfl, hZ.out.mono fun k hk h => by omega⟩
    have hc := R1.out.cell 0
    simp [results, Tryd.f6, go_sem, hc]
  case stop =>
    rintro D c pre W hD ⟨k, hk', rfl⟩ ⟨rfl, hG, hR⟩ hK
    have hDn : D ≠ h1 := by have := hkk.out; have := hs0.out; omega
    have R1 := Lib.hid (show Bk (W.putObj D (.deferred none)) h1 4 #[.bool true] from (World.putObj_heap_other (fun e => hDn e.symm)).trans hR)
    have hZ := Lib.hid (show Far (fun k => w.heap.size ≤ k) w (W.putObj D (.deferred none)) from
      ((hF0.out.mono (G := fun k => w.heap.size ≤ k) fun _ _ h => h.elim).trans (hG.mono (G := fun k => w.heap.size ≤ k) fun k _ e => by have := hkk.out; have := hh1'.out; have := hh0'.out; omega) fun _ _ h => h).grown (grownBy_putObj' _ D (.deferred none)) (fun k hk e => by cases e; have := hF0.out.size; omega))
    clear hG hR
    refine wpIn_wide.2 ?_
    go_wp2_with fail
    refine ⟨by simp, .inl ⟨D, _, rfl, run_takeDeferred hK, ?_⟩⟩
    refine ⟨.bool true, ?_, rfl, hZ.out.mono fun k hk h => by omega⟩
    have hc := R1.out.cell 0
    simp [results, Tryd.f6, go_sem, hc]
end
end Go.Proofs.YtjmgheogpglpnaaDoor
