/-
  settle: productions gone over till none adds something.
-/
import Derived.Test.YteojbnkjphghkaaDoorGood13
import Derived.Deep.LoopGhost
namespace Go.Proofs.YteojbnkjphghkaaDoor
open Go.RowKit
set_option linter.unusedVariables false
set_option linter.unusedSimpArgs false
theorem take_mem_succ {α : Type} {T : List α} {i : Nat} {t : α} {Q : α → Prop} (ht : T[i]? = some t) (h : ∀ x ∈ T.take i, Q x) (hq : Q t) : ∀ x ∈ T.take (i + 1), Q x := fun x hx => by
  obtain ⟨h1, h2⟩ := List.getElem?_eq_some_iff.1 ht
  rw [List.take_succ_eq_append_getElem h1, h2] at hx
  rcases List.mem_append.1 hx with h3 | h3
  · exact h x h3
  · rw [List.mem_singleton.1 h3]; exact hq
section
set_option maxHeartbeats 4000000
set_option maxRecDepth 100000
theorem settleS_any {σ : Type} (S : Int) (pv : Value) (T : List Tr) (gR : Nat) (kL : Nat) (w : World) (row : World → σ → Prop) (J : σ → Prop) (Fx : Tr → σ → Prop) (μ : σ → Nat) (a0 : σ)
    (hgR : gR < w.heap.size) (hP : ∀ w', Far (fun k => k = gR) w w' → Prods w' pv T) (hs : T.length ≤ 4398046510976) (hrow : ∀ w1 w2 a, row w1 a → Far (fun _ => False) w1 w2 → row w2 a) (hr0 : row w a0) (hj0 : J a0)
    (hA : ∀ t ∈ T, ∀ a w1, Far (fun k => k = gR) w w1 → row w1 a → J a → Calls Tryd.prog 37 #[.agg #[.int .i64 t.1, t.2.1], .pointer (some ⟨kL, 0, none⟩)] w1 fun e w2 => Far (fun k => k = gR) w1 w2 ∧
      ((e = .returned (.bool false) ∧ row w2 a ∧ Fx t a) ∨ (∃ a', e = .returned (.bool true) ∧ row w2 a' ∧ J a' ∧ μ a' < μ a))) :
    Calls Tryd.prog 36 #[.agg #[.int .i64 S, pv], .func (.func 37) #[] #[.pointer (some ⟨kL, 0, none⟩)]] w fun e w' => (∃ v, e = .returned v) ∧ Far (fun k => k = gR) w w' ∧ ∃ a, row w' a ∧ J a ∧ ∀ t ∈ T, Fx t a := by
  obtain ⟨h0, hh0⟩ : ∃ h, h = w.heap.size := ⟨_, rfl⟩
  have hP0 := hP w (Far.refl _ _)
  obtain ⟨ao, ac, rfl⟩ := Src.form hP0.1
  obtain ⟨W, hW⟩ : ∃ W, W = w.alloc (.cells #[.int .i64 S, .slice ao T.length ac] 24) := ⟨_, rfl⟩
  have hF : Far (fun _ => False) w W := hW ▸ alloc_far0 _ _
  have hFg : Far (fun k => k = gR) w W := hF.mono fun _ _ h => h.elim
  have hX : Bk W h0 24 #[.int .i64 S, .slice ao T.length ac] := hW ▸ Bk.new hh0
  have hne : h0 ≠ gR := by omega
  have hA' := Lib.hid hA
  have hP' := Lib.hid hP
  have hrow' := Lib.hid hrow
  have hrW := Lib.hid (hrow _ _ _ hr0 hF)
  have hj0' := Lib.hid hj0
  have hX' := Lib.hid hX
  have hFg' := Lib.hid hFg
  have hh0' := Lib.hid hh0
  have hW' := Lib.hid hW
  clear hP0 hP hrow hr0 hj0 hA hh0 hW hF hFg hX
  go_enter Tryd.func36, Tryd.ntmps36
  go_upto_region 1 with fail
  rw [← hh0'.out, ← hW'.out]
  go_wp2_with fail
  go_loopg [4] (μ a0 + 1) (fun k mv wr => ∃ (b : Bool) (a : σ), mv = .bool b ∧ k = (if b then μ a + 1 else 0) ∧ row wr a ∧ J a ∧ Far (fun k => k = gR) W wr ∧ Hid (b = false → ∀ t ∈ T, Fx t a))
  case atStart => exact ⟨true, a0, rfl, rfl, hrW.out, hj0'.out, Far.refl _ _, Lib.hid (fun h => by cases h)⟩
  case round =>
    obtain ⟨wo, rfl⟩ : ∃ wo : World, wo = wr := ⟨_, rfl⟩
    obtain ⟨b, a, rfl, hgk, hra, hja, hfa, hfix⟩ := hrel
    have hgk' := Lib.hid hgk
    have hra' := Lib.hid hra
    have hja' := Lib.hid hja
    have hfa' := Lib.hid hfa
    have a1 : wo.cell? ⟨h0, 1, none⟩ = some (.slice ao T.length ac) := (hX'.out.far' hfa hne).cell 1
    clear hgk hra hja hfa
    cases b with
    | false =>
      have hfx := Lib.hid (hfix.out rfl)
      clear hfix a1
      go_wp2_with fail
      go_end0
      exact ⟨⟨_, rfl⟩, hFg'.out.trans hfa'.out fun _ _ h => h, a, hra'.out, hja'.out, hfx.out⟩
    | true =>
      clear hfix
      go_wp2_with fail
      clear a1
      go_loopw [4, 11] (fun mv iv wr => ∃ (b : Bool) (i : Nat) (a1 : σ), mv = .bool b ∧ iv = .int .i64 i ∧ i ≤ T.length ∧ row wr a1 ∧ J a1 ∧ Far (fun k => k = gR) W wr ∧ Hid ((b = false ∧ a1 = a ∧ ∀ t ∈ T.take i, Fx t a) ∨ (b = true ∧ μ a1 < μ a))) (fun _ iv _ => T.length - (intOf iv).toNat)
      case atStart => exact ⟨false, 0, a, rfl, rfl, Nat.zero_le _, hra'.out, hja'.out, hfa'.out, Lib.hid (.inl ⟨rfl, rfl, fun t ht => by simp at ht⟩)⟩
      case round =>
        obtain ⟨b, i, a1, rfl, rfl, hi, hr1, hj1, hf1, hc⟩ := hrel
        by_cases hlt : i < T.length
        · have e1 : decide ((i : Int) < (T.length : Int)) = true := by rw [decide_eq_true_eq]; omega
          have hii : (i : Int) < (T.length : Int) := by omega
          obtain ⟨t, ht⟩ : ∃ t, T[i]? = some t := ⟨T[i], List.getElem?_eq_getElem hlt⟩
          have hwf := hFg'.out.trans hf1 fun _ _ h => h
          obtain ⟨bb, off, c, he, hbl, c0, c1, hbd⟩ := (hP'.out wr hwf).prod ht
          simp only [Value.slice.injEq] at he
          obtain ⟨rfl, _, rfl⟩ := he
          have hmem := List.mem_of_getElem? ht
          obtain ⟨wa, hwa⟩ : ∃ wa, wa = wr.alloc (.cells #[.int .i64 t.1, t.2.1] 48) := ⟨_, rfl⟩
          obtain ⟨ax, hax⟩ : ∃ ax, ax = wr.heap.size := ⟨_, rfl⟩
          have hfa1 : Far (fun _ => False) wr wa := hwa ▸ alloc_far0 _ _
          have hX1 : Bk wa ax 48 #[.int .i64 t.1, t.2.1] := hwa ▸ Bk.new hax
          have CA := hA'.out t hmem a1 wa (hwf.trans hfa1 fun _ _ h => h.elim) (hrow'.out _ _ _ hr1 hfa1) hj1
          have x0 : wa.cell? ⟨ax, 0, none⟩ = some (.int .i64 t.1) := hX1.cell 0
          have x1 : wa.cell? ⟨ax, 1, none⟩ = some t.2.1 := hX1.cell 1
          have hfw := Lib.hid (hf1.trans hfa1 fun _ _ h => h.elim)
          have htk := Lib.hid ht
          obtain ⟨t1, tv, tl⟩ := t
          dsimp only at c0 c1 CA hbd x0 x1 hwa
          obtain ⟨bo, bc, rfl⟩ := Src.form hbd
          have hwa' := Lib.hid hwa
          have hax' := Lib.hid hax
          have hj1' := Lib.hid hj1
          clear hwf hbl hbd hmem ht hr1 hf1 hwa hax hfa1 hX1 hj1
          go_upto_region 7 with fail
          rw [← hax'.out, ← hwa'.out]
          clear c0 c1
          go_wp2_with fail
          refine CA.mono ?_
          rintro e w2 ⟨hf2, hcase⟩
          have hf2' := Lib.hid (hfw.out.trans hf2 fun _ _ h => h)
          clear CA x0 x1 hf2
          rcases hcase with ⟨rfl, hr2, hfx2⟩ | ⟨a2, rfl, hr2, hj2, hmu⟩
          · have hr2' := Lib.hid hr2
            have hc2 : Hid ((b = false ∧ a1 = a ∧ ∀ t ∈ T.take (i + 1), Fx t a) ∨ (b = true ∧ μ a1 < μ a)) := Lib.hid (by
              rcases hc.out with ⟨q1, q2, q3⟩ | q
              · subst q2; exact .inl ⟨q1, rfl, take_mem_succ htk.out q3 hfx2⟩
              · exact .inr q)
            clear hc hfx2 hr2
            go_wp2_with fail
            go_roundw
            case rel => exact ⟨b, i + 1, a1, rfl, by go_num, by omega, hr2'.out, hj1'.out, hf2'.out, hc2⟩
            case measure => simp [intOf]; omega
          · have hr2' := Lib.hid hr2
            have hj2' := Lib.hid hj2
            have hc2 := Lib.hid (show μ a2 < μ a by
              rcases hc.out with ⟨q1, q2, q3⟩ | ⟨_, q⟩
              · subst q2; exact hmu
              · omega)
            clear hc hr2 hj2 hmu
            go_wp2_with fail
            go_roundw
            case rel => exact ⟨true, i + 1, a2, rfl, by go_num, by omega, hr2'.out, hj2'.out, hf2'.out, Lib.hid (.inr ⟨rfl, hc2.out⟩)⟩
            case measure => simp [intOf]; omega
        · have e1 : decide ((i : Int) < (T.length : Int)) = false := by rw [decide_eq_false_iff_not]; omega
          have hin : i = T.length := by omega
          have hr1' := Lib.hid hr1
          have hj1' := Lib.hid hj1
          have hf1' := Lib.hid hf1
          have hc2 : Hid (b = false → ∀ t ∈ T, Fx t a1) := Lib.hid (fun hb => by
            rcases hc.out with ⟨q1, q2, q3⟩ | ⟨q1, _⟩
            · subst q2; rw [hin, List.take_length] at q3; exact q3
            · rw [hb] at q1; cases q1)
          have hm2 : Hid ((if b then μ a1 + 1 else 0) < gk) := Lib.hid (by
            have h1 := hgk'.out
            rcases hc.out with ⟨q1, q2, q3⟩ | ⟨q1, q2⟩
            · subst q1; simp at h1 ⊢; omega
            · subst q1; simp at h1 ⊢; omega)
          clear hc hr1 hj1 hf1
          go_wp2_with fail
          go_roundg (if b then μ a1 + 1 else 0)
          case measure => exact hm2.out
          case rel => exact ⟨b, a1, rfl, rfl, hr1'.out, hj1'.out, hf1'.out, hc2⟩
end
end Go.Proofs.YteojbnkjphghkaaDoor
