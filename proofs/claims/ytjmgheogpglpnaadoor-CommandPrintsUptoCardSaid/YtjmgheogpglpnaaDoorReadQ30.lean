/-
  The program reads an evaluator and a name.
-/
import Derived.Test.YtjmgheogpglpnaaDoorReadT30
namespace Go.Proofs.YtjmgheogpglpnaaDoor
open Go.RowKit
set_option linter.unusedVariables false
set_option linter.unusedSimpArgs false
theorem Cd.up {w : World} {B B' k : Nat} {c : Cm} (h : Cd w B k c) (hB : B' ≤ B) : Cd w B' k c := by
  obtain ⟨nv, mv, h1, h2, h3⟩ := h
  exact ⟨nv, mv, h1, rowUp h2 hB, rowUp h3 hB⟩
theorem howOf_idx (x : Tx) : (howOf x = none → idxT hows x = -1) ∧ ∀ h, howOf x = some h → idxT hows x = (h : Int) := by
  unfold howOf idxT
  by_cases hx : x ∈ hows
  · rw [if_pos hx, if_pos hx]
    exact ⟨fun h => (by cases h), fun h e => (by injection e with e; rw [e])⟩
  · rw [if_neg hx, if_neg hx]
    exact ⟨fun _ => rfl, fun h e => (by cases e)⟩
theorem hows_cells {w : World} {g : Nat} (h : Bk w g 9 #[.string ⟨#[]⟩, .string ⟨tMatrix.toArray⟩, .string ⟨tTensor.toArray⟩, .string ⟨tGll.toArray⟩]) : ∀ k y, hows[k]? = some y → w.cell? ⟨g, k, none⟩ = some (.string ⟨y.toArray⟩) := by
  intro k y hy
  have hk : k < 4 := (List.getElem?_eq_some_iff.1 hy).1
  have : k = 0 ∨ k = 1 ∨ k = 2 ∨ k = 3 := by omega
  rcases this with rfl | rfl | rfl | rfl <;> (injection hy with hy; subst hy; exact h.cell _)
section
set_option maxHeartbeats 4000000
set_option maxRecDepth 100000
theorem readQuery_any (kr kc B : Nat) (s : St) (w : World) (hr : RdB w kr s) (hc : Bk w kc 27 (cmdNil 5)) (h2 : kr < B) (h3 : kc < B) (h4 : B ≤ w.heap.size) (hs : s.1.length ≤ 140737488351232) :
    Calls Tryd.prog 43 #[.pointer (some ⟨kr, 0, none⟩), .pointer (some ⟨kc, 0, none⟩)] w (RPost B kr kc w (readF 5 s)) := by
  have hne := bk_ne hr hc rd_cmd
  have hne2 : kc ≠ kr := fun e => hne e.symm
  obtain ⟨w1, hw1⟩ : ∃ W, W = w.alloc (.cells #[.string ⟨#[]⟩, .string ⟨tMatrix.toArray⟩, .string ⟨tTensor.toArray⟩, .string ⟨tGll.toArray⟩] 9) := ⟨_, rfl⟩
  obtain ⟨g, hg⟩ : ∃ g, g = w.heap.size := ⟨_, rfl⟩
  have HW := hows_any w
  rw [← hw1, ← hg] at HW
  have hF1 : Far (fun _ => False) w w1 := hw1 ▸ (Far.refl _ w).alloc _
  have hG1 : Bk w1 g 9 #[.string ⟨#[]⟩, .string ⟨tMatrix.toArray⟩, .string ⟨tTensor.toArray⟩, .string ⟨tGll.toArray⟩] := hw1 ▸ Bk.new hg
  have hr1 : RdB w1 kr s := hr.far' hF1 id
  have hc1 := Lib.hid (hc.far' hF1 id)
  have hs1 : w1.heap.size = g + 1 := by rw [hw1]; simp [hg]
  have hgr : g ≠ kr := by omega
  have hF1' := Lib.hid hF1
  have hG1' := Lib.hid hG1
  have hs1' := Lib.hid hs1
  have hgB : B ≤ g := by omega
  clear hw1 hg hF1 hG1 hs1 hc hr
  cases hx : nameF s with
  | none =>
    have hf : readF 5 s = none := by unfold readF; rw [if_neg (by decide), if_pos rfl, hx]
    rw [hf]
    have NM := name_no kr s w1 hr1 hs hx
    clear hr1 hx
    go_enter Tryd.func43, Tryd.ntmps43
    go_wp2_with (first
      | (go_at_call 57; refine HW.mono ?_; rintro e w2 ⟨rfl, rfl⟩)
      | (go_at_call 55; refine NM.mono ?_; rintro e w3 ⟨rfl, hf3⟩; have hf3' := Lib.hid hf3; clear hf3))
    exact ⟨rfl, ((hF1'.out.mono (G := FR B kr kc) fun _ _ h => h.elim).trans (hf3'.out.mono (G := FR B kr kc) fun k _ e => .inl e) fun _ _ h => h), rfl, _, rfl, hc1.out.far' hf3'.out hne2⟩
  | some p =>
    obtain ⟨x, s1⟩ := p
    have NM := name_yes kr s s1 x w1 hr1 hs hx
    unfold st at NM
    have hsl := Nat.le_trans (nameF_len hx) hs
    obtain ⟨H1, H2⟩ := howOf_idx x
    have IX0 : ∀ W, Far (fun i => i = kr) w1 W → Calls Tryd.prog 56 #[.slice (some ⟨g, 0, none⟩) 4 4, .string ⟨x.toArray⟩] W fun e w' => e = .returned (.int .i64 (idxT hows x)) ∧ Far (fun _ => False) W w' := fun W hW => index_any g hows x W (hows_cells (hG1'.out.far' hW hgr)) (by decide)
    generalize idxT hows x = iv at IX0 H1 H2
    have IX := Lib.hid IX0
    clear IX0
    cases hh : howOf x with
    | none =>
      have hf : readF 5 s = none := by unfold readF; rw [if_neg (by decide), if_pos rfl, hx]; dsimp only; rw [hh]
      rw [hf]
      have hiv := H1 hh
      subst hiv
      clear hr1 hx H1 H2 hh
      go_enter Tryd.func43, Tryd.ntmps43
      go_wp2_with (first
        | (go_at_call 57; refine HW.mono ?_; rintro e w2 ⟨rfl, rfl⟩)
        | (go_at_call 55; refine NM.mono ?_; rintro e w3 ⟨rfl, hr3, hf3⟩; have hf3' := Lib.hid hf3; clear hf3 hr3 NM)
        | (go_at_call 56; refine (IX.out _ hf3'.out).mono ?_; rintro e w4 ⟨rfl, hf4⟩; have hf4' := Lib.hid hf4; clear hf4))
      exact ⟨rfl, (((hF1'.out.mono (G := FR B kr kc) fun _ _ h => h.elim).trans (hf3'.out.mono (G := FR B kr kc) fun k _ e => .inl e) fun _ _ h => h).trans (hf4'.out.mono (G := FR B kr kc) fun _ _ h => h.elim) fun _ _ h => h), rfl, _, rfl, (hc1.out.far' hf3'.out hne2).far' hf4'.out id⟩
    | some h =>
      have hf : readF 5 s = match namesF 1 [] s1 with
        | none => none
        | some (l, s2) => some ({ cm0 with v := 5, how := h, names := l }, s2) := by unfold readF; rw [if_neg (by decide), if_pos rfl, hx]; dsimp only; rw [hh]; rfl
      obtain ⟨z, hz⟩ : ∃ z, z = readF 5 s := ⟨_, rfl⟩
      rw [← hz]
      rw [hf] at hz
      have hz' := Lib.hid hz
      clear hz
      have hiv := H2 h hh
      subst hiv
      have hnn : ((h : Int) < 0) = False := by simp
      have hdn : decide ((h : Int) < 0) = false := by rw [decide_eq_false_iff_not]; omega
      clear hr1 hx H1 H2 hh hf
      go_enter Tryd.func43, Tryd.ntmps43
      go_upto_region 4 with (first
        | (go_at_call 57; refine HW.mono ?_; rintro e w2 ⟨rfl, rfl⟩)
        | (go_at_call 55; refine NM.mono ?_; rintro e w3 ⟨rfl, hr3, hf3⟩; have hr3' := Lib.hid hr3; have hf3' := Lib.hid hf3; clear hf3 hr3 NM)
        | (go_at_call 56; refine (IX.out _ hf3'.out).mono ?_; rintro e w4 ⟨rfl, hf4⟩; have hc4 := Lib.hid ((hc1.out.far' hf3'.out hne2).far' hf4 id); have hr4 := Lib.hid (hr3'.out.far' hf4 id); have f1 := hc4.out.free 1; have c1 : w4.cell? ⟨kc, 1, none⟩ = some (.int .i64 0) := hc4.out.cell 1; have l1 := hc4.out.lt; have hf4' := Lib.hid hf4; clear hf4))
      obtain ⟨W5, hW5⟩ : ∃ W, W = w4.setCell ⟨kc, 1, none⟩ (.int .i64 (h : Int)) := ⟨_, rfl⟩
      rw [← hW5]
      have hS5 : Far (fun k => k = kc) w4 W5 := hW5 ▸ (Far.refl (fun k => k = kc) w4).set ⟨kc, 1, none⟩ (.int .i64 (h : Int)) (fun _ => rfl)
      have hc5 : Bk W5 kc 27 #[.int .i64 5, .int .i64 (h : Int), .slice none 0 0, .slice none 0 0, .string ⟨#[]⟩] := hW5 ▸ hc4.out.set 1 (.int .i64 (h : Int))
      have hr5 : RdB W5 kr s1 := hr4.out.far' hS5 hne
      obtain ⟨kb, hkb⟩ : ∃ k, k = W5.heap.size := ⟨_, rfl⟩
      obtain ⟨W6, hW6⟩ : ∃ W, W = W5.alloc (.cells #[.int .i64 1] 3) := ⟨_, rfl⟩
      have RN := readNames_any 1 W5
      rw [← hkb, ← hW6] at RN
      have hA6 : Far (fun _ => False) W5 W6 := hW6 ▸ (Far.refl _ W5).alloc _
      have s6 : W6.heap.size = kb + 1 := by rw [hW6]; simp [hkb]
      have hb6 : Bk W6 kb 3 #[.int .i64 ((1 : Nat) : Int)] := hW6 ▸ Bk.new hkb
      have hkk : kr < kb ∧ kc < kb ∧ B ≤ kb := by
        have a := hf3'.out.size
        have b := hf4'.out.size
        have c := hS5.size
        have d := hs1'.out
        refine ⟨?_, ?_, ?_⟩ <;> omega
      have NA := names_any 1 kb kr kc (kb + 1) s1 { cm0 with v := 5, how := h } W6 hb6 (hr5.far' hA6 id) ⟨_, _, hc5.far' hA6 id, World.ownsRow_nil _ _ _ _, World.ownsRow_nil _ _ _ _⟩ (by omega) (by omega) (by omega) (by omega) (by show 1 + 0 ≤ 1000; decide) hsl
      have e0 : ({ cm0 with v := 5, how := h } : Cm).names = [] := rfl
      rw [e0] at NA
      have hT := Lib.hid ((((hF1'.out.mono (G := FR B kr kc) fun _ _ h => h.elim).trans (hf3'.out.mono (G := FR B kr kc) fun k _ e => .inl e) fun _ _ h => h).trans (hf4'.out.mono (G := FR B kr kc) fun _ _ h => h.elim) fun _ _ h => h).trans ((hS5.mono (G := FR B kr kc) fun k _ e => .inr (.inl e)).trans (hA6.mono (G := FR B kr kc) fun _ _ h => h.elim) fun _ _ h => h) fun _ _ h => h)
      have hkk' := Lib.hid hkk
      clear hW5 hS5 hc5 hr5 hkb hW6 hA6 s6 hb6 hkk f1 c1 l1 IX HW hnn hdn
      unfold clV at RN
      have FIN := Lib.hid (show ∀ e W, NPost (kb + 1) kr kc { cm0 with v := 5, how := h } W6 (namesF 1 [] s1) e W → RPost B kr kc w z e W from fun e W hp => by
          obtain ⟨p1, p2⟩ := hp
          refine ⟨hT.out.trans (p1.mono (G := FR B kr kc) fun k _ e => e.imp id (·.imp id fun e => by have := hkk'.out.2.2; omega)) fun _ _ h => h, ?_⟩
          rw [hz'.out]
          cases hn : namesF 1 [] s1 with
          | none => rw [hn] at p2; exact p2
          | some q =>
            obtain ⟨l, s2⟩ := q
            rw [hn] at p2
            exact ⟨p2.1, p2.2.1, p2.2.2.up (by have := hkk'.out.2.2; omega)⟩)
      cases hn : namesF 1 [] s1 with
      | none =>
        rw [hn] at NA FIN
        go_wp2_with (first
          | (go_at_call 41; refine RN.mono ?_; rintro e w7 ⟨rfl, rfl⟩)
          | (refine NA.mono ?_; intro e w8 hp8; have he8 := hp8.2.1; subst he8; have hq8 := Lib.hid (FIN.out _ _ hp8); clear hp8))
        exact ⟨rfl, hq8.out⟩
      | some q =>
        obtain ⟨l, s2⟩ := q
        rw [hn] at NA FIN
        go_wp2_with (first
          | (go_at_call 41; refine RN.mono ?_; rintro e w7 ⟨rfl, rfl⟩)
          | (refine NA.mono ?_; intro e w8 hp8; have he8 := hp8.2.1; subst he8; have hq8 := Lib.hid (FIN.out _ _ hp8); clear hp8))
        go_end0
        exact hq8.out
theorem reads5 (L : Nat → Nat → World → Prop) : ReadsV L 5 := fun h kr kc B s w f cp e hb hr hc h1 h2 h3 h4 hs _ => by
  have e' : rdV h 5 = fnV 43 := rfl
  rw [e'] at e
  unfold fnV at e
  simp only [Value.func.injEq, Fn.func.injEq] at e
  obtain ⟨rfl, _, rfl⟩ := e
  exact readQuery_any kr kc B s w hr hc h2 h3 h4 hs
end
end Go.Proofs.YtjmgheogpglpnaaDoor
