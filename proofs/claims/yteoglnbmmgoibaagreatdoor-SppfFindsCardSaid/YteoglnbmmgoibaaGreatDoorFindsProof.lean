/-
  For every forest the law SppfFinds answers true and leaves its argument as it was; the table that its row lists is tied to the program's text.
-/
import Derived.Test.YteoglnbmmgoibaaGreatDoorFindsLaw
import Derived.Test.YteoglnbmmgoibaaGreatDoorForestArg
import Derived.Test.YteoglnbmmgoibaaGreatDoorTabsOnly
import Derived.Test.YteoglnbmmgoibaaGreatDoorCards
import Derived.Test.YteoglnbmmgoibaaGreatDoorTie
import Derived.SevenTiedAt
namespace Go.Proofs.YteoglnbmmgoibaaGreatDoor
open Go.ChangeShapes Go.WideShapes Go.ChangeAt Go.RowKit
set_option linter.unusedVariables false

set_option maxRecDepth 100000 in
theorem open_fact {H : Type} {enc : TypeId × Value → H} {w : World} {base : Nat} {r : Reach} {b0 : Nat} {v : Value} {d : DataW H} {ps : List MemPlace} (hv : Value.okWide Tryz.prog w r b0 33 v)
    (h : DataW.Trod enc Tryz.prog w base (fun _ => true) true 33 v d ps) : ∃ a b c : Int, v = .agg #[.int .i64 a, .int .i64 b, .int .i64 c] := by
  obtain ⟨s0, s1, s2, hs, u0, u1, u2, p0, p1, p2⟩ := factFields
  obtain ⟨cs, rfl, hsz⟩ := okWide_struct hs hv
  rw [factCells] at hsz
  obtain ⟨fuel, hf⟩ := h
  match cs, hsz with
  | ⟨[c0, c1, c2]⟩, _ =>
    obtain ⟨xs, n', hn', hD, _, hxl, hfld⟩ := DataW.trod_struct hs hf
    have q0 := hfld 0 s0 rfl
    have q1 := hfld 1 s1 rfl
    have q2 := hfld 2 s2 rfl
    rw [p0, u0, intCells] at q0
    rw [p1, u1, intCells] at q1
    rw [p2, u2, intCells] at q2
    match xs, hxl with
    | [x0, x1, x2], _ =>
      obtain ⟨y0, ey0, _, wy0⟩ := DataW.trod_int intT q0
      obtain ⟨y1, ey1, _, wy1⟩ := DataW.trod_int intT q1
      obtain ⟨y2, ey2, _, wy2⟩ := DataW.trod_int intT q2
      simp [Value.cells] at ey0 ey1 ey2
      subst ey0 ey1 ey2
      exact ⟨y0, y1, y2, rfl⟩
set_option maxRecDepth 100000 in
theorem finds_lifted (os : Os) (started : os.Started) (H : Type) (enc : TypeId × Value → H) :
    ReturnsInHanded {} Tryz.checked os 4 .any (fun w args => (Rows.sppfFindsSpec.pre enc Tryz.prog Tryz.f4 [] false w args ∧ laidMetH Tryz.prog laidList w) ∧ sizedMet enc Tryz.prog Tryz.f4 (OpenSpec.ofChange Rows.sppfFindsSpec) false w args)
      (Rows.sppfFindsSpec.post enc Tryz.prog Tryz.f4 false true false false) := by
  refine returnsInHanded_of_change_and (C := Tryz.checked) (X := fun w _ => laidMetH Tryz.prog laidList w) (fun _ _ _ hh h => h.of_heap hh) Tryz.own started (by kernel_rfl) Tryz.func4
    (ChangeSpec.witness_shaped (enc := enc) (C := Tryz.checked) (os := os) (X := fun w _ => laidMetH Tryz.prog laidList w) false (World.doorLaid Tryz.prog 14 os) #[.agg #[.slice none 0 0, .slice none 0 0], .agg #[.int .i64 0, .int .i64 0, .int .i64 0], .int .i64 0, .int .i64 0] 8 rfl (World.shaped_of_RefB (by kernel_rfl) (by kernel_rfl)) (by kernel_rfl) (by kernel_rfl) (by kernel_rfl) (door_met os _)) ?_
  intro W base args ds gs before hval0 hW hz hz1 hL hz2
  have hval : ∀ (j : Nat) t v, Tryz.f4.params[j]? = some t → args[j]? = some v → Value.okWide Tryz.prog W .any base t v := hval0
  have hW' := hW
  obtain ⟨p, q, hA0, hV, rfl, hfz, hnd⟩ := hW
  have hA : DataW.TrodAll enc Tryz.prog W 0 (fun _ => true) true Tryz.f4.params.toList args.toList ds p := hA0
  rw [Tryz.params4] at hA hval hz1
  obtain ⟨v0, vs0, d0, ds0, p0, q0, hargs, rfl, rfl, h0, r0⟩ := trodAll_cons hA
  obtain ⟨v1, vs1, d1, ds1, p1, q1, rfl, rfl, rfl, h1, r1⟩ := trodAll_cons r0
  obtain ⟨v2, vs2, d2, ds2, p2, q2, rfl, rfl, rfl, h2, r2⟩ := trodAll_cons r1
  obtain ⟨v3, vs3, d3, ds3, p3, q3, rfl, rfl, rfl, h3, r3⟩ := trodAll_cons r2
  obtain ⟨rfl, rfl, rfl⟩ := trodAll_nil r3
  obtain rfl : args = #[v0, v1, v2, v3] := by cases args; simp_all
  obtain ⟨fv, pv, F, P, rfl, hF, hP, hl, hl2⟩ := open_forest (hval 0 25 v0 rfl rfl) h0 (within_first hz1)
  obtain ⟨f0, f1, f2, rfl⟩ := open_fact (hval 1 33 v1 rfl rfl) h1
  obtain ⟨s, rfl, rfl, rfl, ws⟩ := open_int intT (hval 2 3 v2 rfl rfl) h2
  obtain ⟨m, rfl, rfl, rfl, wm⟩ := open_int intT (hval 3 3 v3 rfl rfl) h3
  refine (finds_law fv pv F P f0 f1 f2 s m W hF hP hl hl2).mono fun e W' ⟨he, hw0⟩ => ?_
  have hw := hw0.below (Nat.le_refl _) fun _ _ h => h
  subst he
  exact ⟨_, rfl, law_post hW' rfl (by intro t ht; rw [Tryz.params4] at ht; simp at ht; rcases ht with rfl | rfl | rfl <;> exact ⟨by kernel_rfl, of_decide_eq_true (by kernel_rfl)⟩) (by kernel_rfl) rfl hw⟩
theorem finds_holds : Rows.SppfFindsSaid :=
  OpenClaim.holds_of_wide 4 Tryz.f4 rfl rfl rfl rfl rfl rfl rfl ⟨rfl, rfl, rfl, rfl, rfl⟩ rfl rfl rfl rfl rfl (by kernel_rfl) Tryz.func4 (by kernel_rfl)
    (of_decide_eq_true (by kernel_rfl)) (by unfold Func.isWrapper; first | (rw [if_pos (by decide +kernel)]; kernel_rfl) | (rw [if_neg (by decide +kernel)]; exact ⟨rfl, rfl⟩))
    (fun os started H enc _ => finds_lifted os started H enc)
theorem finds_card : Rows.SppfFindsCardSaid :=
  Claim7.holds_tied_plain_at .later [] [.data] true Rows.sppfFindsCard.stood.harness true
    finds_holds (fun _ h => by cases h) (by kernel_rfl) (fun _ h => by cases h) sppfFinds_row_tie rfl ⟨rfl, rfl⟩ (by kernel_rfl) rfl
    (fun f fn hf hfn => by
      obtain rfl : f = 4 := Option.some.inj ((show Tryz.prog.funcNamed "byway/bywaylaw22.SppfFinds" = some 4 by kernel_rfl).symm.trans hf) |>.symm
      obtain rfl : fn = Tryz.f4 := (Option.some.inj (Tryz.func4.symm.trans hfn)).symm
      exact ⟨by kernel_rfl, fun j t ht => by
        rw [Tryz.params4] at ht
        have hm := Array.mem_of_getElem? ht
        have hall : (Tryz.f4.params.toList.all fun u => !Tryz.prog.wantsStandIn u) = true := by kernel_rfl
        rw [Tryz.params4] at hall
        exact (show Tryz.prog.wantsStandIn t = false by simpa using List.all_eq_true.1 hall t (by simpa using hm))⟩)
    (by kernel_rfl)
#print axioms finds_card
end Go.Proofs.YteoglnbmmgoibaaGreatDoor
