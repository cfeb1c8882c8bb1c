/-
  For every automaton the law BoxSteps answers true and leaves its argument as it was; the table that its row lists is tied to the program's text.
-/
import Derived.Test.YtihlfphokgicbaaDoorStepsLaw
import Derived.Test.YtihlfphokgicbaaDoorSymArg
import Derived.Test.YtihlfphokgicbaaDoorBTabs
import Derived.Test.YtihlfphokgicbaaDoorCards
import Derived.Test.YtihlfphokgicbaaDoorTie
import Derived.SevenTiedAt
namespace Go.Proofs.YtihlfphokgicbaaDoor
open Go.ChangeShapes Go.WideShapes Go.ChangeAt Go.RowKit
set_option linter.unusedVariables false

theorem steps_law (S : Int) (fo : Option Addr) (n fc : Nat) (f : Nat → Int) (ao : Option Addr) (m ac : Nat) (g : Nat → Ar) (qo : Option Addr) (nq qc : Nat) (q : Nat → Int) (s1 : Bool) (s2 : Int) (w : World) (hI : Ints w fo n f) (hA : Arcs w ao m g) (hQ : Ints w qo nq q) (hn : n ≤ maxLen) (hm : m ≤ maxLen) (hnq : nq ≤ maxLen) (hT : Tab w) :
    Calls Tryd.prog 5 #[.agg #[.int .i64 S, .slice fo n fc, .slice ao m ac], .slice qo nq qc, .agg #[.bool s1, .int .i64 s2]] w fun e w' => e = .returned (.bool true) ∧ Below w.heap.size w w' := by
  by_cases hM : MayBe S n f m g
  · obtain ⟨sn, rfl⟩ : ∃ sn : Nat, S = (sn : Int) := ⟨S.toNat, by have := hM.1; omega⟩
    exact (steps_yes sn fo n fc f ao m ac g qo nq qc q s1 s2 w hI hA hQ hn hm hnq hM hT).mono fun e w' ⟨he, hw⟩ => ⟨he, hw.below (Nat.le_refl _) fun _ _ h => h⟩
  · exact (steps_no S fo n fc f ao m ac g qo nq qc s1 s2 w hI hA hn hm hM).mono fun e w' ⟨he, hw⟩ => ⟨he, hw.below (Nat.le_refl _) fun _ _ h => h⟩
set_option maxRecDepth 100000 in
theorem steps_lifted (os : Os) (started : os.Started) (H : Type) (enc : TypeId × Value → H) :
    ReturnsInHanded {} Tryd.checked os 5 .any (fun w args => (Rows.boxStepsSpec.pre enc Tryd.prog Tryd.f5 [] false w args ∧ laidMetH Tryd.prog laidList w) ∧ sizedMet enc Tryd.prog Tryd.f5 (OpenSpec.ofChange Rows.boxStepsSpec) false w args)
      (Rows.boxStepsSpec.post enc Tryd.prog Tryd.f5 false true false false) := by
  refine returnsInHanded_of_change_and (C := Tryd.checked) (X := fun w _ => laidMetH Tryd.prog laidList w) (fun _ _ _ hh h => h.of_heap hh) Tryd.own started (by kernel_rfl) Tryd.func5
    (ChangeSpec.witness_shaped (enc := enc) (C := Tryd.checked) (os := os) (X := fun w _ => laidMetH Tryd.prog laidList w) false (World.doorLaid Tryd.prog 14 os) #[.agg #[.int .i64 0, .slice none 0 0, .slice none 0 0], .slice none 0 0, .agg #[.bool false, .int .i64 0]] 8 rfl (World.shaped_of_RefB (by kernel_rfl) (by kernel_rfl)) (by kernel_rfl) (by kernel_rfl) (by kernel_rfl) (door_met os _)) ?_
  intro W base args ds gs before hval0 hW _ _ hL _
  have hval : ∀ (j : Nat) t v, Tryd.f5.params[j]? = some t → args[j]? = some v → Value.okWide Tryd.prog W .any base t v := hval0
  have hW' := hW
  obtain ⟨p, q, hA0, hV, rfl, hfz, hnd⟩ := hW
  have hA : DataW.TrodAll enc Tryd.prog W 0 (fun _ => true) true Tryd.f5.params.toList args.toList ds p := hA0
  rw [Tryd.params5] at hA hval
  obtain ⟨v0, vs0, d0, ds0, p0, q0, hargs, rfl, rfl, h0, r0⟩ := trodAll_cons hA
  obtain ⟨v1, vs1, d1, ds1, p1, q1, rfl, rfl, rfl, h1, r1⟩ := trodAll_cons r0
  obtain ⟨v2, vs2, d2, ds2, p2, q2, rfl, rfl, rfl, h2, r2⟩ := trodAll_cons r1
  obtain ⟨rfl, rfl, rfl⟩ := trodAll_nil r2
  obtain rfl : args = #[v0, v1, v2] := by cases args; simp_all
  obtain ⟨S, fo, n, fc, f, ao, m, ac, g, rfl, hS, hn, hm, hF, hI, hG, hAr⟩ := open_auto (hval 0 25 v0 rfl rfl) h0
  obtain ⟨qo, nq, qc, q, rfl, hnq, hQf, hQ⟩ := open_numbers_top (hval 1 22 v1 rfl rfl) h1
  obtain ⟨s1, s2, rfl, hs2⟩ := open_sym (hval 2 38 v2 rfl rfl) h2
  refine (steps_law S fo n fc f ao m ac g qo nq qc q s1 s2 W hI hAr hQ hn hm hnq (tab_of_laid hL)).mono fun e W' ⟨he, hw⟩ => ?_
  subst he
  exact ⟨_, rfl, law_post hW' rfl (by intro t ht; rw [Tryd.params5] at ht; simp at ht; rcases ht with rfl | rfl | rfl <;> exact ⟨by kernel_rfl, of_decide_eq_true (by kernel_rfl)⟩) (by kernel_rfl) rfl hw⟩
theorem steps_holds : Rows.BoxStepsSaid :=
  OpenClaim.holds_of_wide 5 Tryd.f5 rfl rfl rfl rfl rfl rfl rfl ⟨rfl, rfl, rfl, rfl, rfl⟩ rfl rfl rfl rfl rfl (by kernel_rfl) Tryd.func5 (by kernel_rfl)
    (of_decide_eq_true (by kernel_rfl)) (by unfold Func.isWrapper; first | (rw [if_pos (by decide +kernel)]; kernel_rfl) | (rw [if_neg (by decide +kernel)]; exact ⟨rfl, rfl⟩))
    (fun os started H enc _ => steps_lifted os started H enc)
theorem steps_card : Rows.BoxStepsCardSaid :=
  Claim7.holds_tied_plain_at .later [] [.data] true Rows.boxStepsCard.stood.harness false
    steps_holds (fun _ h => by cases h) (by kernel_rfl) (fun _ h => by cases h) boxSteps_row_tie rfl ⟨rfl, rfl⟩ (by kernel_rfl) rfl
    (fun f fn hf hfn => by
      obtain rfl : f = 5 := Option.some.inj ((show Tryd.prog.funcNamed "byway/bywaylaw10.BoxSteps" = some 5 by kernel_rfl).symm.trans hf) |>.symm
      obtain rfl : fn = Tryd.f5 := (Option.some.inj (Tryd.func5.symm.trans hfn)).symm
      exact ⟨by kernel_rfl, fun j t ht => by
        rw [Tryd.params5] at ht
        have hm := Array.mem_of_getElem? ht
        have hall : (Tryd.f5.params.toList.all fun u => !Tryd.prog.wantsStandIn u) = true := by kernel_rfl
        rw [Tryd.params5] at hall
        exact (show Tryd.prog.wantsStandIn t = false by simpa using List.all_eq_true.1 hall t (by simpa using hm))⟩)
    (by kernel_rfl)
#print axioms steps_card
end Go.Proofs.YtihlfphokgicbaaDoor
