/-
  For all productions and every list of numbers the law LeastCleans answers true and leaves its arguments as they were, where they hold together at most 1048576 values and letters.
-/
import Derived.Test.YtbckikcfcclioaaCleanLaw13
import Derived.Test.YtbckikcfcclioaaCnfBulk
import Derived.Test.YtbckikcfcclioaaIntsBulk
namespace Go.Proofs.Ytbckikcfcclioaa
open Go.ChangeMaps Go.ChangeShapes Go.WideShapes Go.ChangeAt Go.RowKit
set_option linter.unusedVariables false
theorem clean13_below (S : Int) (pv : Value) (T : List Tr) (fo : Option Addr) (n fc : Nat) (f : Nat → Int) (w : World) (hP : Prods w pv T) (hT : T.length ≤ 1048576) (hN : tot T ≤ 1048576) (hI : Ints w fo n f) (hn : n ≤ 1048576) :
    Calls Try.prog 6 #[.agg #[.int .i64 S, pv], .slice fo n fc] w fun e w' => e = .returned (.bool true) ∧ Below w.heap.size w w' := by
  have hs2 : ∀ t ∈ T, t.2.2.length * 16 ≤ 140737488351232 := fun t ht => by have := tot_mem ht; omega
  by_cases hok : CnfOK S T
  · obtain ⟨m, rfl⟩ : ∃ m : Nat, S = (m : Int) := ⟨S.toNat, by have := hok.1.1; omega⟩
    exact (cleanlaw_yes m pv T fo n fc f w hP hT hs2 hok hI hn hN).mono fun e w' ⟨he, hw⟩ => ⟨he, hw.below (Nat.le_refl _) fun _ _ h => h⟩
  · exact (cleanlaw_no S pv T fo n fc w hP (by omega) hs2 hok).mono fun e w' ⟨he, hw⟩ => ⟨he, hw.below (Nat.le_refl _) fun _ _ h => h⟩
set_option maxRecDepth 100000 in
theorem clean13_lifted (os : Os) (started : os.Started) (H : Type) (enc : TypeId × Value → H) (F : Stop.Interp) :
    ReturnsInHanded {} Try.checked os 6 .any ((Rows.OpenSpec.upto Rows.leastCleansSpec).pre6 enc Try.prog Try.f6 Rows.leastCleansUptoRow.domain false) (((Rows.OpenSpec.upto Rows.leastCleansSpec).at F).post enc Try.prog Try.f6 false true false false) := by
  refine returnsInHanded_of_cond (C := Try.checked) (s := Rows.OpenSpec.upto Rows.leastCleansSpec) (k := Rows.uptoSmall) rfl Try.own started (by kernel_rfl) Try.func6
    (OpenSpec.witness (enc := enc) (C := Try.checked) (s := Rows.OpenSpec.upto Rows.leastCleansSpec) (k := Rows.uptoSmall) rfl false ⟨#[], #[.agg #[.int .i64 0, .slice none 0 0], .slice none 0 0], []⟩ 8 (by kernel_rfl) (by kernel_rfl) (by kernel_rfl)
      (x := ([.agg [.lit (.int .i64 0), .nil], .nil], [], [])) (by kernel_rfl) rfl (by kernel_rfl)) ?_
  intro W base args ds gs before hval0 hW _ hk _
  have hval : ∀ (j : Nat) t v, Try.f6.params[j]? = some t → args[j]? = some v → Value.okWide Try.prog W .any base t v := hval0
  have hW' := hW
  obtain ⟨p, q, hA0, hV, rfl, hfz, hnd⟩ := hW
  have hA : DataW.TrodAll enc Try.prog W 0 (fun _ => true) true Try.f6.params.toList args.toList ds p := hA0
  rw [Try.params6] at hA hval
  obtain ⟨v0, v1, d0, d1, p0, p1, rfl, rfl, rfl, h0, h1⟩ := trodAll_two hA
  obtain ⟨S, pv, T, rfl, hP, hN, hT⟩ := open_cnfB (hval 0 24 v0 rfl rfl) h0
  obtain ⟨fo, n, fc, f, rfl, hn, hI⟩ := open_intsB (hval 1 30 v1 rfl rfl) h1
  have hb := bulk_small hk
  have hb0 := bulk_part (d := d0) (l := [d0, d1] ++ gs) (by simp)
  have hb1 := bulk_part (d := d1) (l := [d0, d1] ++ gs) (by simp)
  refine (clean13_below S pv T fo n fc f W hP (by omega) (by omega) hI (by omega)).mono fun e W' ⟨he, hw⟩ => ?_
  subst he
  exact ⟨_, rfl, law_post (s := Rows.leastCleansSpec) hW' rfl (by intro t ht; rw [Try.params6] at ht; simp at ht; rcases ht with rfl | rfl <;> exact ⟨by kernel_rfl, of_decide_eq_true (by kernel_rfl)⟩) (by kernel_rfl) rfl hw⟩
theorem clean13_holds : Rows.LeastCleansUptoSaid :=
  OpenClaim.holds_of_cond 6 Try.f6 rfl rfl rfl rfl rfl rfl rfl ⟨rfl, rfl, rfl, rfl, rfl⟩ rfl rfl rfl rfl rfl (by kernel_rfl) Try.func6 (by kernel_rfl)
    (of_decide_eq_true (by kernel_rfl)) (by unfold Func.isWrapper; first | (rw [if_pos (by decide +kernel)]; kernel_rfl) | (rw [if_neg (by decide +kernel)]; exact ⟨rfl, rfl⟩))
    (fun os started H enc _ F => clean13_lifted os started H enc F)
#print axioms clean13_holds
end Go.Proofs.Ytbckikcfcclioaa
