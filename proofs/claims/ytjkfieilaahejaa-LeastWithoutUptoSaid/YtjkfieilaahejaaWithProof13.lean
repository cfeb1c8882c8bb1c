/-
  LeastWithout said, up to a bulk.
-/
import Derived.Test.YtjkfieilaahejaaWithLaw13
import Derived.Test.YtjkfieilaahejaaCnfCap13
namespace Go.Proofs.Ytjkfieilaahejaa
open Go.ChangeMaps Go.ChangeShapes Go.WideShapes Go.ChangeAt Go.RowKit
set_option linter.unusedVariables false
theorem with13_below (S : Int) (pv : Value) (T : List Tr) (w : World) (hP : Prods w pv T) (hcp : ∀ t ∈ T, Capd t.2.1) (hT : T.length ≤ 1048576) (hN : tot T ≤ 1048576) :
    Calls Try.prog 4 #[.agg #[.int .i64 S, pv]] w fun e w' => e = .returned (.bool true) ∧ Below w.heap.size w w' :=
  (withlaw S pv T w hP hcp hT hN).mono fun e w' ⟨he, hw⟩ => ⟨he, hw.below (Nat.le_refl _) fun _ _ h => h⟩
set_option maxRecDepth 100000 in
theorem with13_lifted (os : Os) (started : os.Started) (H : Type) (enc : TypeId × Value → H) (F : Stop.Interp) :
    ReturnsInHanded {} Try.checked os 4 .any ((Rows.OpenSpec.upto Rows.leastWithoutSpec).pre6 enc Try.prog Try.f4 Rows.leastWithoutUptoRow.domain false) (((Rows.OpenSpec.upto Rows.leastWithoutSpec).at F).post enc Try.prog Try.f4 false true false false) := by
  refine returnsInHanded_of_cond (C := Try.checked) (s := Rows.OpenSpec.upto Rows.leastWithoutSpec) (k := Rows.uptoSmall) rfl Try.own started (by kernel_rfl) Try.func4
    (OpenSpec.witness (enc := enc) (C := Try.checked) (s := Rows.OpenSpec.upto Rows.leastWithoutSpec) (k := Rows.uptoSmall) rfl false ⟨#[], #[.agg #[.int .i64 0, .slice none 0 0]], []⟩ 8 (by kernel_rfl) (by kernel_rfl) (by kernel_rfl)
      (x := ([.agg [.lit (.int .i64 0), .nil]], [], [])) (by kernel_rfl) rfl (by kernel_rfl)) ?_
  intro W base args ds gs before hval0 hW _ hk _
  have hval : ∀ (j : Nat) t v, Try.f4.params[j]? = some t → args[j]? = some v → Value.okWide Try.prog W .any base t v := hval0
  have hW' := hW
  obtain ⟨p, q, hA0, hV, rfl, hfz, hnd⟩ := hW
  have hA : DataW.TrodAll enc Try.prog W 0 (fun _ => true) true Try.f4.params.toList args.toList ds p := hA0
  rw [Try.params4] at hA hval
  obtain ⟨v0, vs0, d0, ds0, p0, q0, hargs, rfl, rfl, h0, r0⟩ := trodAll_cons hA
  obtain ⟨rfl, rfl, rfl⟩ := trodAll_nil r0
  obtain rfl : args = #[v0] := by cases args; simp_all
  obtain ⟨S, pv, T, rfl, hP, hN, hT, hcp⟩ := open_cnfC (hval 0 24 v0 rfl rfl) h0
  have hb := bulk_small hk
  have hb0 := bulk_part (d := d0) (l := [d0] ++ gs) (by simp)
  refine (with13_below S pv T W hP hcp (by omega) (by omega)).mono fun e W' ⟨he, hw⟩ => ?_
  subst he
  exact ⟨_, rfl, law_post (s := Rows.leastWithoutSpec) hW' rfl (by intro t ht; rw [Try.params4] at ht; simp at ht; subst ht; exact ⟨by kernel_rfl, of_decide_eq_true (by kernel_rfl)⟩) (by kernel_rfl) rfl hw⟩
theorem with13_holds : Rows.LeastWithoutUptoSaid :=
  OpenClaim.holds_of_cond 4 Try.f4 rfl rfl rfl rfl rfl rfl rfl ⟨rfl, rfl, rfl, rfl, rfl⟩ rfl rfl rfl rfl rfl (by kernel_rfl) Try.func4 (by kernel_rfl)
    (of_decide_eq_true (by kernel_rfl)) (by unfold Func.isWrapper; first | (rw [if_pos (by decide +kernel)]; kernel_rfl) | (rw [if_neg (by decide +kernel)]; exact ⟨rfl, rfl⟩))
    (fun os started H enc _ F => with13_lifted os started H enc F)
#print axioms with13_holds
end Go.Proofs.Ytjkfieilaahejaa
