/-
  For all productions the law WcnfOf answers true and leaves its argument as it was, where it holds at most 1048576 values and letters.
-/
import Derived.Test.YtjkfieilaahejaaWcnfOfLaw14
import Derived.Test.YtjkfieilaahejaaCnfBulk
namespace Go.Proofs.Ytjkfieilaahejaa
open Go.ChangeMaps Go.ChangeShapes Go.WideShapes Go.ChangeAt Go.RowKit
set_option linter.unusedVariables false
theorem wcnfof14_below (S : Int) (pv : Value) (T : List Tr) (w : World) (hP : Prods w pv T) (hT : T.length ≤ 1048576) (hN : tot T ≤ 1048576) :
    Calls Try.prog 7 #[.agg #[.int .i64 S, pv]] w fun e w' => e = .returned (.bool true) ∧ Below w.heap.size w w' :=
  (wcnfoflaw S pv T w hP hT hN).mono fun e w' ⟨he, hw⟩ => ⟨he, hw.below (Nat.le_refl _) fun _ _ h => h⟩
set_option maxRecDepth 100000 in
theorem wcnfof14_lifted (os : Os) (started : os.Started) (H : Type) (enc : TypeId × Value → H) (F : Stop.Interp) :
    ReturnsInHanded {} Try.checked os 7 .any ((Rows.OpenSpec.upto Rows.wcnfOfSpec).pre6 enc Try.prog Try.f7 Rows.wcnfOfUptoRow.domain false) (((Rows.OpenSpec.upto Rows.wcnfOfSpec).at F).post enc Try.prog Try.f7 false true false false) := by
  refine returnsInHanded_of_cond (C := Try.checked) (s := Rows.OpenSpec.upto Rows.wcnfOfSpec) (k := Rows.uptoSmall) rfl Try.own started (by kernel_rfl) Try.func7
    (OpenSpec.witness (enc := enc) (C := Try.checked) (s := Rows.OpenSpec.upto Rows.wcnfOfSpec) (k := Rows.uptoSmall) rfl false ⟨#[], #[.agg #[.int .i64 0, .slice none 0 0]], []⟩ 8 (by kernel_rfl) (by kernel_rfl) (by kernel_rfl)
      (x := ([.agg [.lit (.int .i64 0), .nil]], [], [])) (by kernel_rfl) rfl (by kernel_rfl)) ?_
  intro W base args ds gs before hval0 hW _ hk _
  have hval : ∀ (j : Nat) t v, Try.f7.params[j]? = some t → args[j]? = some v → Value.okWide Try.prog W .any base t v := hval0
  have hW' := hW
  obtain ⟨p, q, hA0, hV, rfl, hfz, hnd⟩ := hW
  have hA : DataW.TrodAll enc Try.prog W 0 (fun _ => true) true Try.f7.params.toList args.toList ds p := hA0
  rw [Try.params7] at hA hval
  obtain ⟨v0, vs0, d0, ds0, p0, q0, hargs, rfl, rfl, h0, r0⟩ := trodAll_cons hA
  obtain ⟨rfl, rfl, rfl⟩ := trodAll_nil r0
  obtain rfl : args = #[v0] := by cases args; simp_all
  obtain ⟨S, pv, T, rfl, hP, hN, hT⟩ := open_cnfB (hval 0 24 v0 rfl rfl) h0
  have hb := bulk_small hk
  have hb0 := bulk_part (d := d0) (l := [d0] ++ gs) (by simp)
  refine (wcnfof14_below S pv T W hP (by omega) (by omega)).mono fun e W' ⟨he, hw⟩ => ?_
  subst he
  exact ⟨_, rfl, law_post (s := Rows.wcnfOfSpec) hW' rfl (by intro t ht; rw [Try.params7] at ht; simp at ht; subst ht; exact ⟨by kernel_rfl, of_decide_eq_true (by kernel_rfl)⟩) (by kernel_rfl) rfl hw⟩
theorem wcnfof14_holds : Rows.WcnfOfUptoSaid :=
  OpenClaim.holds_of_cond 7 Try.f7 rfl rfl rfl rfl rfl rfl rfl ⟨rfl, rfl, rfl, rfl, rfl⟩ rfl rfl rfl rfl rfl (by kernel_rfl) Try.func7 (by kernel_rfl)
    (of_decide_eq_true (by kernel_rfl)) (by unfold Func.isWrapper; first | (rw [if_pos (by decide +kernel)]; kernel_rfl) | (rw [if_neg (by decide +kernel)]; exact ⟨rfl, rfl⟩))
    (fun os started H enc _ F => wcnfof14_lifted os started H enc F)
#print axioms wcnfof14_holds
end Go.Proofs.Ytjkfieilaahejaa
