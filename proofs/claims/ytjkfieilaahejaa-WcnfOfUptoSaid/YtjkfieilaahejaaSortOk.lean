/-
  What Sort answers.
-/
import Derived.Test.YtjkfieilaahejaaSortMath
namespace Go.Proofs.Ytjkfieilaahejaa
open Go.RowKit
set_option linter.unusedVariables false
set_option linter.unusedSimpArgs false
theorem sort_bad (S : Int) (pv : Value) (T : List Tr) (w : World) (hP : Prods w pv T) (hf : Fits T) (hn : ¬ CnfOK S T) :
    Calls Try.prog 23 #[.agg #[.int .i64 S, pv]] w fun e w' => e = .returned (.tuple #[.agg #[.int .i64 0, .slice none 0 0], .int .i64 220]) ∧ Far (fun _ => False) w w' := by
  refine (csort_any S pv T w hP hf.1.1 hf.1.2).mono ?_
  rintro e w' ⟨⟨_, rfl⟩ | ⟨hy, _⟩, hw⟩
  · exact ⟨rfl, hw⟩
  · exact absurd hy hn
theorem sort_ok (S : Int) (pv : Value) (T : List Tr) (w : World) (hP : Prods w pv T) (hf : Fits T) (hy : CnfOK S T) :
    Calls Try.prog 23 #[.agg #[.int .i64 S, pv]] w fun e w' => (∃ R ao c, e = .returned (.tuple #[.agg #[.int .i64 S, .slice ao R.length c], .int .i64 0]) ∧ PO w' (.slice ao R.length c) R ∧ (Up (R.map pl) ∧ (∀ x, x ∈ R.map pl ↔ x ∈ T.map pl) ∧ R.length ≤ T.length) ∧ Fits R ∧ CnfOK S R) ∧ Far (fun _ => False) w w' := by
  refine (csort_any S pv T w hP hf.1.1 hf.1.2).mono ?_
  rintro e w' ⟨⟨hn, _⟩ | ⟨_, pv', T1, T2, rfl, hm, hso, hp⟩, hw⟩
  · exact absurd hy hn
  · obtain ⟨c1, c2, c3⟩ := canon hso
    have hl : T1.length = T.length := by have := congrArg List.length hm; simpa only [List.length_map] using this
    rw [hm] at c2
    rw [hl] at c3
    generalize dd T2 T2.length = R at *
    obtain ⟨ao, c, rfl⟩ := Src.form hp.1.1
    refine ⟨⟨R, ao, c, rfl, hp, ⟨c1, c2, c3⟩, ?_, ?_⟩, hw⟩
    · exact fits_le c3 (fun t ht => by obtain ⟨u, hu, e1, e2⟩ := mem_of_pl (fun x hx => (c2 x).1 hx) ht; exact ⟨u, hu, by rw [e2]⟩) hf
    · exact ok_le (fun t ht => by obtain ⟨u, hu, e1, e2⟩ := mem_of_pl (fun x hx => (c2 x).1 hx) ht; exact ⟨u, hu, e1, fun s hs => by rw [e2]; exact hs⟩) hy
end Go.Proofs.Ytjkfieilaahejaa
