/-
  All symbols of productions, counted.
-/
import Derived.Test.YtjkfieilaahejaaCnf
namespace Go.Proofs.Ytjkfieilaahejaa
open Go.RowKit
set_option linter.unusedVariables false
set_option linter.unusedSimpArgs false
def tot : List Tr → Nat
  | [] => 0
  | t :: T => t.2.2.length + tot T
theorem tot_app : ∀ A B : List Tr, tot (A ++ B) = tot A + tot B
  | [], B => by simp [tot]
  | t :: A, B => by rw [List.cons_append, tot, tot, tot_app A B]; omega
theorem tot_take (T : List Tr) (i : Nat) : tot (T.take i) ≤ tot T := by
  have := tot_app (T.take i) (T.drop i)
  rw [List.take_append_drop] at this
  omega
theorem tot_at {T : List Tr} {i : Nat} {t : Tr} (h : T[i]? = some t) : tot (T.take i) + t.2.2.length ≤ tot T := by
  obtain ⟨h1, h2⟩ := List.getElem?_eq_some_iff.1 h
  have := tot_take T (i + 1)
  rw [List.take_succ_eq_append_getElem h1, h2, tot_app] at this
  simpa [tot] using this
theorem tot_mem : ∀ {T : List Tr} {t : Tr}, t ∈ T → t.2.2.length ≤ tot T
  | u :: T, t, h => by
    rcases List.mem_cons.1 h with rfl | h
    · simp only [tot]; omega
    · have := tot_mem h; simp only [tot]; omega
theorem tot_pl : ∀ {T T' : List Tr}, T'.map pl = T.map pl → tot T' = tot T
  | [], [], _ => rfl
  | [], _ :: _, h => by simp at h
  | _ :: _, [], h => by simp at h
  | t :: T, t' :: T', h => by
    simp only [List.map_cons, List.cons.injEq] at h
    have h1 : (pl t').2 = (pl t).2 := by rw [h.1]
    change t'.2.2 = t.2.2 at h1
    simp only [tot]
    rw [h1, tot_pl h.2]
end Go.Proofs.Ytjkfieilaahejaa
