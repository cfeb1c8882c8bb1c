/-
  What a copy of the productions keeps.
-/
import Derived.Test.YteojbnkjphghkaaDoorHead15
import Derived.Test.YteojbnkjphghkaaDoorCopy
namespace Go.Proofs.YteojbnkjphghkaaDoor
open Go.RowKit
set_option linter.unusedVariables false
set_option linter.unusedSimpArgs false
theorem pl_some {T T' : List Tr} (h : T'.map pl = T.map pl) {t : Tr} (ht : t ∈ T') : ∃ u ∈ T, u.1 = t.1 ∧ u.2.2 = t.2.2 := by
  have h1 : pl t ∈ T'.map pl := List.mem_map.2 ⟨t, ht, rfl⟩
  rw [h] at h1
  obtain ⟨u, hu, e⟩ := List.mem_map.1 h1
  exact ⟨u, hu, (congrArg Prod.fst e : (pl u).1 = (pl t).1), (congrArg Prod.snd e : (pl u).2 = (pl t).2)⟩
theorem ok_pl {S : Int} {T T' : List Tr} (h : T'.map pl = T.map pl) (hw : CnfOK S T) : CnfOK S T' := ⟨hw.1, fun t ht => by
  obtain ⟨u, hu, e1, e2⟩ := pl_some h ht
  have := hw.2 u hu
  unfold prodOK at *
  rw [← e1, ← e2]
  exact this⟩
theorem weak_pl {S : Int} {T T' : List Tr} (h : T'.map pl = T.map pl) (hw : WeakP S T) : WeakP S T' := ⟨ok_pl h hw.1, fun t ht => by
  obtain ⟨u, hu, _, e2⟩ := pl_some h ht
  have := hw.2 u hu
  rwa [e2] at this⟩
theorem code_pl {S : Int} {T T' : List Tr} (h : T'.map pl = T.map pl) (nts : List Int) (n : Nat) : codeL S T' nts n = codeL S T nts n := by
  by_cases h1 : CnfOK S T
  · by_cases h2 : WeakP S T
    · by_cases h3 : ∃ x ∈ nts, x < 0 ∨ S ≤ x
      · rw [code_arg h2 h3, code_arg (weak_pl h h2) h3]
      · by_cases h4 : n ≤ 64
        · rw [code_ok h2 h3 h4, code_ok (weak_pl h h2) h3 h4]
        · rw [code_long h2 h3 (by omega), code_long (weak_pl h h2) h3 (by omega)]
    · rw [code_weak h1 h2, code_weak (ok_pl h h1) fun q => h2 (weak_pl h.symm q)]
  · rw [code_prods h1, code_prods fun q => h1 (ok_pl h.symm q)]
theorem ans_pl {S : Int} {T T' : List Tr} (h : T'.map pl = T.map pl) (nt : Int) (Wo : List Int) : ansP S T' nt Wo ↔ ansP S T nt Wo := by
  unfold ansP
  rw [code_pl h, h]
theorem len_pl {T T' : List Tr} (h : T'.map pl = T.map pl) : T'.length = T.length := by simpa using congrArg List.length h
theorem lens_pl {T T' : List Tr} (h : T'.map pl = T.map pl) {n : Nat} (hs : ∀ t ∈ T, t.2.2.length ≤ n) : ∀ t ∈ T', t.2.2.length ≤ n := fun t ht => by
  obtain ⟨u, hu, _, e2⟩ := pl_some h ht
  rw [← e2]
  exact hs u hu
end Go.Proofs.YteojbnkjphghkaaDoor
