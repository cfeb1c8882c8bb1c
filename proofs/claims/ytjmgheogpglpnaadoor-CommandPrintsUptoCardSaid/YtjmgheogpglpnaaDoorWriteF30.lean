/-
  The writing function of a verb; the words are joined.
-/
import Derived.Test.YtjmgheogpglpnaaDoorWriteP30
import Derived.Test.YtjmgheogpglpnaaDoorWriteM30
import Derived.Test.YtjmgheogpglpnaaDoorForms30
import Derived.Test.YtjmgheogpglpnaaDoorShelf
namespace Go.Proofs.YtjmgheogpglpnaaDoor
open Go.RowKit
set_option linter.unusedVariables false
set_option linter.unusedSimpArgs false
theorem writes_any (v : Nat) (f : FuncId) (hf : wrV v = fnV f) (V : Value) (c : CI) (w : World) (h : CmW w V c) (hn : 1 + (c.names.length + c.nums.length) ≤ 1099511627776) (hI : ∀ n ∈ c.nums, -9223372036854775808 ≤ n ∧ n ≤ 9223372036854775807) (hL : Lw w) :
    Calls Tryd.prog f #[V] w fun e w' => ∃ ov, e = .returned ov ∧ TxS w' ov (tailF v c) ∧ Far (fun _ => False) w w' := by
  unfold wrV at hf
  unfold tailF
  by_cases h2 : v ≤ 2
  · rw [if_pos h2] at hf ⊢
    unfold fnV at hf
    simp only [Value.func.injEq, Fn.func.injEq] at hf
    rw [← hf.1]
    exact writeText_any V c w h
  rw [if_neg h2] at hf ⊢
  by_cases h5 : v = 5
  · rw [if_pos h5] at hf ⊢
    unfold fnV at hf
    simp only [Value.func.injEq, Fn.func.injEq] at hf
    rw [← hf.1]
    exact writeQuery_any V c w h (by omega)
  rw [if_neg h5] at hf ⊢
  by_cases h7 : v = 7
  · rw [if_pos h7] at hf ⊢
    unfold fnV at hf
    simp only [Value.func.injEq, Fn.func.injEq] at hf
    rw [← hf.1]
    exact writePaths_any V c w h (by omega) hI hL
  rw [if_neg h7] at hf ⊢
  unfold fnV at hf
  simp only [Value.func.injEq, Fn.func.injEq] at hf
  rw [← hf.1]
  exact writeNames_any V c w h
theorem lib_join : ∀ l : List Tx, Lib.join l [32] = joinW l
  | [] => rfl
  | [x] => by simp [Lib.join, joinW]
  | x :: y :: r => by
    show _ = x ++ 32 :: joinW (y :: r)
    rw [← lib_join (y :: r)]
    simp [Lib.join]
theorem join_own (B : Nat) (v : Value) (l : List Tx) (w : World) (ho : w.ownsRow B 9 1 v l.length (l.map st)) (h0 : 0 < l.length) (hN : l.length ≤ 140737488355328) (hlen : (joinW l).length ≤ 140737488351232) :
    Calls Tryd.prog 36 #[v, .string ⟨#[32]⟩] w fun e w' => e = .returned (st (joinW l)) ∧ Far (fun _ => False) w w' := by
  obtain ⟨g, cap, rfl, _, hg⟩ := World.ownsRow.form ho h0
  have hcap : l.length ≤ cap := by
    rcases ho.2 with ⟨e, _⟩ | ⟨g', cap', cur, e, _, _, hc, _⟩
    · cases e
    · injection e with _ _ e3
      rw [e3]; exact hc
  have hl : (l.map fun x => (⟨x.toArray⟩ : ByteArray)).length = l.length := List.length_map ..
  have hm : (l.map fun x => (⟨x.toArray⟩ : ByteArray)).map (·.data.toList) = l := by
    rw [List.map_map]
    conv => rhs; rw [← List.map_id l]
    exact List.map_congr_left fun x _ => rfl
  have J := Tryd.strings_Join g 0 cap (l.map fun x => (⟨x.toArray⟩ : ByteArray)) ⟨#[32]⟩ w (fun j x hx => by
    rw [List.getElem?_map] at hx
    cases hy : l[j]? with
    | none => rw [hy] at hx; cases hx
    | some y =>
      rw [hy] at hx
      injection hx with hx
      subst hx
      have := ho.cells (g := g) rfl j (st y) (by rw [List.getElem?_map, hy]; rfl)
      rw [Addr.add_lit] at this
      exact this) hg (by rw [hl]; exact hN) (by rw [hl]; exact hcap) (by rw [hm]; show (Lib.join l [32]).length ≤ _; rw [lib_join]; exact Nat.le_trans hlen (by decide))
  rw [hl, hm] at J
  refine J.mono ?_
  rintro e w' ⟨rfl, hb⟩
  exact ⟨by show Ending.returned (.string ⟨(Lib.join l [32]).toArray⟩) = _; rw [lib_join]; rfl, below_far' hb⟩
end Go.Proofs.YtjmgheogpglpnaaDoor
