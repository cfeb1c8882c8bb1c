/-
  A matrix or none, asked: its side, how many cells, its cells.
-/
import Derived.Test.YtjolkhiggcmoiaaGreatDoorQKeepsLaw
import Derived.Test.YtjolkhiggcmoiaaGreatDoorQOfAny
namespace Go.Proofs.YtjolkhiggcmoiaaGreatDoor
open Go.RowKit Go.Shelf
set_option linter.unusedVariables false
set_option linter.unusedSimpArgs false
theorem KT.own {A B C : World} {row : Option Nat} (h : KT A B) (hg : B.grownBy C row) (hr : ∀ r, row = some r → A.heap.size ≤ r) (hT : 0 < A.heap.size) : KT A C := ⟨Nat.le_trans h.1 hg.size, fun k hk => by
  have hka : k < A.heap.size := by
    rcases hk with rfl | ⟨cs, t, hb, _⟩
    · exact hT
    · exact hb.lt
  exact (hg.block k (Nat.lt_of_lt_of_le hka h.1) fun e => by have := hr k e.symm; omega).trans (h.2 k hk)⟩
theorem KT.ofFar {A B : World} {F : Nat → Prop} (hf : Far F A B) (hT : 0 < A.heap.size) (hF : ∀ k, F k → k ≠ 0 ∧ ∀ cs t, Bk A k t cs → t ≠ 71 ∧ t ≠ 131 ∧ t ≠ 124) : KT A B := ⟨hf.size, fun k hk => by
  have hka : k < A.heap.size := by
    rcases hk with rfl | ⟨cs, t, hb, _⟩
    · exact hT
    · exact hb.lt
  refine hf.block k hka fun e => ?_
  obtain ⟨h1, h2⟩ := hF k e
  rcases hk with rfl | ⟨cs, t, hb, ht⟩
  · exact h1 rfl
  · obtain ⟨q1, q2, q3⟩ := h2 cs t hb
    rcases ht with e | e | e
    · exact q1 e
    · exact q2 e
    · exact q3 e⟩
/-- A matrix's blocks are of none of the types of lists of cells or spots. -/
theorem Mx.types {w : World} {B side : Nat} {F : Nat → Prop} {M : Nat → Nat → Bool} (h : Mx w B F side M) {k : Nat} (hk : F k) (cs : Array Value) (t : TypeId) (hb : Bk w k t cs) : t ≠ 71 ∧ t ≠ 131 ∧ t ≠ 124 := by
  refine ⟨fun e => ?_, fun e => ?_, fun e => ?_⟩ <;> (subst e; exact h.notBk hb (by decide) (by decide) (by decide) hk)
theorem cellsL_zero : cellsL zeroM 0 = [] := rfl
theorem HasF.count {w : World} {v : Value} {F : Nat → Prop} {s : Nat} {M : Nat → Nat → Bool} (h : HasF w v F s M) : (cellsL M s).length = numM M := by
  exact cellsL_len h.le h.within
section
set_option maxHeartbeats 4000000
set_option maxRecDepth 100000
theorem HasF.side_any {w : World} {v : Value} {F : Nat → Prop} {s : Nat} {M : Nat → Nat → Bool} (h : HasF w v F s M) : Calls Tryz.prog 21 #[v] w fun e w' => e = .returned (.int .i64 (s : Nat)) ∧ w = w' := by
  rcases h with ⟨rfl, rfl, _⟩ | ⟨B, rfl, hX⟩
  · exact qside_nil w
  · exact hX.side
theorem qlen_nil (w : World) : Calls Tryz.prog 38 #[.pointer none] w fun e w' => e = .returned (.int .i64 0) ∧ w = w' := by
  go_enter Tryz.func38, Tryz.ntmps38
  go_wp2_with fail
  refine (qnone_nil w).mono ?_
  rintro e w' ⟨rfl, rfl⟩
  go_wp2_with fail
  go_ret
  exact ⟨rfl, rfl⟩
theorem HasF.len_any {w : World} {v : Value} {F : Nat → Prop} {s : Nat} {M : Nat → Nat → Bool} (h : HasF w v F s M) : Calls Tryz.prog 38 #[v] w fun e w' => e = .returned (.int .i64 ((cellsL M s).length : Nat)) ∧ Far (fun _ => False) w w' := by
  rw [h.count]
  rcases h with ⟨rfl, _, rfl, _⟩ | ⟨B, rfl, hX⟩
  · refine (qlen_nil w).mono ?_
    rintro e w' ⟨rfl, rfl⟩
    refine ⟨?_, Far.refl _ _⟩
    rw [show numM zeroM = 0 from numM_zero]
    rfl
  · exact qlen_any hX
theorem qspots_nil (w : World) : Calls Tryz.prog 72 #[.pointer none] w fun e w' => e = .returned (.slice none 0 0) ∧ w = w' := by
  go_enter Tryz.func72, Tryz.ntmps72
  go_wp2_with fail
  refine (qnone_nil w).mono ?_
  rintro e w' ⟨rfl, rfl⟩
  go_wp2_with fail
  go_ret
  exact ⟨rfl, rfl⟩
theorem HasF.cells_any {w : World} {v : Value} {F : Nat → Prop} {s : Nat} {M : Nat → Nat → Bool} (h : HasF w v F s M) :
    Calls Tryz.prog 39 #[v] w fun e w' => ∃ hb v, e = .returned (.func (.func 73) #[] #[.pointer (some ⟨hb, 0, Option.none⟩)]) ∧ Bk w' hb 124 #[v] ∧
      w'.ownsRow w.heap.size 131 66 v (placesL M s).length (srows M (placesL M s)).flatten ∧ w.heap.size ≤ hb ∧ Far (fun _ => False) w w' := by
  rcases h with ⟨rfl, rfl, rfl, _⟩ | ⟨B, rfl, hX⟩
  · go_enter Tryz.func39, Tryz.ntmps39
    go_wp2_with fail
    refine (qspots_nil w).mono ?_
    rintro e w' ⟨rfl, rfl⟩
    go_wp2_with fail
    go_ret
    exact ⟨_, _, rfl, Bk.new rfl, World.ownsRow_nil _ _ _ _, Nat.le_refl _, (Far.refl _ w).alloc _⟩
  · exact qCells_any hX
end
theorem HasF.places {w : World} {v : Value} {F : Nat → Prop} {s : Nat} {M : Nat → Nat → Bool} (h : HasF w v F s M) : (placesL M s).length ≤ 256 ∧ (∀ p ∈ placesL M s, p.1 < 16 ∧ p.2 < 16) ∧ cellsF M (placesL M s).length (placesL M s) = cellsL M s := by
  have hs := h.le
  refine ⟨placesL_few M hs, fun p hp => ?_, cells_canon hs h.within⟩
  obtain ⟨h1, h2, _⟩ := mem_placesL.1 hp
  have := lns_le hs
  omega
end Go.Proofs.YtjolkhiggcmoiaaGreatDoor
