/-
  Get and Row, the program's and the reference's.
-/
import Derived.Test.YtbcklcikmhpclaaDoorSmall
namespace Go.Proofs.YtbcklcikmhpclaaDoor
open Go.RowKit
set_option linter.unusedVariables false
set_option linter.unusedSimpArgs false
section
set_option maxHeartbeats 400000
set_option maxRecDepth 100000
theorem get_yes (f : Nat → Nat) (r c : Nat) (w : World) (hr : r < 64) (hc : c < 64) (hf : Wf f) :
    Calls Tryd.prog 30 #[.agg (Rw f), .int .i64 r, .int .i64 c] w fun e w' => e = .returned (.tuple #[.bool ((f r).testBit c), .int .i64 0]) ∧ Below w.heap.size w w' := by
  have hq : (bits .and .u64 (f r) (pw c) != 0) = (f r).testBit c := by
    rw [bits_and64 _ _ (hf r hr) (pw_lt hc)]
    have h1 := and_pw (f r) c
    cases hb : (f r).testBit c
    · rw [h1.2 hb]; rfl
    · have : ¬ (f r &&& pw c = 0) := fun e => by rw [h1.1 e] at hb; cases hb
      simp; omega
  go_enter Tryd.func30, Tryd.ntmps30
  go_wp2_with fail
  refine (cell_yes r c _ hr hc).mono ?_
  rintro e w' ⟨rfl, rfl⟩
  go_wp2_with fail
  refine still_all (by kernel_rfl) (by kernel_rfl) fun wd hwd => ?_
  have d : Hold wd w.heap.size (Rw f) := (Hold.new rfl).drew_eq hwd
  have db : Below w.heap.size w wd := Below.drew_eq ((Below.refl _ _).alloc (Nat.le_refl _) _) hwd
  have hcell := d.cell (Rw_get f r hr)
  have hri : (r : Int) < 64 := by omega
  clear hwd
  repeat still_step
  refine wpStill_step (fun K hK => ?_)
  go_simp
  refine ⟨_, same_symm (bit_any c _ hc), hK _ ?_⟩
  clear hK K
  repeat still_step
  refine wpStill_nil ?_
  go_wp2_with fail
  go_ret2
  exact ⟨rfl, db⟩
theorem get_no (f : Nat → Nat) (r c : Int) (w : World) (h : r < 0 ∨ 64 ≤ r ∨ c < 0 ∨ 64 ≤ c) :
    Calls Tryd.prog 30 #[.agg (Rw f), .int .i64 r, .int .i64 c] w fun e w' => e = .returned (.tuple #[.bool false, .int .i64 2]) ∧ Below w.heap.size w w' := by
  go_enter Tryd.func30, Tryd.ntmps30
  go_wp2_with fail
  refine (cell_no r c _ h).mono ?_
  rintro e w' ⟨rfl, rfl⟩
  go_wp2_with fail
  go_ret2
  exact ⟨rfl, (Below.refl _ _).alloc (Nat.le_refl _) _⟩
theorem row_yes (f : Nat → Nat) (r : Nat) (w : World) (hr : r < 64) :
    Calls Tryd.prog 31 #[.agg (Rw f), .int .i64 r] w fun e w' => e = .returned (.tuple #[.int .u64 (f r), .int .i64 0]) ∧ Below w.heap.size w w' := by
  have g := Rw_get f r hr
  go_enter Tryd.func31, Tryd.ntmps31
  go_wp2_with fail
  refine (line_yes r _ hr).mono ?_
  rintro e w' ⟨rfl, rfl⟩
  go_wp2_with fail
  go_ret2
  exact ⟨rfl, (Below.refl _ _).alloc (Nat.le_refl _) _⟩
theorem row_no (f : Nat → Nat) (r : Int) (w : World) (h : r < 0 ∨ 64 ≤ r) :
    Calls Tryd.prog 31 #[.agg (Rw f), .int .i64 r] w fun e w' => e = .returned (.tuple #[.int .u64 0, .int .i64 2]) ∧ Below w.heap.size w w' := by
  go_enter Tryd.func31, Tryd.ntmps31
  go_wp2_with fail
  refine (line_no r _ h).mono ?_
  rintro e w' ⟨rfl, rfl⟩
  go_wp2_with fail
  go_ret2
  exact ⟨rfl, (Below.refl _ _).alloc (Nat.le_refl _) _⟩
end
end Go.Proofs.YtbcklcikmhpclaaDoor
