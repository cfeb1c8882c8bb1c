/-
  The reference's Get and Row.
-/
import Derived.Test.YtbcklcikmhpclaaGets
namespace Go.Proofs.Ytbcklcikmhpclaa
open Go.RowKit
set_option linter.unusedVariables false
set_option linter.unusedSimpArgs false
section
set_option maxHeartbeats 400000
set_option maxRecDepth 100000
theorem rget_yes (f : Nat → Nat) (r c : Nat) (w : World) (hr : r < 64) (hc : c < 64) :
    Calls Try.prog 10 #[.agg (Rw f), .int .i64 r, .int .i64 c] w fun e w' => e = .returned (.tuple #[.bool ((f r).testBit c), .int .i64 0]) ∧ Below w.heap.size w w' := by
  go_enter Try.func10, Try.ntmps10
  go_wp2_with fail
  refine (in_yes r _ hr).mono ?_
  rintro e w' ⟨rfl, rfl⟩
  go_wp2_with fail
  refine (in_yes c _ hc).mono ?_
  rintro e w' ⟨rfl, rfl⟩
  go_wp2_with (apply wpList_ld rfl _ rfl _ rfl; focus exact Hold.new rfl)
  refine (has_any f r c _ hr hc).mono ?_
  rintro e w' ⟨rfl, rfl⟩
  go_wp2_with fail
  go_ret2
  exact ⟨rfl, ((Below.refl _ _).alloc (Nat.le_refl _) _).alloc (by simp) _⟩
theorem rget_no (f : Nat → Nat) (r c : Int) (w : World) (h : r < 0 ∨ 64 ≤ r ∨ c < 0 ∨ 64 ≤ c) :
    Calls Try.prog 10 #[.agg (Rw f), .int .i64 r, .int .i64 c] w fun e w' => e = .returned (.tuple #[.bool false, .int .i64 2]) ∧ Below w.heap.size w w' := by
  by_cases hr : r < 0 ∨ 64 ≤ r
  · go_enter Try.func10, Try.ntmps10
    go_wp2_with fail
    refine (in_no r _ hr).mono ?_
    rintro e w' ⟨rfl, rfl⟩
    go_wp2_with fail
    go_ret2
    exact ⟨rfl, (Below.refl _ _).alloc (Nat.le_refl _) _⟩
  · obtain ⟨n, rfl⟩ := Int.eq_ofNat_of_zero_le (show 0 ≤ r by omega)
    have hn : n < 64 := by omega
    have hc : c < 0 ∨ 64 ≤ c := by omega
    clear h hr
    go_enter Try.func10, Try.ntmps10
    go_wp2_with fail
    refine (in_yes n _ hn).mono ?_
    rintro e w' ⟨rfl, rfl⟩
    go_wp2_with fail
    refine (in_no c _ hc).mono ?_
    rintro e w' ⟨rfl, rfl⟩
    go_wp2_with fail
    go_ret2
    exact ⟨rfl, (Below.refl _ _).alloc (Nat.le_refl _) _⟩
theorem rrow_yes (f : Nat → Nat) (r : Nat) (w : World) (hr : r < 64) :
    Calls Try.prog 12 #[.agg (Rw f), .int .i64 r] w fun e w' => e = .returned (.tuple #[.int .u64 (f r), .int .i64 0]) ∧ Below w.heap.size w w' := by
  have g := Rw_get f r hr
  go_enter Try.func12, Try.ntmps12
  go_wp2_with fail
  refine (in_yes r _ hr).mono ?_
  rintro e w' ⟨rfl, rfl⟩
  go_wp2_with fail
  go_ret2
  exact ⟨rfl, (Below.refl _ _).alloc (Nat.le_refl _) _⟩
theorem rrow_no (f : Nat → Nat) (r : Int) (w : World) (h : r < 0 ∨ 64 ≤ r) :
    Calls Try.prog 12 #[.agg (Rw f), .int .i64 r] w fun e w' => e = .returned (.tuple #[.int .u64 0, .int .i64 2]) ∧ Below w.heap.size w w' := by
  go_enter Try.func12, Try.ntmps12
  go_wp2_with fail
  refine (in_no r _ h).mono ?_
  rintro e w' ⟨rfl, rfl⟩
  go_wp2_with fail
  go_ret2
  exact ⟨rfl, (Below.refl _ _).alloc (Nat.le_refl _) _⟩
end
end Go.Proofs.Ytbcklcikmhpclaa
