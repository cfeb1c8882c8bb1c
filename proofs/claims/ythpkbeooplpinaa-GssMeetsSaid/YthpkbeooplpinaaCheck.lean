/-
  check, over numbers that lie in memory.
-/
import Derived.Test.YthpkbeooplpinaaStack
namespace Go.Proofs.Ythpkbeooplpinaa
open Go.RowKit
set_option linter.unusedVariables false
set_option linter.unusedSimpArgs false
section
set_option maxHeartbeats 400000
set_option maxRecDepth 100000
theorem check_ok (xs : Nat → Int) (n g o cap B m : Nat) (ao : Option Addr) (len lcap : Nat) (w : World) (hn : n < 1000000) (hl : len < 1000000) (h0 : w.cell? ⟨B, 0, none⟩ = some (.slice ao len lcap)) (h1 : w.cell? ⟨B, 1, none⟩ = some (.map (some m)))
    (hx : ∀ k, k < n → w.cell? ⟨g, o + k, none⟩ = some (.int .i64 (xs k))) (hin : ∀ k, k < n → 0 ≤ xs k ∧ xs k < len) :
    Calls Try.prog 31 #[.pointer (some ⟨B, 0, none⟩), .slice (some ⟨g, o, none⟩) n cap] w fun e w' => e = .returned (.int .i64 0) ∧ w = w' := by
  go_enter Try.func31, Try.ntmps31
  go_wp2_with fail
  refine (none_no w B m h1).mono ?_
  rintro e w' ⟨rfl, rfl⟩
  go_wp2_with fail
  go_loop [11] (fun v => ∃ k : Nat, v = .int .i64 k ∧ k ≤ n) (fun v => n - (intOf v).toNat)
  case atStart => exact ⟨0, rfl, Nat.zero_le _⟩
  case round =>
    obtain ⟨k, rfl, hk⟩ := hrel
    by_cases hlt : k < n
    · have hc := hx k hlt
      obtain ⟨hp, hq⟩ := hin k hlt
      have d0 : decide ((k : Int) < (n : Int)) = true := by rw [decide_eq_true_eq]; omega
      have d1 : decide (xs k < 0) = false := by rw [decide_eq_false_iff_not]; omega
      have d2 : decide ((len : Int) ≤ xs k) = false := by rw [decide_eq_false_iff_not]; omega
      clear hx hin
      go_wp2_with fail
      go_round
      case rel => exact ⟨k + 1, by go_num, by omega⟩
      case measure => simp [intOf]; omega
    · have d0 : decide ((k : Int) < (n : Int)) = false := by rw [decide_eq_false_iff_not]; omega
      clear hx hin
      go_wp2_with fail
      go_ret
      exact ⟨rfl, rfl⟩
theorem check_bad (xs : Nat → Int) (n g o cap B m : Nat) (ao : Option Addr) (len lcap : Nat) (w : World) (hn : n < 1000000) (hl : len < 1000000) (h0 : w.cell? ⟨B, 0, none⟩ = some (.slice ao len lcap)) (h1 : w.cell? ⟨B, 1, none⟩ = some (.map (some m)))
    (hx : ∀ k, k < n → w.cell? ⟨g, o + k, none⟩ = some (.int .i64 (xs k))) (j : Nat) (hj : j < n) (hbad : ¬ (0 ≤ xs j ∧ xs j < len)) :
    Calls Try.prog 31 #[.pointer (some ⟨B, 0, none⟩), .slice (some ⟨g, o, none⟩) n cap] w fun e w' => e = .returned (.int .i64 4) ∧ w = w' := by
  go_enter Try.func31, Try.ntmps31
  go_wp2_with fail
  refine (none_no w B m h1).mono ?_
  rintro e w' ⟨rfl, rfl⟩
  go_wp2_with fail
  go_loop [11] (fun v => ∃ k : Nat, v = .int .i64 k ∧ k ≤ j) (fun v => n - (intOf v).toNat)
  case atStart => exact ⟨0, rfl, Nat.zero_le _⟩
  case round =>
    obtain ⟨k, rfl, hk⟩ := hrel
    have hlt : k < n := by omega
    have hc := hx k hlt
    have d0 : decide ((k : Int) < (n : Int)) = true := by rw [decide_eq_true_eq]; omega
    clear hx
    by_cases hp : xs k < 0
    · have d1 : decide (xs k < 0) = true := by rw [decide_eq_true_eq]; omega
      clear hbad
      go_wp2_with fail
      go_ret
      exact ⟨rfl, rfl⟩
    · have d1 : decide (xs k < 0) = false := by rw [decide_eq_false_iff_not]; omega
      by_cases hq : (len : Int) ≤ xs k
      · have d2 : decide ((len : Int) ≤ xs k) = true := by rw [decide_eq_true_eq]; omega
        clear hbad
        go_wp2_with fail
        go_ret
        exact ⟨rfl, rfl⟩
      · have d2 : decide ((len : Int) ≤ xs k) = false := by rw [decide_eq_false_iff_not]; omega
        have hne : k < j := by
          rcases Nat.lt_or_ge k j with h | h
          · exact h
          · have : k = j := by omega
            subst this
            exact absurd ⟨by omega, by omega⟩ hbad
        clear hbad
        go_wp2_with fail
        go_round
        case rel => exact ⟨k + 1, by go_num, by omega⟩
        case measure => simp [intOf]; omega
end
end Go.Proofs.Ythpkbeooplpinaa
