/-
  Bytes: blanks, signs, kinds of marks, the program's and the reference's.
-/
import Derived.Test.YtogobjokjpddbaaRows
import Derived.WalkKit
import Derived.Laws.Tables
import Derived.Lib.Hide
import Derived.Deep.Light
namespace Go.Proofs.Ytogobjokjpddbaa
open Go.RowKit
set_option linter.unusedVariables false
set_option linter.unusedSimpArgs false
def blankN (c : Nat) : Bool := c == 32 || (c == 9 || (c == 10 || c == 13))
def signN (c : Nat) : Nat :=
  if c = 61 then 4 else if c = 59 then 5 else if c = 124 then 6 else if c = 42 then 7 else if c = 43 then 8 else if c = 63 then 9 else if c = 40 then 10 else if c = 41 then 11 else if c = 37 then 12 else 0
def kindN (c : Nat) : Nat := if 65 ≤ c ∧ c ≤ 90 then 1 else if 97 ≤ c ∧ c ≤ 122 then 2 else if (48 ≤ c ∧ c ≤ 57) ∨ c = 95 then 3 else signN c
def innerN (c : Nat) : Bool := decide ((97 ≤ c ∧ c ≤ 122) ∨ (65 ≤ c ∧ c ≤ 90) ∨ (48 ≤ c ∧ c ≤ 57) ∨ c = 95)
theorem ret_i {a b : Int} (h : a = b) : Ending.returned (.int .i64 a) = .returned (.int .i64 b) := by rw [h]
theorem ret_b {a b : Bool} (h : a = b) : Ending.returned (.bool a) = .returned (.bool b) := by rw [h]
theorem signN_le (c : Nat) : signN c ≤ 12 := by unfold signN; (repeat' split) <;> omega
theorem signN_ne (c : Nat) (h : signN c ≠ 0) : 4 ≤ signN c := by unfold signN at *; (repeat' split at h) <;> (repeat' split) <;> omega
theorem kindN_le (c : Nat) : kindN c ≤ 12 := by have := signN_le c; unfold kindN; (repeat' split) <;> omega
theorem innerN_iff (c : Nat) : innerN c = true ↔ 1 ≤ kindN c ∧ kindN c ≤ 3 := by
  have := signN_ne c
  unfold innerN kindN
  rw [decide_eq_true_eq]
  (repeat' split) <;> omega
def wordK (k : Nat) : Bool := decide (1 ≤ k ∧ k ≤ 3)
theorem innerN_kind (c : Nat) : innerN c = wordK (kindN c) := by
  unfold wordK; rw [Bool.eq_iff_iff, innerN_iff, decide_eq_true_eq]
theorem blank_kind (c : Nat) (h : blankN c = true) : kindN c = 0 := by
  have : c = 32 ∨ c = 9 ∨ c = 10 ∨ c = 13 := by simpa [blankN] using h
  rcases this with rfl | rfl | rfl | rfl <;> decide
section
set_option maxHeartbeats 400000
set_option maxRecDepth 100000
theorem sign_yes (c k : Nat) (w : World) (h : (c = 61 ∧ k = 4) ∨ (c = 59 ∧ k = 5) ∨ (c = 124 ∧ k = 6) ∨ (c = 42 ∧ k = 7) ∨ (c = 43 ∧ k = 8) ∨ (c = 63 ∧ k = 9) ∨ (c = 40 ∧ k = 10) ∨ (c = 41 ∧ k = 11) ∨ (c = 37 ∧ k = 12)) :
    Calls Try.prog 35 #[.int .u8 c] w fun e w' => e = .returned (.int .i64 k) ∧ w = w' := by
  rcases h with ⟨rfl, rfl⟩ | ⟨rfl, rfl⟩ | ⟨rfl, rfl⟩ | ⟨rfl, rfl⟩ | ⟨rfl, rfl⟩ | ⟨rfl, rfl⟩ | ⟨rfl, rfl⟩ | ⟨rfl, rfl⟩ | ⟨rfl, rfl⟩
  all_goals
    go_enter Try.func35, Try.ntmps35
    go_wp2
    go_ret
    exact ⟨rfl, rfl⟩
theorem sign_no (c : Nat) (w : World) (h1 : c ≠ 61) (h2 : c ≠ 59) (h3 : c ≠ 124) (h4 : c ≠ 42) (h5 : c ≠ 43) (h6 : c ≠ 63) (h7 : c ≠ 40) (h8 : c ≠ 41) (h9 : c ≠ 37) :
    Calls Try.prog 35 #[.int .u8 c] w fun e w' => e = .returned (.int .i64 0) ∧ w = w' := by
  have e1 : ((c : Int) == 61) = false := by simp; omega
  have e2 : ((c : Int) == 59) = false := by simp; omega
  have e3 : ((c : Int) == 124) = false := by simp; omega
  have e4 : ((c : Int) == 42) = false := by simp; omega
  have e5 : ((c : Int) == 43) = false := by simp; omega
  have e6 : ((c : Int) == 63) = false := by simp; omega
  have e7 : ((c : Int) == 40) = false := by simp; omega
  have e8 : ((c : Int) == 41) = false := by simp; omega
  have e9 : ((c : Int) == 37) = false := by simp; omega
  clear h1 h2 h3 h4 h5 h6 h7 h8 h9
  go_enter Try.func35, Try.ntmps35
  go_wp2
  go_ret
  exact ⟨rfl, rfl⟩
theorem sign_any (c : Nat) (w : World) : Calls Try.prog 35 #[.int .u8 c] w fun e w' => e = .returned (.int .i64 (signN c)) ∧ w = w' := by
  unfold signN
  repeat' split
  all_goals first
    | (refine (sign_yes c _ w ?_).mono fun e w' h => h; omega)
    | (refine (sign_no c w ?_ ?_ ?_ ?_ ?_ ?_ ?_ ?_ ?_).mono fun e w' h => h <;> assumption)
theorem kind_any (c : Nat) (w : World) (h : c < 256) : Calls Try.prog 28 #[.int .u8 c] w fun e w' => e = .returned (.int .i64 (kindN c)) ∧ w = w' := by
  go_enter Try.func28, Try.ntmps28
  go_wp2_with fail
  all_goals first
    | (go_ret; refine ⟨ret_i ?_, rfl⟩; go_light; (try simp only [beq_iff_eq, beq_eq_false_iff_ne] at *); unfold kindN; (repeat' split) <;> omega)
    | (refine (sign_any c _).mono ?_; rintro e w' ⟨rfl, rfl⟩; go_wp2_with fail; go_ret; refine ⟨ret_i ?_, rfl⟩; go_light; (try simp only [beq_iff_eq, beq_eq_false_iff_ne] at *); unfold kindN; (repeat' split) <;> omega)
theorem isBlank_any (c : Nat) (w : World) : Calls Try.prog 34 #[.int .u8 c] w fun e w' => e = .returned (.bool (blankN c)) ∧ w = w' := by
  go_enter Try.func34, Try.ntmps34
  go_wp2
  all_goals go_ret
  all_goals (refine ⟨ret_b ?_, rfl⟩; go_light; (try simp only [beq_iff_eq, beq_eq_false_iff_ne] at *); rw [Bool.eq_iff_iff]; simp [blankN]; omega)
theorem isWord_any (k : Nat) (w : World) : Calls Try.prog 29 #[.int .i64 k] w fun e w' => e = .returned (.bool (wordK k)) ∧ w = w' := by
  go_enter Try.func29, Try.ntmps29
  go_wp2
  all_goals go_ret
  all_goals (refine ⟨ret_b ?_, rfl⟩; go_light; (try simp only [beq_iff_eq, beq_eq_false_iff_ne] at *); rw [Bool.eq_iff_iff]; simp [wordK]; omega)
theorem rBlank_any (c : Nat) (w : World) : Calls Try.prog 24 #[.int .u8 c] w fun e w' => e = .returned (.bool (blankN c)) ∧ w = w' := by
  go_enter Try.func24, Try.ntmps24
  go_wp2
  all_goals go_ret
  all_goals (refine ⟨ret_b ?_, rfl⟩; go_light; (try simp only [beq_iff_eq, beq_eq_false_iff_ne] at *); rw [Bool.eq_iff_iff]; simp [blankN]; omega)
theorem rInner_any (c : Nat) (w : World) : Calls Try.prog 26 #[.int .u8 c] w fun e w' => e = .returned (.bool (innerN c)) ∧ w = w' := by
  go_enter Try.func26, Try.ntmps26
  go_wp2
  all_goals go_ret
  all_goals (refine ⟨ret_b ?_, rfl⟩; go_light; (try simp only [beq_iff_eq, beq_eq_false_iff_ne] at *); rw [Bool.eq_iff_iff]; simp [innerN]; omega)
end
end Go.Proofs.Ytogobjokjpddbaa
