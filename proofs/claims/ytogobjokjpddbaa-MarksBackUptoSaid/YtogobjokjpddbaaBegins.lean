/-
  The reference's Begins.
-/
import Derived.Test.YtogobjokjpddbaaSkip
import Derived.LoopN
import Derived.LoopTactic
namespace Go.Proofs.Ytogobjokjpddbaa
open Go.RowKit
set_option linter.unusedVariables false
set_option linter.unusedSimpArgs false
theorem kind_sign (c : Nat) (h : signN c ≠ 0) : kindN c = signN c := by
  unfold kindN signN at *
  (repeat' split at h) <;> (repeat' split) <;> first | rfl | omega
section
set_option maxHeartbeats 1000000
set_option maxRecDepth 100000
theorem begins_yes (c k : Nat) (w : World) (h : (c = 61 ∧ k = 4) ∨ (c = 59 ∧ k = 5) ∨ (c = 124 ∧ k = 6) ∨ (c = 42 ∧ k = 7) ∨ (c = 43 ∧ k = 8) ∨ (c = 63 ∧ k = 9) ∨ (c = 40 ∧ k = 10) ∨ (c = 41 ∧ k = 11) ∨ (c = 37 ∧ k = 12)) :
    Calls Try.prog 25 #[.int .u8 c] w fun e w' => e = .returned (.int .i64 k) ∧ w = w' := by
  rcases h with ⟨rfl, rfl⟩ | ⟨rfl, rfl⟩ | ⟨rfl, rfl⟩ | ⟨rfl, rfl⟩ | ⟨rfl, rfl⟩ | ⟨rfl, rfl⟩ | ⟨rfl, rfl⟩ | ⟨rfl, rfl⟩ | ⟨rfl, rfl⟩
  all_goals
    go_enter Try.func25, Try.ntmps25
    go_wp2_with fail
    refine wp_loop_rounds 12 ?_
    repeat (rw [rounds_succ]; go_wp2_with fail)
    go_ret
    exact ⟨rfl, rfl⟩
theorem begins_no (c : Nat) (w : World) (hc : c < 256) (h : signN c = 0) :
    Calls Try.prog 25 #[.int .u8 c] w fun e w' => e = .returned (.int .i64 (kindN c)) ∧ w = w' := by
  have hh : c ≠ 61 ∧ c ≠ 59 ∧ c ≠ 124 ∧ c ≠ 42 ∧ c ≠ 43 ∧ c ≠ 63 ∧ c ≠ 40 ∧ c ≠ 41 ∧ c ≠ 37 := by
    unfold signN at h; (repeat' split at h) <;> omega
  have hk : kindN c = if 65 ≤ c ∧ c ≤ 90 then 1 else if 97 ≤ c ∧ c ≤ 122 then 2 else if innerN c = true then 3 else 0 := by
    unfold kindN
    rw [h]
    unfold innerN
    simp only [decide_eq_true_eq]
    (repeat' split) <;> omega
  have HK := Lib.hid hk
  have hS : ∀ k (hk : k < (⟨#[61, 59, 124, 42, 43, 63, 40, 41, 37]⟩ : ByteArray).size), (((⟨#[61, 59, 124, 42, 43, 63, 40, 41, 37]⟩ : ByteArray)[k].toNat : Int) == (c : Int)) = false := by
    intro k hk
    have hk9 : k < 9 := hk
    match k, hk9 with
    | 0, _ => show ((61 : Int) == (c : Int)) = false; simp; omega
    | 1, _ => show ((59 : Int) == (c : Int)) = false; simp; omega
    | 2, _ => show ((124 : Int) == (c : Int)) = false; simp; omega
    | 3, _ => show ((42 : Int) == (c : Int)) = false; simp; omega
    | 4, _ => show ((43 : Int) == (c : Int)) = false; simp; omega
    | 5, _ => show ((63 : Int) == (c : Int)) = false; simp; omega
    | 6, _ => show ((40 : Int) == (c : Int)) = false; simp; omega
    | 7, _ => show ((41 : Int) == (c : Int)) = false; simp; omega
    | 8, _ => show ((37 : Int) == (c : Int)) = false; simp; omega
  have HS := Lib.hid hS
  clear hk h hh hS
  go_enter Try.func25, Try.ntmps25
  go_wp2_with fail
  go_loop [4] (fun v => ∃ k : Nat, v = .int .i64 k ∧ k ≤ 9) (fun v => 9 - (intOf v).toNat)
  case atStart => exact ⟨0, rfl, by omega⟩
  case round =>
    obtain ⟨k, rfl, hk⟩ := hrel
    by_cases hlt : k < 9
    · have hdk : decide ((k : Int) < 9) = true := by rw [decide_eq_true_eq]; omega
      have hsz : k < (⟨#[61, 59, 124, 42, 43, 63, 40, 41, 37]⟩ : ByteArray).size := hlt
      have e1 := HS.out k hsz
      go_wp2_with fail
      go_round
      case rel => exact ⟨k + 1, by go_num, by omega⟩
      case measure => simp [intOf]; omega
    · have hdk : decide ((k : Int) < 9) = false := by rw [decide_eq_false_iff_not]; omega
      go_wp2_with fail
      all_goals first
        | (go_ret; refine ⟨ret_i ?_, rfl⟩; go_light; rw [HK.out]; (repeat' split) <;> omega)
        | (refine (rInner_any c _).mono ?_; rintro e w' ⟨rfl, rfl⟩; go_wp2_with fail
           all_goals (go_ret; refine ⟨ret_i ?_, rfl⟩; go_light; rw [HK.out]; (try simp only [*, if_true]); (repeat' split) <;> first | rfl | omega | simp_all))
theorem begins_any (c : Nat) (w : World) (hc : c < 256) : Calls Try.prog 25 #[.int .u8 c] w fun e w' => e = .returned (.int .i64 (kindN c)) ∧ w = w' := by
  by_cases h : signN c = 0
  · exact begins_no c w hc h
  · rw [kind_sign c h]
    refine begins_yes c _ w ?_
    unfold signN at *
    (repeat' split at h) <;> (repeat' split) <;> omega
end
end Go.Proofs.Ytogobjokjpddbaa
