/-
  Is there a 0 in a row of numbers?
-/
import Derived.Test.YteoglnbmmgoibaaGreatDoorCkRef22
namespace Go.Proofs.YteoglnbmmgoibaaGreatDoor
open Go.RowKit
set_option linter.unusedVariables false
set_option linter.unusedSimpArgs false
section
set_option maxHeartbeats 4000000
set_option maxRecDepth 100000
theorem index0_any (g n c : Nat) (f : Nat → Int) (w : World) (hn : n ≤ maxLen) (hc : ∀ k, k < n → w.cell? ⟨g, k, none⟩ = some (.int .i64 (f k))) :
    Calls Tryz.prog 26 #[.slice (some ⟨g, 0, none⟩) n c, .int .i64 0] w fun e w' => ∃ r : Int, e = .returned (.int .i64 r) ∧ (0 ≤ r ↔ ∃ k, k < n ∧ f k = 0) ∧ w = w' := by
  unfold maxLen at hn
  have hc' := Lib.hid hc
  clear hc
  go_enter Tryz.func26, Tryz.ntmps26
  go_wp2_with fail
  go_loopw [8] (fun iv wr => ∃ i : Nat, iv = .int .i64 i ∧ i ≤ n ∧ (∀ k, k < i → f k ≠ 0) ∧ w = wr) (fun iv _ => n - (intOf iv).toNat)
  case atStart => exact ⟨0, rfl, Nat.zero_le _, fun k hk => absurd hk (Nat.not_lt_zero _), rfl⟩
  case round =>
    obtain ⟨i, rfl, hi, hno, rfl⟩ := hrel
    have hno' := Lib.hid hno
    clear hno
    by_cases hlt : i < n
    · have e1 : decide ((i : Int) < (n : Int)) = true := by rw [decide_eq_true_eq]; omega
      have hii : (i : Int) < (n : Int) := by omega
      have ci := hc'.out i hlt
      have hf' := Lib.hid (show ∀ x, f i = x → f i = x from fun _ h => h)
      generalize hx : f i = x at *
      have hx' := Lib.hid hx
      clear hx hf'
      by_cases hz : x = 0
      · subst hz
        have g0 : ((0 : Int) == 0) = true := rfl
        go_wp2_with fail
        go_ret
        exact ⟨_, rfl, ⟨fun _ => ⟨i, hlt, hx'.out⟩, fun _ => by omega⟩, rfl⟩
      · have g0 : ((0 : Int) == x) = false := by simpa using fun e => hz e.symm
        have g1 : (x == 0) = false := by simpa using hz
        have hz' := Lib.hid hz
        clear hz
        go_wp2_with fail
        go_roundw
        case rel => exact ⟨i + 1, by go_num, by omega, fun k hk => (by
          by_cases hk2 : k < i
          · exact hno'.out k hk2
          · have hk0 : k = i := by omega
            subst hk0
            rw [hx'.out]
            exact hz'.out), by first | rfl | trivial⟩
        case measure => simp [intOf]; omega
    · have e1 : decide ((i : Int) < (n : Int)) = false := by rw [decide_eq_false_iff_not]; omega
      go_wp2_with fail
      go_ret
      exact ⟨-1, rfl, ⟨fun h => by omega, fun ⟨k, hk, h0⟩ => absurd h0 (hno'.out k (by omega))⟩, rfl⟩
theorem contains0_any (g n c : Nat) (f : Nat → Int) (w : World) (hn : n ≤ maxLen) (hc : ∀ k, k < n → w.cell? ⟨g, k, none⟩ = some (.int .i64 (f k))) :
    Calls Tryz.prog 16 #[.slice (some ⟨g, 0, none⟩) n c, .int .i64 0] w fun e w' => ∃ b : Bool, e = .returned (.bool b) ∧ (b = true ↔ ∃ k, k < n ∧ f k = 0) ∧ w = w' := by
  have IX := index0_any g n c f w hn hc
  clear hc
  go_enter Tryz.func16, Tryz.ntmps16
  go_wp2_with fail
  refine IX.mono ?_
  rintro e w' ⟨r, rfl, hr, rfl⟩
  have hr' := Lib.hid hr
  clear hr IX
  by_cases h0 : 0 ≤ r
  · have d0 : decide (r ≥ 0) = true := decide_eq_true h0
    have d1 : decide (0 ≤ r) = true := decide_eq_true h0
    have h0' := Lib.hid h0
    clear h0
    go_wp2_with fail
    go_ret
    exact ⟨true, rfl, ⟨fun _ => hr'.out.1 h0'.out, fun _ => rfl⟩, rfl⟩
  · have d0 : decide (r ≥ 0) = false := decide_eq_false h0
    have d1 : decide (0 ≤ r) = false := decide_eq_false h0
    have h0' := Lib.hid h0
    clear h0
    go_wp2_with fail
    go_ret
    exact ⟨false, rfl, ⟨fun h => (by cases h), fun h => by have h1 := hr'.out.2 h; have h2 := h0'.out; omega⟩, rfl⟩
end
end Go.Proofs.YteoglnbmmgoibaaGreatDoor
