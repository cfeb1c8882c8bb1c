/-
  Numbers and symbols compared; states.
-/
import Derived.Test.YtihlfphokgicbaaDoorArcMath
import Derived.Deep.RegionHeld3
namespace Go.Proofs.YtihlfphokgicbaaDoor
open Go.RowKit
set_option linter.unusedVariables false
set_option linter.unusedSimpArgs false
theorem drew_far (w : World) : Far (fun _ => False) w w.drew := (Far.refl _ w).drew
theorem alloc_far (w : World) (o : Obj) : Far (fun _ => False) w (w.alloc o) := (Far.refl _ w).alloc o
section
set_option maxHeartbeats 1000000
set_option maxRecDepth 100000
theorem nan_any (a : Int) (w : World) : Calls Tryd.prog 42 #[.int .i64 a] w fun e w' => e = .returned (.bool false) ∧ w = w' := by
  go_enter Tryd.func42, Tryd.ntmps42
  go_wp2_with fail
  go_ret
  exact ⟨by simp, rfl⟩
theorem compare_any (a b : Int) (w : World) : Calls Tryd.prog 26 #[.int .i64 a, .int .i64 b] w fun e w' => e = .returned (.int .i64 (cmpI a b)) ∧ w = w' := by
  have h1 : cmpI a b = if a < b then -1 else if b < a then 1 else 0 := rfl
  by_cases hab : a < b
  · have d1 : decide (a < b) = true := decide_eq_true hab
    rw [if_pos hab] at h1
    rw [h1]
    clear h1
    go_enter Tryd.func26, Tryd.ntmps26
    go_wp2_with ((with_reducible refine (nan_any _ _).mono ?_); rintro e w' ⟨rfl, rfl⟩)
    go_ret
    exact ⟨rfl, rfl⟩
  · have d1 : decide (a < b) = false := decide_eq_false hab
    rw [if_neg hab] at h1
    by_cases hba : b < a
    · have d2 : decide (b < a) = true := decide_eq_true hba
      rw [if_pos hba] at h1
      rw [h1]
      clear h1
      go_enter Tryd.func26, Tryd.ntmps26
      go_wp2_with ((with_reducible refine (nan_any _ _).mono ?_); rintro e w' ⟨rfl, rfl⟩)
      go_ret
      exact ⟨rfl, rfl⟩
    · have d2 : decide (b < a) = false := decide_eq_false hba
      rw [if_neg hba] at h1
      rw [h1]
      clear h1
      go_enter Tryd.func26, Tryd.ntmps26
      go_wp2_with ((with_reducible refine (nan_any _ _).mono ?_); rintro e w' ⟨rfl, rfl⟩)
      go_ret
      exact ⟨rfl, rfl⟩
def orO (a b c : Int) : Int := if a ≠ 0 then a else if b ≠ 0 then b else c
theorem or_any (a b c : Int) (g cap : Nat) (w : World) (h0 : w.cell? ⟨g, 0, none⟩ = some (.int .i64 a)) (h1 : w.cell? ⟨g, 1, none⟩ = some (.int .i64 b)) (h2 : w.cell? ⟨g, 2, none⟩ = some (.int .i64 c)) :
    Calls Tryd.prog 25 #[.slice (some ⟨g, 0, none⟩) 3 cap] w fun e w' => e = .returned (.int .i64 (orO a b c)) ∧ w = w' := by
  have ho : orO a b c = if a ≠ 0 then a else if b ≠ 0 then b else c := rfl
  have H0 := Lib.hid h0
  have H1 := Lib.hid h1
  have H2 := Lib.hid h2
  clear h0 h1 h2
  go_enter Tryd.func25, Tryd.ntmps25
  go_wp2_with fail
  go_loop [8] (fun v => ∃ k : Nat, v = .int .i64 k ∧ k ≤ 3 ∧ (0 < k → a = 0) ∧ (1 < k → b = 0) ∧ (2 < k → c = 0)) (fun v => 3 - (intOf v).toNat)
  case atStart => exact ⟨0, rfl, Nat.zero_le _, fun h => absurd h (Nat.lt_irrefl _), fun h => absurd h (by omega), fun h => absurd h (by omega)⟩
  case round =>
    obtain ⟨k, rfl, hk, k0, k1, k2⟩ := hrel
    have hkk : k = 0 ∨ k = 1 ∨ k = 2 ∨ k = 3 := by omega
    rcases hkk with rfl | rfl | rfl | rfl
    · clear k0 k1 k2
      have c0 := H0.out
      by_cases ha : a = 0
      · have hb : (a == 0) = true := by rw [beq_iff_eq]; exact ha
        have ha' := Lib.hid ha
        clear ha ho
        go_wp2_with fail
        go_round
        case rel => exact ⟨1, rfl, by omega, fun _ => ha'.out, fun h => absurd h (by omega), fun h => absurd h (by omega)⟩
        case measure => simp [intOf]
      · have hb : (a == 0) = false := by rw [beq_eq_false_iff_ne]; exact ha
        rw [if_pos ha] at ho
        have ho' := Lib.hid ho
        clear ha ho
        go_wp2_with fail
        go_ret
        exact ⟨by rw [ho'.out]; rfl, rfl⟩
    · have ha := k0 (by omega)
      clear k0 k1 k2
      have c0 := H1.out
      rw [if_neg (by simp [ha])] at ho
      have ha' := Lib.hid ha
      by_cases hb : b = 0
      · have hbb : (b == 0) = true := by rw [beq_iff_eq]; exact hb
        have hb' := Lib.hid hb
        clear ha hb ho
        go_wp2_with fail
        go_round
        case rel => exact ⟨2, rfl, by omega, fun _ => ha'.out, fun _ => hb'.out, fun h => absurd h (by omega)⟩
        case measure => simp [intOf]
      · have hbb : (b == 0) = false := by rw [beq_eq_false_iff_ne]; exact hb
        rw [if_pos hb] at ho
        have ho' := Lib.hid ho
        clear ha hb ho
        go_wp2_with fail
        go_ret
        exact ⟨by rw [ho'.out]; rfl, rfl⟩
    · have ha := k0 (by omega)
      have hb := k1 (by omega)
      clear k0 k1 k2
      have c0 := H2.out
      rw [if_neg (by simp [ha]), if_neg (by simp [hb])] at ho
      have ha' := Lib.hid ha
      have hb' := Lib.hid hb
      by_cases hc : c = 0
      · have hcc : (c == 0) = true := by rw [beq_iff_eq]; exact hc
        have hc' := Lib.hid hc
        clear ha hb hc ho
        go_wp2_with fail
        go_round
        case rel => exact ⟨3, rfl, by omega, fun _ => ha'.out, fun _ => hb'.out, fun _ => hc'.out⟩
        case measure => simp [intOf]
      · have hcc : (c == 0) = false := by rw [beq_eq_false_iff_ne]; exact hc
        have ho' := Lib.hid ho
        clear ha hb hc ho
        go_wp2_with fail
        go_ret
        exact ⟨by rw [ho'.out]; rfl, rfl⟩
    · have ha := k0 (by omega)
      have hb := k1 (by omega)
      have hc := k2 (by omega)
      clear k0 k1 k2
      rw [if_neg (by simp [ha]), if_neg (by simp [hb])] at ho
      have ho' := Lib.hid (ho.trans hc)
      clear ha hb hc ho
      go_wp2_with fail
      go_ret
      exact ⟨by rw [ho'.out]; rfl, rfl⟩
theorem orderSyms_any (l : Bool) (n : Int) (l' : Bool) (n' : Int) (w : World) : Calls Tryd.prog 27 #[.agg #[.bool l, .int .i64 n], .agg #[.bool l', .int .i64 n']] w fun e w' => e = .returned (.int .i64 (symO l n l' n')) ∧ Far (fun _ => False) w w' := by
  have CM := compare_any n n'
  have hs : symO l n l' n' = if l = l' then cmpI n n' else if l' then -1 else 1 := rfl
  cases l <;> cases l' <;> simp at hs <;> rw [hs] <;> clear hs
  all_goals
    go_enter Tryd.func27, Tryd.ntmps27
    go_wp2_with ((with_reducible refine (CM _).mono ?_); rintro e w' ⟨rfl, rfl⟩)
    go_ret
    exact ⟨rfl, ((Far.refl _ w).alloc _).alloc _⟩
theorem isState_any (S : Int) (f a : Value) (q : Int) (w : World) : Calls Tryd.prog 15 #[.agg #[.int .i64 S, f, a], .int .i64 q] w fun e w' => e = .returned (.bool (decide (0 ≤ q ∧ q < S))) ∧ Far (fun _ => False) w w' := by
  by_cases h0 : 0 ≤ q
  · have d0 : decide (0 ≤ q) = true := decide_eq_true h0
    have e1 : decide (0 ≤ q ∧ q < S) = decide (q < S) := by simp [h0]
    rw [e1]
    clear e1
    go_enter Tryd.func15, Tryd.ntmps15
    go_wp2_with fail
    go_ret
    exact ⟨rfl, (Far.refl _ w).alloc _⟩
  · have d0 : decide (0 ≤ q) = false := decide_eq_false h0
    have e1 : decide (0 ≤ q ∧ q < S) = false := by simp [h0]
    rw [e1]
    clear e1
    go_enter Tryd.func15, Tryd.ntmps15
    go_wp2_with fail
    go_ret
    exact ⟨rfl, (Far.refl _ w).alloc _⟩
end
end Go.Proofs.YtihlfphokgicbaaDoor
