/-
  Productions compared.
-/
import Derived.Test.YtjkfieilaahejaaPlain
import Derived.Sort.Grow
import Derived.Deep.Draws
namespace Go.Proofs.Ytjkfieilaahejaa
open Go.RowKit
set_option linter.unusedVariables false
set_option linter.unusedSimpArgs false
def cmpI (a b : Int) : Int := if a < b then -1 else if b < a then 1 else 0
def symO (l : Bool) (n : Int) (l' : Bool) (n' : Int) : Int := if l = l' then cmpI n n' else if l' then -1 else 1
theorem cmpI_rng (a b : Int) : -1 ≤ cmpI a b ∧ cmpI a b ≤ 1 := by unfold cmpI; split <;> (try split) <;> omega
theorem symO_rng (l : Bool) (n : Int) (l' : Bool) (n' : Int) : -1 ≤ symO l n l' n' ∧ symO l n l' n' ≤ 1 := by
  unfold symO; split
  · exact cmpI_rng _ _
  · split <;> omega
/-- w' is w with draws and new blocks. -/
def Grew (w w' : World) : Prop := ∃ q os, w' = Sort.grow (w.drewN q) os
theorem Grew.refl (w : World) : Grew w w := ⟨0, #[], by simp [Sort.grow, World.drewN]⟩
theorem Grew.trans {a b c : World} (h : Grew a b) (k : Grew b c) : Grew a c := by
  obtain ⟨q, os, rfl⟩ := h
  obtain ⟨q', os', rfl⟩ := k
  exact ⟨q + q', os ++ os', by simp [Sort.grow, World.drewN, Nat.add_assoc, Array.append_assoc]⟩
theorem Grew.alloc {a w : World} (h : Grew a w) (o : Obj) : Grew a (w.alloc o) := h.trans ⟨0, #[o], Sort.alloc_eq_grow w o⟩
theorem Grew.drew {a w : World} (h : Grew a w) : Grew a w.drew := h.trans ⟨1, #[], (Sort.grow_empty _).symm⟩
theorem Grew.drewN {a w : World} (h : Grew a w) (n : Nat) : Grew a (w.drewN n) := h.trans ⟨n, #[], (Sort.grow_empty _).symm⟩
theorem Grew.far {a w : World} (h : Grew a w) : Far (fun _ => False) a w := by
  obtain ⟨q, os, rfl⟩ := h
  exact ⟨rfl, rfl, rfl, by simp [Sort.grow, World.drewN], fun k hk _ => by simp [Sort.grow, World.drewN, Array.getElem?_append, hk]⟩
section
set_option maxHeartbeats 1000000
set_option maxRecDepth 100000
theorem nan_any (a : Int) (w : World) : Calls Try.prog 82 #[.int .i64 a] w fun e w' => e = .returned (.bool false) ∧ w = w' := by
  go_enter Try.func82, Try.ntmps82
  go_wp2_with fail
  go_ret
  exact ⟨by simp, rfl⟩
theorem compare_any (a b : Int) (w : World) : Calls Try.prog 66 #[.int .i64 a, .int .i64 b] w fun e w' => e = .returned (.int .i64 (cmpI a b)) ∧ w = w' := by
  have h1 : cmpI a b = if a < b then -1 else if b < a then 1 else 0 := rfl
  by_cases hab : a < b
  · have d1 : decide (a < b) = true := decide_eq_true hab
    rw [if_pos hab] at h1
    rw [h1]
    clear h1
    go_enter Try.func66, Try.ntmps66
    go_wp2_with ((with_reducible refine (nan_any _ _).mono ?_); rintro e w' ⟨rfl, rfl⟩)
    go_ret
    exact ⟨rfl, rfl⟩
  · have d1 : decide (a < b) = false := decide_eq_false hab
    rw [if_neg hab] at h1
    by_cases hba : b < a
    · have d2 : decide (b < a) = true := decide_eq_true hba
      rw [if_pos hba] at h1
      rw [h1]
      clear h1
      go_enter Try.func66, Try.ntmps66
      go_wp2_with ((with_reducible refine (nan_any _ _).mono ?_); rintro e w' ⟨rfl, rfl⟩)
      go_ret
      exact ⟨rfl, rfl⟩
    · have d2 : decide (b < a) = false := decide_eq_false hba
      rw [if_neg hba] at h1
      rw [h1]
      clear h1
      go_enter Try.func66, Try.ntmps66
      go_wp2_with ((with_reducible refine (nan_any _ _).mono ?_); rintro e w' ⟨rfl, rfl⟩)
      go_ret
      exact ⟨rfl, rfl⟩
def orO (a b c : Int) : Int := if a ≠ 0 then a else if b ≠ 0 then b else c
theorem or_any (a b c : Int) (g cap : Nat) (w : World) (h0 : w.cell? ⟨g, 0, none⟩ = some (.int .i64 a)) (h1 : w.cell? ⟨g, 1, none⟩ = some (.int .i64 b)) (h2 : w.cell? ⟨g, 2, none⟩ = some (.int .i64 c)) :
    Calls Try.prog 65 #[.slice (some ⟨g, 0, none⟩) 3 cap] w fun e w' => e = .returned (.int .i64 (orO a b c)) ∧ w = w' := by
  have ho : orO a b c = if a ≠ 0 then a else if b ≠ 0 then b else c := rfl
  have H0 := Lib.hid h0
  have H1 := Lib.hid h1
  have H2 := Lib.hid h2
  clear h0 h1 h2
  go_enter Try.func65, Try.ntmps65
  go_wp2_with fail
  go_loop [8] (fun v => ∃ k : Nat, v = .int .i64 k ∧ k ≤ 3 ∧ (0 < k → a = 0) ∧ (1 < k → b = 0) ∧ (2 < k → c = 0)) (fun v => 3 - (intOf v).toNat)
  case atStart => exact ⟨0, rfl, Nat.zero_le _, fun h => absurd h (Nat.lt_irrefl _), fun h => absurd h (by omega), fun h => absurd h (by omega)⟩
  case round =>
    obtain ⟨k, rfl, hk, k0, k1, k2⟩ := hrel
    have hkk : k = 0 ∨ k = 1 ∨ k = 2 ∨ k = 3 := by omega
    rcases hkk with rfl | rfl | rfl | rfl
    · clear k0 k1 k2
      have c0 := H0.out
      by_cases ha : a = 0
      · have hb : (a == 0) = true := by rw [beq_iff_eq]; exact ha
        have ha' := Lib.hid ha
        clear ha ho
        go_wp2_with fail
        go_round
        case rel => exact ⟨1, rfl, by omega, fun _ => ha'.out, fun h => absurd h (by omega), fun h => absurd h (by omega)⟩
        case measure => simp [intOf]
      · have hb : (a == 0) = false := by rw [beq_eq_false_iff_ne]; exact ha
        rw [if_pos ha] at ho
        have ho' := Lib.hid ho
        clear ha ho
        go_wp2_with fail
        go_ret
        exact ⟨by rw [ho'.out]; rfl, rfl⟩
    · have ha := k0 (by omega)
      clear k0 k1 k2
      have c0 := H1.out
      rw [if_neg (by simp [ha])] at ho
      have ha' := Lib.hid ha
      by_cases hb : b = 0
      · have hbb : (b == 0) = true := by rw [beq_iff_eq]; exact hb
        have hb' := Lib.hid hb
        clear ha hb ho
        go_wp2_with fail
        go_round
        case rel => exact ⟨2, rfl, by omega, fun _ => ha'.out, fun _ => hb'.out, fun h => absurd h (by omega)⟩
        case measure => simp [intOf]
      · have hbb : (b == 0) = false := by rw [beq_eq_false_iff_ne]; exact hb
        rw [if_pos hb] at ho
        have ho' := Lib.hid ho
        clear ha hb ho
        go_wp2_with fail
        go_ret
        exact ⟨by rw [ho'.out]; rfl, rfl⟩
    · have ha := k0 (by omega)
      have hb := k1 (by omega)
      clear k0 k1 k2
      have c0 := H2.out
      rw [if_neg (by simp [ha]), if_neg (by simp [hb])] at ho
      have ha' := Lib.hid ha
      have hb' := Lib.hid hb
      by_cases hc : c = 0
      · have hcc : (c == 0) = true := by rw [beq_iff_eq]; exact hc
        have hc' := Lib.hid hc
        clear ha hb hc ho
        go_wp2_with fail
        go_round
        case rel => exact ⟨3, rfl, by omega, fun _ => ha'.out, fun _ => hb'.out, fun _ => hc'.out⟩
        case measure => simp [intOf]
      · have hcc : (c == 0) = false := by rw [beq_eq_false_iff_ne]; exact hc
        have ho' := Lib.hid ho
        clear ha hb hc ho
        go_wp2_with fail
        go_ret
        exact ⟨by rw [ho'.out]; rfl, rfl⟩
    · have ha := k0 (by omega)
      have hb := k1 (by omega)
      have hc := k2 (by omega)
      clear k0 k1 k2
      rw [if_neg (by simp [ha]), if_neg (by simp [hb])] at ho
      have ho' := Lib.hid (ho.trans hc)
      clear ha hb hc ho
      go_wp2_with fail
      go_ret
      exact ⟨by rw [ho'.out]; rfl, rfl⟩
theorem orderSyms_any (l : Bool) (n : Int) (l' : Bool) (n' : Int) (w : World) : Calls Try.prog 68 #[.agg #[.bool l, .int .i64 n], .agg #[.bool l', .int .i64 n']] w fun e w' => e = .returned (.int .i64 (symO l n l' n')) ∧ Grew w w' := by
  have CM := compare_any n n'
  have EQ := eq_sym l n l' n'
  have hs : symO l n l' n' = if l = l' then cmpI n n' else if l' then -1 else 1 := rfl
  by_cases hnn : n = n'
  · subst hnn
    have e1 : (n == n) = true := by simp
    have c0 : cmpI n n = 0 := by unfold cmpI; simp
    rw [e1] at EQ
    rw [c0] at hs
    cases l <;> cases l' <;> simp at hs EQ <;> rw [hs] <;> clear hs e1 c0
    all_goals
      go_enter Try.func68, Try.ntmps68
      go_wp2_with ((with_reducible refine (CM _).mono ?_); rintro e w' ⟨rfl, rfl⟩)
      go_ret
      exact ⟨rfl, ((Grew.refl w).alloc _).alloc _⟩
  · have e1 : (n == n') = false := by simp [hnn]
    rw [e1] at EQ
    cases l <;> cases l' <;> simp at hs EQ <;> rw [hs] <;> clear hs e1 hnn
    all_goals
      go_enter Try.func68, Try.ntmps68
      go_wp2_with ((with_reducible refine (CM _).mono ?_); rintro e w' ⟨rfl, rfl⟩)
      go_ret
      exact ⟨rfl, ((Grew.refl w).alloc _).alloc _⟩
end
end Go.Proofs.Ytjkfieilaahejaa
