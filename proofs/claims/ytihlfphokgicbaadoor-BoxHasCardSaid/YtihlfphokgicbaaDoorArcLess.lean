/-
  Arcs compared by the document; the first check's parts.
-/
import Derived.Test.YtihlfphokgicbaaDoorArcOrder
import Derived.Test.YtihlfphokgicbaaDoorQuietFar
namespace Go.Proofs.YtihlfphokgicbaaDoor
open Go.RowKit
set_option linter.unusedVariables false
set_option linter.unusedSimpArgs false
section
set_option maxHeartbeats 2000000
set_option maxRecDepth 100000
theorem symless_any (l : Bool) (n : Int) (l' : Bool) (n' : Int) (w : World) : Calls Tryd.prog 28 #[.agg #[.bool l, .int .i64 n], .agg #[.bool l', .int .i64 n']] w fun e w' => e = .returned (.bool (symL l n l' n')) ∧ Far (fun _ => False) w w' := by
  have hs : symL l n l' n' = if l = l' then decide (n < n') else l' := rfl
  cases l <;> cases l' <;> simp at hs <;> rw [hs] <;> clear hs
  all_goals
    go_enter Tryd.func28, Tryd.ntmps28
    go_wp2_with fail
    go_ret
    exact ⟨rfl, ((Far.refl _ w).alloc _).alloc _⟩
theorem less_any (x0 : Int) (x1 : Bool) (x2 x3 y0 : Int) (y1 : Bool) (y2 y3 : Int) (w : World) : Calls Tryd.prog 17 #[.agg #[.int .i64 x0, .bool x1, .int .i64 x2, .int .i64 x3], .agg #[.int .i64 y0, .bool y1, .int .i64 y2, .int .i64 y3]] w fun e w' => e = .returned (.bool (lessA (x0, x1, x2, x3) (y0, y1, y2, y3))) ∧ Far (fun _ => False) w w' := by
  have hs : lessA (x0, x1, x2, x3) (y0, y1, y2, y3) = if x0 ≠ y0 then decide (x0 < y0) else if x1 = y1 ∧ x2 = y2 then decide (x3 < y3) else symL x1 x2 y1 y2 := rfl
  have EQ := eq_sym x1 x2 y1 y2
  have SL := symless_any x1 x2 y1 y2
  by_cases h0 : x0 = y0
  · rw [if_neg (by simpa using h0)] at hs
    have e0 : (x0 == y0) = true := by rw [beq_iff_eq]; exact h0
    by_cases h1 : x1 = y1 ∧ x2 = y2
    · rw [if_pos h1] at hs
      have e1 : (x1 == y1 && x2 == y2) = true := by simp [h1]
      rw [e1] at EQ
      rw [hs]
      clear hs h0 h1 e1
      go_enter Tryd.func17, Tryd.ntmps17
      go_wp2_with fail
      go_ret
      exact ⟨rfl, ((Far.refl _ w).alloc _).alloc _⟩
    · rw [if_neg h1] at hs
      have e1 : (x1 == y1 && x2 == y2) = false := by
        cases hb : (x1 == y1 && x2 == y2) with
        | false => rfl
        | true => exact absurd (by simpa using hb) h1
      rw [e1] at EQ
      rw [hs]
      clear hs h0 h1 e1
      go_enter Tryd.func17, Tryd.ntmps17
      go_wp2_with ((with_reducible refine (SL _).mono ?_); rintro e w' ⟨rfl, hf⟩)
      go_ret
      exact ⟨rfl, (((Far.refl _ w).alloc _).alloc _).then hf⟩
  · rw [if_pos h0] at hs
    have e0 : (x0 == y0) = false := by rw [beq_eq_false_iff_ne]; exact h0
    rw [hs]
    clear hs h0
    go_enter Tryd.func17, Tryd.ntmps17
    go_wp2_with fail
    go_ret
    exact ⟨rfl, ((Far.refl _ w).alloc _).alloc _⟩
theorem less_cls (W0 : World) (x0 : Int) (x1 : Bool) (x2 x3 y0 : Int) (y1 : Bool) (y2 y3 : Int) (w : World) (hf : Far (fun _ => False) W0 w) : Calls Tryd.prog 17 #[.agg #[.int .i64 x0, .bool x1, .int .i64 x2, .int .i64 x3], .agg #[.int .i64 y0, .bool y1, .int .i64 y2, .int .i64 y3]] w fun e w' => e = .returned (.bool (lessA (x0, x1, x2, x3) (y0, y1, y2, y3))) ∧ Far (fun _ => False) W0 w' :=
  (less_any x0 x1 x2 x3 y0 y1 y2 y3 w).mono fun e w' ⟨he, hw⟩ => ⟨he, hf.then hw⟩
theorem none_nil (w : World) : Calls Tryd.prog 43 #[.pointer none] w fun e w' => e = .returned (.bool true) ∧ w = w' := by
  go_enter Tryd.func43, Tryd.ntmps43
  go_wp2_with fail
  go_ret
  exact ⟨rfl, rfl⟩
theorem find_nil (k : Bool) (s : ByteArray) (w : World) : Calls Tryd.prog 32 #[.pointer none, .agg #[.bool k, .string s]] w fun e w' => e = .returned (.tuple #[.int .i64 0, .int .i64 1]) ∧ Far (fun _ => False) w w' := by
  go_enter Tryd.func32, Tryd.ntmps32
  go_wp2_with ((with_reducible refine (none_nil _).mono ?_); rintro e w' ⟨rfl, rfl⟩)
  go_ret2
  exact ⟨rfl, (Far.refl _ w).alloc _⟩
theorem nt_nil (s : ByteArray) (w : World) : Calls Tryd.prog 21 #[.pointer none, .string s] w fun e w' => e = .returned (.tuple #[.int .i64 0, .int .i64 1]) ∧ Far (fun _ => False) w w' := by
  have FN := find_nil false s
  go_enter Tryd.func21, Tryd.ntmps21
  go_wp2_with ((with_reducible refine (FN _).mono ?_); rintro e w' ⟨rfl, hf⟩)
  go_ret2
  exact ⟨rfl, hf⟩
end
end Go.Proofs.YtihlfphokgicbaaDoor
