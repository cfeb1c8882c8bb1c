/-
  makes: what a short body makes of a piece.
-/
import Derived.Test.YteojbnkjphghkaaDoorWeak
import Derived.Test.YteojbnkjphghkaaDoorDer15
import Derived.Test.YteojbnkjphghkaaDoorPM15
import Derived.Deep.RegionHeld3
namespace Go.Proofs.YteojbnkjphghkaaDoor
open Go.RowKit
set_option linter.unusedVariables false
set_option linter.unusedSimpArgs false
def wcells (W : List Int) : List Value := W.map fun x => .int .i64 x
/-- A word in memory. -/
def WdM (w : World) (v : Value) (W : List Int) : Prop := Src w 1 v W.length (wcells W)
theorem WdM.move {w w' : World} {v : Value} {W : List Int} (h : WdM w v W) (hf : Far (fun _ => False) w w') : WdM w' v W := Src.move h hf
theorem WdM.at {w : World} {v : Value} {W : List Int} (h : WdM w v W) {j : Nat} {x : Int} (hj : W[j]? = some x) : ∃ b off c, v = .slice (some ⟨b, off, none⟩) W.length c ∧ b < w.heap.size ∧ w.cell? ⟨b, off + j, none⟩ = some (.int .i64 x) := by
  have h1 : (wcells W)[j]? = some (.int .i64 x) := by simp [wcells, hj]
  obtain ⟨b, off, c, he, hb, hc⟩ := Src.at h (by have := (List.getElem?_eq_some_iff.1 h1).1; omega)
  exact ⟨b, off, c, he, hb, hc _ _ h1⟩
def makesB (l : List Sy) (W : List Int) (i j : Nat) : Bool := match l with
  | [] => decide (i = j)
  | x :: _ => decide (j = i + 1) && decide (W[i]? = some x.2)
section
set_option maxHeartbeats 4000000
set_option maxRecDepth 100000
theorem makes_any (bv wv : Value) (l : List Sy) (W : List Int) (i j : Nat) (w : World) (hb : Body w bv l) (hw : WdM w wv W) (hl : l.length ≤ 1) (hi : i ≤ 64) (hj : j ≤ W.length) (hn : W.length ≤ 64) :
    Calls Tryd.prog 27 #[bv, wv, .int .i64 (i : Int), .int .i64 (j : Int)] w fun e w' => e = .returned (.bool (makesB l W i j)) ∧ Far (fun _ => False) w w' := by
  obtain ⟨bo, bc, rfl⟩ := Src.form hb
  obtain ⟨wo, wc, rfl⟩ := Src.form hw
  cases l with
  | nil =>
    by_cases he : i = j
    · have e1 : ((i : Int) == (j : Int)) = true := by simp [he]
      have hr := Lib.hid (show makesB [] W i j = true by simp [makesB, he])
      clear hb hw
      go_enter Tryd.func27, Tryd.ntmps27
      go_wp2_with fail
      go_ret
      exact ⟨by rw [hr.out]; rfl, Far.refl _ _⟩
    · have e1 : ((i : Int) == (j : Int)) = false := by rw [beq_eq_false_iff_ne]; omega
      have hr := Lib.hid (show makesB [] W i j = false by simp [makesB, he])
      clear hb hw
      go_enter Tryd.func27, Tryd.ntmps27
      go_wp2_with fail
      go_ret
      exact ⟨by rw [hr.out]; rfl, Far.refl _ _⟩
  | cons x l =>
    have hl0 : l = [] := by
      cases l with
      | nil => rfl
      | cons _ _ => simp at hl
    subst hl0
    obtain ⟨bb, boff, c, he, hbl, b0, b1⟩ := Body.sym hb (k := 0) (s := x) rfl
    simp only [Value.slice.injEq] at he
    obtain ⟨rfl, _, rfl⟩ := he
    simp only [Nat.zero_mul, Nat.add_zero] at b0 b1
    by_cases hji : j = i + 1
    · have hi2 : i < W.length := by omega
      have e1 : ((j : Int) == (i : Int) + 1) = true := by simp; omega
      obtain ⟨y, hy⟩ : ∃ y, W[i]? = some y := ⟨W[i], List.getElem?_eq_getElem hi2⟩
      obtain ⟨ww, woff, c, he, hwl, w0⟩ := hw.at hy
      simp only [Value.slice.injEq] at he
      obtain ⟨rfl, _, rfl⟩ := he
      have hiI : (i : Int) < (W.length : Int) := by omega
      have hr := Lib.hid (show makesB [x] W i j = (y == x.2) by
        simp only [makesB, hji, hy, decide_true, Bool.true_and, Option.some.injEq]
        by_cases h : y = x.2 <;> simp [h])
      clear hb hw hy
      simp only [List.length_cons, List.length_nil]
      go_enter Tryd.func27, Tryd.ntmps27
      go_upto_region 3 with fail
      go_region
      all_goals
        go_wp2_with fail
        go_ret
        exact ⟨by rw [hr.out]; rfl, drew_far w⟩
    · have e1 : ((j : Int) == (i : Int) + 1) = false := by rw [beq_eq_false_iff_ne]; omega
      have hr := Lib.hid (show makesB [x] W i j = false by simp [makesB, hji])
      clear hb hw
      simp only [List.length_cons, List.length_nil]
      go_enter Tryd.func27, Tryd.ntmps27
      go_upto_region 3 with fail
      go_region
      all_goals
        go_wp2_with fail
        go_ret
        exact ⟨by rw [hr.out]; rfl, drew_far w⟩
end
end Go.Proofs.YteojbnkjphghkaaDoor
