/-
  Weak bodies: the document's.
-/
import Derived.Test.YteojbnkjphghkaaDoorWeak
namespace Go.Proofs.YteojbnkjphghkaaDoor
open Go.RowKit
set_option linter.unusedVariables false
set_option linter.unusedSimpArgs false
section
set_option maxHeartbeats 4000000
set_option maxRecDepth 100000
theorem weak_any (v : Value) (l : List Sy) (w : World) (hB : Body w v l) (hs : l.length ≤ maxLen) : Calls Tryd.prog 66 #[v] w fun e w' => e = .returned (.bool (weakB l)) ∧ w = w' := by
  rcases body_cases w v l hB hs with ⟨rfl, ao, c, rfl⟩ | ⟨s, b, off, c, rfl, rfl, c0⟩ | ⟨s, t, b, off, c, rfl, rfl, c0, c1⟩ | ⟨n, ao, c, h3, hmax, hn, rfl, e1, e2⟩
  · clear hB hs
    go_enter Tryd.func66, Tryd.ntmps66
    go_wp2_with fail
    go_ret
    exact ⟨rfl, rfl⟩
  · clear hB hs
    obtain ⟨s0, s1⟩ := s
    simp only [] at c0
    cases s0
    all_goals
      go_enter Tryd.func66, Tryd.ntmps66
      go_wp2_with fail
      go_ret
      exact ⟨rfl, rfl⟩
  · clear hB hs
    obtain ⟨s0, s1⟩ := s
    obtain ⟨t0, t1⟩ := t
    simp only [] at c0 c1
    cases s0 <;> cases t0
    all_goals
      go_enter Tryd.func66, Tryd.ntmps66
      go_wp2_with fail
      go_ret
      exact ⟨rfl, rfl⟩
  · have e3 : weakB l = false := by simp [weakB, e1, e2]
    rw [e3]
    clear hB hs e1 e2 e3
    have g0 : ((n : Int) == 0) = false := by simp; omega
    have g1 : ((n : Int) == 1) = false := by simp; omega
    have g2 : ((n : Int) == 2) = false := by simp; omega
    clear hn
    go_enter Tryd.func66, Tryd.ntmps66
    go_wp2_with fail
    go_ret
    exact ⟨rfl, rfl⟩
end
end Go.Proofs.YteojbnkjphghkaaDoor
