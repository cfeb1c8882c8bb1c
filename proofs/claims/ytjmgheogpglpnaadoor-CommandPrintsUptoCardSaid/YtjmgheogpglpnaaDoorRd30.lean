/-
  The program's reader: text, name.
-/
import Derived.Test.YtjmgheogpglpnaaDoorCut30
import Derived.WalkSmall
namespace Go.Proofs.YtjmgheogpglpnaaDoor
open Go.RowKit
set_option linter.unusedVariables false
set_option linter.unusedSimpArgs false
/-- What a line that is none of its verb's is given up with. -/
def wrongP : List PanicEntry := [{ v := .iface 63 (.agg #[]), recovered := false }]
/-- A reader in memory. -/
def RdB (w : World) (k : Nat) (s : St) : Prop := Bk w k 70 #[st s.1, .bool s.2]
section
set_option maxHeartbeats 1000000
set_option maxRecDepth 100000
theorem name_no (k : Nat) (s : St) (w : World) (hr : RdB w k s) (hs : s.1.length ≤ 140737488351232) (h : nameF s = none) :
    Calls Tryd.prog 55 #[.pointer (some ⟨k, 0, none⟩)] w fun e w' => e = .panicked wrongP ∧ Far (fun i => i = k) w w' := by
  obtain ⟨r, m⟩ := s
  have c0 : w.cell? ⟨k, 0, none⟩ = some (st r) := hr.cell 0
  have c1 : w.cell? ⟨k, 1, none⟩ = some (.bool m) := hr.cell 1
  have f0 := hr.free 0
  have f1 := hr.free 1
  have hk := hr.lt
  unfold nameF at h
  cases m with
  | false =>
    clear h
    go_enter Tryd.func55, Tryd.ntmps55
    go_wp2_with fail
    exact ⟨rfl, rfl, Far.refl _ w⟩
  | true =>
    have hc : (cutT r).1 = [] := by
      by_cases hc : (cutT r).1 = []
      · exact hc
      · rw [if_pos rfl, if_neg hc] at h; cases h
    have CL := cut_any r w hs
    rw [hc] at CL
    generalize (cutT r).2.1 = r2 at *
    generalize (cutT r).2.2 = m2 at *
    have hr' := Lib.hid hr
    clear h hc hr
    unfold st at *
    go_enter Tryd.func55, Tryd.ntmps55
    go_wp2_with (refine CL.mono ?_; rintro e w1 ⟨rfl, hf⟩; have d0 := (hr'.out.far' hf id).free 0; have d1 := (hr'.out.far' hf id).free 1; have e0 := (hr'.out.far' hf id).cell 0; have e1 := (hr'.out.far' hf id).cell 1; have hk1 := (hr'.out.far' hf id).lt; have hf' := Lib.hid hf; clear hf)
    exact ⟨rfl, rfl, (((hf'.out.mono (G := fun i => i = k) fun _ _ h => h.elim).set ⟨k, 0, none⟩ _ (fun _ => rfl)).set ⟨k, 1, none⟩ _ (fun _ => rfl))⟩
theorem name_yes (k : Nat) (s s' : St) (x : Tx) (w : World) (hr : RdB w k s) (hs : s.1.length ≤ 140737488351232) (h : nameF s = some (x, s')) :
    Calls Tryd.prog 55 #[.pointer (some ⟨k, 0, none⟩)] w fun e w' => e = .returned (st x) ∧ RdB w' k s' ∧ Far (fun i => i = k) w w' := by
  obtain ⟨r, m⟩ := s
  have c0 : w.cell? ⟨k, 0, none⟩ = some (st r) := hr.cell 0
  have c1 : w.cell? ⟨k, 1, none⟩ = some (.bool m) := hr.cell 1
  have f0 := hr.free 0
  have f1 := hr.free 1
  have hk := hr.lt
  unfold nameF at h
  cases m with
  | false => rw [if_neg Bool.false_ne_true] at h; cases h
  | true =>
    rw [if_pos rfl] at h
    by_cases hc : (cutT r).1 = []
    · rw [if_pos hc] at h; cases h
    · rw [if_neg hc] at h
      injection h with h
      injection h with h1 h2
      subst h2
      have CL := cut_any r w hs
      rw [h1] at CL hc
      generalize (cutT r).2.1 = r2 at *
      generalize (cutT r).2.2 = m2 at *
      have hq : List.isEmpty x = false := by cases x; exact absurd rfl hc; rfl
      have hr' := Lib.hid hr
      clear h1 hc hr
      unfold st at *
      go_enter Tryd.func55, Tryd.ntmps55
      go_wp2_with (refine CL.mono ?_; rintro e w1 ⟨rfl, hf⟩; have d0 := (hr'.out.far' hf id).free 0; have d1 := (hr'.out.far' hf id).free 1; have e0 := (hr'.out.far' hf id).cell 0; have e1 := (hr'.out.far' hf id).cell 1; have hk1 := (hr'.out.far' hf id).lt; have hf' := Lib.hid hf; clear hf)
      go_ret
      exact ⟨rfl, ((hr'.out.far' hf'.out id).set 0 _).set 1 _, ((hf'.out.mono (G := fun i => i = k) fun _ _ h => h.elim).set ⟨k, 0, none⟩ _ (fun _ => rfl)).set ⟨k, 1, none⟩ _ (fun _ => rfl)⟩
theorem text_no (k : Nat) (r : Tx) (w : World) (hr : RdB w k (r, false)) :
    Calls Tryd.prog 53 #[.pointer (some ⟨k, 0, none⟩)] w fun e w' => e = .panicked wrongP ∧ Far (fun i => i = k) w w' := by
  have c0 : w.cell? ⟨k, 0, none⟩ = some (st r) := hr.cell 0
  have c1 : w.cell? ⟨k, 1, none⟩ = some (.bool false) := hr.cell 1
  go_enter Tryd.func53, Tryd.ntmps53
  go_wp2_with fail
  exact ⟨rfl, rfl, Far.refl _ w⟩
theorem text_yes (k : Nat) (r : Tx) (w : World) (hr : RdB w k (r, true)) :
    Calls Tryd.prog 53 #[.pointer (some ⟨k, 0, none⟩)] w fun e w' => e = .returned (st r) ∧ RdB w' k ([], false) ∧ Far (fun i => i = k) w w' := by
  have c0 : w.cell? ⟨k, 0, none⟩ = some (st r) := hr.cell 0
  have c1 : w.cell? ⟨k, 1, none⟩ = some (.bool true) := hr.cell 1
  have f0 := hr.free 0
  have f1 := hr.free 1
  go_enter Tryd.func53, Tryd.ntmps53
  go_wp2_with fail
  go_ret
  exact ⟨rfl, (hr.set 0 _).set 1 _, ((Far.refl (fun i => i = k) w).set ⟨k, 0, none⟩ _ (fun _ => rfl)).set ⟨k, 1, none⟩ _ (fun _ => rfl)⟩
end
end Go.Proofs.YtjmgheogpglpnaaDoor
