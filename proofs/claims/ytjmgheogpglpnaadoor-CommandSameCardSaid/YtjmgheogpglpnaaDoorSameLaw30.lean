/-
  The law CommandSame.
-/
import Derived.Test.YtjmgheogpglpnaaDoorRSame30
import Derived.BigQuiet
namespace Go.Proofs.YtjmgheogpglpnaaDoor
open Go.RowKit
set_option linter.unusedVariables false
set_option linter.unusedSimpArgs false
/-- A command that lies in a box of its own, for every later world. -/
theorem cells_later {w0 : World} {k : Nat} {x0 x1 x2 x3 x4 : Value} (h : Bk w0 k 27 #[x0, x1, x2, x3, x4]) : ∀ w', Far (fun _ => False) w0 w' →
    w'.cell? ⟨k, 0, none⟩ = some x0 ∧ w'.cell? ⟨k, 1, none⟩ = some x1 ∧ w'.cell? ⟨k, 2, none⟩ = some x2 ∧ w'.cell? ⟨k, 3, none⟩ = some x3 ∧ w'.cell? ⟨k, 4, none⟩ = some x4 := fun w' hf => by
  have h' := h.far' hf id
  exact ⟨h'.cell 0, h'.cell 1, h'.cell 2, h'.cell 3, h'.cell 4⟩
section
set_option maxHeartbeats 4000000
set_option maxRecDepth 100000
theorem same_law (va vb : Value) (a b : CI) (w : World) (ha : CmI w va a) (hb : CmI w vb b) :
    Calls Tryd.prog 5 #[va, vb] w fun e w' => e = .returned (.bool true) ∧ Far (fun _ => False) w w' := by
  have HA0 := ha
  have HB0 := hb
  obtain ⟨no, nc, mo, mc, rfl, hN, hM, n1, n2⟩ := ha
  obtain ⟨no', nc', mo', mc', rfl, hN', hM', n3, n4⟩ := hb
  clear hN hM n1 n2 hN' hM' n3 n4
  obtain ⟨k1, hk1⟩ : ∃ k, k = w.heap.size := ⟨_, rfl⟩
  obtain ⟨k2, hk2⟩ : ∃ k, k = k1 + 1 := ⟨_, rfl⟩
  obtain ⟨w1, hw1⟩ : ∃ W, W = w.alloc (.cells (cmdV a no nc mo mc) 27) := ⟨_, rfl⟩
  obtain ⟨w2, hw2⟩ : ∃ W, W = w1.alloc (.cells (cmdV b no' nc' mo' mc') 27) := ⟨_, rfl⟩
  have z1 : w1.heap.size = k2 := by rw [hw1]; simp [hk2, hk1]
  have hF : Far (fun _ => False) w w2 := hw2 ▸ (hw1 ▸ (Far.refl _ w).alloc _ : Far (fun _ => False) w w1).alloc _
  have hA : Bk w2 k1 27 (cmdV a no nc mo mc) := hw2 ▸ (hw1 ▸ Bk.new hk1 : Bk w1 k1 27 (cmdV a no nc mo mc)).alloc _
  have hB : Bk w2 k2 27 (cmdV b no' nc' mo' mc') := hw2 ▸ Bk.new z1.symm
  have HKA := Lib.hid (cells_later hA)
  have HKB := Lib.hid (cells_later hB)
  have CH := fun w' (h : Far (fun _ => False) w2 w') => (head_any w').mono fun e w3 ⟨he, hw⟩ => (⟨he, h.then hw⟩ : e = _ ∧ Far (fun _ => False) w2 w3)
  have CS := fun w' (h : Far (fun _ => False) w2 w') => (same_any _ _ a b w' (HA0.move (hF.then h)) (HB0.move (hF.then h))).mono fun e w3 ⟨he, hw⟩ => (⟨he, h.then hw⟩ : e = _ ∧ Far (fun _ => False) w2 w3)
  have CR := fun w' (h : Far (fun _ => False) w2 w') => (rsame_any _ _ a b w' (HA0.move (hF.then h)) (HB0.move (hF.then h))).mono fun e w3 ⟨he, hw⟩ => (⟨he, h.then hw⟩ : e = _ ∧ Far (fun _ => False) w2 w3)
  have CT := fun w' (h : Far (fun _ => False) w2 w') => (same_any _ _ a a w' (HA0.move (hF.then h)) (HA0.move (hF.then h))).mono fun e w3 ⟨he, hw⟩ => (⟨he, h.then hw⟩ : e = _ ∧ Far (fun _ => False) w2 w3)
  rw [show decide (a = a) = true by simp] at CT
  generalize decide (a = b) = D at *
  have hF' := Lib.hid hF
  have hk1' := Lib.hid hk1
  have hk2' := Lib.hid hk2
  have hw1' := Lib.hid hw1
  have hw2' := Lib.hid hw2
  clear HA0 HB0 hF hk1 hk2 hw1 hw2 z1 hA hB
  unfold cmdV at *
  go_enter Tryd.func5, Tryd.ntmps5
  go_upto_region 1 with fail
  rw [← hk1'.out, ← hk2'.out, ← hw1'.out, ← hw2'.out]
  refine quiet_far (by kernel_rfl) (by kernel_rfl) ?_
  go_big_quiet_want; refine l_call (.bool true) _ #[] (fun w' => by go_simp) (fun w' hw' => CH w' hw') ?_; go_simp; go_big_quiet_on
  go_big_quiet_want; refine l_val (.bool true) (fun w' hw' => by go_simp) ?_; go_simp; go_big_quiet_on
  go_big_quiet_want; refine l_val (.agg #[.int .i64 a.v, .int .i64 a.how, .slice no a.names.length nc, .slice mo a.nums.length mc, .string ⟨a.text.toArray⟩]) (fun w' hw' => by obtain ⟨q0, q1, q2, q3, q4⟩ := HKA.out w' hw'; go_simp) ?_; go_simp; go_big_quiet_on
  go_big_quiet_want; refine l_val (.agg #[.int .i64 b.v, .int .i64 b.how, .slice no' b.names.length nc', .slice mo' b.nums.length mc', .string ⟨b.text.toArray⟩]) (fun w' hw' => by obtain ⟨q0, q1, q2, q3, q4⟩ := HKB.out w' hw'; go_simp) ?_; go_simp; go_big_quiet_on
  go_big_quiet_want; refine l_call (.bool D) _ _ (fun w' => by go_simp) (fun w' hw' => CS w' hw') ?_; go_simp; go_big_quiet_on
  go_big_quiet_want; refine l_val (.agg #[.int .i64 a.v, .int .i64 a.how, .slice no a.names.length nc, .slice mo a.nums.length mc, .string ⟨a.text.toArray⟩]) (fun w' hw' => by obtain ⟨q0, q1, q2, q3, q4⟩ := HKA.out w' hw'; go_simp) ?_; go_simp; go_big_quiet_on
  go_big_quiet_want; refine l_val (.agg #[.int .i64 b.v, .int .i64 b.how, .slice no' b.names.length nc', .slice mo' b.nums.length mc', .string ⟨b.text.toArray⟩]) (fun w' hw' => by obtain ⟨q0, q1, q2, q3, q4⟩ := HKB.out w' hw'; go_simp) ?_; go_simp; go_big_quiet_on
  go_big_quiet_want; refine l_call (.bool D) _ _ (fun w' => by go_simp) (fun w' hw' => CR w' hw') ?_; go_simp; go_big_quiet_on
  go_big_quiet_want; refine l_val (.bool true) (fun w' hw' => by go_simp) ?_; go_simp; go_big_quiet_on
  go_big_quiet_want; refine l_val (.bool true) (fun w' hw' => by go_simp) ?_; go_simp; go_big_quiet_on
  go_big_quiet_want; refine l_val (.bool true) (fun w' hw' => by go_simp) ?_; go_simp; go_big_quiet_on
  go_big_quiet_want; refine l_val (.agg #[.int .i64 a.v, .int .i64 a.how, .slice no a.names.length nc, .slice mo a.nums.length mc, .string ⟨a.text.toArray⟩]) (fun w' hw' => by obtain ⟨q0, q1, q2, q3, q4⟩ := HKA.out w' hw'; go_simp) ?_; go_simp; go_big_quiet_on
  go_big_quiet_want; refine l_val (.agg #[.int .i64 a.v, .int .i64 a.how, .slice no a.names.length nc, .slice mo a.nums.length mc, .string ⟨a.text.toArray⟩]) (fun w' hw' => by obtain ⟨q0, q1, q2, q3, q4⟩ := HKA.out w' hw'; go_simp) ?_; go_simp; go_big_quiet_on
  go_big_quiet_want; refine l_call (.bool true) _ _ (fun w' => by go_simp) (fun w' hw' => CT w' hw') ?_; go_simp; go_big_quiet_on
  go_big_quiet_want; refine l_val (.bool true) (fun w' hw' => by go_simp) ?_; go_simp; go_big_quiet_on
  go_big_quiet_want; refine l_val (.bool true) (fun w' hw' => by go_simp) ?_; go_simp; go_big_quiet_on
  refine wpQuiet_nil ?_
  intro w' hw'
  have hw'' := Lib.hid hw'
  clear hw'
  go_wp2_with fail
  go_ret
  exact ⟨rfl, hF'.out.then hw''.out⟩
end
end Go.Proofs.YtjmgheogpglpnaaDoor
