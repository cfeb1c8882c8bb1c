/-
  BoxChecks walked.
-/
import Derived.Test.YtihlfphokgicbaaDoorBoxCheckAll
import Derived.Test.YtihlfphokgicbaaDoorRefCheck
namespace Go.Proofs.YtihlfphokgicbaaDoor
open Go.RowKit
set_option linter.unusedVariables false
set_option linter.unusedSimpArgs false
section
set_option maxHeartbeats 2000000
set_option maxRecDepth 100000
theorem of_nil (w : World) : Calls Tryd.prog 14 #[.pointer none, .slice none 0 0] w fun e w' => e = .returned (.tuple #[.agg #[.int .i64 0, .slice none 0 0, .slice none 0 0], .int .i64 1]) ∧ Far (fun _ => False) w w' := by
  go_enter Tryd.func14, Tryd.ntmps14
  go_wp2_with fail
  refine (nt_nil _ _).mono ?_
  rintro e w1 ⟨rfl, hf⟩
  have hb : Bk w1 w.heap.size 25 #[.int .i64 0, .slice none 0 0, .slice none 0 0] := (Bk.new rfl).far' hf id
  have hF : Far (fun _ => False) w w1 := (alloc_far w _).then hf
  have c0 : w1.cell? ⟨w.heap.size, 0, none⟩ = some (.int .i64 0) := hb.cell 0
  have c1 : w1.cell? ⟨w.heap.size, 1, none⟩ = some (.slice none 0 0) := hb.cell 1
  have c2 : w1.cell? ⟨w.heap.size, 2, none⟩ = some (.slice none 0 0) := hb.cell 2
  have f0 : w1.frozen? ⟨w.heap.size, 0, none⟩ = false := hb.free 0
  have f1 : w1.frozen? ⟨w.heap.size, 1, none⟩ = false := hb.free 1
  have f2 : w1.frozen? ⟨w.heap.size, 2, none⟩ = false := hb.free 2
  have hb' := Lib.hid hb
  have hF' := Lib.hid hF
  have hf' := Lib.hid hf
  clear hb hF hf
  go_wp2_with fail
  have hb3 : Bk (((w1.setCell ⟨w.heap.size, 0, none⟩ (.int .i64 0)).setCell ⟨w.heap.size, 1, none⟩ (.slice none 0 0)).setCell ⟨w.heap.size, 2, none⟩ (.slice none 0 0)) w.heap.size 25 #[.int .i64 0, .slice none 0 0, .slice none 0 0] := ((hb'.out.set 0 (.int .i64 0)).set 1 (.slice none 0 0)).set 2 (.slice none 0 0)
  have hF3 : Far (fun _ => False) w (((w1.setCell ⟨w.heap.size, 0, none⟩ (.int .i64 0)).setCell ⟨w.heap.size, 1, none⟩ (.slice none 0 0)).setCell ⟨w.heap.size, 2, none⟩ (.slice none 0 0)) := ((hF'.out.set _ _ (fun h => absurd h (Nat.lt_irrefl _))).set _ _ (fun h => absurd h (Nat.lt_irrefl _))).set _ _ (fun h => absurd h (Nat.lt_irrefl _))
  clear c0 c1 c2 f0 f1 f2
  generalize (((w1.setCell ⟨w.heap.size, 0, none⟩ (.int .i64 0)).setCell ⟨w.heap.size, 1, none⟩ (.slice none 0 0)).setCell ⟨w.heap.size, 2, none⟩ (.slice none 0 0)) = W3 at *
  have c0 : W3.cell? ⟨w.heap.size, 0, none⟩ = some (.int .i64 0) := hb3.cell 0
  have c1 : W3.cell? ⟨w.heap.size, 1, none⟩ = some (.slice none 0 0) := hb3.cell 1
  have c2 : W3.cell? ⟨w.heap.size, 2, none⟩ = some (.slice none 0 0) := hb3.cell 2
  exact bodyPost_ret (v := .tuple #[.agg #[.int .i64 0, .slice none 0 0, .slice none 0 0], .int .i64 1]) (by simp [results, Tryd.f14, go_sem, c0, c1, c2]) rfl ⟨rfl, hF3⟩
theorem may_no : code (MayBe 0 0 (fun _ => 0) 0 (fun _ => (0, false, 0, 0))) = 200 := code_no fun h => by have := h.1; omega
theorem may_yes : code (MayBe 1 0 (fun _ => 0) 0 (fun _ => (0, false, 0, 0))) = 0 := code_yes ⟨by omega, by omega, fun i h => absurd h (Nat.not_lt_zero _), fun i h => absurd h (Nat.not_lt_zero _)⟩
theorem check_zero (w : World) : Calls Tryd.prog 7 #[.agg #[.int .i64 0, .slice none 0 0, .slice none 0 0]] w fun e w' => e = .returned (.int .i64 200) ∧ Far (fun _ => False) w w' := by
  have := check_any 0 none 0 0 (fun _ => 0) none 0 0 (fun _ => (0, false, 0, 0)) w (fun h => absurd h (Nat.lt_irrefl _)) (fun h => absurd h (Nat.lt_irrefl _)) (Nat.zero_le _) (Nat.zero_le _)
  rw [may_no] at this
  exact this
theorem check_one (w : World) : Calls Tryd.prog 7 #[.agg #[.int .i64 1, .slice none 0 0, .slice none 0 0]] w fun e w' => e = .returned (.int .i64 0) ∧ Far (fun _ => False) w w' := by
  have := check_any 1 none 0 0 (fun _ => 0) none 0 0 (fun _ => (0, false, 0, 0)) w (fun h => absurd h (Nat.lt_irrefl _)) (fun h => absurd h (Nat.lt_irrefl _)) (Nat.zero_le _) (Nat.zero_le _)
  rw [may_yes] at this
  exact this
theorem head_any (w : World) : Calls Tryd.prog 6 #[] w fun e w' => e = .returned (.bool true) ∧ Far (fun _ => False) w w' := by
  have CZ := check_zero
  have CO := check_one
  go_enter Tryd.func6, Tryd.ntmps6
  go_wp2_with fail
  refine (of_nil _).mono ?_
  rintro e w1 ⟨rfl, hf1⟩
  have hf1' := Lib.hid hf1
  clear hf1
  go_wp2_with fail
  refine (CZ _).mono ?_
  rintro e w2 ⟨rfl, hf2⟩
  have hf2' := Lib.hid hf2
  clear hf2
  go_wp2_with fail
  refine (CO _).mono ?_
  rintro e w3 ⟨rfl, hf3⟩
  have hf3' := Lib.hid hf3
  clear hf3
  go_wp2_with fail
  go_ret
  exact ⟨rfl, ((hf1'.out.then (alloc_far _ _)).then hf2'.out).then hf3'.out⟩
theorem checks_law (S : Int) (fo : Option Addr) (n fc : Nat) (f : Nat → Int) (ao : Option Addr) (m ac : Nat) (g : Nat → Ar) (w : World) (hI : Ints w fo n f) (hA : Arcs w ao m g) (hn : n ≤ maxLen) (hm : m ≤ maxLen) :
    Calls Tryd.prog 3 #[.agg #[.int .i64 S, .slice fo n fc, .slice ao m ac]] w fun e w' => e = .returned (.bool true) ∧ Below w.heap.size w w' := by
  obtain ⟨bx, hbx⟩ : ∃ bx, bx = w.heap.size := ⟨_, rfl⟩
  obtain ⟨wa, hwa⟩ : ∃ wa, wa = w.alloc (.cells #[.int .i64 S, .slice fo n fc, .slice ao m ac] 25) := ⟨_, rfl⟩
  have hB1 : Bk wa bx 25 #[.int .i64 S, .slice fo n fc, .slice ao m ac] := by rw [hbx, hwa]; exact Bk.new rfl
  have hF1 : Far (fun _ => False) w wa := hwa ▸ alloc_far _ _
  have hI1 := Lib.hid (hI.move hF1)
  have hA1 := Lib.hid (hA.move hF1)
  have hlb := hB1.lt
  have a0 : wa.cell? ⟨bx, 0, none⟩ = some (.int .i64 S) := hB1.cell 0
  have a1 : wa.cell? ⟨bx, 1, none⟩ = some (.slice fo n fc) := hB1.cell 1
  have a2 : wa.cell? ⟨bx, 2, none⟩ = some (.slice ao m ac) := hB1.cell 2
  have hwa' := Lib.hid hwa
  have hbx' := Lib.hid hbx
  have HK := Lib.hid (show ∀ w2, Far (fun _ => False) wa w2 → w2.cell? ⟨bx, 0, none⟩ = some (.int .i64 S) ∧ w2.cell? ⟨bx, 1, none⟩ = some (.slice fo n fc) ∧ w2.cell? ⟨bx, 2, none⟩ = some (.slice ao m ac) from fun w2 h => ⟨(h.cell hlb).trans a0, (h.cell hlb).trans a1, (h.cell hlb).trans a2⟩)
  have CB := fun w' (h : Far (fun _ => False) wa w') => (check_any S fo n fc f ao m ac g w' (hI1.out.move h) (hA1.out.move h) hn hm).mono fun e w2 ⟨he, hw⟩ => (⟨he, h.then hw⟩ : e = _ ∧ Far (fun _ => False) wa w2)
  have CR := fun w' (h : Far (fun _ => False) wa w') => (rcheck_any S fo n fc f ao m ac g w' (hI1.out.move h) (hA1.out.move h) hn hm).mono fun e w2 ⟨he, hw⟩ => (⟨he, h.then hw⟩ : e = _ ∧ Far (fun _ => False) wa w2)
  have CH := fun w' (h : Far (fun _ => False) wa w') => (head_any w').mono fun e w2 ⟨he, hw⟩ => (⟨he, h.then hw⟩ : e = _ ∧ Far (fun _ => False) wa w2)
  generalize code (MayBe S n f m g) = c at *
  clear hI hA hwa hbx hB1
  go_enter Tryd.func3, Tryd.ntmps3
  go_upto_region 1 with fail
  rw [← hbx'.out, ← hwa'.out]
  refine quiet_far (by kernel_rfl) (by kernel_rfl) ?_
  go_big_quiet_want; refine l_call (.bool true) _ #[] (fun w' => by go_simp) (fun w' hw' => CH w' hw') ?_; go_simp; go_big_quiet_on
  go_big_quiet_want; refine l_val (.bool true) (fun w' hw' => by go_simp) ?_; go_simp; go_big_quiet_on
  go_big_quiet_want; refine l_val (.agg #[.int .i64 S, .slice fo n fc, .slice ao m ac]) (fun w' hw' => by obtain ⟨q0, q1, q2⟩ := HK.out w' hw'; go_simp) ?_; go_simp; go_big_quiet_on
  go_big_quiet_want; refine l_call (.int .i64 c) _ #[.agg #[.int .i64 S, .slice fo n fc, .slice ao m ac]] (fun w' => by go_simp) (fun w' hw' => CB w' hw') ?_; go_simp; go_big_quiet_on
  go_big_quiet_want; refine l_val (.agg #[.int .i64 S, .slice fo n fc, .slice ao m ac]) (fun w' hw' => by obtain ⟨q0, q1, q2⟩ := HK.out w' hw'; go_simp) ?_; go_simp; go_big_quiet_on
  go_big_quiet_want; refine l_call (.int .i64 c) _ #[.agg #[.int .i64 S, .slice fo n fc, .slice ao m ac]] (fun w' => by go_simp) (fun w' hw' => CR w' hw') ?_; go_simp; go_big_quiet_on
  go_big_quiet_want; refine l_val (.bool true) (fun w' hw' => by go_simp) ?_; go_simp; go_big_quiet_on
  go_big_quiet_want; refine l_val (.bool true) (fun w' hw' => by go_simp) ?_; go_simp; go_big_quiet_on
  go_big_quiet_want; refine l_val (.bool true) (fun w' hw' => by go_simp) ?_; go_simp; go_big_quiet_on
  refine wpQuiet_nil ?_
  intro w' hw'
  have hw'' := Lib.hid hw'
  clear hw'
  go_wp2_with fail
  go_ret
  exact ⟨rfl, (hF1.then hw''.out).below (Nat.le_refl _) fun _ _ h => h⟩
end
end Go.Proofs.YtihlfphokgicbaaDoor
