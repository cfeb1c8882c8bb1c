/-
  Of; what the document fixes.
-/
import Derived.Test.YtoaeeojnelmlnaaDoorQLaw02
namespace Go.Proofs.YtoaeeojnelmlnaaDoor
open Go.RowKit
set_option linter.unusedVariables false
set_option linter.unusedSimpArgs false
section
set_option maxHeartbeats 4000000
set_option maxRecDepth 100000
theorem qof_yes (s : Nat) (hs1 : 1 ≤ s) (hs2 : s ≤ 1024) (ao : Option Addr) (n cap : Nat) (r c : Nat → Nat) (hn : n ≤ 9223372036854775807) (hr : ∀ k, k < n → r k < s ∧ c k < s) (w : World) (hC : Cls w ao n (fun k => (r k : Nat)) (fun k => (c k : Nat))) :
    Calls Tryd.prog 17 #[.int .i64 s, .slice ao n cap] w fun e w' => ∃ B', e = .returned (.tuple #[.pointer (some ⟨B', 0, none⟩), .int .i64 0]) ∧ ∃ F', Mx w' B' F' s (putL r c n) ∧ (∀ k, F' k → w.heap.size ≤ k) ∧ Far (fun _ => False) w w' := by
  have hC' := Lib.hid hC
  have hr' := Lib.hid hr
  clear hC hr
  go_enter Tryd.func17, Tryd.ntmps17
  go_wp2_with fail
  refine (qnew_yes s hs1 hs2 w).mono ?_
  rintro e w1 ⟨rfl, l, hl, hw, hB, hf1⟩
  have hM1 := Lib.hid (Mx.new (w := w) hs1 hs2 hl hw hB)
  have hf1' := Lib.hid hf1
  have hw1 := hB.lt
  clear hB hf1
  go_wp2_with fail
  go_loopw [22] (fun kv wr => ∃ k : Nat, k ≤ n ∧ kv = .int .i64 (k : Nat) ∧ (∃ F', Mx wr w.heap.size F' s (putL r c k) ∧ (∀ q, F' q → w.heap.size ≤ q)) ∧ Far (fun _ => False) w wr) (fun kv _ => n - (intOf kv).toNat)
  case atStart => exact ⟨0, Nat.zero_le _, rfl, ⟨_, hM1.out, fun q hq => by rw [Qf_none hq]; exact Nat.le_refl _⟩, hf1'.out⟩
  case round =>
    clear hM1 hf1'
    obtain ⟨k, hk, rfl, ⟨F1, hX, hF1⟩, hf⟩ := hrel
    by_cases hlt : k < n
    · obtain ⟨g, off, rfl, hg, hc⟩ := (hC'.out.move hf) (by omega)
      obtain ⟨c0, c1⟩ := hc k hlt
      obtain ⟨hil, hjl⟩ := hr'.out k hlt
      have dk : (k : Int) < (n : Int) := by omega
      have dk2 : (k : Int) + 1 ≤ 9223372036854775807 := by omega
      obtain ⟨i, hi⟩ : ∃ i, r k = i := ⟨_, rfl⟩
      obtain ⟨j, hj⟩ : ∃ j, c k = j := ⟨_, rfl⟩
      have hP : putL r c (k + 1) = putM (putL r c k) i j := by rw [← hi, ← hj]; rfl
      simp only [hi, hj] at c0 c1 hil hjl
      have hP' := Lib.hid hP
      have hX' := Lib.hid hX
      have hf' := Lib.hid hf
      have hF1' := Lib.hid hF1
      have hlt' := Lib.hid hlt
      clear hX hf hF1 hi hj hc hP
      go_wp2_with fail
      have hfa : Far (fun _ => False) wr (wr.alloc (.cells #[.int .i64 (i : Nat), .int .i64 (j : Nat)] 58)) := (Far.refl _ wr).alloc _
      have S1 := qset_yes (hX'.out.still hfa) i j hil hjl
      have hfa' := Lib.hid hfa
      clear hfa c0 c1
      refine S1.mono ?_
      rintro e w3 ⟨rfl, F2, hX3, hm3⟩
      have hX3' := Lib.hid hX3
      have hm3' := Lib.hid hm3
      clear S1 hX3 hm3
      go_wp2_with fail
      go_roundw
      case rel =>
        refine ⟨k + 1, by omega, by simp, ⟨F2, by rw [hP'.out]; exact hX3'.out, fun q hq => ?_⟩, ?_⟩
        · rcases hm3'.out.more q hq with h | h
          · exact hF1'.out q h
          · have := (hf'.out.then hfa'.out).size; omega
        · exact (hf'.out.then hfa'.out).trans hm3'.out.far fun q hq h => by have := hF1'.out q h; omega
      case measure => simp only [intOf]; have := hlt'.out; omega
    · have e : k = n := by omega
      subst e
      go_wp2_with fail
      go_ret2
      exact ⟨_, rfl, F1, hX, hF1, hf⟩
/-- The two cells of the document's example. -/
def awR (k : Nat) : Nat := if k = 0 then 0 else 70
def awC (k : Nat) : Nat := if k = 0 then 99 else 3
theorem aw_num : numM (putL awR awC 2) = 2 := by
  show numM (putM (putM (fun _ _ => false) 0 99) 70 3) = 2
  rw [numM_put (by decide) (by decide) (by simp [putM]), numM_put (by decide) (by decide) rfl, numM_zero]
theorem awake02_any (w : World) : Calls Tryd.prog 14 #[] w fun e w' => e = .returned (.bool true) ∧ Far (fun _ => False) w w' := by
  have hcl : Cls (w.alloc (.cells #[.int .i64 0, .int .i64 99, .int .i64 70, .int .i64 3] 58)) (some ⟨w.heap.size, 0, none⟩) 2 (fun k => (awR k : Nat)) (fun k => (awC k : Nat)) := fun _ => by
    have hb : Bk (w.alloc (.cells #[.int .i64 0, .int .i64 99, .int .i64 70, .int .i64 3] 58)) w.heap.size 58 #[.int .i64 0, .int .i64 99, .int .i64 70, .int .i64 3] := Bk.new rfl
    refine ⟨w.heap.size, 0, rfl, hb.lt, fun k hk => ?_⟩
    rcases (show k = 0 ∨ k = 1 by omega) with rfl | rfl
    · exact ⟨hb.cell 0, hb.cell 1⟩
    · exact ⟨hb.cell 2, hb.cell 3⟩
  have OF := qof_yes 100 (by decide) (by decide) _ 2 2 awR awC (by decide) (fun k hk => by unfold awR awC; split <;> decide) _ hcl
  have hfa : Far (fun _ => False) w (w.alloc (.cells #[.int .i64 0, .int .i64 99, .int .i64 70, .int .i64 3] 58)) := (Far.refl _ w).alloc _
  clear hcl
  go_enter Tryd.func14, Tryd.ntmps14
  go_wp2_with fail
  refine OF.mono ?_
  rintro e w1 ⟨B, rfl, F, hX, hlo, hf1⟩
  have hf1' := Lib.hid (hfa.then hf1)
  have hX' := Lib.hid hX
  clear hfa hf1 OF hX hlo
  have G1 := hX'.out.get 0 99 (by decide) (by decide)
  rw [show putL awR awC 2 0 99 = true by decide] at G1
  go_wp2_with fail
  refine G1.mono ?_
  rintro e w2 ⟨rfl, hf2⟩
  have hX2 := Lib.hid (hX'.out.still hf2)
  have hf2' := Lib.hid (hf1'.out.then hf2)
  clear hf2 G1
  have G2 : Calls Tryd.prog 36 #[.pointer (some ⟨B, 0, none⟩), .int .i64 0, .int .i64 100] w2 fun e w' => e = .returned (.tuple #[.bool false, .int .i64 2]) ∧ w' = w2 := by
    obtain ⟨_, _, _, _, _, _, _, hq, _, _⟩ := hX2.out
    exact qget_no hq 0 100 (by omega)
  go_wp2_with fail
  refine G2.mono ?_
  rintro e w' ⟨rfl, rfl⟩
  clear G2
  go_wp2_with fail
  refine (qnew_no 1025 (by omega) _).mono ?_
  rintro e w'' ⟨rfl, rfl⟩
  have LE := qlen_any hX2.out
  rw [aw_num] at LE
  go_wp2_with fail
  refine LE.mono ?_
  rintro e w3 ⟨rfl, hf3⟩
  have hf3' := Lib.hid (hf2'.out.then hf3)
  have SI : Calls Tryd.prog 30 #[.pointer (some ⟨B, 0, none⟩)] w3 fun e w' => e = .returned (.int .i64 100) ∧ w3 = w' := by
    obtain ⟨_, _, _, _, _, _, _, hq, _, _⟩ := hX2.out.still hf3
    exact qside_any hq
  clear hf3 LE
  go_wp2_with fail
  refine SI.mono ?_
  rintro e w'' ⟨rfl, rfl⟩
  clear SI
  go_wp2_with fail
  go_ret
  exact ⟨rfl, hf3'.out⟩
end
end Go.Proofs.YtoaeeojnelmlnaaDoor
