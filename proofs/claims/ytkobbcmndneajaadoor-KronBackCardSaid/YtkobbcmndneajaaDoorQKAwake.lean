/-
  The head of the laws of Kronecker's products.
-/
import Derived.Test.YtkobbcmndneajaaDoorQKSqs
namespace Go.Proofs.YtkobbcmndneajaaDoor
open Go.RowKit Go.Shelf
set_option linter.unusedVariables false
set_option linter.unusedSimpArgs false
def k4aR (k : Nat) : Nat := 0
def k4aC (k : Nat) : Nat := 1
def k4bR (k : Nat) : Nat := if k = 0 then 0 else 2
def k4bC (k : Nat) : Nat := if k = 0 then 0 else 1
def k4A : Nat → Nat → Bool := putL k4aR k4aC 1
def k4B : Nat → Nat → Bool := putL k4bR k4bC 2
theorem k4A_iff {r c : Nat} : k4A r c = true ↔ r = 0 ∧ c = 1 := by
  unfold k4A
  rw [putL_iff]
  constructor
  · rintro ⟨q, hq, rfl, rfl⟩; exact ⟨rfl, rfl⟩
  · rintro ⟨rfl, rfl⟩; exact ⟨0, by decide, rfl, rfl⟩
theorem k4B_iff {r c : Nat} : k4B r c = true ↔ (r = 0 ∧ c = 0) ∨ (r = 2 ∧ c = 1) := by
  unfold k4B
  rw [putL_iff]
  constructor
  · rintro ⟨q, hq, rfl, rfl⟩
    rcases (show q = 0 ∨ q = 1 by omega) with rfl | rfl <;> decide
  · rintro (⟨rfl, rfl⟩ | ⟨rfl, rfl⟩)
    · exact ⟨0, by decide, by decide, by decide⟩
    · exact ⟨1, by decide, by decide, by decide⟩
theorem k4C_iff {r c : Nat} : kronM k4A k4B 3 r c = true ↔ (r = 0 ∧ c = 3) ∨ (r = 2 ∧ c = 4) := by
  unfold kronM
  rw [Bool.and_eq_true, k4A_iff, k4B_iff]
  omega
theorem k4C_num : numM (kronM k4A k4B 3) = 2 := by
  have e : ∀ r c, kronM k4A k4B 3 r c = putM (putM (fun _ _ => false) 0 3) 2 4 r c := fun r c => by
    rw [Bool.eq_iff_iff, k4C_iff]
    simp [putM]
  rw [numM_congr e, numM_put (by decide) (by decide) (by simp [putM]), numM_put (by decide) (by decide) rfl, numM_zero]
theorem k4_sq : ∀ r s, sqM (kronM k4A k4B 3) 3 0 1 r s = k4B r s := fun r s => by
  rw [Bool.eq_iff_iff, k4B_iff]
  unfold sqM
  rw [Bool.and_eq_true, Bool.and_eq_true, decide_eq_true_eq, decide_eq_true_eq, k4C_iff]
  omega
section
set_option maxHeartbeats 4000000
set_option maxRecDepth 100000
theorem k4_call (V : World) (h5 h6 h7 : Nat) (B5 : Bk V h5 3 #[.int .i64 ((3 : Nat) : Nat)]) (B6 : Bk V h6 3 #[.int .i64 ((0 : Nat) : Nat)]) (B7 : Bk V h7 3 #[.int .i64 ((1 : Nat) : Nat)]) (r s : Nat) (h : kronM k4A k4B 3 r s = true) :
    Calls Tryd.prog 93 (#[.int .i64 (r : Nat), .int .i64 (s : Nat)] ++ #[.pointer (some ⟨h5, 0, none⟩), .pointer (some ⟨h6, 0, none⟩), .pointer (some ⟨h7, 0, none⟩)]) V fun e w' => e = .returned (.tuple #[.agg #[.int .i64 ((r % 3 : Nat) : Nat), .int .i64 ((s % 3 : Nat) : Nat)], .bool (decide (r / 3 = 0) && decide (s / 3 = 1))]) ∧ Far (fun _ => False) V w' := by
  rcases k4C_iff.1 h with ⟨rfl, rfl⟩ | ⟨rfl, rfl⟩
  · exact sq1_03 V h5 h6 h7 B5 B6 B7
  · exact sq1_24 V h5 h6 h7 B5 B6 B7
theorem awake04_any (w : World) (hT : Tab w) : Calls Tryd.prog 34 #[] w fun e w' => e = .returned (.bool true) ∧ Far (fun _ => False) w w' := by
  have hcl : Cls (w.alloc (.cells #[.int .i64 0, .int .i64 1] 82)) (some ⟨w.heap.size, 0, none⟩) 1 (fun k => (k4aR k : Nat)) (fun k => (k4aC k : Nat)) := fun _ => by
    have hb : Bk (w.alloc (.cells #[.int .i64 0, .int .i64 1] 82)) w.heap.size 82 #[.int .i64 0, .int .i64 1] := Bk.new rfl
    refine ⟨w.heap.size, 0, rfl, hb.lt, fun k hk => ?_⟩
    obtain rfl : k = 0 := by omega
    exact ⟨hb.cell 0, hb.cell 1⟩
  have OF := qof_yes 2 (by decide) (by decide) _ 1 1 k4aR k4aC (by decide) (fun k hk => by unfold k4aR k4aC; decide) _ hcl
  have hfa : Far (fun _ => False) w (w.alloc (.cells #[.int .i64 0, .int .i64 1] 82)) := (Far.refl _ w).alloc _
  have hfa' := Lib.hid hfa
  clear hcl hfa
  go_enter Tryd.func34, Tryd.ntmps34
  go_wp2_with fail
  refine OF.mono ?_
  rintro e w1 ⟨Ba, rfl, Fa, hA, hlo, hf1⟩
  have hA' := Lib.hid (show Mx w1 Ba Fa 2 k4A from hA)
  have hf1' := Lib.hid (hfa'.out.then hf1)
  clear OF hA hlo hf1
  obtain ⟨hb1, ehb⟩ : ∃ h, h = w1.heap.size := ⟨_, rfl⟩
  obtain ⟨W1, eW1⟩ : ∃ V, V = w1.alloc (.cells #[.int .i64 0, .int .i64 0, .int .i64 2, .int .i64 1] 82) := ⟨_, rfl⟩
  have hfb : Far (fun _ => False) w1 W1 := eW1 ▸ (Far.refl _ w1).alloc _
  have hcb : Cls W1 (some ⟨hb1, 0, none⟩) 2 (fun k => (k4bR k : Nat)) (fun k => (k4bC k : Nat)) := fun _ => by
    have hb : Bk W1 hb1 82 #[.int .i64 0, .int .i64 0, .int .i64 2, .int .i64 1] := eW1 ▸ Bk.new ehb
    refine ⟨hb1, 0, rfl, hb.lt, fun k hk => ?_⟩
    rcases (show k = 0 ∨ k = 1 by omega) with rfl | rfl
    · exact ⟨hb.cell 0, hb.cell 1⟩
    · exact ⟨hb.cell 2, hb.cell 3⟩
  have OB := qof_yes 3 (by decide) (by decide) _ 2 2 k4bR k4bC (by decide) (fun k hk => by unfold k4bR k4bC; split <;> decide) _ hcb
  have hfb' := Lib.hid hfb
  have ehb' := Lib.hid ehb
  have eW1' := Lib.hid eW1
  clear hcb hfb ehb eW1
  go_wp2_with fail
  rw [← eW1'.out, ← ehb'.out]
  refine OB.mono ?_
  rintro e w2 ⟨Bb, rfl, Fb, hB, hlo, hf2⟩
  have hB' := Lib.hid (show Mx w2 Bb Fb 3 k4B from hB)
  have hA2 := Lib.hid (hA'.out.still (hfb'.out.then hf2))
  have hf2' := Lib.hid (hf1'.out.then (hfb'.out.then hf2))
  have KP := kproduct_yes hA2.out hB'.out (by decide) (hT.still hf2'.out)
  clear OB hB hlo hf2 hA' hf1'
  go_wp2_with fail
  refine KP.mono ?_
  rintro e w3 ⟨Bc, rfl, Fc, hC, hlo, hf3⟩
  have hC' := Lib.hid (show Mx w3 Bc Fc 6 (kronM k4A k4B 3) from hC)
  have hB3 := Lib.hid (hB'.out.still hf3)
  have hf3' := Lib.hid (hf2'.out.then hf3)
  have G1 := hC'.out.get 2 4 (by decide) (by decide)
  rw [show kronM k4A k4B 3 2 4 = true from k4C_iff.2 (by simp)] at G1
  clear KP hC hlo hf3 hB' hf2' hA2
  go_wp2_with fail
  refine G1.mono ?_
  rintro e w4 ⟨rfl, hf4⟩
  have hC4 := Lib.hid (hC'.out.still hf4)
  have hB4 := Lib.hid (hB3.out.still hf4)
  have hf4' := Lib.hid (hf3'.out.then hf4)
  have SQ := kSquare_row hC4.out 3 2 0 1 (by decide) (by decide) (by decide) (by decide) k4_call (hT.still hf4'.out)
  clear G1 hf4 hC' hB3 hf3'
  go_wp2_with fail
  refine SQ.mono ?_
  rintro e w5 ⟨Bs, rfl, Fs, hS, hlo, hf5⟩
  have hS5 := Lib.hid (hS.congr fun r s => (k4_sq r s).symm)
  have hC5 := Lib.hid (hC4.out.still hf5)
  have hB5 := Lib.hid (hB4.out.still hf5)
  have hf5' := Lib.hid (hf4'.out.then hf5)
  have SN := kSquare_no hC5.out 4 0 0 (by decide) (by decide)
  clear SQ hS hlo hf5 hC4 hB4 hf4'
  go_wp2_with fail
  refine SN.mono ?_
  rintro e w6 ⟨rfl, hf6⟩
  have hS6 := Lib.hid (hS5.out.still hf6)
  have hC6 := Lib.hid (hC5.out.still hf6)
  have hB6 := Lib.hid (hB5.out.still hf6)
  have hf6' := Lib.hid (hf5'.out.then hf6)
  have SD := hC6.out.side
  have LN := qlen_any hC6.out
  rw [k4C_num] at LN
  clear SN hf6 hS5 hC5 hB5 hf5'
  go_wp2_with fail
  refine SD.mono ?_
  rintro e w' ⟨rfl, e8⟩
  subst e8
  clear SD
  go_wp2_with fail
  refine LN.mono ?_
  rintro e w7 ⟨rfl, hf7⟩
  have SM := qsame_any (hS6.out.still hf7) (hB6.out.still hf7)
  have hf7' := Lib.hid (hf6'.out.then hf7)
  clear LN hf7 hS6 hC6 hB6 hf6'
  go_wp2_with fail
  refine SM.mono ?_
  rintro e w8 ⟨v8, rfl, hv8, hf8⟩
  have hvt : v8 = true := hv8.2 (by refine ⟨by trivial, ?_⟩; intros; first | trivial | rfl)
  subst hvt
  have hf8' := Lib.hid (hf7'.out.then hf8)
  clear SM hv8 hf8
  go_wp2_with fail
  go_ret
  exact ⟨rfl, hf8'.out⟩
end
end Go.Proofs.YtkobbcmndneajaaDoor
