/-
  kron.Square where all cells lie in one row of squares; a square that cannot be.
-/
import Derived.Test.YthgjnnghokmjdaaDoorQKSq
import Derived.Deep.QuietTactic
import Derived.BigQuiet
namespace Go.Proofs.YthgjnnghokmjdaaDoor
open Go.RowKit Go.Shelf
set_option linter.unusedVariables false
set_option linter.unusedSimpArgs false
theorem wrap_t {t : Nat} (h : t ≤ 1024) : wrap64 (t : Int) = (t : Int) ∧ IntKind.i64.wrap (t : Int) = (t : Int) := ⟨by rw [wrap64_of (by omega)], by rw [IntKind.wrap_i64]; omega⟩
theorem div_t {sc t q : Nat} (hq : 1 ≤ q) (ht : sc = t * q) : (sc : Int) / (q : Int) = (t : Int) ∧ (sc : Int).tdiv (q : Int) = (t : Int) := by
  have h : (sc : Int) / (q : Int) = (t : Int) := by rw [ht, Int.natCast_mul]; exact Int.mul_ediv_cancel _ (by omega)
  exact ⟨h, by rw [Int.tdiv_eq_ediv_of_nonneg (Int.natCast_nonneg _)]; exact h⟩
section
variable {w : World} {Bc sc : Nat} {Fc : Nat → Prop} {C : Nat → Nat → Bool}
set_option maxHeartbeats 2000000
set_option maxRecDepth 100000
theorem kSquare_row (hc : Mx w Bc Fc sc C) (q t i j : Nat) (hq : 1 ≤ q) (ht : sc = t * q) (hi : i < t) (hj : j < t) (hcall : ∀ (V : World) (h5 h6 h7 : Nat), Bk V h5 3 #[.int .i64 (q : Nat)] → Bk V h6 3 #[.int .i64 (i : Nat)] → Bk V h7 3 #[.int .i64 (j : Nat)] → ∀ r s : Nat, C r s = true → Calls Tryd.prog 117 (#[.int .i64 (r : Nat), .int .i64 (s : Nat)] ++ #[.pointer (some ⟨h5, 0, none⟩), .pointer (some ⟨h6, 0, none⟩), .pointer (some ⟨h7, 0, none⟩)]) V fun e w' => e = .returned (.tuple #[.agg #[.int .i64 ((r % q : Nat) : Nat), .int .i64 ((s % q : Nat) : Nat)], .bool (decide (r / q = i) && decide (s / q = j))]) ∧ Far (fun _ => False) V w') (hT : Tab w) : Calls Tryd.prog 54 #[.pointer (some ⟨Bc, 0, none⟩), .int .i64 (q : Nat), .int .i64 (i : Nat), .int .i64 (j : Nat)] w fun e w' => ∃ B', e = .returned (.tuple #[.pointer (some ⟨B', 0, none⟩), .int .i64 0]) ∧ ∃ F', Mx w' B' F' q (sqM C q i j) ∧ (∀ k, F' k → w.heap.size ≤ k) ∧ Far (fun _ => False) w w' := by
  obtain ⟨c1, c2⟩ := hc.sides
  have ht1 : 1 ≤ t := by omega
  have hqs : q ≤ sc := by rw [ht]; exact Nat.le_mul_of_pos_left q ht1
  have hts : t ≤ sc := by rw [ht]; exact Nat.le_mul_of_pos_right t hq
  have hq1024 : q ≤ 1024 := Nat.le_trans hqs c2
  obtain ⟨h5, hh5⟩ : ∃ h, h = w.heap.size := ⟨_, rfl⟩
  obtain ⟨h6, hh6⟩ : ∃ h, h = h5 + 1 := ⟨_, rfl⟩
  obtain ⟨h7, hh7⟩ : ∃ h, h = h6 + 1 := ⟨_, rfl⟩
  obtain ⟨W1, hW1⟩ : ∃ V, V = ((w.alloc (.cells #[.int .i64 (q : Nat)] 3)).alloc (.cells #[.int .i64 (i : Nat)] 3)).alloc (.cells #[.int .i64 (j : Nat)] 3) := ⟨_, rfl⟩
  have hf1 : Far (fun _ => False) w W1 := hW1 ▸ (((Far.refl _ w).alloc _).alloc _).alloc _
  have b5 : Bk W1 h5 3 #[.int .i64 (q : Nat)] := hW1 ▸ ((Bk.new hh5).alloc _).alloc _
  have b6 : Bk W1 h6 3 #[.int .i64 (i : Nat)] := hW1 ▸ (Bk.new (by simp [hh6, hh5])).alloc _
  have b7 : Bk W1 h7 3 #[.int .i64 (j : Nat)] := hW1 ▸ Bk.new (by simp [hh7, hh6, hh5])
  have SQ := ksquares_yes (hc.still hf1) q t hq ht
  have hwc := hc.within
  have SJ : ∀ k : Nat, Calls Tryd.prog 60 #[.pointer (some ⟨Bc, 0, none⟩)] (W1.drewN k) fun e w' => e = .returned (.int .i64 (sc : Nat)) ∧ w' = W1.drewN k := fun k => (((hc.still hf1).still ((Far.refl (fun _ => False) W1).drewN k)).side).mono fun e w' h => ⟨h.1, h.2.symm⟩
  have MD := Lib.hid (fun (V : World) (hf : Far (fun _ => False) W1 V) => kmade_any ((hc.still hf1).still hf) q hq hq1024 117 #[.pointer (some ⟨h5, 0, none⟩), .pointer (some ⟨h6, 0, none⟩), .pointer (some ⟨h7, 0, none⟩)] (fun r s => r % q) (fun r s => s % q) (fun r s => decide (r / q = i) && decide (s / q = j)) (enters_of Tryd.func117 (by kernel_rfl) rfl)
    (fun r s hrs V2 hf2 => hcall V2 h5 h6 h7 ((b5.far' hf id).far' hf2 id) ((b6.far' hf id).far' hf2 id) ((b7.far' hf id).far' hf2 id) r s hrs)
    (fun r s _ _ => ⟨Nat.mod_lt _ hq, Nat.mod_lt _ hq⟩) ((hT.still hf1).still hf))
  have HK := Lib.hid (show ∀ V, Far (fun _ => False) W1 V → V.cell? ⟨h5, 0, none⟩ = some (.int .i64 (q : Nat)) ∧ V.cell? ⟨h6, 0, none⟩ = some (.int .i64 (i : Nat)) ∧ V.cell? ⟨h7, 0, none⟩ = some (.int .i64 (j : Nat)) from fun V hf => ⟨(b5.far' hf id).cell 0, (b6.far' hf id).cell 0, (b7.far' hf id).cell 0⟩)
  obtain ⟨g5, g6, g7⟩ := HK.out W1 (Far.refl _ _)
  have q0 : ((q : Int) == 0) = false := by rw [show (0 : Int) = ((0 : Nat) : Int) from rfl, beq_nat]; exact decide_eq_false (by omega)
  have q00 : ¬ (q : Int) = 0 := by omega
  have hi0 : ¬ (i : Int) < 0 := by omega
  have hj0 : ¬ (j : Int) < 0 := by omega
  have hit : ¬ (t : Int) ≤ (i : Int) := by omega
  have hjt : ¬ (t : Int) ≤ (j : Int) := by omega
  obtain ⟨hwt, hwt2⟩ := wrap_t (Nat.le_trans hts c2)
  obtain ⟨hdv2, hdv⟩ := div_t hq ht
  have hcells := Lib.hid (sq_cells (C := C) (sc := sc) (q := q) (i := i) (j := j) (t := t) hq hwc)
  have hh5' := Lib.hid hh5
  have hh6' := Lib.hid hh6
  have hh7' := Lib.hid hh7
  have hW1' := Lib.hid hW1
  have hf1' := Lib.hid hf1
  clear hc hh5 hh6 hh7 hW1 hf1 b5 b6 b7 hwc ht hcall
  go_enter Tryd.func54, Tryd.ntmps54
  go_upto_region 1 with fail
  rw [← hh5'.out, ← hh6'.out, ← hh7'.out, ← hW1'.out]
  go_wp2_with fail
  refine SQ.mono ?_
  rintro e w' ⟨rfl, e8⟩
  subst e8
  clear SQ
  go_upto_region 4 with fail
  go_quiet (first | (go_at_call 60; exact Calls.quiet_of_same (SJ _)))
  obtain ⟨wd, hwd⟩ : ∃ wd, wd = W1.drewN nq := ⟨_, rfl⟩
  have hfd : Far (fun _ => False) W1 wd := hwd ▸ (Far.refl (fun _ => False) W1).drewN nq
  obtain ⟨g5, g6, g7⟩ := HK.out wd hfd
  have MD1 := MD.out wd hfd
  have hfd' := Lib.hid (hf1'.out.then hfd)
  rw [← hwd]
  clear hwd hfd SJ MD HK hdv hdv2
  go_wp2_with fail
  refine MD1.mono ?_
  rintro e w3 ⟨B', rfl, F', hX, hlo, hf3⟩
  have hX' := Lib.hid hX
  have hlo' := Lib.hid hlo
  have hf3' := Lib.hid hf3
  clear MD1 hX hlo hf3 g5 g6 g7
  go_wp2_with fail
  go_ret2
  exact ⟨_, rfl, F', hX'.out.congr hcells.out, fun k hk => Nat.le_trans hfd'.out.size (hlo'.out k hk), hfd'.out.then hf3'.out⟩
theorem kSquare_no (hc : Mx w Bc Fc sc C) (q i j : Nat) (hq : 1 ≤ q) (ht : sc % q ≠ 0) : Calls Tryd.prog 54 #[.pointer (some ⟨Bc, 0, none⟩), .int .i64 (q : Nat), .int .i64 (i : Nat), .int .i64 (j : Nat)] w fun e w' => e = .returned (.tuple #[.pointer none, .int .i64 5]) ∧ Far (fun _ => False) w w' := by
  obtain ⟨h5, hh5⟩ : ∃ h, h = w.heap.size := ⟨_, rfl⟩
  obtain ⟨h6, hh6⟩ : ∃ h, h = h5 + 1 := ⟨_, rfl⟩
  obtain ⟨h7, hh7⟩ : ∃ h, h = h6 + 1 := ⟨_, rfl⟩
  obtain ⟨W1, hW1⟩ : ∃ V, V = ((w.alloc (.cells #[.int .i64 (q : Nat)] 3)).alloc (.cells #[.int .i64 (i : Nat)] 3)).alloc (.cells #[.int .i64 (j : Nat)] 3) := ⟨_, rfl⟩
  have hf1 : Far (fun _ => False) w W1 := hW1 ▸ (((Far.refl _ w).alloc _).alloc _).alloc _
  have b5 : Bk W1 h5 3 #[.int .i64 (q : Nat)] := hW1 ▸ ((Bk.new hh5).alloc _).alloc _
  have SQ := ksquares_no (hc.still hf1) q hq ht
  have g5 : W1.cell? ⟨h5, 0, none⟩ = some (.int .i64 (q : Nat)) := b5.cell 0
  have hh5' := Lib.hid hh5
  have hh6' := Lib.hid hh6
  have hh7' := Lib.hid hh7
  have hW1' := Lib.hid hW1
  have hf1' := Lib.hid hf1
  clear hc hh5 hh6 hh7 hW1 hf1 b5 ht
  go_enter Tryd.func54, Tryd.ntmps54
  go_upto_region 1 with fail
  rw [← hh5'.out, ← hh6'.out, ← hh7'.out, ← hW1'.out]
  go_wp2_with fail
  refine SQ.mono ?_
  rintro e w' ⟨rfl, e8⟩
  subst e8
  clear SQ
  go_wp2_with fail
  go_ret2
  exact ⟨rfl, hf1'.out⟩
end
end Go.Proofs.YthgjnnghokmjdaaDoor
