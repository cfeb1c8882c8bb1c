/-
  The program's Turn.
-/
import Derived.Test.YtoaeeojnelmlnaaDoorQSmall
import Derived.Test.YtoaeeojnelmlnaaDoorMath
namespace Go.Proofs.YtoaeeojnelmlnaaDoor
open Go.RowKit
set_option linter.unusedVariables false
set_option linter.unusedSimpArgs false
/-- The halves and the masks, stage by stage. -/
def hs (s : Nat) : Nat := [32, 16, 8, 4, 2, 1, 0].getD s 0
def ms (s : Nat) : Nat := [4294967295, 281470681808895, 71777214294589695, 1085102592571150095, 3689348814741910323, 6148914691236517205, 0].getD s 0
/-- What is unlike in row i and the row a half below it. -/
def un (f : Nat → Nat) (h M i : Nat) : Nat := (f i / 2 ^ h ^^^ f (i + h)) &&& M
/-- Row i behind a stage. -/
def nw (f : Nat → Nat) (h M i : Nat) : Nat := if i &&& h = 0 then f i ^^^ (un f h M i * 2 ^ h) else f i ^^^ un f h M (i - h)
def bs (h i : Nat) : Nat := if i &&& h = 0 then i else i - h
/-- The rows of the pairs whose upper row is above r are done. -/
def swapTo (f : Nat → Nat) (h M r : Nat) : Nat → Nat := fun i => if bs h i < r then nw f h M i else f i
def stage (f : Nat → Nat) : Nat → Nat → Nat
  | 0 => f
  | s + 1 => nw (stage f s) (hs s) (ms s)
theorem hs_facts : ∀ s, s < 6 → 0 < hs s ∧ hs s ≤ 32 ∧ hs (s + 1) = hs s / 2 ∧ ms s < 18446744073709551616 ∧ ms s * 2 ^ hs s < 18446744073709551616 := by decide +kernel
theorem hs_and : ∀ s, s < 6 → ∀ r, r < 64 → (r &&& hs s = 0 → r + hs s < 64 ∧ (r + hs s) &&& hs s ≠ 0 ∧ r + hs s - hs s = r) ∧ (r &&& hs s ≠ 0 → hs s ≤ r ∧ (r - hs s) &&& hs s = 0) := by decide +kernel
theorem ms_next : ∀ s, s < 6 → (ms s ^^^ (ms s * 2 ^ (hs s / 2) % 18446744073709551616)) = ms (s + 1) := by decide +kernel
theorem i64_andNat (a b : Nat) (ha : a < 64) (hb : b < 64) : bits .and .i64 (a : Int) (b : Int) = ((a &&& b : Nat) : Int) := by
  have e1 : (BitVec.ofInt 64 (a : Int)).toNat = a := ofNat64 a (by omega)
  have e2 : (BitVec.ofInt 64 (b : Int)).toNat = b := ofNat64 b (by omega)
  have hx : a &&& b ≤ a := Nat.and_le_left
  show IntKind.i64.wrap ((BitVec.ofInt 64 (a : Int) &&& BitVec.ofInt 64 (b : Int)).toNat : Int) = _
  rw [BitVec.toNat_and, e1, e2, IntKind.wrap_i64]
  omega
theorem mask_next (M k : Nat) (hM : M < 18446744073709551616) : bits .xor .u64 (M : Int) (IntKind.u64.wrap (M * 2 ^ k)) = ((M ^^^ (M * 2 ^ k % 18446744073709551616) : Nat) : Int) := by
  have e : IntKind.u64.wrap ((M : Int) * 2 ^ k) = ((M * 2 ^ k % 18446744073709551616 : Nat) : Int) := by
    rw [show ((M : Int) * 2 ^ k) = ((M * 2 ^ k : Nat) : Int) by simp, IntKind.wrap_u64]
    omega
  rw [e]
  exact bits_xor64 _ _ hM (Nat.mod_lt _ (by decide))
theorem un_le (f : Nat → Nat) (h M i : Nat) : un f h M i ≤ M := Nat.and_le_right
theorem un_int (f : Nat → Nat) (h M i : Nat) (hx : f i < 18446744073709551616) (hy : f (i + h) < 18446744073709551616) (hM : M < 18446744073709551616) :
    bits .and .u64 (bits .xor .u64 ((f i : Int) / 2 ^ h) (f (i + h))) M = ((un f h M i : Nat) : Int) := by
  have e : ((f i : Int) / 2 ^ h) = ((f i / 2 ^ h : Nat) : Int) := by simp
  have hlt : f i / 2 ^ h < 18446744073709551616 := Nat.lt_of_le_of_lt (Nat.div_le_self _ _) hx
  have hxor : f i / 2 ^ h ^^^ f (i + h) < 18446744073709551616 := Nat.xor_lt_two_pow (n := 64) hlt hy
  rw [e, bits_xor64 _ _ hlt hy, bits_and64 _ _ hxor hM]
  rfl
theorem nw_lt {f : Nat → Nat} {h M : Nat} (hf : Wf f) (hM : M < 18446744073709551616) (hMh : M * 2 ^ h < 18446744073709551616) : Wf (nw f h M) := by
  intro i hi
  unfold nw
  split
  · refine Nat.xor_lt_two_pow (n := 64) (hf i hi) (Nat.lt_of_le_of_lt (Nat.mul_le_mul_right _ (un_le f h M i)) hMh)
  · exact Nat.xor_lt_two_pow (n := 64) (hf i hi) (Nat.lt_of_le_of_lt (un_le f h M (i - h)) hM)
theorem swap_zero (f : Nat → Nat) (h M : Nat) : swapTo f h M 0 = f := by funext i; simp [swapTo]
theorem swap_end (f : Nat → Nat) (h M : Nat) : Rw (swapTo f h M 64) = Rw (nw f h M) := Rw_congr fun i hi => by
  have : bs h i < 64 := by unfold bs; split <;> omega
  simp [swapTo, this]
theorem swap_skip (f : Nat → Nat) (h M r : Nat) (hA : ∀ r, r < 64 → r &&& h ≠ 0 → h ≤ r ∧ (r - h) &&& h = 0) (hz : r &&& h ≠ 0) : Rw (swapTo f h M r) = Rw (swapTo f h M (r + 1)) := Rw_congr fun i hi => by
  have hne : bs h i ≠ r := by
    intro e
    unfold bs at e
    split at e
    · rename_i h0; rw [e] at h0; exact hz h0
    · rename_i h0; have := (hA i hi h0).2; rw [e] at this; exact hz this
  unfold swapTo
  by_cases hl : bs h i < r
  · rw [if_pos hl, if_pos (by omega)]
  · rw [if_neg hl, if_neg (by omega)]
theorem swap_pair (f : Nat → Nat) (h M r : Nat) (hp : 0 < h) (hA : ∀ r, r < 64 → r &&& h ≠ 0 → h ≤ r ∧ (r - h) &&& h = 0) (hz : r &&& h = 0) (h2 : (r + h) &&& h ≠ 0) :
    Rw (upd (upd (swapTo f h M r) r (f r ^^^ (un f h M r * 2 ^ h))) (r + h) (f (r + h) ^^^ un f h M r)) = Rw (swapTo f h M (r + 1)) := Rw_congr fun i hi => by
  unfold upd
  by_cases e1 : i = r + h
  · subst e1
    rw [if_pos rfl]
    have hb : bs h (r + h) = r := by unfold bs; rw [if_neg h2]; omega
    unfold swapTo nw
    rw [hb, if_pos (by omega), if_neg h2, show r + h - h = r by omega]
  · rw [if_neg e1]
    by_cases e2 : i = r
    · subst e2
      rw [if_pos rfl]
      have hb : bs h i = i := by unfold bs; rw [if_pos hz]
      unfold swapTo nw
      rw [hb, if_pos (by omega), if_pos hz]
    · rw [if_neg e2]
      have hne : bs h i ≠ r := by
        intro e
        unfold bs at e
        split at e
        · exact e2 e
        · rename_i h0; have := (hA i hi h0).1; omega
      unfold swapTo
      by_cases hl : bs h i < r
      · rw [if_pos hl, if_pos (by omega)]
      · rw [if_neg hl, if_neg (by omega)]
theorem swap_at (f : Nat → Nat) (h M r : Nat) (hz : r &&& h = 0) : swapTo f h M r r = f r := by
  have hb : bs h r = r := by unfold bs; rw [if_pos hz]
  unfold swapTo; rw [hb, if_neg (by omega)]
theorem swap_at2 (f : Nat → Nat) (h M r : Nat) (h2 : (r + h) &&& h ≠ 0) : swapTo f h M r (r + h) = f (r + h) := by
  have hb : bs h (r + h) = r := by unfold bs; rw [if_neg h2]; omega
  unfold swapTo; rw [hb, if_neg (by omega)]
section
set_option maxHeartbeats 1000000
set_option maxRecDepth 100000
theorem turn_any (f : Nat → Nat) (w : World) (hf : Wf f) :
    Calls Tryd.prog 63 #[.agg (Rw f)] w fun e w' => e = .returned (.agg (Rw (stage f 6))) ∧ Below w.heap.size w w' := by
  have hz : ∀ w, (zeroValue 97).run Tryd.prog w = .ok (.agg (Rw fun _ => 0)) w := (zero_of_info blockZero).1
  go_enter Tryd.func63, Tryd.ntmps63
  go_wp2_with fail
  go_loopw [3, 4] (fun m i wr => ∃ s : Nat, s ≤ 6 ∧ i = .int .i64 (hs s) ∧ m = .int .u64 (ms s) ∧ Hold wr w.heap.size (Rw (stage f s)) ∧ Wf (stage f s) ∧ Hold wr (w.heap.size + 1) (Rw fun _ => 0) ∧ Below w.heap.size w wr) (fun _ i _ => (intOf i).toNat)
  case atStart => exact ⟨0, Nat.zero_le _, rfl, rfl, (Hold.new rfl).alloc _, hf, Hold.new (by simp), ((Below.refl _ _).alloc (Nat.le_refl _) _).alloc (by simp) _⟩
  case round =>
    obtain ⟨s, hs6, rfl, rfl, d, hwf, d1, db⟩ := hrel
    by_cases hlt : s < 6
    · obtain ⟨wo, rfl⟩ : ∃ wo : World, wo = wr := ⟨_, rfl⟩
      obtain ⟨p1, p2, p3, p4, p5⟩ := hs_facts s hlt
      have HA := Lib.hid (hs_and s hlt)
      have HN := Lib.hid p3
      have HM := Lib.hid (ms_next s hlt)
      have HG : Hid (stage f (s + 1) = nw (stage f s) (hs s) (ms s)) := Lib.hid rfl
      have H5 := Lib.hid p5
      clear p3 p5
      generalize stage f s = g at *
      generalize hs s = h at *
      generalize ms s = M at *
      have hd : decide ((0 : Int) < (h : Int)) = true := by rw [decide_eq_true_eq]; omega
      go_wp2_with fail
      go_loopw [11] (fun j wr => ∃ r : Nat, r ≤ 64 ∧ j = .int .i64 r ∧ Hold wr w.heap.size (Rw (swapTo g h M r)) ∧ Hold wr (w.heap.size + 1) (Rw fun _ => 0) ∧ Below w.heap.size w wr) (fun j _ => 64 - (intOf j).toNat)
      case atStart => exact ⟨0, Nat.zero_le _, rfl, by rw [swap_zero]; exact d, d1, db⟩
      case round =>
        clear d d1 db
        obtain ⟨r, hr, rfl, d, d1, db⟩ := hrel
        by_cases hrt : r < 64
        · have hdr : decide ((r : Int) < 64) = true := by rw [decide_eq_true_eq]; omega
          by_cases hz : r &&& h = 0
          · have hA : bits .and .i64 (r : Int) (h : Int) = 0 := by rw [i64_andNat _ _ hrt (by omega), hz]; rfl
            obtain ⟨q1, q2, q3⟩ := (HA.out r hrt).1 hz
            have Hz := Lib.hid hz
            have Q2 := Lib.hid q2
            clear hz q2 q3
            go_wp2_with fail
            refine still_all (by kernel_rfl) (by kernel_rfl) fun wd hwd => ?_
            have e := d.drew_eq hwd
            have e1 := d1.drew_eq hwd
            have eb := Below.drew_eq db hwd
            have c1 := e.cell (Rw_get _ r hrt)
            rw [swap_at _ _ _ _ Hz.out] at c1
            have c2 := e.cell (Rw_get _ (r + h) q1)
            rw [swap_at2 _ _ _ _ Q2.out] at c2
            have hri : (r : Int) < 64 := by omega
            have hri2 : (r : Int) + (h : Int) < 64 := by omega
            have hU := un_int g h M r (hwf r hrt) (hwf (r + h) q1) p4
            have hsum : IntKind.i64.wrap ((r : Int) + (h : Int)) = (r : Int) + (h : Int) := IntWalk.i64_in _ (by omega)
            have htn : ((r : Int) + (h : Int)).toNat = r + h := by omega
            have h0 : (0 : Int) ≤ (r : Int) + (h : Int) := by omega
            clear hwd d d1 db
            repeat still_step
            refine wpStill_nil ?_
            have hu := un_le g h M r
            generalize hun : un g h M r = u at *
            have Hun := Lib.hid hun
            clear hun hsum htn h0
            go_wp2_with fail
            refine still_tail 8 (by kernel_rfl) (by kernel_rfl) fun wd' hwd => ?_
            have d := e.drew_eq hwd
            have d1 := e1.drew_eq hwd
            have db := Below.drew_eq eb hwd
            have c1' := d.cell (Rw_get _ r hrt)
            rw [swap_at _ _ _ _ Hz.out] at c1'
            have hfree : wd'.frozen? ⟨w.heap.size, r, none⟩ = false := d.free
            have hUh : u * 2 ^ h < 18446744073709551616 := Nat.lt_of_le_of_lt (Nat.mul_le_mul_right _ hu) H5.out
            have hV : bits .xor .u64 (g r) (IntKind.u64.wrap (↑u * 2 ^ h)) = ((g r ^^^ (u * 2 ^ h) : Nat) : Int) := by
              rw [show ((u : Int) * 2 ^ h) = ((u * 2 ^ h : Nat) : Int) by simp, wrap_u64_nat _ hUh, bits_xor64 _ _ (hwf r hrt) hUh]
            have HV := Lib.hid hUh
            clear hwd e e1 eb c1 c2 hU hUh
            generalize hv1 : g r ^^^ (u * 2 ^ h) = v1 at *
            have Hv1 := Lib.hid hv1
            clear hv1
            simp only [List.take_succ_cons, List.take_zero, List.drop_succ_cons, List.drop_zero]
            repeat still_step
            refine wpStill_nil ?_
            show wpList _ _ _ _ _ _
            have e := d.put (i := r) (.int .u64 ↑v1)
            rw [Rw_set] at e
            have e1 : Hold (wd'.setCell ⟨w.heap.size, r, none⟩ (.int .u64 ↑v1)) (w.heap.size + 1) (Rw fun _ => 0) := d1.far (by simp) _
            have eb := db.setCell (p := ⟨w.heap.size, r, none⟩) (Nat.le_refl _) (.int .u64 ↑v1)
            have c2'' := e.cell (i := r + h) (v := .int .u64 ↑(g (r + h))) (by rw [Rw_get _ _ q1]; unfold upd; rw [if_neg (by omega), swap_at2 _ _ _ _ Q2.out])
            have hfree2 : wd'.frozen? ⟨w.heap.size, r + h, none⟩ = false := d.free
            have hul : u < 18446744073709551616 := by omega
            have hV2 : bits .xor .u64 (g (r + h)) u = ((g (r + h) ^^^ u : Nat) : Int) := bits_xor64 _ _ (hwf (r + h) q1) hul
            have x := e.put (i := r + h) (.int .u64 ↑(g (r + h) ^^^ u))
            rw [Rw_set, ← Hv1.out, ← Hun.out, swap_pair g h M r p1 (fun r hr h0 => (HA.out r hr).2 h0) Hz.out Q2.out, Hun.out, Hv1.out] at x
            have x1 : Hold ((wd'.setCell ⟨w.heap.size, r, none⟩ (.int .u64 ↑v1)).setCell ⟨w.heap.size, r + h, none⟩ (.int .u64 ↑(g (r + h) ^^^ u))) (w.heap.size + 1) (Rw fun _ => 0) := e1.far (by simp) _
            have xb := eb.setCell (p := ⟨w.heap.size, r + h, none⟩) (Nat.le_refl _) (.int .u64 ↑(g (r + h) ^^^ u))
            clear e e1 eb d d1 db
            go_wp2_with fail
            go_roundw
            case rel => exact ⟨r + 1, by omega, by go_num, x, x1, xb⟩
            case measure => simp [intOf]; omega
          · have hA : (bits .and .i64 (r : Int) (h : Int) == 0) = false := by
              rw [i64_andNat _ _ hrt (by omega)]; simp; omega
            rw [swap_skip g h M r (fun r hr h0 => (HA.out r hr).2 h0) hz] at d
            go_wp2_with fail
            go_roundw
            case rel => exact ⟨r + 1, by omega, by go_num, d, d1, db⟩
            case measure => simp [intOf]; omega
        · have e : r = 64 := by omega
          subst e
          rw [swap_end] at d
          go_wp2_with fail
          go_roundw
          case rel => 
            refine ⟨s + 1, by omega, ?_, ?_, by rw [HG.out]; exact d, by rw [HG.out]; exact nw_lt hwf p4 H5.out, d1, db⟩
            · rw [HN.out]; simp
            · rw [← HM.out, mask_next M (h / 2) p4]
          case measure => simp [intOf]; omega
    · have e : s = 6 := by omega
      subst e
      have h0 : (hs 6) = 0 := rfl
      rw [h0]
      go_wp2_with (first | (apply wpList_ld rfl _ rfl _ rfl; focus ((repeat' (first | (with_reducible assumption) | (refine Hold.new ?_; first | rfl | (simp; done)) | (refine Hold.alloc ?_ _) | (apply Hold.row) | (refine Hold.other ?_ ?_ _; rotate_left; focus (first | omega | (simp; omega))))); done)) | (apply wpList_st rfl _ _ rfl _ rfl _ rfl; focus ((repeat' (first | (with_reducible assumption) | (refine Hold.new ?_; first | rfl | (simp; done)) | (refine Hold.alloc ?_ _) | (apply Hold.row) | (refine Hold.other ?_ ?_ _; rotate_left; focus (first | omega | (simp; omega))))); done)) | (refine wpList_bd rfl rfl ?_))
      exact ret_blk rfl (w.heap.size + 1) rfl (Hold.row d1 _) rfl ⟨rfl, Below.row db (by omega) _⟩
end
end Go.Proofs.YtoaeeojnelmlnaaDoor
