/-
  QTm: QTurn, QTurned, QMul.
-/
import Derived.Test.YtjolkhiggcmoiaaGreatDoorQBase
import Derived.Test.YtjolkhiggcmoiaaGreatDoorMath
/-! ## QTurn: The program's Turn. -/
namespace Go.Proofs.YtjolkhiggcmoiaaGreatDoor
open Go.RowKit
set_option linter.unusedVariables false
set_option linter.unusedSimpArgs false
/-- The halves and the masks, stage by stage. -/
def hs (s : Nat) : Nat := [32, 16, 8, 4, 2, 1, 0].getD s 0
def ms (s : Nat) : Nat := [4294967295, 281470681808895, 71777214294589695, 1085102592571150095, 3689348814741910323, 6148914691236517205, 0].getD s 0
/-- What is unlike in row i and the row a half below it. -/
def un (f : Nat → Nat) (h M i : Nat) : Nat := (f i / 2 ^ h ^^^ f (i + h)) &&& M
/-- Row i behind a stage. -/
def nw (f : Nat → Nat) (h M i : Nat) : Nat := if i &&& h = 0 then f i ^^^ (un f h M i * 2 ^ h) else f i ^^^ un f h M (i - h)
def bs (h i : Nat) : Nat := if i &&& h = 0 then i else i - h
/-- The rows of the pairs whose upper row is above r are done. -/
def swapTo (f : Nat → Nat) (h M r : Nat) : Nat → Nat := fun i => if bs h i < r then nw f h M i else f i
def stage (f : Nat → Nat) : Nat → Nat → Nat
  | 0 => f
  | s + 1 => nw (stage f s) (hs s) (ms s)
theorem hs_facts : ∀ s, s < 6 → 0 < hs s ∧ hs s ≤ 32 ∧ hs (s + 1) = hs s / 2 ∧ ms s < 18446744073709551616 ∧ ms s * 2 ^ hs s < 18446744073709551616 := by decide +kernel
theorem hs_and : ∀ s, s < 6 → ∀ r, r < 64 → (r &&& hs s = 0 → r + hs s < 64 ∧ (r + hs s) &&& hs s ≠ 0 ∧ r + hs s - hs s = r) ∧ (r &&& hs s ≠ 0 → hs s ≤ r ∧ (r - hs s) &&& hs s = 0) := by decide +kernel
theorem ms_next : ∀ s, s < 6 → (ms s ^^^ (ms s * 2 ^ (hs s / 2) % 18446744073709551616)) = ms (s + 1) := by decide +kernel
theorem i64_andNat (a b : Nat) (ha : a < 64) (hb : b < 64) : bits .and .i64 (a : Int) (b : Int) = ((a &&& b : Nat) : Int) := by
  have e1 : (BitVec.ofInt 64 (a : Int)).toNat = a := ofNat64 a (by omega)
  have e2 : (BitVec.ofInt 64 (b : Int)).toNat = b := ofNat64 b (by omega)
  have hx : a &&& b ≤ a := Nat.and_le_left
  show IntKind.i64.wrap ((BitVec.ofInt 64 (a : Int) &&& BitVec.ofInt 64 (b : Int)).toNat : Int) = _
  rw [BitVec.toNat_and, e1, e2, IntKind.wrap_i64]
  omega
theorem mask_next (M k : Nat) (hM : M < 18446744073709551616) : bits .xor .u64 (M : Int) (IntKind.u64.wrap (M * 2 ^ k)) = ((M ^^^ (M * 2 ^ k % 18446744073709551616) : Nat) : Int) := by
  have e : IntKind.u64.wrap ((M : Int) * 2 ^ k) = ((M * 2 ^ k % 18446744073709551616 : Nat) : Int) := by
    rw [show ((M : Int) * 2 ^ k) = ((M * 2 ^ k : Nat) : Int) by simp, IntKind.wrap_u64]
    omega
  rw [e]
  exact bits_xor64 _ _ hM (Nat.mod_lt _ (by decide))
theorem un_le (f : Nat → Nat) (h M i : Nat) : un f h M i ≤ M := Nat.and_le_right
theorem un_int (f : Nat → Nat) (h M i : Nat) (hx : f i < 18446744073709551616) (hy : f (i + h) < 18446744073709551616) (hM : M < 18446744073709551616) :
    bits .and .u64 (bits .xor .u64 ((f i : Int) / 2 ^ h) (f (i + h))) M = ((un f h M i : Nat) : Int) := by
  have e : ((f i : Int) / 2 ^ h) = ((f i / 2 ^ h : Nat) : Int) := by simp
  have hlt : f i / 2 ^ h < 18446744073709551616 := Nat.lt_of_le_of_lt (Nat.div_le_self _ _) hx
  have hxor : f i / 2 ^ h ^^^ f (i + h) < 18446744073709551616 := Nat.xor_lt_two_pow (n := 64) hlt hy
  rw [e, bits_xor64 _ _ hlt hy, bits_and64 _ _ hxor hM]
  rfl
theorem nw_lt {f : Nat → Nat} {h M : Nat} (hf : Wf f) (hM : M < 18446744073709551616) (hMh : M * 2 ^ h < 18446744073709551616) : Wf (nw f h M) := by
  intro i hi
  unfold nw
  split
  · refine Nat.xor_lt_two_pow (n := 64) (hf i hi) (Nat.lt_of_le_of_lt (Nat.mul_le_mul_right _ (un_le f h M i)) hMh)
  · exact Nat.xor_lt_two_pow (n := 64) (hf i hi) (Nat.lt_of_le_of_lt (un_le f h M (i - h)) hM)
theorem swap_zero (f : Nat → Nat) (h M : Nat) : swapTo f h M 0 = f := by funext i; simp [swapTo]
theorem swap_end (f : Nat → Nat) (h M : Nat) : Rw (swapTo f h M 64) = Rw (nw f h M) := Rw_congr fun i hi => by
  have : bs h i < 64 := by unfold bs; split <;> omega
  simp [swapTo, this]
theorem swap_skip (f : Nat → Nat) (h M r : Nat) (hA : ∀ r, r < 64 → r &&& h ≠ 0 → h ≤ r ∧ (r - h) &&& h = 0) (hz : r &&& h ≠ 0) : Rw (swapTo f h M r) = Rw (swapTo f h M (r + 1)) := Rw_congr fun i hi => by
  have hne : bs h i ≠ r := by
    intro e
    unfold bs at e
    split at e
    · rename_i h0; rw [e] at h0; exact hz h0
    · rename_i h0; have := (hA i hi h0).2; rw [e] at this; exact hz this
  unfold swapTo
  by_cases hl : bs h i < r
  · rw [if_pos hl, if_pos (by omega)]
  · rw [if_neg hl, if_neg (by omega)]
theorem swap_pair (f : Nat → Nat) (h M r : Nat) (hp : 0 < h) (hA : ∀ r, r < 64 → r &&& h ≠ 0 → h ≤ r ∧ (r - h) &&& h = 0) (hz : r &&& h = 0) (h2 : (r + h) &&& h ≠ 0) :
    Rw (upd (upd (swapTo f h M r) r (f r ^^^ (un f h M r * 2 ^ h))) (r + h) (f (r + h) ^^^ un f h M r)) = Rw (swapTo f h M (r + 1)) := Rw_congr fun i hi => by
  unfold upd
  by_cases e1 : i = r + h
  · subst e1
    rw [if_pos rfl]
    have hb : bs h (r + h) = r := by unfold bs; rw [if_neg h2]; omega
    unfold swapTo nw
    rw [hb, if_pos (by omega), if_neg h2, show r + h - h = r by omega]
  · rw [if_neg e1]
    by_cases e2 : i = r
    · subst e2
      rw [if_pos rfl]
      have hb : bs h i = i := by unfold bs; rw [if_pos hz]
      unfold swapTo nw
      rw [hb, if_pos (by omega), if_pos hz]
    · rw [if_neg e2]
      have hne : bs h i ≠ r := by
        intro e
        unfold bs at e
        split at e
        · exact e2 e
        · rename_i h0; have := (hA i hi h0).1; omega
      unfold swapTo
      by_cases hl : bs h i < r
      · rw [if_pos hl, if_pos (by omega)]
      · rw [if_neg hl, if_neg (by omega)]
theorem swap_at (f : Nat → Nat) (h M r : Nat) (hz : r &&& h = 0) : swapTo f h M r r = f r := by
  have hb : bs h r = r := by unfold bs; rw [if_pos hz]
  unfold swapTo; rw [hb, if_neg (by omega)]
theorem swap_at2 (f : Nat → Nat) (h M r : Nat) (h2 : (r + h) &&& h ≠ 0) : swapTo f h M r (r + h) = f (r + h) := by
  have hb : bs h (r + h) = r := by unfold bs; rw [if_neg h2]; omega
  unfold swapTo; rw [hb, if_neg (by omega)]
section
set_option maxHeartbeats 1000000
set_option maxRecDepth 100000
theorem turn_any (f : Nat → Nat) (w : World) (hf : Wf f) :
    Calls Tryz.prog 80 #[.agg (Rw f)] w fun e w' => e = .returned (.agg (Rw (stage f 6))) ∧ Below w.heap.size w w' := by
  have hz : ∀ w, (zeroValue 108).run Tryz.prog w = .ok (.agg (Rw fun _ => 0)) w := (zero_of_info blockZero).1
  go_enter Tryz.func80, Tryz.ntmps80
  go_wp2_with fail
  go_loopw [3, 4] (fun m i wr => ∃ s : Nat, s ≤ 6 ∧ i = .int .i64 (hs s) ∧ m = .int .u64 (ms s) ∧ Hold wr w.heap.size (Rw (stage f s)) ∧ Wf (stage f s) ∧ Hold wr (w.heap.size + 1) (Rw fun _ => 0) ∧ Below w.heap.size w wr) (fun _ i _ => (intOf i).toNat)
  case atStart => exact ⟨0, Nat.zero_le _, rfl, rfl, (Hold.new rfl).alloc _, hf, Hold.new (by simp), ((Below.refl _ _).alloc (Nat.le_refl _) _).alloc (by simp) _⟩
  case round =>
    obtain ⟨s, hs6, rfl, rfl, d, hwf, d1, db⟩ := hrel
    by_cases hlt : s < 6
    · obtain ⟨wo, rfl⟩ : ∃ wo : World, wo = wr := ⟨_, rfl⟩
      obtain ⟨p1, p2, p3, p4, p5⟩ := hs_facts s hlt
      have HA := Lib.hid (hs_and s hlt)
      have HN := Lib.hid p3
      have HM := Lib.hid (ms_next s hlt)
      have HG : Hid (stage f (s + 1) = nw (stage f s) (hs s) (ms s)) := Lib.hid rfl
      have H5 := Lib.hid p5
      clear p3 p5
      generalize stage f s = g at *
      generalize hs s = h at *
      generalize ms s = M at *
      have hd : decide ((0 : Int) < (h : Int)) = true := by rw [decide_eq_true_eq]; omega
      go_wp2_with fail
      go_loopw [11] (fun j wr => ∃ r : Nat, r ≤ 64 ∧ j = .int .i64 r ∧ Hold wr w.heap.size (Rw (swapTo g h M r)) ∧ Hold wr (w.heap.size + 1) (Rw fun _ => 0) ∧ Below w.heap.size w wr) (fun j _ => 64 - (intOf j).toNat)
      case atStart => exact ⟨0, Nat.zero_le _, rfl, by rw [swap_zero]; exact d, d1, db⟩
      case round =>
        clear d d1 db
        obtain ⟨r, hr, rfl, d, d1, db⟩ := hrel
        by_cases hrt : r < 64
        · have hdr : decide ((r : Int) < 64) = true := by rw [decide_eq_true_eq]; omega
          by_cases hz : r &&& h = 0
          · have hA : bits .and .i64 (r : Int) (h : Int) = 0 := by rw [i64_andNat _ _ hrt (by omega), hz]; rfl
            obtain ⟨q1, q2, q3⟩ := (HA.out r hrt).1 hz
            have Hz := Lib.hid hz
            have Q2 := Lib.hid q2
            clear hz q2 q3
            go_wp2_with fail
            refine still_all (by kernel_rfl) (by kernel_rfl) fun wd hwd => ?_
            have e := d.drew_eq hwd
            have e1 := d1.drew_eq hwd
            have eb := Below.drew_eq db hwd
            have c1 := e.cell (Rw_get _ r hrt)
            rw [swap_at _ _ _ _ Hz.out] at c1
            have c2 := e.cell (Rw_get _ (r + h) q1)
            rw [swap_at2 _ _ _ _ Q2.out] at c2
            have hri : (r : Int) < 64 := by omega
            have hri2 : (r : Int) + (h : Int) < 64 := by omega
            have hU := un_int g h M r (hwf r hrt) (hwf (r + h) q1) p4
            have hsum : IntKind.i64.wrap ((r : Int) + (h : Int)) = (r : Int) + (h : Int) := IntWalk.i64_in _ (by omega)
            have htn : ((r : Int) + (h : Int)).toNat = r + h := by omega
            have h0 : (0 : Int) ≤ (r : Int) + (h : Int) := by omega
            clear hwd d d1 db
            repeat still_step
            refine wpStill_nil ?_
            have hu := un_le g h M r
            generalize hun : un g h M r = u at *
            have Hun := Lib.hid hun
            clear hun hsum htn h0
            go_wp2_with fail
            refine still_tail 8 (by kernel_rfl) (by kernel_rfl) fun wd' hwd => ?_
            have d := e.drew_eq hwd
            have d1 := e1.drew_eq hwd
            have db := Below.drew_eq eb hwd
            have c1' := d.cell (Rw_get _ r hrt)
            rw [swap_at _ _ _ _ Hz.out] at c1'
            have hfree : wd'.frozen? ⟨w.heap.size, r, none⟩ = false := d.free
            have hUh : u * 2 ^ h < 18446744073709551616 := Nat.lt_of_le_of_lt (Nat.mul_le_mul_right _ hu) H5.out
            have hV : bits .xor .u64 (g r) (IntKind.u64.wrap (↑u * 2 ^ h)) = ((g r ^^^ (u * 2 ^ h) : Nat) : Int) := by
              rw [show ((u : Int) * 2 ^ h) = ((u * 2 ^ h : Nat) : Int) by simp, wrap_u64_nat _ hUh, bits_xor64 _ _ (hwf r hrt) hUh]
            have HV := Lib.hid hUh
            clear hwd e e1 eb c1 c2 hU hUh
            generalize hv1 : g r ^^^ (u * 2 ^ h) = v1 at *
            have Hv1 := Lib.hid hv1
            clear hv1
            simp only [List.take_succ_cons, List.take_zero, List.drop_succ_cons, List.drop_zero]
            repeat still_step
            refine wpStill_nil ?_
            show wpList _ _ _ _ _ _
            have e := d.put (i := r) (.int .u64 ↑v1)
            rw [Rw_set] at e
            have e1 : Hold (wd'.setCell ⟨w.heap.size, r, none⟩ (.int .u64 ↑v1)) (w.heap.size + 1) (Rw fun _ => 0) := d1.far (by simp) _
            have eb := db.setCell (p := ⟨w.heap.size, r, none⟩) (Nat.le_refl _) (.int .u64 ↑v1)
            have c2'' := e.cell (i := r + h) (v := .int .u64 ↑(g (r + h))) (by rw [Rw_get _ _ q1]; unfold upd; rw [if_neg (by omega), swap_at2 _ _ _ _ Q2.out])
            have hfree2 : wd'.frozen? ⟨w.heap.size, r + h, none⟩ = false := d.free
            have hul : u < 18446744073709551616 := by omega
            have hV2 : bits .xor .u64 (g (r + h)) u = ((g (r + h) ^^^ u : Nat) : Int) := bits_xor64 _ _ (hwf (r + h) q1) hul
            have x := e.put (i := r + h) (.int .u64 ↑(g (r + h) ^^^ u))
            rw [Rw_set, ← Hv1.out, ← Hun.out, swap_pair g h M r p1 (fun r hr h0 => (HA.out r hr).2 h0) Hz.out Q2.out, Hun.out, Hv1.out] at x
            have x1 : Hold ((wd'.setCell ⟨w.heap.size, r, none⟩ (.int .u64 ↑v1)).setCell ⟨w.heap.size, r + h, none⟩ (.int .u64 ↑(g (r + h) ^^^ u))) (w.heap.size + 1) (Rw fun _ => 0) := e1.far (by simp) _
            have xb := eb.setCell (p := ⟨w.heap.size, r + h, none⟩) (Nat.le_refl _) (.int .u64 ↑(g (r + h) ^^^ u))
            clear e e1 eb d d1 db
            go_wp2_with fail
            go_roundw
            case rel => exact ⟨r + 1, by omega, by go_num, x, x1, xb⟩
            case measure => simp [intOf]; omega
          · have hA : (bits .and .i64 (r : Int) (h : Int) == 0) = false := by
              rw [i64_andNat _ _ hrt (by omega)]; simp; omega
            rw [swap_skip g h M r (fun r hr h0 => (HA.out r hr).2 h0) hz] at d
            go_wp2_with fail
            go_roundw
            case rel => exact ⟨r + 1, by omega, by go_num, d, d1, db⟩
            case measure => simp [intOf]; omega
        · have e : r = 64 := by omega
          subst e
          rw [swap_end] at d
          go_wp2_with fail
          go_roundw
          case rel => 
            refine ⟨s + 1, by omega, ?_, ?_, by rw [HG.out]; exact d, by rw [HG.out]; exact nw_lt hwf p4 H5.out, d1, db⟩
            · rw [HN.out]; simp
            · rw [← HM.out, mask_next M (h / 2) p4]
          case measure => simp [intOf]; omega
    · have e : s = 6 := by omega
      subst e
      have h0 : (hs 6) = 0 := rfl
      rw [h0]
      go_wp2_with (first | (apply wpList_ld rfl _ rfl _ rfl; focus ((repeat' (first | (with_reducible assumption) | (refine Hold.new ?_; first | rfl | (simp; done)) | (refine Hold.alloc ?_ _) | (apply Hold.row) | (refine Hold.other ?_ ?_ _; rotate_left; focus (first | omega | (simp; omega))))); done)) | (apply wpList_st rfl _ _ rfl _ rfl _ rfl; focus ((repeat' (first | (with_reducible assumption) | (refine Hold.new ?_; first | rfl | (simp; done)) | (refine Hold.alloc ?_ _) | (apply Hold.row) | (refine Hold.other ?_ ?_ _; rotate_left; focus (first | omega | (simp; omega))))); done)) | (refine wpList_bd rfl rfl ?_))
      exact ret_blk rfl (w.heap.size + 1) rfl (Hold.row d1 _) rfl ⟨rfl, Below.row db (by omega) _⟩
end
end Go.Proofs.YtjolkhiggcmoiaaGreatDoor
/-! ## QTurned: Turn's stages together turn a block over. -/
namespace Go.Proofs.YtjolkhiggcmoiaaGreatDoor
open Go.RowKit
set_option linter.unusedVariables false
set_option linter.unusedSimpArgs false
theorem hb1 : ∀ s, s < 6 → ∀ r, r < 64 → (ms s).testBit r = decide (r &&& hs s = 0) := by decide +kernel
theorem hb2 : ∀ s, s < 6 → ∀ r, r < 64 → r &&& hs s = 0 → r ^^^ hs s = r + hs s ∧ r + hs s < 64 ∧ (hs s ≤ r → (r - hs s) &&& hs s ≠ 0) := by decide +kernel
theorem hb3 : ∀ s, s < 6 → ∀ r, r < 64 → r &&& hs s ≠ 0 → r ^^^ hs s = r - hs s ∧ hs s ≤ r ∧ (r - hs s) &&& hs s = 0 := by decide +kernel
/-- Where a stage takes the bit at (r, c) from. -/
def sw (h : Nat) (p : Nat × Nat) : Nat × Nat := if decide (p.1 &&& h = 0) = decide (p.2 &&& h = 0) then p else (p.1 ^^^ h, p.2 ^^^ h)
def swAll : Nat → Nat × Nat → Nat × Nat
  | 0, p => p
  | s + 1, p => swAll s (sw (hs s) p)
theorem un_bit (f : Nat → Nat) (h M i c : Nat) : (un f h M i).testBit c = (((f i).testBit (c + h) ^^ (f (i + h)).testBit c) && M.testBit c) := by
  unfold un
  rw [Nat.testBit_and, Nat.testBit_xor, Nat.testBit_div_two_pow]
theorem stage_bit (g : Nat → Nat) (s : Nat) (hs6 : s < 6) (i c : Nat) (hi : i < 64) (hc : c < 64) :
    (nw g (hs s) (ms s) i).testBit c = (g (sw (hs s) (i, c)).1).testBit (sw (hs s) (i, c)).2 := by
  have i0 := hb2 s hs6 i hi
  have i1 := hb3 s hs6 i hi
  have mc := hb1 s hs6 c hc
  have c0 := hb2 s hs6 c hc
  have c1 := hb3 s hs6 c hc
  have mcs := hb1 s hs6 (c - hs s) (by omega)
  have hpos := (hs_facts s hs6).1
  unfold nw sw
  by_cases hI : i &&& hs s = 0
  · rw [if_pos hI, Nat.testBit_xor, Nat.testBit_mul_two_pow, un_bit]
    by_cases hC : c &&& hs s = 0
    · obtain ⟨_, _, e3⟩ := c0 hC
      simp only [hI, hC, if_true]
      by_cases hle : hs s ≤ c
      · have hm := mcs
        rw [show decide ((c - hs s) &&& hs s = 0) = false by simpa using e3 hle] at hm
        rw [hm]; simp
      · simp [hle]
    · obtain ⟨e1, e2, e3⟩ := c1 hC
      obtain ⟨f1, _, _⟩ := i0 hI
      have hm := mcs
      rw [show decide ((c - hs s) &&& hs s = 0) = true by simpa using e3] at hm
      simp only [hI, hC, decide_true, decide_false, Bool.true_eq_false, if_false, e1, f1]
      rw [hm, show c - hs s + hs s = c by omega]
      simp only [e2, decide_true, Bool.true_and, Bool.and_true]
      rw [← Bool.xor_assoc, Bool.xor_self, Bool.false_xor]
  · obtain ⟨f1, f2, f3⟩ := i1 hI
    rw [if_neg hI, Nat.testBit_xor, un_bit, mc, show i - hs s + hs s = i by omega]
    by_cases hC : c &&& hs s = 0
    · obtain ⟨e1, _, _⟩ := c0 hC
      simp only [hI, hC, decide_true, decide_false, Bool.false_eq_true, if_false, e1, f1, Bool.and_true]
      rw [Bool.xor_comm ((g (i - hs s)).testBit (c + hs s)), ← Bool.xor_assoc, Bool.xor_self, Bool.false_xor]
    · simp [hI, hC]
theorem sw_lt : ∀ s, s < 6 → ∀ i, i < 64 → ∀ c, c < 64 → (sw (hs s) (i, c)).1 < 64 ∧ (sw (hs s) (i, c)).2 < 64 := by decide +kernel
theorem sw_all : ∀ i, i < 64 → ∀ c, c < 64 → swAll 6 (i, c) = (c, i) := by decide +kernel
theorem stages_bit (f : Nat → Nat) : ∀ s, s ≤ 6 → ∀ i c, i < 64 → c < 64 → (stage f s i).testBit c = (f (swAll s (i, c)).1).testBit (swAll s (i, c)).2
  | 0, _, i, c, _, _ => rfl
  | s + 1, hs, i, c, hi, hc => by
    obtain ⟨l1, l2⟩ := sw_lt s (by omega) i hi c hc
    have h1 := stage_bit (stage f s) s (by omega) i c hi hc
    have h2 := stages_bit f s (by omega) _ _ l1 l2
    exact h1.trans h2
theorem stage_wf (f : Nat → Nat) (hf : Wf f) : ∀ s, s ≤ 6 → Wf (stage f s)
  | 0, _ => hf
  | s + 1, hs => by
    obtain ⟨_, _, _, p4, p5⟩ := hs_facts s (by omega)
    exact nw_lt (stage_wf f hf s (by omega)) p4 p5
theorem turned (f : Nat → Nat) (hf : Wf f) : Rw (stage f 6) = Rw (blk fun r c => bt f c r) :=
  Rw_blk (stage_wf f hf 6 (by omega)) fun r c hr hc => by
    rw [stages_bit f 6 (by omega) r c hr hc, sw_all r hr c hc]
    rfl
/-- The program's Turn: rows and columns change places. -/
theorem turn_blk (f : Nat → Nat) (w : World) (hf : Wf f) :
    Calls Tryz.prog 80 #[.agg (Rw f)] w fun e w' => e = .returned (.agg (Rw (blk fun r c => bt f c r))) ∧ Below w.heap.size w w' := by
  rw [← turned f hf]
  exact turn_any f w hf
end Go.Proofs.YtjolkhiggcmoiaaGreatDoor
/-! ## QMul: The program's Mul. -/
namespace Go.Proofs.YtjolkhiggcmoiaaGreatDoor
open Go.RowKit
set_option linter.unusedVariables false
set_option linter.unusedSimpArgs false
/-- The bits of a product. -/
def mulS (f g : Nat → Nat) (r c : Nat) : Bool := (List.range 64).any fun k => bt f r k && bt g k c
/-- Has a row of g whose number is a bit of x the bit c? -/
def anyB (g : Nat → Nat) (x c : Nat) : Bool := (List.range 64).any fun k => x.testBit k && (g k).testBit c
theorem anyB_zero (g : Nat → Nat) (c : Nat) : anyB g 0 c = false := by simp [anyB]
theorem anyB_low (g : Nat → Nat) (x c : Nat) (hx : x < 18446744073709551616) (hx0 : x ≠ 0) : anyB g x c = ((g (Lib.ctz 64 x)).testBit c || anyB g (x &&& (x - 1)) c) := by
  obtain ⟨hk, hb, hi⟩ := low_facts x hx hx0
  unfold anyB
  rw [Bool.eq_iff_iff]
  simp only [List.any_eq_true, Bool.or_eq_true, Bool.and_eq_true, List.mem_range, hi]
  constructor
  · rintro ⟨k, hk6, h1, h2⟩
    by_cases e : k = Lib.ctz 64 x
    · exact .inl (by rw [← e]; exact h2)
    · exact .inr ⟨k, hk6, ⟨h1, by simp [e]⟩, h2⟩
  · rintro (h | ⟨k, hk6, ⟨h1, _⟩, h2⟩)
    · exact ⟨_, hk, hb, h⟩
    · exact ⟨k, hk6, h1, h2⟩
theorem upd_same (f : Nat → Nat) (k : Nat) : upd f k (f k) = f := by funext i; unfold upd; split <;> simp_all
theorem upd_upd (f : Nat → Nat) (k a b : Nat) : upd (upd f k a) k b = upd f k b := by funext i; unfold upd; split <;> rfl
theorem upd_at (f : Nat → Nat) (k a : Nat) : upd f k a k = a := by simp [upd]
section
set_option maxHeartbeats 1000000
set_option maxRecDepth 100000
theorem mul_any (f g : Nat → Nat) (w : World) (hf : Wf f) (hg : Wf g) (hT : Tab w) :
    Calls Tryz.prog 135 #[.agg (Rw f), .agg (Rw g)] w fun e w' => e = .returned (.agg (Rw (blk (mulS f g)))) ∧ Below w.heap.size w w' := by
  have hz : ∀ w, (zeroValue 108).run Tryz.prog w = .ok (.agg (Rw fun _ => 0)) w := (zero_of_info blockZero).1
  obtain ⟨h, hh⟩ : ∃ h : Nat → Nat, h = blk (mulS f g) := ⟨_, rfl⟩
  rw [← hh]
  have HH := Lib.hid hh
  have HT := Lib.hid hT
  clear hh hT
  go_enter Tryz.func135, Tryz.ntmps135
  go_wp2_with (first | (apply wpList_ld rfl _ rfl _ rfl; focus ((repeat' (first | (with_reducible assumption) | (refine Hold.new ?_; first | rfl | (simp; done)) | (refine Hold.alloc ?_ _) | (apply Hold.row) | (refine Hold.other ?_ ?_ _; rotate_left; focus (first | omega | (simp; omega))))); done)) | (apply wpList_st rfl _ _ rfl _ rfl _ rfl; focus ((repeat' (first | (with_reducible assumption) | (refine Hold.new ?_; first | rfl | (simp; done)) | (refine Hold.alloc ?_ _) | (apply Hold.row) | (refine Hold.other ?_ ?_ _; rotate_left; focus (first | omega | (simp; omega))))); done)) | (refine wpList_bd rfl rfl ?_))
  go_loopw [9] (fun i wr => ∃ k : Nat, k ≤ 64 ∧ i = .int .i64 k ∧ Hold wr (w.heap.size + 3) (Rw (rowsTo h (fun _ => 0) k)) ∧ Hold wr (w.heap.size + 1) (Rw g) ∧ Hold wr (w.heap.size + 2) (Rw fun _ => 0) ∧ Below w.heap.size w wr) (fun i _ => 64 - (intOf i).toNat)
  case atStart => exact ⟨0, Nat.zero_le _, rfl, by rw [rowsTo_zero]; exact Hold.new (by simp), ((Hold.new (by simp)).alloc _).alloc _, (Hold.new (by simp)).alloc _, ((((Below.refl _ _).alloc (Nat.le_refl _) _).alloc (by simp) _).alloc (by simp; omega) _).alloc (by simp; omega) _⟩
  case round =>
    obtain ⟨k, hk, rfl, d, d1, d2, db⟩ := hrel
    by_cases hlt : k < 64
    · obtain ⟨wo, rfl⟩ : ∃ wo : World, wo = wr := ⟨_, rfl⟩
      have hdk : decide ((k : Int) < 64) = true := by rw [decide_eq_true_eq]; omega
      have hix := fun w => run_ix f k hlt w
      go_wp2_with fail
      go_loopw [7] (fun v wr => ∃ x acc : Nat, v = .int .u64 x ∧ x < 18446744073709551616 ∧ acc < 18446744073709551616 ∧ (∀ c, c < 64 → (acc.testBit c || anyB g x c) = mulS f g k c) ∧
        Hold wr (w.heap.size + 3) (Rw (upd (rowsTo h (fun _ => 0) k) k acc)) ∧ Hold wr (w.heap.size + 1) (Rw g) ∧ Hold wr (w.heap.size + 2) (Rw fun _ => 0) ∧ Below w.heap.size w wr) (fun v _ => (intOf v).toNat)
      case atStart => exact ⟨f k, 0, rfl, hf k hlt, by decide, fun c _ => by simp [anyB, mulS, bt], by rw [show upd (rowsTo h (fun _ => 0) k) k 0 = rowsTo h (fun _ => 0) k from (congrArg (upd _ k) (rowsTo_at h (fun _ => 0) k).symm).trans (upd_same _ k)]; exact d, d1, d2, db⟩
      case round =>
        clear d d1 d2 db hix
        obtain ⟨x, acc, rfl, hx, hacc, hbits, d, d1, d2, db⟩ := hrel
        have HB := Lib.hid hbits
        clear hbits
        by_cases hx0 : x = 0
        · subst hx0
          have hfin : acc = h k := by
            rw [HH.out]
            exact word_eq hacc (blk_wf _ k hlt) fun c hc => by rw [blk_bit _ _ _ hc, ← HB.out c hc, anyB_zero, Bool.or_false]
          subst hfin
          rw [rowsTo_step] at d
          go_wp2_with fail
          go_roundw
          case rel => exact ⟨k + 1, by omega, by go_num, d, d1, d2, db⟩
          case measure => simp [intOf]; omega
        · have hne : ((x : Int) != 0) = true := by simp; omega
          have hne2 : ((x : Int) == 0) = false := by simp; omega
          obtain ⟨hk6, hkb, hki⟩ := low_facts x hx hx0
          have hlow := fun c => anyB_low g x c hx hx0
          have HL := Lib.hid hlow
          have hX : bits .and .u64 (x : Int) ((x : Int) - 1) = ((x &&& (x - 1) : Nat) : Int) := by
            rw [show ((x : Int) - 1) = ((x - 1 : Nat) : Int) by omega, bits_and64 _ _ hx (by omega)]
          have hxl : x &&& (x - 1) < x := Nat.lt_of_le_of_lt Nat.and_le_right (by omega)
          have tz := fun w' (hb : Below w.heap.size w w') => tz_any x w' hx hx0 (HT.out.stays hb)
          have TZ := Lib.hid tz
          clear tz hlow hkb hki
          generalize Lib.ctz 64 x = q at *
          generalize x &&& (x - 1) = x' at *
          go_wp2_with fail
          refine still_tail 9 (by kernel_rfl) (by kernel_rfl) fun wd hwd => ?_
          have e := d.drew_eq hwd
          have e1 := d1.drew_eq hwd
          have e2 := d2.drew_eq hwd
          have eb := Below.drew_eq db hwd
          have c1 := e.cell (Rw_get _ k hlt)
          rw [upd_at] at c1
          have c2 := e1.cell (Rw_get _ q hk6)
          have hfree : wd.frozen? ⟨w.heap.size + 3, k, none⟩ = false := e.free
          have hki : (k : Int) < 64 := by omega
          have hqi : (q : Int) < 64 := by omega
          have hV := bits_or64 acc (g q) hacc (hg q hk6)
          clear hwd d d1 d2 db
          simp only [List.take_succ_cons, List.take_zero, List.drop_succ_cons, List.drop_zero]
          repeat still_step
          refine wpStill_step (fun K hK => ?_)
          go_simp
          refine ⟨_, same_symm (TZ.out _ eb), hK _ ?_⟩
          clear hK K
          repeat still_step
          refine wpStill_nil ?_
          show wpList _ _ _ _ _ _
          have y := e.put (i := k) (.int .u64 ↑(acc ||| g q))
          rw [Rw_set, upd_upd] at y
          have y1 : Hold (wd.setCell ⟨w.heap.size + 3, k, none⟩ (.int .u64 ↑(acc ||| g q))) (w.heap.size + 1) (Rw g) := e1.far (by simp) _
          have y2 : Hold (wd.setCell ⟨w.heap.size + 3, k, none⟩ (.int .u64 ↑(acc ||| g q))) (w.heap.size + 2) (Rw fun _ => 0) := e2.far (by simp) _
          have yb := eb.setCell (p := ⟨w.heap.size + 3, k, none⟩) (by simp) (.int .u64 ↑(acc ||| g q))
          clear e e1 e2 eb
          go_wp2_with fail
          go_roundw
          case rel =>
            refine ⟨x', acc ||| g q, rfl, by omega, Nat.or_lt_two_pow (n := 64) hacc (hg q hk6), fun c hc => ?_, y, y1, y2, yb⟩
            rw [← HB.out c hc, HL.out c, Nat.testBit_or, Bool.or_assoc]
          case measure => simp [intOf]; omega
    · have e : k = 64 := by omega
      subst e
      rw [rowsTo_end] at d
      go_wp2_with (first | (apply wpList_ld rfl _ rfl _ rfl; focus ((repeat' (first | (with_reducible assumption) | (refine Hold.new ?_; first | rfl | (simp; done)) | (refine Hold.alloc ?_ _) | (apply Hold.row) | (refine Hold.other ?_ ?_ _; rotate_left; focus (first | omega | (simp; omega))))); done)) | (apply wpList_st rfl _ _ rfl _ rfl _ rfl; focus ((repeat' (first | (with_reducible assumption) | (refine Hold.new ?_; first | rfl | (simp; done)) | (refine Hold.alloc ?_ _) | (apply Hold.row) | (refine Hold.other ?_ ?_ _; rotate_left; focus (first | omega | (simp; omega))))); done)) | (refine wpList_bd rfl rfl ?_))
      exact ret_blk rfl (w.heap.size + 2) rfl (Hold.row d2 _) rfl ⟨rfl, Below.row db (by omega) _⟩
end
end Go.Proofs.YtjolkhiggcmoiaaGreatDoor
