/-
  The program's Mul.
-/
import Derived.Test.YtbcklcikmhpclaaDoorTz
import Derived.Test.YtbcklcikmhpclaaDoorRowwise
namespace Go.Proofs.YtbcklcikmhpclaaDoor
open Go.RowKit
set_option linter.unusedVariables false
set_option linter.unusedSimpArgs false
/-- The bits of a product. -/
def mulS (f g : Nat → Nat) (r c : Nat) : Bool := (List.range 64).any fun k => bt f r k && bt g k c
/-- Has a row of g whose number is a bit of x the bit c? -/
def anyB (g : Nat → Nat) (x c : Nat) : Bool := (List.range 64).any fun k => x.testBit k && (g k).testBit c
theorem anyB_zero (g : Nat → Nat) (c : Nat) : anyB g 0 c = false := by simp [anyB]
theorem anyB_low (g : Nat → Nat) (x c : Nat) (hx : x < 18446744073709551616) (hx0 : x ≠ 0) : anyB g x c = ((g (Lib.ctz 64 x)).testBit c || anyB g (x &&& (x - 1)) c) := by
  obtain ⟨hk, hb, hi⟩ := low_facts x hx hx0
  unfold anyB
  rw [Bool.eq_iff_iff]
  simp only [List.any_eq_true, Bool.or_eq_true, Bool.and_eq_true, List.mem_range, hi]
  constructor
  · rintro ⟨k, hk6, h1, h2⟩
    by_cases e : k = Lib.ctz 64 x
    · exact .inl (by rw [← e]; exact h2)
    · exact .inr ⟨k, hk6, ⟨h1, by simp [e]⟩, h2⟩
  · rintro (h | ⟨k, hk6, ⟨h1, _⟩, h2⟩)
    · exact ⟨_, hk, hb, h⟩
    · exact ⟨k, hk6, h1, h2⟩
theorem upd_same (f : Nat → Nat) (k : Nat) : upd f k (f k) = f := by funext i; unfold upd; split <;> simp_all
theorem upd_upd (f : Nat → Nat) (k a b : Nat) : upd (upd f k a) k b = upd f k b := by funext i; unfold upd; split <;> rfl
theorem upd_at (f : Nat → Nat) (k a : Nat) : upd f k a k = a := by simp [upd]
section
set_option maxHeartbeats 1000000
set_option maxRecDepth 100000
theorem mul_any (f g : Nat → Nat) (w : World) (hf : Wf f) (hg : Wf g) (hT : Tab w) :
    Calls Tryd.prog 15 #[.agg (Rw f), .agg (Rw g)] w fun e w' => e = .returned (.agg (Rw (blk (mulS f g)))) ∧ Below w.heap.size w w' := by
  have hz : ∀ w, (zeroValue 25).run Tryd.prog w = .ok (.agg (Rw fun _ => 0)) w := (zero_of_info blockZero).1
  obtain ⟨h, hh⟩ : ∃ h : Nat → Nat, h = blk (mulS f g) := ⟨_, rfl⟩
  rw [← hh]
  have HH := Lib.hid hh
  have HT := Lib.hid hT
  clear hh hT
  go_enter Tryd.func15, Tryd.ntmps15
  go_wp2_with (first | (apply wpList_ld rfl _ rfl _ rfl; focus ((repeat' (first | (with_reducible assumption) | (refine Hold.new ?_; first | rfl | (simp; done)) | (refine Hold.alloc ?_ _) | (apply Hold.row) | (refine Hold.other ?_ ?_ _; rotate_left; focus (first | omega | (simp; omega))))); done)) | (apply wpList_st rfl _ _ rfl _ rfl _ rfl; focus ((repeat' (first | (with_reducible assumption) | (refine Hold.new ?_; first | rfl | (simp; done)) | (refine Hold.alloc ?_ _) | (apply Hold.row) | (refine Hold.other ?_ ?_ _; rotate_left; focus (first | omega | (simp; omega))))); done)) | (refine wpList_bd rfl rfl ?_))
  go_loopw [9] (fun i wr => ∃ k : Nat, k ≤ 64 ∧ i = .int .i64 k ∧ Hold wr (w.heap.size + 3) (Rw (rowsTo h (fun _ => 0) k)) ∧ Hold wr (w.heap.size + 1) (Rw g) ∧ Hold wr (w.heap.size + 2) (Rw fun _ => 0) ∧ Below w.heap.size w wr) (fun i _ => 64 - (intOf i).toNat)
  case atStart => exact ⟨0, Nat.zero_le _, rfl, by rw [rowsTo_zero]; exact Hold.new (by simp), ((Hold.new (by simp)).alloc _).alloc _, (Hold.new (by simp)).alloc _, ((((Below.refl _ _).alloc (Nat.le_refl _) _).alloc (by simp) _).alloc (by simp; omega) _).alloc (by simp; omega) _⟩
  case round =>
    obtain ⟨k, hk, rfl, d, d1, d2, db⟩ := hrel
    by_cases hlt : k < 64
    · obtain ⟨wo, rfl⟩ : ∃ wo : World, wo = wr := ⟨_, rfl⟩
      have hdk : decide ((k : Int) < 64) = true := by rw [decide_eq_true_eq]; omega
      have hix := fun w => run_ix f k hlt w
      go_wp2_with fail
      go_loopw [7] (fun v wr => ∃ x acc : Nat, v = .int .u64 x ∧ x < 18446744073709551616 ∧ acc < 18446744073709551616 ∧ (∀ c, c < 64 → (acc.testBit c || anyB g x c) = mulS f g k c) ∧
        Hold wr (w.heap.size + 3) (Rw (upd (rowsTo h (fun _ => 0) k) k acc)) ∧ Hold wr (w.heap.size + 1) (Rw g) ∧ Hold wr (w.heap.size + 2) (Rw fun _ => 0) ∧ Below w.heap.size w wr) (fun v _ => (intOf v).toNat)
      case atStart => exact ⟨f k, 0, rfl, hf k hlt, by decide, fun c _ => by simp [anyB, mulS, bt], by rw [show upd (rowsTo h (fun _ => 0) k) k 0 = rowsTo h (fun _ => 0) k from (congrArg (upd _ k) (rowsTo_at h (fun _ => 0) k).symm).trans (upd_same _ k)]; exact d, d1, d2, db⟩
      case round =>
        clear d d1 d2 db hix
        obtain ⟨x, acc, rfl, hx, hacc, hbits, d, d1, d2, db⟩ := hrel
        have HB := Lib.hid hbits
        clear hbits
        by_cases hx0 : x = 0
        · subst hx0
          have hfin : acc = h k := by
            rw [HH.out]
            exact word_eq hacc (blk_wf _ k hlt) fun c hc => by rw [blk_bit _ _ _ hc, ← HB.out c hc, anyB_zero, Bool.or_false]
          subst hfin
          rw [rowsTo_step] at d
          go_wp2_with fail
          go_roundw
          case rel => exact ⟨k + 1, by omega, by go_num, d, d1, d2, db⟩
          case measure => simp [intOf]; omega
        · have hne : ((x : Int) != 0) = true := by simp; omega
          have hne2 : ((x : Int) == 0) = false := by simp; omega
          obtain ⟨hk6, hkb, hki⟩ := low_facts x hx hx0
          have hlow := fun c => anyB_low g x c hx hx0
          have HL := Lib.hid hlow
          have hX : bits .and .u64 (x : Int) ((x : Int) - 1) = ((x &&& (x - 1) : Nat) : Int) := by
            rw [show ((x : Int) - 1) = ((x - 1 : Nat) : Int) by omega, bits_and64 _ _ hx (by omega)]
          have hxl : x &&& (x - 1) < x := Nat.lt_of_le_of_lt Nat.and_le_right (by omega)
          have tz := fun w' (hb : Below w.heap.size w w') => tz_any x w' hx hx0 (HT.out.stays hb)
          have TZ := Lib.hid tz
          clear tz hlow hkb hki
          generalize Lib.ctz 64 x = q at *
          generalize x &&& (x - 1) = x' at *
          go_wp2_with fail
          refine still_tail 9 (by kernel_rfl) (by kernel_rfl) fun wd hwd => ?_
          have e := d.drew_eq hwd
          have e1 := d1.drew_eq hwd
          have e2 := d2.drew_eq hwd
          have eb := Below.drew_eq db hwd
          have c1 := e.cell (Rw_get _ k hlt)
          rw [upd_at] at c1
          have c2 := e1.cell (Rw_get _ q hk6)
          have hfree : wd.frozen? ⟨w.heap.size + 3, k, none⟩ = false := e.free
          have hki : (k : Int) < 64 := by omega
          have hqi : (q : Int) < 64 := by omega
          have hV := bits_or64 acc (g q) hacc (hg q hk6)
          clear hwd d d1 d2 db
          simp only [List.take_succ_cons, List.take_zero, List.drop_succ_cons, List.drop_zero]
          repeat still_step
          refine wpStill_step (fun K hK => ?_)
          go_simp
          refine ⟨_, same_symm (TZ.out _ eb), hK _ ?_⟩
          clear hK K
          repeat still_step
          refine wpStill_nil ?_
          show wpList _ _ _ _ _ _
          have y := e.put (i := k) (.int .u64 ↑(acc ||| g q))
          rw [Rw_set, upd_upd] at y
          have y1 : Hold (wd.setCell ⟨w.heap.size + 3, k, none⟩ (.int .u64 ↑(acc ||| g q))) (w.heap.size + 1) (Rw g) := e1.far (by simp) _
          have y2 : Hold (wd.setCell ⟨w.heap.size + 3, k, none⟩ (.int .u64 ↑(acc ||| g q))) (w.heap.size + 2) (Rw fun _ => 0) := e2.far (by simp) _
          have yb := eb.setCell (p := ⟨w.heap.size + 3, k, none⟩) (by simp) (.int .u64 ↑(acc ||| g q))
          clear e e1 e2 eb
          go_wp2_with fail
          go_roundw
          case rel =>
            refine ⟨x', acc ||| g q, rfl, by omega, Nat.or_lt_two_pow (n := 64) hacc (hg q hk6), fun c hc => ?_, y, y1, y2, yb⟩
            rw [← HB.out c hc, HL.out c, Nat.testBit_or, Bool.or_assoc]
          case measure => simp [intOf]; omega
    · have e : k = 64 := by omega
      subst e
      rw [rowsTo_end] at d
      go_wp2_with (first | (apply wpList_ld rfl _ rfl _ rfl; focus ((repeat' (first | (with_reducible assumption) | (refine Hold.new ?_; first | rfl | (simp; done)) | (refine Hold.alloc ?_ _) | (apply Hold.row) | (refine Hold.other ?_ ?_ _; rotate_left; focus (first | omega | (simp; omega))))); done)) | (apply wpList_st rfl _ _ rfl _ rfl _ rfl; focus ((repeat' (first | (with_reducible assumption) | (refine Hold.new ?_; first | rfl | (simp; done)) | (refine Hold.alloc ?_ _) | (apply Hold.row) | (refine Hold.other ?_ ?_ _; rotate_left; focus (first | omega | (simp; omega))))); done)) | (refine wpList_bd rfl rfl ?_))
      exact ret_blk rfl (w.heap.size + 2) rfl (Hold.row d2 _) rfl ⟨rfl, Below.row db (by omega) _⟩
end
end Go.Proofs.YtbcklcikmhpclaaDoor
