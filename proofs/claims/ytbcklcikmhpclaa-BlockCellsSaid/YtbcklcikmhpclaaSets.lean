/-
  Set, the program's and the reference's.
-/
import Derived.Test.YtbcklcikmhpclaaRefGets
namespace Go.Proofs.Ytbcklcikmhpclaa
open Go.RowKit
set_option linter.unusedVariables false
set_option linter.unusedSimpArgs false
section
set_option maxHeartbeats 400000
set_option maxRecDepth 100000
theorem set_no (f : Nat → Nat) (r c : Int) (on : Bool) (w : World) (h : r < 0 ∨ 64 ≤ r ∨ c < 0 ∨ 64 ≤ c) :
    Calls Try.prog 7 #[.agg (Rw f), .int .i64 r, .int .i64 c, .bool on] w fun e w' => e = .returned (.tuple #[.agg (Rw fun _ => 0), .int .i64 2]) ∧ Below w.heap.size w w' := by
  have hz : ∀ w, (zeroValue 25).run Try.prog w = .ok (.agg (Rw fun _ => 0)) w := (zero_of_info blockZero).1
  go_enter Try.func7, Try.ntmps7
  go_wp2_with fail
  refine (cell_no r c _ h).mono ?_
  rintro e w' ⟨rfl, rfl⟩
  go_wp2_with (first | (apply wpList_ld rfl _ rfl _ rfl; focus ((repeat' (first | (with_reducible assumption) | (refine Hold.new ?_; first | rfl | (simp; done)) | (refine Hold.alloc ?_ _))); done)) | (apply wpList_st rfl _ _ rfl _ rfl _ rfl; focus ((repeat' (first | (with_reducible assumption) | (refine Hold.new ?_; first | rfl | (simp; done)) | (refine Hold.alloc ?_ _))); done)) | (refine wpList_bd rfl rfl ?_))
  exact ret_blk2 rfl (w.heap.size + 1) rfl (Hold.row (Hold.new (by simp)) _) rfl ⟨rfl, Below.row (((Below.refl _ _).alloc (Nat.le_refl _) _).alloc (by simp) _) (by omega) _⟩
theorem set_on (f : Nat → Nat) (r c : Nat) (w : World) (hr : r < 64) (hc : c < 64) (hf : Wf f) :
    Calls Try.prog 7 #[.agg (Rw f), .int .i64 r, .int .i64 c, .bool true] w fun e w' => e = .returned (.tuple #[.agg (Rw (putB f r c)), .int .i64 0]) ∧ Below w.heap.size w w' := by
  have hz : ∀ w, (zeroValue 25).run Try.prog w = .ok (.agg (Rw fun _ => 0)) w := (zero_of_info blockZero).1
  have hst : bits .or .u64 (f r) (pw c) = ((f r ||| 2 ^ c : Nat) : Int) := bits_or64 _ _ (hf r hr) (pw_lt hc)
  have hRw := Rw_set f r (f r ||| 2 ^ c)
  go_enter Try.func7, Try.ntmps7
  go_wp2_with fail
  refine (cell_yes r c _ hr hc).mono ?_
  rintro e w' ⟨rfl, rfl⟩
  go_wp2_with (first | (apply wpList_ld rfl _ rfl _ rfl; focus ((repeat' (first | (with_reducible assumption) | (refine Hold.new ?_; first | rfl | (simp; done)) | (refine Hold.alloc ?_ _))); done)) | (apply wpList_st rfl _ _ rfl _ rfl _ rfl; focus ((repeat' (first | (with_reducible assumption) | (refine Hold.new ?_; first | rfl | (simp; done)) | (refine Hold.alloc ?_ _))); done)) | (refine wpList_bd rfl rfl ?_))
  refine still_tail 7 (by kernel_rfl) (by kernel_rfl) fun wd hwd => ?_
  have d : Hold wd w.heap.size (Rw f) := ((Hold.new rfl).alloc _).drew_eq hwd
  have d2 : Hold wd (w.heap.size + 1) (Rw fun _ => 0) := Hold.drew_eq (Hold.new (by simp)) hwd
  have db : Below w.heap.size w wd := Below.drew_eq (((Below.refl _ _).alloc (Nat.le_refl _) _).alloc (by simp) _) hwd
  have hcell := d.cell (Rw_get f r hr)
  have hfree : wd.frozen? ⟨w.heap.size, r, none⟩ = false := d.free
  have hri : (r : Int) < 64 := by omega
  clear hwd
  simp only [List.take_succ_cons, List.take_zero, List.drop_succ_cons, List.drop_zero]
  repeat still_step
  refine wpStill_step (fun K hK => ?_)
  go_simp
  refine ⟨_, same_symm (bit_any c _ hc), hK _ ?_⟩
  clear hK K
  repeat still_step
  refine wpStill_nil ?_
  show wpList _ _ _ _ _ _
  have d' : Hold (wd.setCell ⟨w.heap.size, r, none⟩ (.int .u64 ↑(f r ||| 2 ^ c))) w.heap.size (Rw (putB f r c)) := by
    have := d.put (i := r) (.int .u64 ↑(f r ||| 2 ^ c)); rw [hRw] at this; exact this
  have d2' : Hold (wd.setCell ⟨w.heap.size, r, none⟩ (.int .u64 ↑(f r ||| 2 ^ c))) (w.heap.size + 1) (Rw fun _ => 0) := d2.far (by simp) _
  go_wp2_with (first | (apply wpList_ld rfl _ rfl _ rfl; focus ((repeat' (first | (with_reducible assumption) | (refine Hold.new ?_; first | rfl | (simp; done)) | (refine Hold.alloc ?_ _))); done)) | (apply wpList_st rfl _ _ rfl _ rfl _ rfl; focus ((repeat' (first | (with_reducible assumption) | (refine Hold.new ?_; first | rfl | (simp; done)) | (refine Hold.alloc ?_ _))); done)) | (refine wpList_bd rfl rfl ?_))
  exact ret_blk2 rfl (w.heap.size + 1) rfl (Hold.row d2' _) rfl ⟨rfl, Below.row (db.setCell (Nat.le_refl _) _) (by omega) _⟩
theorem set_off (f : Nat → Nat) (r c : Nat) (w : World) (hr : r < 64) (hc : c < 64) (hf : Wf f) :
    Calls Try.prog 7 #[.agg (Rw f), .int .i64 r, .int .i64 c, .bool false] w fun e w' => e = .returned (.tuple #[.agg (Rw (offB f r c)), .int .i64 0]) ∧ Below w.heap.size w w' := by
  have hz : ∀ w, (zeroValue 25).run Try.prog w = .ok (.agg (Rw fun _ => 0)) w := (zero_of_info blockZero).1
  have hst : bits .andNot .u64 (f r) (pw c) = ((less (f r) (pw c) : Nat) : Int) := bits_less64 _ _ (hf r hr) (pw_lt hc)
  have hRw := Rw_set f r (less (f r) (pw c))
  go_enter Try.func7, Try.ntmps7
  go_wp2_with fail
  refine (cell_yes r c _ hr hc).mono ?_
  rintro e w' ⟨rfl, rfl⟩
  go_wp2_with (first | (apply wpList_ld rfl _ rfl _ rfl; focus ((repeat' (first | (with_reducible assumption) | (refine Hold.new ?_; first | rfl | (simp; done)) | (refine Hold.alloc ?_ _))); done)) | (apply wpList_st rfl _ _ rfl _ rfl _ rfl; focus ((repeat' (first | (with_reducible assumption) | (refine Hold.new ?_; first | rfl | (simp; done)) | (refine Hold.alloc ?_ _))); done)) | (refine wpList_bd rfl rfl ?_))
  refine still_tail 7 (by kernel_rfl) (by kernel_rfl) fun wd hwd => ?_
  have d : Hold wd w.heap.size (Rw f) := ((Hold.new rfl).alloc _).drew_eq hwd
  have d2 : Hold wd (w.heap.size + 1) (Rw fun _ => 0) := Hold.drew_eq (Hold.new (by simp)) hwd
  have db : Below w.heap.size w wd := Below.drew_eq (((Below.refl _ _).alloc (Nat.le_refl _) _).alloc (by simp) _) hwd
  have hcell := d.cell (Rw_get f r hr)
  have hfree : wd.frozen? ⟨w.heap.size, r, none⟩ = false := d.free
  have hri : (r : Int) < 64 := by omega
  clear hwd
  simp only [List.take_succ_cons, List.take_zero, List.drop_succ_cons, List.drop_zero]
  repeat still_step
  refine wpStill_step (fun K hK => ?_)
  go_simp
  refine ⟨_, same_symm (bit_any c _ hc), hK _ ?_⟩
  clear hK K
  repeat still_step
  refine wpStill_nil ?_
  show wpList _ _ _ _ _ _
  have d' : Hold (wd.setCell ⟨w.heap.size, r, none⟩ (.int .u64 ↑(less (f r) (pw c)))) w.heap.size (Rw (offB f r c)) := by
    have := d.put (i := r) (.int .u64 ↑(less (f r) (pw c))); rw [hRw] at this; exact this
  have d2' : Hold (wd.setCell ⟨w.heap.size, r, none⟩ (.int .u64 ↑(less (f r) (pw c)))) (w.heap.size + 1) (Rw fun _ => 0) := d2.far (by simp) _
  go_wp2_with (first | (apply wpList_ld rfl _ rfl _ rfl; focus ((repeat' (first | (with_reducible assumption) | (refine Hold.new ?_; first | rfl | (simp; done)) | (refine Hold.alloc ?_ _))); done)) | (apply wpList_st rfl _ _ rfl _ rfl _ rfl; focus ((repeat' (first | (with_reducible assumption) | (refine Hold.new ?_; first | rfl | (simp; done)) | (refine Hold.alloc ?_ _))); done)) | (refine wpList_bd rfl rfl ?_))
  exact ret_blk2 rfl (w.heap.size + 1) rfl (Hold.row d2' _) rfl ⟨rfl, Below.row (db.setCell (Nat.le_refl _) _) (by omega) _⟩

theorem rset_no (f : Nat → Nat) (r c : Int) (on : Bool) (w : World) (h : r < 0 ∨ 64 ≤ r ∨ c < 0 ∨ 64 ≤ c) :
    Calls Try.prog 11 #[.agg (Rw f), .int .i64 r, .int .i64 c, .bool on] w fun e w' => e = .returned (.tuple #[.agg (Rw fun _ => 0), .int .i64 2]) ∧ Below w.heap.size w w' := by
  have hz : ∀ w, (zeroValue 25).run Try.prog w = .ok (.agg (Rw fun _ => 0)) w := (zero_of_info blockZero).1
  by_cases hr : r < 0 ∨ 64 ≤ r
  · go_enter Try.func11, Try.ntmps11
    go_wp2_with fail
    refine (in_no r _ hr).mono ?_
    rintro e w' ⟨rfl, rfl⟩
    go_wp2_with (first | (apply wpList_ld rfl _ rfl _ rfl; focus ((repeat' (first | (with_reducible assumption) | (refine Hold.new ?_; first | rfl | (simp; done)) | (refine Hold.alloc ?_ _))); done)) | (apply wpList_st rfl _ _ rfl _ rfl _ rfl; focus ((repeat' (first | (with_reducible assumption) | (refine Hold.new ?_; first | rfl | (simp; done)) | (refine Hold.alloc ?_ _))); done)) | (refine wpList_bd rfl rfl ?_))
    exact ret_blk2 rfl (w.heap.size + 1) rfl (Hold.row (Hold.new (by simp)) _) rfl ⟨rfl, Below.row (((Below.refl _ _).alloc (Nat.le_refl _) _).alloc (by simp) _) (by omega) _⟩
  · obtain ⟨n, rfl⟩ := Int.eq_ofNat_of_zero_le (show 0 ≤ r by omega)
    have hn : n < 64 := by omega
    have hc : c < 0 ∨ 64 ≤ c := by omega
    clear h hr
    go_enter Try.func11, Try.ntmps11
    go_wp2_with fail
    refine (in_yes n _ hn).mono ?_
    rintro e w' ⟨rfl, rfl⟩
    go_wp2_with fail
    refine (in_no c _ hc).mono ?_
    rintro e w' ⟨rfl, rfl⟩
    go_wp2_with (first | (apply wpList_ld rfl _ rfl _ rfl; focus ((repeat' (first | (with_reducible assumption) | (refine Hold.new ?_; first | rfl | (simp; done)) | (refine Hold.alloc ?_ _))); done)) | (apply wpList_st rfl _ _ rfl _ rfl _ rfl; focus ((repeat' (first | (with_reducible assumption) | (refine Hold.new ?_; first | rfl | (simp; done)) | (refine Hold.alloc ?_ _))); done)) | (refine wpList_bd rfl rfl ?_))
    exact ret_blk2 rfl (w.heap.size + 1) rfl (Hold.row (Hold.new (by simp)) _) rfl ⟨rfl, Below.row (((Below.refl _ _).alloc (Nat.le_refl _) _).alloc (by simp) _) (by omega) _⟩
theorem rset_on (f : Nat → Nat) (r c : Nat) (w : World) (hr : r < 64) (hc : c < 64) (hf : Wf f) :
    Calls Try.prog 11 #[.agg (Rw f), .int .i64 r, .int .i64 c, .bool true] w fun e w' => e = .returned (.tuple #[.agg (Rw (putB f r c)), .int .i64 0]) ∧ Below w.heap.size w w' := by
  have hz : ∀ w, (zeroValue 25).run Try.prog w = .ok (.agg (Rw fun _ => 0)) w := (zero_of_info blockZero).1
  go_enter Try.func11, Try.ntmps11
  go_wp2_with fail
  refine (in_yes r _ hr).mono ?_
  rintro e w' ⟨rfl, rfl⟩
  go_wp2_with fail
  refine (in_yes c _ hc).mono ?_
  rintro e w' ⟨rfl, rfl⟩
  go_wp2_with (first | (apply wpList_ld rfl _ rfl _ rfl; focus ((repeat' (first | (with_reducible assumption) | (refine Hold.new ?_; first | rfl | (simp; done)) | (refine Hold.alloc ?_ _))); done)) | (apply wpList_st rfl _ _ rfl _ rfl _ rfl; focus ((repeat' (first | (with_reducible assumption) | (refine Hold.new ?_; first | rfl | (simp; done)) | (refine Hold.alloc ?_ _))); done)) | (refine wpList_bd rfl rfl ?_))
  refine (put_any f r c _ hr hc (hf r hr)).mono ?_
  rintro e w1 ⟨rfl, hb⟩
  have d2 : Hold w1 (w.heap.size + 1) (Rw fun _ => 0) := Hold.below (Hold.new (by simp)) hb (by simp)
  have db : Below w.heap.size w w1 := (((Below.refl _ _).alloc (Nat.le_refl _) _).alloc (by simp) _).trans (hb.mono (by simp; omega))
  clear hb
  go_wp2_with (first | (apply wpList_ld rfl _ rfl _ rfl; focus ((repeat' (first | (with_reducible assumption) | (refine Hold.new ?_; first | rfl | (simp; done)) | (refine Hold.alloc ?_ _))); done)) | (apply wpList_st rfl _ _ rfl _ rfl _ rfl; focus ((repeat' (first | (with_reducible assumption) | (refine Hold.new ?_; first | rfl | (simp; done)) | (refine Hold.alloc ?_ _))); done)) | (refine wpList_bd rfl rfl ?_))
  exact ret_blk2 rfl (w.heap.size + 1) rfl (Hold.row d2 _) rfl ⟨rfl, Below.row db (by omega) _⟩
theorem rset_off (f : Nat → Nat) (r c : Nat) (w : World) (hr : r < 64) (hc : c < 64) (hf : Wf f) :
    Calls Try.prog 11 #[.agg (Rw f), .int .i64 r, .int .i64 c, .bool false] w fun e w' => e = .returned (.tuple #[.agg (Rw (offB f r c)), .int .i64 0]) ∧ Below w.heap.size w w' := by
  have hz : ∀ w, (zeroValue 25).run Try.prog w = .ok (.agg (Rw fun _ => 0)) w := (zero_of_info blockZero).1
  have g := Rw_get f r hr
  by_cases hb : (f r).testBit c = true
  · have hst : (Rw f).setIfInBounds r (.int .u64 (IntKind.u64.wrap (↑(f r) - IntKind.u64.wrap (2 ^ c)))) = Rw (offB f r c) := by
      have h1 := less_pw _ _ (hf r hr) hb
      have h2 := less_lt (f r) (pw c) (hf r hr)
      have h3 : pw c ≤ f r := Nat.ge_two_pow_of_testBit hb
      rw [wrap_pw hc, show ((f r : Int) - (pw c : Int)) = ((f r - pw c : Nat) : Int) by omega, ← h1, wrap_u64_nat _ h2, Rw_set]
      rfl
    go_enter Try.func11, Try.ntmps11
    go_wp2_with fail
    refine (in_yes r _ hr).mono ?_
    rintro e w' ⟨rfl, rfl⟩
    go_wp2_with fail
    refine (in_yes c _ hc).mono ?_
    rintro e w' ⟨rfl, rfl⟩
    go_wp2_with (first | (apply wpList_ld rfl _ rfl _ rfl; focus ((repeat' (first | (with_reducible assumption) | (refine Hold.new ?_; first | rfl | (simp; done)) | (refine Hold.alloc ?_ _))); done)) | (apply wpList_st rfl _ _ rfl _ rfl _ rfl; focus ((repeat' (first | (with_reducible assumption) | (refine Hold.new ?_; first | rfl | (simp; done)) | (refine Hold.alloc ?_ _))); done)) | (refine wpList_bd rfl rfl ?_))
    refine (has_any f r c _ hr hc).mono ?_
    rintro e w1 ⟨rfl, rfl⟩
    go_wp2_with (first | (apply wpList_ld rfl _ rfl _ rfl; focus ((repeat' (first | (with_reducible assumption) | (refine Hold.new ?_; first | rfl | (simp; done)) | (refine Hold.alloc ?_ _))); done)) | (apply wpList_st rfl _ _ rfl _ rfl _ rfl; focus ((repeat' (first | (with_reducible assumption) | (refine Hold.new ?_; first | rfl | (simp; done)) | (refine Hold.alloc ?_ _))); done)) | (refine wpList_bd rfl rfl ?_))
    exact ret_blk2 rfl (w.heap.size + 1) rfl (Hold.row (((Hold.new (by simp)).alloc _)) _) rfl ⟨rfl, Below.row (((((Below.refl _ _).alloc (Nat.le_refl _) _).alloc (by simp) _)).alloc (by simp; omega) _) (by omega) _⟩
  · have hb' : (f r).testBit c = false := by simpa using hb
    clear hb
    have same : offB f r c = f := by
      funext i
      unfold offB upd
      split
      · rename_i h; subst h; exact less_no _ _ (hf i hr) hb'
      · rfl
    rw [same]
    clear same
    go_enter Try.func11, Try.ntmps11
    go_wp2_with fail
    refine (in_yes r _ hr).mono ?_
    rintro e w' ⟨rfl, rfl⟩
    go_wp2_with fail
    refine (in_yes c _ hc).mono ?_
    rintro e w' ⟨rfl, rfl⟩
    go_wp2_with (first | (apply wpList_ld rfl _ rfl _ rfl; focus ((repeat' (first | (with_reducible assumption) | (refine Hold.new ?_; first | rfl | (simp; done)) | (refine Hold.alloc ?_ _))); done)) | (apply wpList_st rfl _ _ rfl _ rfl _ rfl; focus ((repeat' (first | (with_reducible assumption) | (refine Hold.new ?_; first | rfl | (simp; done)) | (refine Hold.alloc ?_ _))); done)) | (refine wpList_bd rfl rfl ?_))
    refine (has_any f r c _ hr hc).mono ?_
    rintro e w1 ⟨rfl, rfl⟩
    go_wp2_with (first | (apply wpList_ld rfl _ rfl _ rfl; focus ((repeat' (first | (with_reducible assumption) | (refine Hold.new ?_; first | rfl | (simp; done)) | (refine Hold.alloc ?_ _))); done)) | (apply wpList_st rfl _ _ rfl _ rfl _ rfl; focus ((repeat' (first | (with_reducible assumption) | (refine Hold.new ?_; first | rfl | (simp; done)) | (refine Hold.alloc ?_ _))); done)) | (refine wpList_bd rfl rfl ?_))
    exact ret_blk2 rfl (w.heap.size + 1) rfl (Hold.row (((Hold.new (by simp)).alloc _)) _) rfl ⟨rfl, Below.row (((((Below.refl _ _).alloc (Nat.le_refl _) _).alloc (by simp) _)).alloc (by simp; omega) _) (by omega) _⟩
end
end Go.Proofs.Ytbcklcikmhpclaa
