/-
  Corner, the program's and the reference's.
-/
import Derived.Test.YtoaeeojnelmlnaaDoorQOr
namespace Go.Proofs.YtoaeeojnelmlnaaDoor
open Go.RowKit
set_option linter.unusedVariables false
set_option linter.unusedSimpArgs false
/-- The bits of a corner. -/
def cutS (f : Nat → Nat) (rows cols : Nat) (r c : Nat) : Bool := decide (r < rows) && decide (c < cols) && bt f r c
/-- The word of the first c columns. -/
def cm (c : Nat) : Nat := 2 ^ c - 1
theorem cm_lt {c : Nat} (hc : c ≤ 64) : cm c < 18446744073709551616 := by
  have : 2 ^ c ≤ 2 ^ 64 := Nat.pow_le_pow_right (by decide) hc
  have hp := Nat.two_pow_pos c
  unfold cm; omega
theorem corner_rows (f : Nat → Nat) (rows cols : Nat) (hf : Wf f) (hc : cols ≤ 64) : Rw (rowsTo (fun i => f i &&& cm cols) (fun _ => 0) rows) = Rw (blk (cutS f rows cols)) := by
  refine Rw_blk (fun i hi => ?_) fun r c hr hcc => ?_
  · unfold rowsTo
    split
    · exact Nat.lt_of_le_of_lt Nat.and_le_left (hf i hi)
    · exact Nat.zero_lt_succ _
  · unfold rowsTo cutS bt cm
    by_cases h : r < rows
    · rw [if_pos h, Nat.testBit_and, Nat.testBit_two_pow_sub_one]
      simp only [h, decide_true, Bool.true_and]
      exact Bool.and_comm _ _
    · rw [if_neg h]; simp [h]
section
set_option maxHeartbeats 1000000
set_option maxRecDepth 100000
theorem cut_yes (n : Nat) (w : World) (h : n ≤ 64) : Calls Tryd.prog 119 #[.int .i64 n] w fun e w' => e = .returned (.bool true) ∧ w = w' := by
  have hd : decide ((n : Int) ≤ 64) = true := by rw [decide_eq_true_eq]; omega
  go_enter Tryd.func119, Tryd.ntmps119
  go_wp2
  go_ret
  exact ⟨rfl, rfl⟩
theorem cut_no (n : Int) (w : World) (h : n < 0 ∨ 64 < n) : Calls Tryd.prog 119 #[.int .i64 n] w fun e w' => e = .returned (.bool false) ∧ w = w' := by
  rcases h with h | h
  · go_enter Tryd.func119, Tryd.ntmps119
    go_wp2
    go_ret
    exact ⟨rfl, rfl⟩
  · have h0 : 0 ≤ n := by omega
    have hd : decide (n ≤ 64) = false := by rw [decide_eq_false_iff_not]; omega
    go_enter Tryd.func119, Tryd.ntmps119
    go_wp2
    go_ret
    exact ⟨rfl, rfl⟩
theorem bit64 (w : World) : Calls Tryd.prog 120 #[.int .i64 64] w fun e w' => e = .returned (.int .u64 0) ∧ w = w' := by
  go_enter Tryd.func120, Tryd.ntmps120
  go_wp2
  go_ret
  exact ⟨rfl, rfl⟩
/-- bit of a number up to 64, and one less: the word of the first columns. -/
theorem bit_cut (c : Nat) (w : World) (hc : c ≤ 64) : Calls Tryd.prog 120 #[.int .i64 c] w fun e w' => (∃ x : Nat, e = .returned (.int .u64 x) ∧ x < 18446744073709551616 ∧ IntKind.u64.wrap ((x : Int) - 1) = (cm c : Int)) ∧ w = w' := by
  by_cases h : c = 64
  · subst h
    refine (bit64 w).mono fun e w' ⟨he, hw⟩ => ⟨⟨0, he, by decide, ?_⟩, hw⟩
    rw [IntKind.wrap_u64]; decide
  · refine (bit_any c w (by omega)).mono fun e w' ⟨he, hw⟩ => ⟨⟨pw c, he, pw_lt (by omega), ?_⟩, hw⟩
    have hp : 0 < pw c := Nat.two_pow_pos c
    have hl := pw_lt (c := c) (by omega)
    rw [show ((pw c : Int) - 1) = ((pw c - 1 : Nat) : Int) by omega, wrap_u64_nat _ (by omega)]
    rfl
theorem corner_no (f : Nat → Nat) (r c : Int) (w : World) (h : r < 0 ∨ 64 < r ∨ c < 0 ∨ 64 < c) :
    Calls Tryd.prog 105 #[.agg (Rw f), .int .i64 r, .int .i64 c] w fun e w' => e = .returned (.tuple #[.agg (Rw fun _ => 0), .int .i64 2]) ∧ Below w.heap.size w w' := by
  have hz : ∀ w, (zeroValue 97).run Tryd.prog w = .ok (.agg (Rw fun _ => 0)) w := (zero_of_info blockZero).1
  by_cases hr : r < 0 ∨ 64 < r
  · go_enter Tryd.func105, Tryd.ntmps105
    go_wp2_with fail
    refine (cut_no r _ hr).mono ?_
    rintro e w' ⟨rfl, rfl⟩
    go_wp2_with (first | (apply wpList_ld rfl _ rfl _ rfl; focus ((repeat' (first | (with_reducible assumption) | ((with_reducible refine Hold.new ?_); first | (with_reducible rfl) | (simp; done)) | (with_reducible apply Hold.alloc) | (with_reducible apply Hold.row) | ((with_reducible apply Hold.other); rotate_left; focus (first | omega | (simp; omega))))); done)) | (apply wpList_st rfl _ _ rfl _ rfl _ rfl; focus ((repeat' (first | (with_reducible assumption) | ((with_reducible refine Hold.new ?_); first | (with_reducible rfl) | (simp; done)) | (with_reducible apply Hold.alloc) | (with_reducible apply Hold.row) | ((with_reducible apply Hold.other); rotate_left; focus (first | omega | (simp; omega))))); done)) | (refine wpList_bd rfl rfl ?_))
    exact ret_blk2 rfl (w.heap.size + 1) rfl (Hold.row (Hold.new (by simp)) _) rfl ⟨rfl, Below.row (((Below.refl _ _).alloc (Nat.le_refl _) _).alloc (by simp) _) (by omega) _⟩
  · obtain ⟨n, rfl⟩ := Int.eq_ofNat_of_zero_le (show 0 ≤ r by omega)
    have hn : n ≤ 64 := by omega
    have hc : c < 0 ∨ 64 < c := by omega
    clear h hr
    go_enter Tryd.func105, Tryd.ntmps105
    go_wp2_with fail
    refine (cut_yes n _ hn).mono ?_
    rintro e w' ⟨rfl, rfl⟩
    go_wp2_with fail
    refine (cut_no c _ hc).mono ?_
    rintro e w' ⟨rfl, rfl⟩
    go_wp2_with (first | (apply wpList_ld rfl _ rfl _ rfl; focus ((repeat' (first | (with_reducible assumption) | ((with_reducible refine Hold.new ?_); first | (with_reducible rfl) | (simp; done)) | (with_reducible apply Hold.alloc) | (with_reducible apply Hold.row) | ((with_reducible apply Hold.other); rotate_left; focus (first | omega | (simp; omega))))); done)) | (apply wpList_st rfl _ _ rfl _ rfl _ rfl; focus ((repeat' (first | (with_reducible assumption) | ((with_reducible refine Hold.new ?_); first | (with_reducible rfl) | (simp; done)) | (with_reducible apply Hold.alloc) | (with_reducible apply Hold.row) | ((with_reducible apply Hold.other); rotate_left; focus (first | omega | (simp; omega))))); done)) | (refine wpList_bd rfl rfl ?_))
    exact ret_blk2 rfl (w.heap.size + 1) rfl (Hold.row (Hold.new (by simp)) _) rfl ⟨rfl, Below.row (((Below.refl _ _).alloc (Nat.le_refl _) _).alloc (by simp) _) (by omega) _⟩
theorem corner_yes (f : Nat → Nat) (r c : Nat) (w : World) (hf : Wf f) (hr : r ≤ 64) (hc : c ≤ 64) :
    Calls Tryd.prog 105 #[.agg (Rw f), .int .i64 r, .int .i64 c] w fun e w' => e = .returned (.tuple #[.agg (Rw (blk (cutS f r c))), .int .i64 0]) ∧ Below w.heap.size w w' := by
  have hz : ∀ w, (zeroValue 97).run Tryd.prog w = .ok (.agg (Rw fun _ => 0)) w := (zero_of_info blockZero).1
  have HE := Lib.hid (corner_rows f r c hf hc)
  have hm := cm_lt hc
  go_enter Tryd.func105, Tryd.ntmps105
  go_wp2_with fail
  refine (cut_yes r _ hr).mono ?_
  rintro e w' ⟨rfl, rfl⟩
  go_wp2_with fail
  refine (cut_yes c _ hc).mono ?_
  rintro e w' ⟨rfl, rfl⟩
  go_wp2_with fail
  refine (bit_cut c _ hc).mono ?_
  rintro e w' ⟨⟨x, rfl, hx, hx1⟩, rfl⟩
  go_wp2_with fail
  generalize cm c = m at *
  go_loopw [24] (fun i wr => ∃ k : Nat, k ≤ r ∧ i = .int .i64 k ∧ Hold wr (w.heap.size + 2) (Rw (rowsTo (fun i => f i &&& m) (fun _ => 0) k)) ∧ Hold wr w.heap.size (Rw f) ∧ Hold wr (w.heap.size + 1) (Rw fun _ => 0) ∧ Below w.heap.size w wr) (fun i _ => 64 - (intOf i).toNat)
  case atStart => exact ⟨0, Nat.zero_le _, rfl, by rw [rowsTo_zero]; exact Hold.new (by simp), ((Hold.new rfl).alloc _).alloc _, (Hold.new (by simp)).alloc _, (((Below.refl _ _).alloc (Nat.le_refl _) _).alloc (by simp) _).alloc (by simp; omega) _⟩
  case round =>
    obtain ⟨k, hk, rfl, d, d0, d1, db⟩ := hrel
    by_cases hlt : k < r
    · have hk6 : k < 64 := by omega
      have hcell := d.cell (Rw_get _ k hk6)
      rw [rowsTo_at] at hcell
      have hcf := d0.cell (Rw_get _ k hk6)
      have hfree : wr.frozen? ⟨w.heap.size + 2, k, none⟩ = false := d.free
      have hst : bits .and .u64 (f k) m = ((f k &&& m : Nat) : Int) := bits_and64 _ _ (hf k hk6) hm
      have d' : Hold (wr.setCell ⟨w.heap.size + 2, k, none⟩ (.int .u64 ↑(f k &&& m))) (w.heap.size + 2) (Rw (rowsTo (fun i => f i &&& m) (fun _ => 0) (k + 1))) := by
        have := d.put (i := k) (.int .u64 ↑(f k &&& m)); rw [Rw_set, show upd (rowsTo (fun i => f i &&& m) (fun _ => 0) k) k (f k &&& m) = upd (rowsTo (fun i => f i &&& m) (fun _ => 0) k) k ((fun i => f i &&& m) k) from rfl, rowsTo_step] at this; exact this
      have d0' : Hold (wr.setCell ⟨w.heap.size + 2, k, none⟩ (.int .u64 ↑(f k &&& m))) w.heap.size (Rw f) := d0.far (by simp) _
      have d1' : Hold (wr.setCell ⟨w.heap.size + 2, k, none⟩ (.int .u64 ↑(f k &&& m))) (w.heap.size + 1) (Rw fun _ => 0) := d1.far (by simp) _
      have db' := db.setCell (p := ⟨w.heap.size + 2, k, none⟩) (by simp) (.int .u64 ↑(f k &&& m))
      clear d d0 d1 db
      go_wp2_with fail
      go_roundw
      case rel => exact ⟨k + 1, by omega, by go_num, d', d0', d1', db'⟩
      case measure => simp [intOf]; omega
    · have e : k = r := by omega
      subst e
      rw [HE.out] at d
      go_wp2_with (first | (apply wpList_ld rfl _ rfl _ rfl; focus ((repeat' (first | (with_reducible assumption) | ((with_reducible refine Hold.new ?_); first | (with_reducible rfl) | (simp; done)) | (with_reducible apply Hold.alloc) | (with_reducible apply Hold.row) | ((with_reducible apply Hold.other); rotate_left; focus (first | omega | (simp; omega))))); done)) | (apply wpList_st rfl _ _ rfl _ rfl _ rfl; focus ((repeat' (first | (with_reducible assumption) | ((with_reducible refine Hold.new ?_); first | (with_reducible rfl) | (simp; done)) | (with_reducible apply Hold.alloc) | (with_reducible apply Hold.row) | ((with_reducible apply Hold.other); rotate_left; focus (first | omega | (simp; omega))))); done)) | (refine wpList_bd rfl rfl ?_))
      exact ret_blk2 rfl (w.heap.size + 1) rfl (Hold.row d1 _) rfl ⟨rfl, Below.row db (by omega) _⟩
end
end Go.Proofs.YtoaeeojnelmlnaaDoor
