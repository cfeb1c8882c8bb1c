/-
  The program's Of.
-/
import Derived.Test.YtbcklcikmhpclaaDoorSmall
namespace Go.Proofs.YtbcklcikmhpclaaDoor
open Go.RowKit
set_option linter.unusedVariables false
set_option linter.unusedSimpArgs false
/-- Number x is a row's or a column's. -/
def Ok (x : Int) : Prop := 0 ≤ x ∧ x < 64
theorem md_ok {x : Int} (h : Ok x) : (md x : Int) = x := by unfold Ok at h; unfold md; omega
section
set_option maxHeartbeats 1000000
set_option maxRecDepth 100000
theorem of_ok (R C : Nat → Int) (b off n cap : Nat) (w : World) (hn : n ≤ 9223372036854775807) (hb : b < w.heap.size)
    (hc : ∀ k, k < n → w.cell? ⟨b, off + k * 2, none⟩ = some (.int .i64 (R k)) ∧ w.cell? ⟨b, off + k * 2 + 1, none⟩ = some (.int .i64 (C k)))
    (hok : ∀ k, k < n → Ok (R k) ∧ Ok (C k)) :
    Calls Tryd.prog 8 #[.slice (some ⟨b, off, none⟩) n cap] w fun e w' => e = .returned (.tuple #[.agg (Rw (foldB R C n)), .int .i64 0]) ∧ Below w.heap.size w w' := by
  have hz : ∀ w, (zeroValue 25).run Tryd.prog w = .ok (.agg (Rw fun _ => 0)) w := (zero_of_info blockZero).1
  have HC := Lib.hid hc
  have HO := Lib.hid hok
  clear hc hok
  go_enter Tryd.func8, Tryd.ntmps8
  go_wp2_with fail
  go_loopw [9] (fun i wr => ∃ k : Nat, k ≤ n ∧ i = .int .i64 k ∧ Hold wr (w.heap.size + 1) (Rw (foldB R C k)) ∧ Hold wr w.heap.size (Rw fun _ => 0) ∧ Below w.heap.size w wr) (fun i _ => n - (intOf i).toNat)
  case atStart => exact ⟨0, Nat.zero_le _, rfl, Hold.new (by simp), (Hold.new rfl).alloc _, ((Below.refl _ _).alloc (Nat.le_refl _) _).alloc (by simp) _⟩
  case round =>
    obtain ⟨k, hk, rfl, h1, h0, hbl⟩ := hrel
    by_cases hlt : k < n
    · obtain ⟨c0', c1'⟩ := HC.out k hlt
      obtain ⟨ok0, ok1⟩ := HO.out k hlt
      have e0 : wr.cell? ⟨b, off + k * 2, none⟩ = some (.int .i64 (md (R k))) := by rw [md_ok ok0]; exact (hbl.cell (p := ⟨b, off + k * 2, none⟩) hb).trans c0'
      have e1 : wr.cell? ⟨b, off + k * 2 + 1, none⟩ = some (.int .i64 (md (C k))) := by rw [md_ok ok1]; exact (hbl.cell (p := ⟨b, off + k * 2 + 1, none⟩) hb).trans c1'
      clear c0' c1' ok0 ok1
      have hbS : b < wr.heap.size := Nat.lt_of_lt_of_le hb hbl.size
      have hb0 := hbl.size
      have hr := md_lt (R k)
      have hc := md_lt (C k)
      have hfw := foldB_wf R C k
      have HS : Hid (foldB R C (k + 1) = putB (foldB R C k) (md (R k)) (md (C k))) := Lib.hid rfl
      generalize md (R k) = r at *
      generalize md (C k) = c at *
      generalize foldB R C k = f at *
      have hst : bits .or .u64 (f r) (pw c) = ((f r ||| 2 ^ c : Nat) : Int) := bits_or64 _ _ (hfw r hr) (pw_lt hc)
      have hRw := Rw_set f r (f r ||| 2 ^ c)
      go_wp2_with fail
      refine (cell_yes r c _ hr hc).mono ?_
      rintro e w' ⟨rfl, rfl⟩
      go_wp2_with fail
      refine still_tail 9 (by kernel_rfl) (by kernel_rfl) fun wd hwd => ?_
      have d1 := (h1.alloc (.cells #[.int .i64 ↑r, .int .i64 ↑c] 31)).drew_eq hwd
      have d0 := (h0.alloc (.cells #[.int .i64 ↑r, .int .i64 ↑c] 31)).drew_eq hwd
      have db : Below w.heap.size w wd := Below.drew_eq (hbl.alloc hb0 _) hwd
      have x0 : wd.cell? ⟨wr.heap.size, 0, none⟩ = some (.int .i64 r) := by rw [hwd]; simp
      have x1 : wd.cell? ⟨wr.heap.size, 1, none⟩ = some (.int .i64 c) := by rw [hwd]; simp
      have hcell := d1.cell (Rw_get f r hr)
      have hfree : wd.frozen? ⟨w.heap.size + 1, r, none⟩ = false := d1.free
      have hri : (r : Int) < 64 := by omega
      clear hwd e0 e1 h1 h0 hbl
      simp only [List.take_succ_cons, List.take_zero, List.drop_succ_cons, List.drop_zero]
      repeat still_step
      refine wpStill_step (fun K hK => ?_)
      go_simp
      refine ⟨_, same_symm (bit_any c _ hc), hK _ ?_⟩
      clear hK K
      repeat still_step
      refine wpStill_nil ?_
      show wpList _ _ _ _ _ _
      have d1' : Hold (wd.setCell ⟨w.heap.size + 1, r, none⟩ (.int .u64 ↑(f r ||| 2 ^ c))) (w.heap.size + 1) (Rw (putB f r c)) := by
        have := d1.put (i := r) (.int .u64 ↑(f r ||| 2 ^ c)); rw [hRw] at this; exact this
      have d0' : Hold (wd.setCell ⟨w.heap.size + 1, r, none⟩ (.int .u64 ↑(f r ||| 2 ^ c))) w.heap.size (Rw fun _ => 0) := d0.far (by simp) _
      have db' := db.setCell (p := ⟨w.heap.size + 1, r, none⟩) (Nat.le_succ _) (.int .u64 ↑(f r ||| 2 ^ c))
      go_wp2_with fail
      go_roundw
      case rel => exact ⟨k + 1, by omega, by go_num, by rw [HS.out]; exact d1', d0', db'⟩
      case measure => simp [intOf]; omega
    · have e : k = n := by omega
      subst e
      go_wp2_with (first | (apply wpList_ld rfl _ rfl _ rfl; focus ((repeat' (first | (with_reducible assumption) | (refine Hold.new ?_; first | rfl | (simp; done)) | (refine Hold.alloc ?_ _))); done)) | (apply wpList_st rfl _ _ rfl _ rfl _ rfl; focus ((repeat' (first | (with_reducible assumption) | (refine Hold.new ?_; first | rfl | (simp; done)) | (refine Hold.alloc ?_ _))); done)) | (refine wpList_bd rfl rfl ?_))
      exact ret_blk2 rfl w.heap.size rfl (Hold.row h0 _) rfl ⟨rfl, Below.row hbl (Nat.le_refl _) _⟩

theorem of_bad (R C : Nat → Int) (b off n cap m : Nat) (w : World) (hn : n ≤ 9223372036854775807) (hb : b < w.heap.size)
    (hc : ∀ k, k < n → w.cell? ⟨b, off + k * 2, none⟩ = some (.int .i64 (R k)) ∧ w.cell? ⟨b, off + k * 2 + 1, none⟩ = some (.int .i64 (C k)))
    (hm : m < n) (hok : ∀ k, k < m → Ok (R k) ∧ Ok (C k)) (hbad : R m < 0 ∨ 64 ≤ R m ∨ C m < 0 ∨ 64 ≤ C m) :
    Calls Tryd.prog 8 #[.slice (some ⟨b, off, none⟩) n cap] w fun e w' => e = .returned (.tuple #[.agg (Rw fun _ => 0), .int .i64 2]) ∧ Below w.heap.size w w' := by
  have hz : ∀ w, (zeroValue 25).run Tryd.prog w = .ok (.agg (Rw fun _ => 0)) w := (zero_of_info blockZero).1
  have HC := Lib.hid hc
  have HO := Lib.hid hok
  clear hc hok
  go_enter Tryd.func8, Tryd.ntmps8
  go_wp2_with fail
  go_loopw [9] (fun i wr => ∃ k : Nat, k ≤ m ∧ i = .int .i64 k ∧ Hold wr (w.heap.size + 1) (Rw (foldB R C k)) ∧ Hold wr w.heap.size (Rw fun _ => 0) ∧ Below w.heap.size w wr) (fun i _ => n - (intOf i).toNat)
  case atStart => exact ⟨0, Nat.zero_le _, rfl, Hold.new (by simp), (Hold.new rfl).alloc _, ((Below.refl _ _).alloc (Nat.le_refl _) _).alloc (by simp) _⟩
  case round =>
    obtain ⟨k, hk, rfl, h1, h0, hbl⟩ := hrel
    by_cases hlt : k < m
    · obtain ⟨c0', c1'⟩ := HC.out k (by omega)
      obtain ⟨ok0, ok1⟩ := HO.out k hlt
      have e0 : wr.cell? ⟨b, off + k * 2, none⟩ = some (.int .i64 (md (R k))) := by rw [md_ok ok0]; exact (hbl.cell (p := ⟨b, off + k * 2, none⟩) hb).trans c0'
      have e1 : wr.cell? ⟨b, off + k * 2 + 1, none⟩ = some (.int .i64 (md (C k))) := by rw [md_ok ok1]; exact (hbl.cell (p := ⟨b, off + k * 2 + 1, none⟩) hb).trans c1'
      clear c0' c1' ok0 ok1
      have hbS : b < wr.heap.size := Nat.lt_of_lt_of_le hb hbl.size
      have hb0 := hbl.size
      have hr := md_lt (R k)
      have hc := md_lt (C k)
      have hfw := foldB_wf R C k
      have HS : Hid (foldB R C (k + 1) = putB (foldB R C k) (md (R k)) (md (C k))) := Lib.hid rfl
      generalize md (R k) = r at *
      generalize md (C k) = c at *
      generalize foldB R C k = f at *
      have hst : bits .or .u64 (f r) (pw c) = ((f r ||| 2 ^ c : Nat) : Int) := bits_or64 _ _ (hfw r hr) (pw_lt hc)
      have hRw := Rw_set f r (f r ||| 2 ^ c)
      go_wp2_with fail
      refine (cell_yes r c _ hr hc).mono ?_
      rintro e w' ⟨rfl, rfl⟩
      go_wp2_with fail
      refine still_tail 9 (by kernel_rfl) (by kernel_rfl) fun wd hwd => ?_
      have d1 := (h1.alloc (.cells #[.int .i64 ↑r, .int .i64 ↑c] 31)).drew_eq hwd
      have d0 := (h0.alloc (.cells #[.int .i64 ↑r, .int .i64 ↑c] 31)).drew_eq hwd
      have db : Below w.heap.size w wd := Below.drew_eq (hbl.alloc hb0 _) hwd
      have x0 : wd.cell? ⟨wr.heap.size, 0, none⟩ = some (.int .i64 r) := by rw [hwd]; simp
      have x1 : wd.cell? ⟨wr.heap.size, 1, none⟩ = some (.int .i64 c) := by rw [hwd]; simp
      have hcell := d1.cell (Rw_get f r hr)
      have hfree : wd.frozen? ⟨w.heap.size + 1, r, none⟩ = false := d1.free
      have hri : (r : Int) < 64 := by omega
      clear hwd e0 e1 h1 h0 hbl
      simp only [List.take_succ_cons, List.take_zero, List.drop_succ_cons, List.drop_zero]
      repeat still_step
      refine wpStill_step (fun K hK => ?_)
      go_simp
      refine ⟨_, same_symm (bit_any c _ hc), hK _ ?_⟩
      clear hK K
      repeat still_step
      refine wpStill_nil ?_
      show wpList _ _ _ _ _ _
      have d1' : Hold (wd.setCell ⟨w.heap.size + 1, r, none⟩ (.int .u64 ↑(f r ||| 2 ^ c))) (w.heap.size + 1) (Rw (putB f r c)) := by
        have := d1.put (i := r) (.int .u64 ↑(f r ||| 2 ^ c)); rw [hRw] at this; exact this
      have d0' : Hold (wd.setCell ⟨w.heap.size + 1, r, none⟩ (.int .u64 ↑(f r ||| 2 ^ c))) w.heap.size (Rw fun _ => 0) := d0.far (by simp) _
      have db' := db.setCell (p := ⟨w.heap.size + 1, r, none⟩) (Nat.le_succ _) (.int .u64 ↑(f r ||| 2 ^ c))
      go_wp2_with fail
      go_roundw
      case rel => exact ⟨k + 1, by omega, by go_num, by rw [HS.out]; exact d1', d0', db'⟩
      case measure => simp [intOf]; omega
    · have e : k = m := by omega
      subst e
      obtain ⟨c0', c1'⟩ := HC.out k hm
      have e0 : wr.cell? ⟨b, off + k * 2, none⟩ = some (.int .i64 (R k)) := (hbl.cell (p := ⟨b, off + k * 2, none⟩) hb).trans c0'
      have e1 : wr.cell? ⟨b, off + k * 2 + 1, none⟩ = some (.int .i64 (C k)) := (hbl.cell (p := ⟨b, off + k * 2 + 1, none⟩) hb).trans c1'
      clear c0' c1'
      have hbS : b < wr.heap.size := Nat.lt_of_lt_of_le hb hbl.size
      have hb0 := hbl.size
      go_wp2_with fail
      refine (cell_no (R k) (C k) _ hbad).mono ?_
      rintro e w' ⟨rfl, rfl⟩
      go_wp2_with (first | (apply wpList_ld rfl _ rfl _ rfl; focus ((repeat' (first | (with_reducible assumption) | (refine Hold.new ?_; first | rfl | (simp; done)) | (refine Hold.alloc ?_ _))); done)) | (apply wpList_st rfl _ _ rfl _ rfl _ rfl; focus ((repeat' (first | (with_reducible assumption) | (refine Hold.new ?_; first | rfl | (simp; done)) | (refine Hold.alloc ?_ _))); done)) | (refine wpList_bd rfl rfl ?_))
      exact ret_blk2 rfl w.heap.size rfl (Hold.row (h0.alloc _) _) rfl ⟨rfl, Below.row (hbl.alloc hb0 _) (Nat.le_refl _) _⟩
end
end Go.Proofs.YtbcklcikmhpclaaDoor
