/-
  Fold.
-/
import Derived.Test.YtbcklcikmhpclaaDoorPut
import Derived.StillTailTactics
import Derived.Lib.Hide
namespace Go.Proofs.YtbcklcikmhpclaaDoor
open Go.RowKit
set_option linter.unusedVariables false
set_option linter.unusedSimpArgs false
theorem foldCell : Tryd.prog.cellsOf 31 = 2 := by kernel_rfl
set_option maxHeartbeats 400000 in
set_option maxRecDepth 100000 in
/-- Fold over a slice that is not nil. -/
theorem fold_some (R C : Nat → Int) (b off n cap : Nat) (w : World) (hn : n ≤ 9223372036854775807) (hb : b < w.heap.size)
    (hc : ∀ k, k < n → w.cell? ⟨b, off + k * 2, none⟩ = some (.int .i64 (R k)) ∧ w.cell? ⟨b, off + k * 2 + 1, none⟩ = some (.int .i64 (C k))) :
    Calls Tryd.prog 14 #[.slice (some ⟨b, off, none⟩) n cap] w fun e w' => e = .returned (.agg (Rw (foldB R C n))) ∧ Below w.heap.size w w' := by
  have hz : ∀ w, (zeroValue 25).run Tryd.prog w = .ok (.agg (Rw fun _ => 0)) w := (zero_of_info blockZero).1
  have HC := Lib.hid hc
  clear hc
  go_enter Tryd.func14, Tryd.ntmps14
  go_wp2_with fail
  go_loopw [4] (fun i wr => ∃ k : Nat, k ≤ n ∧ i = .int .i64 k ∧ Hold wr (w.heap.size + 1) (Rw (foldB R C k)) ∧ Hold wr w.heap.size (Rw fun _ => 0) ∧ Below w.heap.size w wr) (fun i _ => n - (intOf i).toNat)
  case atStart => exact ⟨0, Nat.zero_le _, rfl, Hold.new (by simp), (Hold.new rfl).alloc _, ((Below.refl _ _).alloc (Nat.le_refl _) _).alloc (by simp) _⟩
  case round =>
    obtain ⟨k, hk, rfl, h1, h0, hbl⟩ := hrel
    by_cases hlt : k < n
    · have hbl0 := hbl
      obtain ⟨c0, c1⟩ := HC.out k hlt
      have hbS := hbl.size
      go_wp2_with fail
      refine still_tail 13 (by kernel_rfl) (by kernel_rfl) fun wd hwd => ?_
      have d1 := h1.drew_eq hwd
      have d0 := h0.drew_eq hwd
      have db := Below.drew_eq hbl hwd
      have e0 : wd.cell? ⟨b, off + k * 2, none⟩ = some (.int .i64 (R k)) := (db.cell (p := ⟨b, off + k * 2, none⟩) hb).trans c0
      have e1 : wd.cell? ⟨b, off + k * 2 + 1, none⟩ = some (.int .i64 (C k)) := (db.cell (p := ⟨b, off + k * 2 + 1, none⟩) hb).trans c1
      clear c0 c1 hwd h1 h0 hbl
      simp only [List.take_succ_cons, List.take_zero, List.drop_succ_cons, List.drop_zero]
      refine wpStill_ld rfl _ rfl _ rfl d1 ?_
      repeat still_step
      refine wpStill_nil ?_
      show wpList _ _ _ _ _ _
      rw [and63, and63]
      clear e0 e1
      go_wp2_with fail
      refine (put_any (foldB R C k) (md (R k)) (md (C k)) _ (md_lt _) (md_lt _) (foldB_wf R C k _ (md_lt _))).mono ?_
      rintro e w1 ⟨rfl, hb1⟩
      have h1 := d1.below hb1 d1.lt
      have h0 := d0.below hb1 d0.lt
      have hbw := db.trans (hb1.mono db.size)
      clear d1 d0 db hb1
      go_wp2_with (first | (apply wpList_st rfl _ _ rfl _ rfl _ rfl; focus (assumption)))
      go_roundw
      case rel => exact ⟨k + 1, by omega, by go_num, h1.row _, h0.other (by omega) _, Below.row hbw (by omega) _⟩
      case measure => simp [intOf]; omega
    · have e : k = n := by omega
      subst e
      go_wp2_with (first | (apply wpList_ld rfl _ rfl _ rfl; focus (assumption)) | (apply wpList_st rfl _ _ rfl _ rfl _ rfl; focus assumption))
      exact ret_blk rfl w.heap.size rfl (Hold.row h0 _) rfl ⟨rfl, Below.row hbl (Nat.le_refl _) _⟩
end Go.Proofs.YtbcklcikmhpclaaDoor
