/-
  The program's Or, And, Less, One; the reference's One.
-/
import Derived.Test.YtoaeeojnelmlnaaDoorQSmall
import Derived.Test.YtoaeeojnelmlnaaDoorMath
namespace Go.Proofs.YtoaeeojnelmlnaaDoor
open Go.RowKit
set_option linter.unusedVariables false
set_option linter.unusedSimpArgs false
/-- The first k rows are h's, the others f's. -/
def rowsTo (h f : Nat → Nat) (k : Nat) : Nat → Nat := fun i => if i < k then h i else f i
theorem rowsTo_zero (h f : Nat → Nat) : rowsTo h f 0 = f := by funext i; simp [rowsTo]
theorem rowsTo_at (h f : Nat → Nat) (k : Nat) : rowsTo h f k k = f k := by simp [rowsTo]
theorem rowsTo_step (h f : Nat → Nat) (k : Nat) : Rw (upd (rowsTo h f k) k (h k)) = Rw (rowsTo h f (k + 1)) :=
  Rw_congr fun i _ => by
    unfold upd rowsTo
    by_cases e : i = k
    · subst e; simp
    · rw [if_neg e]
      by_cases l : i < k
      · rw [if_pos l, if_pos (by omega)]
      · rw [if_neg l, if_neg (by omega)]
theorem rowsTo_end (h f : Nat → Nat) : Rw (rowsTo h f 64) = Rw h := Rw_congr fun i hi => by simp [rowsTo, hi]
section
set_option maxHeartbeats 400000
set_option maxRecDepth 100000

theorem or_any (f g : Nat → Nat) (w : World) (hf : Wf f) (hg : Wf g) :
    Calls Tryd.prog 114 #[.agg (Rw f), .agg (Rw g)] w fun e w' => e = .returned (.agg (Rw (fun i => f i ||| g i))) ∧ Below w.heap.size w w' := by
  have hz : ∀ w, (zeroValue 97).run Tryd.prog w = .ok (.agg (Rw fun _ => 0)) w := (zero_of_info blockZero).1
  obtain ⟨h, hh⟩ : ∃ h : Nat → Nat, h = fun i => f i ||| g i := ⟨_, rfl⟩
  rw [← hh]
  have HH := Lib.hid hh
  clear hh
  go_enter Tryd.func114, Tryd.ntmps114
  go_wp2_with (first | (apply wpList_ld rfl _ rfl _ rfl; focus ((repeat' (first | (with_reducible assumption) | (refine Hold.new ?_; first | rfl | (simp; done)) | (refine Hold.alloc ?_ _) | (apply Hold.row) | (refine Hold.other ?_ ?_ _; rotate_left; focus (first | omega | (simp; omega))))); done)) | (apply wpList_st rfl _ _ rfl _ rfl _ rfl; focus ((repeat' (first | (with_reducible assumption) | (refine Hold.new ?_; first | rfl | (simp; done)) | (refine Hold.alloc ?_ _) | (apply Hold.row) | (refine Hold.other ?_ ?_ _; rotate_left; focus (first | omega | (simp; omega))))); done)) | (refine wpList_bd rfl rfl ?_))
  go_loopw [8] (fun i wr => ∃ k : Nat, k ≤ 64 ∧ i = .int .i64 k ∧ Hold wr w.heap.size (Rw (rowsTo h f k)) ∧ Hold wr (w.heap.size + 2) (Rw fun _ => 0) ∧ Below w.heap.size w wr) (fun i _ => 64 - (intOf i).toNat)
  case atStart => exact ⟨0, Nat.zero_le _, rfl, by rw [rowsTo_zero]; exact ((Hold.new rfl).alloc _).alloc _, Hold.new (by simp), (((Below.refl _ _).alloc (Nat.le_refl _) _).alloc (by simp) _).alloc (by simp; omega) _⟩
  case round =>
    obtain ⟨k, hk, rfl, d, d2, db⟩ := hrel
    by_cases hlt : k < 64
    · have hix := fun w => run_ix g k hlt w
      have hcell := d.cell (Rw_get _ k hlt)
      rw [rowsTo_at] at hcell
      have hfree : wr.frozen? ⟨w.heap.size, k, none⟩ = false := d.free
      have hst : bits .or .u64 (f k) (g k) = ((h k : Nat) : Int) := by rw [HH.out]; exact bits_or64 _ _ (hf k hlt) (hg k hlt)
      have d' : Hold (wr.setCell ⟨w.heap.size, k, none⟩ (.int .u64 ↑(h k))) w.heap.size (Rw (rowsTo h f (k + 1))) := by
        have := d.put (i := k) (.int .u64 ↑(h k)); rw [Rw_set, rowsTo_step] at this; exact this
      have d2' : Hold (wr.setCell ⟨w.heap.size, k, none⟩ (.int .u64 ↑(h k))) (w.heap.size + 2) (Rw fun _ => 0) := d2.far (by simp) _
      have db' := db.setCell (p := ⟨w.heap.size, k, none⟩) (Nat.le_refl _) (.int .u64 ↑(h k))
      clear d d2 db
      go_wp2_with fail
      go_roundw
      case rel => exact ⟨k + 1, by omega, by go_num, d', d2', db'⟩
      case measure => simp [intOf]; omega
    · have e : k = 64 := by omega
      subst e
      rw [rowsTo_end] at d
      go_wp2_with (first | (apply wpList_ld rfl _ rfl _ rfl; focus ((repeat' (first | (with_reducible assumption) | (refine Hold.new ?_; first | rfl | (simp; done)) | (refine Hold.alloc ?_ _) | (apply Hold.row) | (refine Hold.other ?_ ?_ _; rotate_left; focus (first | omega | (simp; omega))))); done)) | (apply wpList_st rfl _ _ rfl _ rfl _ rfl; focus ((repeat' (first | (with_reducible assumption) | (refine Hold.new ?_; first | rfl | (simp; done)) | (refine Hold.alloc ?_ _) | (apply Hold.row) | (refine Hold.other ?_ ?_ _; rotate_left; focus (first | omega | (simp; omega))))); done)) | (refine wpList_bd rfl rfl ?_))
      exact ret_blk rfl (w.heap.size + 2) rfl (Hold.row d2 _) rfl ⟨rfl, Below.row db (by omega) _⟩



theorem less_any (f g : Nat → Nat) (w : World) (hf : Wf f) (hg : Wf g) :
    Calls Tryd.prog 66 #[.agg (Rw f), .agg (Rw g)] w fun e w' => e = .returned (.agg (Rw (fun i => less (f i) (g i)))) ∧ Below w.heap.size w w' := by
  have hz : ∀ w, (zeroValue 97).run Tryd.prog w = .ok (.agg (Rw fun _ => 0)) w := (zero_of_info blockZero).1
  obtain ⟨h, hh⟩ : ∃ h : Nat → Nat, h = fun i => less (f i) (g i) := ⟨_, rfl⟩
  rw [← hh]
  have HH := Lib.hid hh
  clear hh
  go_enter Tryd.func66, Tryd.ntmps66
  go_wp2_with (first | (apply wpList_ld rfl _ rfl _ rfl; focus ((repeat' (first | (with_reducible assumption) | (refine Hold.new ?_; first | rfl | (simp; done)) | (refine Hold.alloc ?_ _) | (apply Hold.row) | (refine Hold.other ?_ ?_ _; rotate_left; focus (first | omega | (simp; omega))))); done)) | (apply wpList_st rfl _ _ rfl _ rfl _ rfl; focus ((repeat' (first | (with_reducible assumption) | (refine Hold.new ?_; first | rfl | (simp; done)) | (refine Hold.alloc ?_ _) | (apply Hold.row) | (refine Hold.other ?_ ?_ _; rotate_left; focus (first | omega | (simp; omega))))); done)) | (refine wpList_bd rfl rfl ?_))
  go_loopw [8] (fun i wr => ∃ k : Nat, k ≤ 64 ∧ i = .int .i64 k ∧ Hold wr w.heap.size (Rw (rowsTo h f k)) ∧ Hold wr (w.heap.size + 2) (Rw fun _ => 0) ∧ Below w.heap.size w wr) (fun i _ => 64 - (intOf i).toNat)
  case atStart => exact ⟨0, Nat.zero_le _, rfl, by rw [rowsTo_zero]; exact ((Hold.new rfl).alloc _).alloc _, Hold.new (by simp), (((Below.refl _ _).alloc (Nat.le_refl _) _).alloc (by simp) _).alloc (by simp; omega) _⟩
  case round =>
    obtain ⟨k, hk, rfl, d, d2, db⟩ := hrel
    by_cases hlt : k < 64
    · have hix := fun w => run_ix g k hlt w
      have hcell := d.cell (Rw_get _ k hlt)
      rw [rowsTo_at] at hcell
      have hfree : wr.frozen? ⟨w.heap.size, k, none⟩ = false := d.free
      have hst : bits .andNot .u64 (f k) (g k) = ((h k : Nat) : Int) := by rw [HH.out]; exact bits_less64 _ _ (hf k hlt) (hg k hlt)
      have d' : Hold (wr.setCell ⟨w.heap.size, k, none⟩ (.int .u64 ↑(h k))) w.heap.size (Rw (rowsTo h f (k + 1))) := by
        have := d.put (i := k) (.int .u64 ↑(h k)); rw [Rw_set, rowsTo_step] at this; exact this
      have d2' : Hold (wr.setCell ⟨w.heap.size, k, none⟩ (.int .u64 ↑(h k))) (w.heap.size + 2) (Rw fun _ => 0) := d2.far (by simp) _
      have db' := db.setCell (p := ⟨w.heap.size, k, none⟩) (Nat.le_refl _) (.int .u64 ↑(h k))
      clear d d2 db
      go_wp2_with fail
      go_roundw
      case rel => exact ⟨k + 1, by omega, by go_num, d', d2', db'⟩
      case measure => simp [intOf]; omega
    · have e : k = 64 := by omega
      subst e
      rw [rowsTo_end] at d
      go_wp2_with (first | (apply wpList_ld rfl _ rfl _ rfl; focus ((repeat' (first | (with_reducible assumption) | (refine Hold.new ?_; first | rfl | (simp; done)) | (refine Hold.alloc ?_ _) | (apply Hold.row) | (refine Hold.other ?_ ?_ _; rotate_left; focus (first | omega | (simp; omega))))); done)) | (apply wpList_st rfl _ _ rfl _ rfl _ rfl; focus ((repeat' (first | (with_reducible assumption) | (refine Hold.new ?_; first | rfl | (simp; done)) | (refine Hold.alloc ?_ _) | (apply Hold.row) | (refine Hold.other ?_ ?_ _; rotate_left; focus (first | omega | (simp; omega))))); done)) | (refine wpList_bd rfl rfl ?_))
      exact ret_blk rfl (w.heap.size + 2) rfl (Hold.row d2 _) rfl ⟨rfl, Below.row db (by omega) _⟩


end
end Go.Proofs.YtoaeeojnelmlnaaDoor
