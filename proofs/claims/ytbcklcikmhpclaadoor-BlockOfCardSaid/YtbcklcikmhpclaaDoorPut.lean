/-
  put.
-/
import Derived.Test.YtbcklcikmhpclaaDoorHas
namespace Go.Proofs.YtbcklcikmhpclaaDoor
open Go.RowKit
set_option maxHeartbeats 400000 in
set_option maxRecDepth 100000 in
/-- put: a cell more. -/
theorem put_any (f : Nat → Nat) (r c : Nat) (w : World) (hr : r < 64) (hc : c < 64) (hf : f r < 18446744073709551616) :
    Calls Tryd.prog 32 #[.agg (Rw f), .int .i64 r, .int .i64 c] w fun e w' => e = .returned (.agg (Rw (putB f r c))) ∧ Below w.heap.size w w' := by
  have g := Rw_get f r hr
  have hz : ∀ w, (zeroValue 25).run Tryd.prog w = .ok (.agg (Rw fun _ => 0)) w := (zero_of_info blockZero).1
  by_cases hb : (f r).testBit c = true
  · have same : putB f r c = f := by
      funext i
      unfold putB upd
      split
      · rename_i h; subst h; exact bit_or _ _ hb
      · rfl
    rw [same]
    clear same
    go_enter Tryd.func32, Tryd.ntmps32
    go_wp2_with (first | (apply wpList_ld rfl _ rfl _ rfl; focus ((repeat' (first | (refine Hold.new ?_; first | rfl | (simp; done)) | (refine Hold.alloc ?_ _))); done)) | (apply wpList_st rfl _ _ rfl _ rfl _ rfl; focus ((repeat' (first | (refine Hold.new ?_; first | rfl | (simp; done)) | (refine Hold.alloc ?_ _))); done)) | (go_at_call 26; refine (has_any f r c _ hr hc).mono ?_; rintro e w' ⟨rfl, rfl⟩))
    exact ret_blk rfl (w.heap.size + 1) rfl (Hold.row (((Hold.new (by simp)).alloc _)) _) rfl ⟨rfl, Below.row (((((Below.refl _ _).alloc (Nat.le_refl _) _).alloc (by simp) _)).alloc (by simp; omega) _) (by omega) _⟩
  · have hb' : (f r).testBit c = false := by simpa using hb
    clear hb
    have hst : (Rw f).setIfInBounds r (.int .u64 (IntKind.u64.wrap (↑(f r) + IntKind.u64.wrap (2 ^ c)))) = Rw (putB f r c) := by
      rw [add_word _ _ hf hc hb', Rw_set]; rfl
    go_enter Tryd.func32, Tryd.ntmps32
    go_wp2_with (first | (apply wpList_ld rfl _ rfl _ rfl; focus ((repeat' (first | (refine Hold.new ?_; first | rfl | (simp; done)) | (refine Hold.alloc ?_ _))); done)) | (apply wpList_st rfl _ _ rfl _ rfl _ rfl; focus ((repeat' (first | (refine Hold.new ?_; first | rfl | (simp; done)) | (refine Hold.alloc ?_ _))); done)) | (go_at_call 26; refine (has_any f r c _ hr hc).mono ?_; rintro e w' ⟨rfl, rfl⟩))
    exact ret_blk rfl (w.heap.size + 1) rfl (Hold.row (((Hold.new (by simp)).alloc _)) _) rfl ⟨rfl, Below.row (((((Below.refl _ _).alloc (Nat.le_refl _) _).alloc (by simp) _)).alloc (by simp; omega) _) (by omega) _⟩
end Go.Proofs.YtbcklcikmhpclaaDoor
