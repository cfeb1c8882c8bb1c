/-
  awake: some answers that the document fixes.
-/
import Derived.Test.YtbcklcikmhpclaaDoorLen
import Derived.Test.YtbcklcikmhpclaaDoorGets
namespace Go.Proofs.YtbcklcikmhpclaaDoor
open Go.RowKit
set_option linter.unusedVariables false
set_option linter.unusedSimpArgs false
def aR : Nat → Int := fun k => if k = 0 then 0 else 1
def aC : Nat → Int := fun k => if k = 0 then 1 else 63
def aF : Nat → Nat := foldB aR aC 2
theorem aF_wf : Wf aF := foldB_wf aR aC 2
theorem aF_1 : aF 1 = 9223372036854775808 := by decide +kernel
theorem aF_bit : (aF 1).testBit 63 = true := by decide +kernel
theorem aF_len : lenB aF 64 = 2 := by decide +kernel
section
set_option maxHeartbeats 1000000
set_option maxRecDepth 100000
theorem awake_of (w : World) (f : Nat → Nat) (hf : f = aF) :
    Calls Tryd.prog 8 #[.slice (some ⟨w.heap.size, 0, none⟩) 2 2] (w.alloc (.cells #[.int .i64 0, .int .i64 1, .int .i64 1, .int .i64 63] 31))
      fun e w' => e = .returned (.tuple #[.agg (Rw f), .int .i64 0]) ∧ Below w.heap.size w w' := by
  subst hf
  have two : ∀ k, k < 2 → k = 0 ∨ k = 1 := fun k hk => by omega
  refine (of_ok aR aC w.heap.size 0 2 2 _ (by omega) (by simp) (fun k hk => ?_) (fun k hk => ?_)).mono fun e w' ⟨he, hb⟩ => ⟨he, ((Below.refl _ _).alloc (Nat.le_refl _) _).trans (hb.mono (by simp))⟩
  · rcases two k hk with rfl | rfl <;> simp [aR, aC]
  · rcases two k hk with rfl | rfl <;> (unfold aR aC Ok; simp)
theorem awake_any (w : World) :
    Calls Tryd.prog 13 #[] w fun e w' => e = .returned (.bool true) ∧ Below w.heap.size w w' := by
  have hz : ∀ w, (zeroValue 25).run Tryd.prog w = .ok (.agg (Rw fun _ => 0)) w := (zero_of_info blockZero).1
  obtain ⟨f, hf⟩ : ∃ f, f = aF := ⟨_, rfl⟩
  have hw : Wf f := hf ▸ aF_wf
  have f1 : f 1 = 9223372036854775808 := hf ▸ aF_1
  have fb : (f 1).testBit 63 = true := hf ▸ aF_bit
  have fl : lenB f 64 = 2 := hf ▸ aF_len
  have f1' := Lib.hid f1
  have fb' := Lib.hid fb
  have fl' := Lib.hid fl
  have hf' := Lib.hid hf
  clear f1 fb fl hf
  go_enter Tryd.func13, Tryd.ntmps13
  go_wp2_with fail
  refine (awake_of w f hf'.out).mono ?_
  rintro e w1 ⟨rfl, hb1⟩
  go_wp2_with (first | (apply wpList_ld rfl _ rfl _ rfl; focus ((repeat' (first | (with_reducible assumption) | (refine Hold.new ?_; first | rfl | (simp; done)) | (refine Hold.alloc ?_ _) | (apply Hold.row) | (refine Hold.other ?_ ?_ _; rotate_left; focus (first | omega | (simp; omega))))); done)) | (apply wpList_st rfl _ _ rfl _ rfl _ rfl; focus ((repeat' (first | (with_reducible assumption) | (refine Hold.new ?_; first | rfl | (simp; done)) | (refine Hold.alloc ?_ _) | (apply Hold.row) | (refine Hold.other ?_ ?_ _; rotate_left; focus (first | omega | (simp; omega))))); done)) | (refine wpList_bd rfl rfl ?_))
  refine (get_yes f 1 63 _ (by omega) (by omega) hw).mono ?_
  rintro e w2 ⟨rfl, hb2⟩
  rw [fb'.out]
  have d2 : Hold w2 w1.heap.size (Rw f) := Hold.below (Hold.row (Hold.new rfl) _) hb2 (by simp)
  have db2 : Below w.heap.size w w2 := (Below.row (hb1.alloc hb1.size _) hb1.size _).trans (hb2.mono (by simp; have := hb1.size; omega))
  clear hb1 hb2
  go_wp2_with (first | (apply wpList_ld rfl _ rfl _ rfl; focus ((repeat' (first | (with_reducible assumption) | (refine Hold.new ?_; first | rfl | (simp; done)) | (refine Hold.alloc ?_ _) | (apply Hold.row) | (refine Hold.other ?_ ?_ _; rotate_left; focus (first | omega | (simp; omega))))); done)) | (apply wpList_st rfl _ _ rfl _ rfl _ rfl; focus ((repeat' (first | (with_reducible assumption) | (refine Hold.new ?_; first | rfl | (simp; done)) | (refine Hold.alloc ?_ _) | (apply Hold.row) | (refine Hold.other ?_ ?_ _; rotate_left; focus (first | omega | (simp; omega))))); done)) | (refine wpList_bd rfl rfl ?_))
  refine (row_yes f 1 _ (by omega)).mono ?_
  rintro e w3 ⟨rfl, hb3⟩
  rw [f1'.out]
  have d3 := d2.below hb3 d2.lt
  have db3 := db2.trans (hb3.mono db2.size)
  clear d2 db2 hb3
  go_wp2_with (first | (apply wpList_ld rfl _ rfl _ rfl; focus ((repeat' (first | (with_reducible assumption) | (refine Hold.new ?_; first | rfl | (simp; done)) | (refine Hold.alloc ?_ _) | (apply Hold.row) | (refine Hold.other ?_ ?_ _; rotate_left; focus (first | omega | (simp; omega))))); done)) | (apply wpList_st rfl _ _ rfl _ rfl _ rfl; focus ((repeat' (first | (with_reducible assumption) | (refine Hold.new ?_; first | rfl | (simp; done)) | (refine Hold.alloc ?_ _) | (apply Hold.row) | (refine Hold.other ?_ ?_ _; rotate_left; focus (first | omega | (simp; omega))))); done)) | (refine wpList_bd rfl rfl ?_))
  refine (get_no f 64 0 _ (by omega)).mono ?_
  rintro e w4 ⟨rfl, hb4⟩
  have d4 := d3.below hb4 d3.lt
  have db4 := db3.trans (hb4.mono db3.size)
  clear d3 db3 hb4
  go_wp2_with (first | (apply wpList_ld rfl _ rfl _ rfl; focus ((repeat' (first | (with_reducible assumption) | (refine Hold.new ?_; first | rfl | (simp; done)) | (refine Hold.alloc ?_ _) | (apply Hold.row) | (refine Hold.other ?_ ?_ _; rotate_left; focus (first | omega | (simp; omega))))); done)) | (apply wpList_st rfl _ _ rfl _ rfl _ rfl; focus ((repeat' (first | (with_reducible assumption) | (refine Hold.new ?_; first | rfl | (simp; done)) | (refine Hold.alloc ?_ _) | (apply Hold.row) | (refine Hold.other ?_ ?_ _; rotate_left; focus (first | omega | (simp; omega))))); done)) | (refine wpList_bd rfl rfl ?_))
  refine (len_any f _ hw).mono ?_
  rintro e w5 ⟨rfl, hb5⟩
  rw [fl'.out]
  have db5 := db4.trans (hb5.mono db4.size)
  clear d4 db4 hb5
  go_wp2_with fail
  go_ret
  exact ⟨rfl, db5⟩
end
end Go.Proofs.YtbcklcikmhpclaaDoor
