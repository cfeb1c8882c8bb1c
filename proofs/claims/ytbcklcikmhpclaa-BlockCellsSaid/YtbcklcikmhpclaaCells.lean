/-
  The law BlockCells, walked: what the program answers and what the reference answers are the same.
-/
import Derived.Test.YtbcklcikmhpclaaCols
import Derived.Test.YtbcklcikmhpclaaAwake
import Derived.Test.YtbcklcikmhpclaaEq
namespace Go.Proofs.Ytbcklcikmhpclaa
open Go.RowKit
set_option linter.unusedVariables false
set_option linter.unusedSimpArgs false
/-- Both calls answer v, and leave memory as it was but for new blocks. -/
def Both (F G : Nat) (args : Array Value) (v : Value) : Prop :=
  (∀ w : World, Calls Try.prog F args w fun e w' => e = .returned v ∧ Below w.heap.size w w') ∧ (∀ w : World, Calls Try.prog G args w fun e w' => e = .returned v ∧ Below w.heap.size w w')
theorem inside {r : Int} (h : ¬ (r < 0 ∨ 64 ≤ r)) : ∃ n : Nat, r = n ∧ n < 64 := ⟨r.toNat, by omega, by omega⟩
theorem get_both (f : Nat → Nat) (hf : Wf f) (r c : Int) : ∃ (v : Bool) (k : Int), Both 6 10 #[.agg (Rw f), .int .i64 r, .int .i64 c] (.tuple #[.bool v, .int .i64 k]) := by
  by_cases h : r < 0 ∨ 64 ≤ r ∨ c < 0 ∨ 64 ≤ c
  · exact ⟨_, _, fun w => get_no f r c w h, fun w => rget_no f r c w h⟩
  · obtain ⟨r, rfl, hr⟩ := inside (r := r) (by omega)
    obtain ⟨c, rfl, hc⟩ := inside (r := c) (by omega)
    exact ⟨_, _, fun w => get_yes f r c w hr hc hf, fun w => rget_yes f r c w hr hc⟩
theorem set_both (f : Nat → Nat) (hf : Wf f) (r c : Int) (on : Bool) : ∃ (g : Nat → Nat) (k : Int), Both 7 11 #[.agg (Rw f), .int .i64 r, .int .i64 c, .bool on] (.tuple #[.agg (Rw g), .int .i64 k]) := by
  by_cases h : r < 0 ∨ 64 ≤ r ∨ c < 0 ∨ 64 ≤ c
  · exact ⟨_, _, fun w => set_no f r c on w h, fun w => rset_no f r c on w h⟩
  · obtain ⟨r, rfl, hr⟩ := inside (r := r) (by omega)
    obtain ⟨c, rfl, hc⟩ := inside (r := c) (by omega)
    cases on
    · exact ⟨_, _, fun w => set_off f r c w hr hc hf, fun w => rset_off f r c w hr hc hf⟩
    · exact ⟨_, _, fun w => set_on f r c w hr hc hf, fun w => rset_on f r c w hr hc hf⟩
theorem row_both (f : Nat → Nat) (r : Int) : ∃ (v k : Int), Both 8 12 #[.agg (Rw f), .int .i64 r] (.tuple #[.int .u64 v, .int .i64 k]) := by
  by_cases h : r < 0 ∨ 64 ≤ r
  · exact ⟨_, _, fun w => row_no f r w h, fun w => rrow_no f r w h⟩
  · obtain ⟨r, rfl, hr⟩ := inside (r := r) (by omega)
    exact ⟨_, _, fun w => row_yes f r w hr, fun w => rrow_yes f r w hr⟩
theorem col_both (f : Nat → Nat) (hf : Wf f) (c : Int) : ∃ (v k : Int), Both 9 13 #[.agg (Rw f), .int .i64 c] (.tuple #[.int .u64 v, .int .i64 k]) := by
  by_cases h : c < 0 ∨ 64 ≤ c
  · exact ⟨_, _, fun w => col_no f c w h, fun w => rcol_no f c w h⟩
  · obtain ⟨c, rfl, hc⟩ := inside (r := c) (by omega)
    exact ⟨_, _, fun w => col_yes f c w hc hf, fun w => rcol_yes f c w hc hf⟩
section
set_option maxHeartbeats 2000000
set_option maxRecDepth 100000
theorem cells_law (l : Value) (f : Nat → Nat) (hf : Wf f) (r c : Int) (on : Bool) (w : World)
    (hfold : Calls Try.prog 5 #[l] w fun e w' => e = .returned (.agg (Rw f)) ∧ Below w.heap.size w w') :
    Calls Try.prog 3 #[l, .int .i64 r, .int .i64 c, .bool on] w fun e w' => e = .returned (.bool true) ∧ Below w.heap.size w w' := by
  have hz : ∀ w, (zeroValue 25).run Try.prog w = .ok (.agg (Rw fun _ => 0)) w := (zero_of_info blockZero).1
  obtain ⟨gv, gk, hg1, hg2⟩ := get_both f hf r c
  obtain ⟨sg, sk, hs1, hs2⟩ := set_both f hf r c on
  obtain ⟨rv, rk, hr1, hr2⟩ := row_both f r
  obtain ⟨cv, ck, hc1, hc2⟩ := col_both f hf c
  have Hf := Lib.hid hfold
  have G1 := Lib.hid hg1
  have G2 := Lib.hid hg2
  have S1 := Lib.hid hs1
  have S2 := Lib.hid hs2
  have R1 := Lib.hid hr1
  have R2 := Lib.hid hr2
  have C1 := Lib.hid hc1
  have C2 := Lib.hid hc2
  have E := fun w => eq_self sg w
  clear hfold hg1 hg2 hs1 hs2 hr1 hr2 hc1 hc2
  go_enter Try.func3, Try.ntmps3
  go_wp2_with fail
  refine Hf.out.mono ?_
  rintro e w1 ⟨rfl, hb1⟩
  go_wp2_with (first | (apply wpList_ld rfl _ rfl _ rfl; focus ((repeat' (first | (with_reducible assumption) | (refine Hold.new ?_; first | rfl | (simp; done)) | (refine Hold.alloc ?_ _) | (apply Hold.row) | (refine Hold.other ?_ ?_ _; rotate_left; focus (first | omega | (simp; omega))))); done)) | (apply wpList_st rfl _ _ rfl _ rfl _ rfl; focus ((repeat' (first | (with_reducible assumption) | (refine Hold.new ?_; first | rfl | (simp; done)) | (refine Hold.alloc ?_ _) | (apply Hold.row) | (refine Hold.other ?_ ?_ _; rotate_left; focus (first | omega | (simp; omega))))); done)) | (refine wpList_bd rfl rfl ?_))
  -- the block's variable; Get
  refine (G1.out _).mono ?_
  rintro e w2 ⟨rfl, hb2⟩
  have d2 : Hold w2 w1.heap.size (Rw f) := Hold.below (Hold.row (Hold.new rfl) _) hb2 (by simp)
  have db2 : Below w.heap.size w w2 := (Below.row (hb1.alloc hb1.size _) hb1.size _).trans (hb2.mono (by simp; have := hb1.size; omega))
  clear hb1 hb2
  go_wp2_with (first | (apply wpList_ld rfl _ rfl _ rfl; focus ((repeat' (first | (with_reducible assumption) | (refine Hold.new ?_; first | rfl | (simp; done)) | (refine Hold.alloc ?_ _) | (apply Hold.row) | (refine Hold.other ?_ ?_ _; rotate_left; focus (first | omega | (simp; omega))))); done)) | (apply wpList_st rfl _ _ rfl _ rfl _ rfl; focus ((repeat' (first | (with_reducible assumption) | (refine Hold.new ?_; first | rfl | (simp; done)) | (refine Hold.alloc ?_ _) | (apply Hold.row) | (refine Hold.other ?_ ?_ _; rotate_left; focus (first | omega | (simp; omega))))); done)) | (refine wpList_bd rfl rfl ?_))
  refine (S1.out _).mono ?_
  rintro e w3 ⟨rfl, hb3⟩
  have d3 := d2.below hb3 d2.lt
  have l3 := d3.lt
  have db3 := db2.trans (hb3.mono db2.size)
  clear d2 db2 hb3
  go_wp2_with (first | (apply wpList_ld rfl _ rfl _ rfl; focus ((repeat' (first | (with_reducible assumption) | (refine Hold.new ?_; first | rfl | (simp; done)) | (refine Hold.alloc ?_ _) | (apply Hold.row) | (refine Hold.other ?_ ?_ _; rotate_left; focus (first | omega | (simp; omega))))); done)) | (apply wpList_st rfl _ _ rfl _ rfl _ rfl; focus ((repeat' (first | (with_reducible assumption) | (refine Hold.new ?_; first | rfl | (simp; done)) | (refine Hold.alloc ?_ _) | (apply Hold.row) | (refine Hold.other ?_ ?_ _; rotate_left; focus (first | omega | (simp; omega))))); done)) | (refine wpList_bd rfl rfl ?_))
  refine (R1.out _).mono ?_
  rintro e w4 ⟨rfl, hb4⟩
  have d4 : Hold w4 w1.heap.size (Rw f) := Hold.below (Hold.other (d3.alloc _) (by omega) _) hb4 (by simp; omega)
  have s4 : Hold w4 w3.heap.size (Rw sg) := Hold.below (Hold.row (Hold.new rfl) _) hb4 (by simp)
  have db4 : Below w.heap.size w w4 := (Below.row (db3.alloc db3.size _) db3.size _).trans (hb4.mono (by simp; have := db3.size; omega))
  clear d3 db3 hb4
  go_wp2_with (first | (apply wpList_ld rfl _ rfl _ rfl; focus ((repeat' (first | (with_reducible assumption) | (refine Hold.new ?_; first | rfl | (simp; done)) | (refine Hold.alloc ?_ _) | (apply Hold.row) | (refine Hold.other ?_ ?_ _; rotate_left; focus (first | omega | (simp; omega))))); done)) | (apply wpList_st rfl _ _ rfl _ rfl _ rfl; focus ((repeat' (first | (with_reducible assumption) | (refine Hold.new ?_; first | rfl | (simp; done)) | (refine Hold.alloc ?_ _) | (apply Hold.row) | (refine Hold.other ?_ ?_ _; rotate_left; focus (first | omega | (simp; omega))))); done)) | (refine wpList_bd rfl rfl ?_))
  refine (C1.out _).mono ?_
  rintro e w5 ⟨rfl, hb5⟩
  have d5 := d4.below hb5 d4.lt
  have s5 := s4.below hb5 s4.lt
  have db5 := db4.trans (hb5.mono db4.size)
  clear d4 s4 db4 hb5
  go_wp2_with (first | (apply wpList_ld rfl _ rfl _ rfl; focus ((repeat' (first | (with_reducible assumption) | (refine Hold.new ?_; first | rfl | (simp; done)) | (refine Hold.alloc ?_ _) | (apply Hold.row) | (refine Hold.other ?_ ?_ _; rotate_left; focus (first | omega | (simp; omega))))); done)) | (apply wpList_st rfl _ _ rfl _ rfl _ rfl; focus ((repeat' (first | (with_reducible assumption) | (refine Hold.new ?_; first | rfl | (simp; done)) | (refine Hold.alloc ?_ _) | (apply Hold.row) | (refine Hold.other ?_ ?_ _; rotate_left; focus (first | omega | (simp; omega))))); done)) | (refine wpList_bd rfl rfl ?_))
  refine (G2.out _).mono ?_
  rintro e w6 ⟨rfl, hb6⟩
  have d6 := d5.below hb6 d5.lt
  have s6 := s5.below hb6 s5.lt
  have db6 := db5.trans (hb6.mono db5.size)
  clear d5 s5 db5 hb6
  go_wp2_with (first | (apply wpList_ld rfl _ rfl _ rfl; focus ((repeat' (first | (with_reducible assumption) | (refine Hold.new ?_; first | rfl | (simp; done)) | (refine Hold.alloc ?_ _) | (apply Hold.row) | (refine Hold.other ?_ ?_ _; rotate_left; focus (first | omega | (simp; omega))))); done)) | (apply wpList_st rfl _ _ rfl _ rfl _ rfl; focus ((repeat' (first | (with_reducible assumption) | (refine Hold.new ?_; first | rfl | (simp; done)) | (refine Hold.alloc ?_ _) | (apply Hold.row) | (refine Hold.other ?_ ?_ _; rotate_left; focus (first | omega | (simp; omega))))); done)) | (refine wpList_bd rfl rfl ?_))
  refine (S2.out _).mono ?_
  rintro e w7 ⟨rfl, hb7⟩
  have d7 := d6.below hb7 d6.lt
  have s7 := s6.below hb7 s6.lt
  have l7 := s7.lt
  have k7 := d7.lt
  have db7 := db6.trans (hb7.mono db6.size)
  clear d6 s6 db6 hb7
  go_wp2_with (first | (apply wpList_ld rfl _ rfl _ rfl; focus ((repeat' (first | (with_reducible assumption) | (refine Hold.new ?_; first | rfl | (simp; done)) | (refine Hold.alloc ?_ _) | (apply Hold.row) | (refine Hold.other ?_ ?_ _; rotate_left; focus (first | omega | (simp; omega))))); done)) | (apply wpList_st rfl _ _ rfl _ rfl _ rfl; focus ((repeat' (first | (with_reducible assumption) | (refine Hold.new ?_; first | rfl | (simp; done)) | (refine Hold.alloc ?_ _) | (apply Hold.row) | (refine Hold.other ?_ ?_ _; rotate_left; focus (first | omega | (simp; omega))))); done)) | (refine wpList_bd rfl rfl ?_))
  refine (R2.out _).mono ?_
  rintro e w8 ⟨rfl, hb8⟩
  have d8 : Hold w8 w1.heap.size (Rw f) := Hold.below (Hold.other (d7.alloc _) (by omega) _) hb8 (by simp; omega)
  have s8 : Hold w8 w3.heap.size (Rw sg) := Hold.below (Hold.other (s7.alloc _) (by omega) _) hb8 (by simp; omega)
  have t8 : Hold w8 w7.heap.size (Rw sg) := Hold.below (Hold.row (Hold.new rfl) _) hb8 (by simp)
  have db8 : Below w.heap.size w w8 := (Below.row (db7.alloc db7.size _) db7.size _).trans (hb8.mono (by simp; have := db7.size; omega))
  clear d7 s7 db7 hb8
  go_wp2_with (first | (apply wpList_ld rfl _ rfl _ rfl; focus ((repeat' (first | (with_reducible assumption) | (refine Hold.new ?_; first | rfl | (simp; done)) | (refine Hold.alloc ?_ _) | (apply Hold.row) | (refine Hold.other ?_ ?_ _; rotate_left; focus (first | omega | (simp; omega))))); done)) | (apply wpList_st rfl _ _ rfl _ rfl _ rfl; focus ((repeat' (first | (with_reducible assumption) | (refine Hold.new ?_; first | rfl | (simp; done)) | (refine Hold.alloc ?_ _) | (apply Hold.row) | (refine Hold.other ?_ ?_ _; rotate_left; focus (first | omega | (simp; omega))))); done)) | (refine wpList_bd rfl rfl ?_))
  refine (C2.out _).mono ?_
  rintro e w9 ⟨rfl, hb9⟩
  have s9 := s8.below hb9 s8.lt
  have t9 := t8.below hb9 t8.lt
  have db9 := db8.trans (hb9.mono db8.size)
  clear d8 s8 t8 db8 hb9
  go_wp2_with (first | (apply wpList_ld rfl _ rfl _ rfl; focus ((repeat' (first | (with_reducible assumption) | (refine Hold.new ?_; first | rfl | (simp; done)) | (refine Hold.alloc ?_ _) | (apply Hold.row) | (refine Hold.other ?_ ?_ _; rotate_left; focus (first | omega | (simp; omega))))); done)) | (apply wpList_st rfl _ _ rfl _ rfl _ rfl; focus ((repeat' (first | (with_reducible assumption) | (refine Hold.new ?_; first | rfl | (simp; done)) | (refine Hold.alloc ?_ _) | (apply Hold.row) | (refine Hold.other ?_ ?_ _; rotate_left; focus (first | omega | (simp; omega))))); done)) | (refine wpList_bd rfl rfl ?_))
  refine (awake_any _).mono ?_
  rintro e w10 ⟨rfl, hb10⟩
  have db10 := db9.trans (hb10.mono db9.size)
  clear db9 hb10
  go_wp2_with fail
  go_ret
  exact ⟨rfl, db10⟩
end
end Go.Proofs.Ytbcklcikmhpclaa
