/-
  MarksPlace and MarksLines walked.
-/
import Derived.Test.YtogobjokjpddbaaPlace
namespace Go.Proofs.Ytogobjokjpddbaa
open Go.RowKit Go.Shelf
set_option linter.unusedVariables false
set_option linter.unusedSimpArgs false
section
set_option maxHeartbeats 1000000
set_option maxRecDepth 100000
theorem place_law (s : ByteArray) (at' : Int) (w : World) (hs : s.size ≤ 1073741824) :
    Calls Try.prog 5 #[.string s, .int .i64 at'] w fun e w' => e = .returned (.bool true) ∧ Below w.heap.size w w' := by
  obtain ⟨x, y, z, hp, hr⟩ : ∃ x y z : Int, (∀ w : World, Calls Try.prog 19 #[.string s, .int .i64 at'] w fun e w' => e = .returned (.tuple #[.int .i64 x, .int .i64 y, .int .i64 z]) ∧ w = w') ∧
      (∀ w : World, Calls Try.prog 20 #[.string s, .int .i64 at'] w fun e w' => e = .returned (.tuple #[.int .i64 x, .int .i64 y, .int .i64 z]) ∧ w = w') := by
    by_cases h : at' < 0 ∨ s.size < at'
    · exact ⟨_, _, _, fun w => place_bad s at' w h, fun w => rplace_bad s at' w h⟩
    · obtain ⟨a, rfl⟩ := Int.eq_ofNat_of_zero_le (show 0 ≤ at' by omega)
      exact ⟨_, _, _, fun w => place_ok s a w (by omega) (by omega), fun w => rplace_ok s a w (by omega) (by omega)⟩
  go_enter Try.func5, Try.ntmps5
  go_wp2_with fail
  refine (hp _).mono ?_
  rintro e w1 ⟨rfl, rfl⟩
  go_wp2_with fail
  refine (hr _).mono ?_
  rintro e w1 ⟨rfl, rfl⟩
  go_wp2_with fail
  refine (kindT_any s _ (by omega)).mono ?_
  rintro e w1 ⟨rfl, hb1⟩
  go_wp2_with fail
  refine (rkind_any s _ hs).mono ?_
  rintro e w2 ⟨rfl, hb2⟩
  have HB := Lib.hid (hb1.trans (hb2.mono hb1.size))
  clear hb1 hb2 hp hr
  generalize (kd s != 0) = b at *
  generalize kd s = k at *
  cases b
  all_goals
    go_wp2_with fail
    refine (awake_any _).mono ?_
    rintro e w3 ⟨rfl, hb3⟩
    go_wp2_with fail
    go_ret
    exact ⟨rfl, HB.out.trans (hb3.mono HB.out.size)⟩
theorem lines_law (s : ByteArray) (w : World) (hs : s.size ≤ 140737488351232) :
    Calls Try.prog 8 #[.string s] w fun e w' => e = .returned (.bool true) ∧ Below w.heap.size w w' := by
  have P0 : Calls Try.prog 19 #[.string s, .int .i64 0] w fun e w' => e = .returned (.tuple #[.int .i64 0, .int .i64 0, .int .i64 0]) ∧ w = w' := place_ok s 0 w hs (Nat.zero_le _)
  go_enter Try.func8, Try.ntmps8
  go_wp2_with fail
  refine P0.mono ?_
  rintro e w1 ⟨rfl, rfl⟩
  clear P0
  go_wp2_with fail
  go_loop [3, 4, 6] (fun l c i => ∃ k : Nat, k ≤ s.size ∧ i = .int .i64 k ∧ l = .int .i64 (lc s k).1 ∧ c = .int .i64 (lc s k).2) (fun _ _ i => s.size - (intOf i).toNat)
  case atStart => exact ⟨0, Nat.zero_le _, rfl, rfl, rfl⟩
  case round =>
    obtain ⟨k, hk, rfl, rfl, rfl⟩ := hrel
    have hl := lc_le s k
    by_cases hlt : k < s.size ∧ k < 300
    · obtain ⟨hks, hk3⟩ := hlt
      have hdk : decide ((k : Int) < (s.size : Int)) = true := by rw [decide_eq_true_eq]; omega
      have hdk3 : decide ((k : Int) < 300) = true := by rw [decide_eq_true_eq]; omega
      have hb := byt_eq hks
      have P := place_ok s (k + 1) w hs (by omega)
      rw [lc_succ] at P
      rw [show (((k + 1 : Nat)) : Int) = (k : Int) + 1 by omega] at P
      have HS := Lib.hid (lc_succ s k)
      by_cases he : byt s k = 10
      · rw [if_pos he] at P
        have hq : ((s[k].toNat : Int) == 10) = true := by rw [hb, he]; rfl
        have hq2 : ((s[k].toNat : Int) != 10) = false := by rw [hb, he]; rfl
        have HE := Lib.hid he
        clear hb he
        generalize hx : lc s k = x at *
        clear hx
        rw [show (((x.1 + 1 : Nat)) : Int) = (x.1 : Int) + 1 by omega] at P
        go_wp2_with fail
        refine P.mono ?_
        rintro e w1 ⟨rfl, rfl⟩
        go_wp2_with fail
        go_round
        case rel => exact ⟨k + 1, by omega, by go_num, by rw [HS.out, if_pos HE.out]; go_num, by rw [HS.out, if_pos HE.out]; rfl⟩
        case measure => simp [intOf]; omega
      · rw [if_neg he] at P
        have hq : ((s[k].toNat : Int) == 10) = false := by rw [hb]; simp; omega
        have hq2 : ((s[k].toNat : Int) != 10) = true := by rw [hb]; simp; omega
        have HE := Lib.hid he
        clear hb he
        generalize hx : lc s k = x at *
        clear hx
        rw [show (((x.2 + 1 : Nat)) : Int) = (x.2 : Int) + 1 by omega] at P
        go_wp2_with fail
        refine P.mono ?_
        rintro e w1 ⟨rfl, rfl⟩
        go_wp2_with fail
        go_round
        case rel => exact ⟨k + 1, by omega, by go_num, by rw [HS.out, if_neg HE.out], by rw [HS.out, if_neg HE.out]; go_num⟩
        case measure => simp [intOf]; omega
    · have hend : (decide ((k : Int) < (s.size : Int)) && decide ((k : Int) < 300)) = false := by
        rw [Bool.and_eq_false_iff, decide_eq_false_iff_not, decide_eq_false_iff_not]; omega
      have P1 : Calls Try.prog 19 #[.string s, .int .i64 ((s.size : Int) + 1)] w fun e w' => e = .returned (.tuple #[.int .i64 0, .int .i64 0, .int .i64 2]) ∧ w = w' := place_bad s _ w (by omega)
      have P2 : Calls Try.prog 19 #[.string s, .int .i64 (-1)] w fun e w' => e = .returned (.tuple #[.int .i64 0, .int .i64 0, .int .i64 2]) ∧ w = w' := place_bad s _ w (by omega)
      generalize lc s k = x at *
      by_cases hks : k < s.size
      · have hdk : decide ((k : Int) < (s.size : Int)) = true := by rw [decide_eq_true_eq]; omega
        have hdk3 : decide ((k : Int) < 300) = false := by rw [decide_eq_false_iff_not]; omega
        clear hend hlt
        go_wp2_with fail
        refine P1.mono ?_
        rintro e w1 ⟨rfl, rfl⟩
        go_wp2_with fail
        refine P2.mono ?_
        rintro e w1 ⟨rfl, rfl⟩
        go_wp2_with fail
        refine (awake_any _).mono ?_
        rintro e w3 ⟨rfl, hb3⟩
        go_wp2_with fail
        go_ret
        exact ⟨rfl, hb3⟩
      · have hdk : decide ((k : Int) < (s.size : Int)) = false := by rw [decide_eq_false_iff_not]; omega
        clear hend hlt
        go_wp2_with fail
        refine P1.mono ?_
        rintro e w1 ⟨rfl, rfl⟩
        go_wp2_with fail
        refine P2.mono ?_
        rintro e w1 ⟨rfl, rfl⟩
        go_wp2_with fail
        refine (awake_any _).mono ?_
        rintro e w3 ⟨rfl, hb3⟩
        go_wp2_with fail
        go_ret
        exact ⟨rfl, hb3⟩
end
end Go.Proofs.Ytogobjokjpddbaa
