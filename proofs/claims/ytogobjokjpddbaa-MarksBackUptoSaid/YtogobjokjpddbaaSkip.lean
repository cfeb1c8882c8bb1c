/-
  skip, wordEnd; the reference's Begins.
-/
import Derived.Test.YtogobjokjpddbaaCut
namespace Go.Proofs.Ytogobjokjpddbaa
open Go.RowKit
set_option linter.unusedVariables false
set_option linter.unusedSimpArgs false
section
set_option maxHeartbeats 400000
set_option maxRecDepth 100000
theorem skip_any (s : ByteArray) (i : Nat) (w : World) (hs : s.size ≤ 140737488351232) (hi : i ≤ s.size) :
    Calls Try.prog 23 #[.string s, .int .i64 i] w fun e w' => e = .returned (.int .i64 (run (byt s) s.size blankN i)) ∧ w = w' := by
  go_enter Try.func23, Try.ntmps23
  go_wp2_with fail
  go_loop [1] (fun v => ∃ k : Nat, v = .int .i64 k ∧ k ≤ s.size ∧ run (byt s) s.size blankN k = run (byt s) s.size blankN i) (fun v => s.size - (intOf v).toNat)
  case atStart => exact ⟨i, rfl, hi, rfl⟩
  case round =>
    obtain ⟨k, rfl, hk, hrun⟩ := hrel
    have HR := Lib.hid hrun
    clear hrun
    by_cases hlt : k < s.size
    · have hdk : decide ((k : Int) < (s.size : Int)) = true := by rw [decide_eq_true_eq]; omega
      cases hb : blankN (byt s k)
      · rw [run_stop _ _ hb] at HR
        have hb' : blankN s[k].toNat = false := by rw [byt_eq hlt]; exact hb
        clear hb
        go_wp2_with fail
        refine (isBlank_any _ _).mono ?_
        rintro e w' ⟨rfl, rfl⟩
        rw [hb']
        go_wp2_with fail
        go_ret
        exact ⟨ret_i (by rw [HR.out]), rfl⟩
      · rw [run_step _ _ hlt hb] at HR
        have hb' : blankN s[k].toNat = true := by rw [byt_eq hlt]; exact hb
        clear hb
        go_wp2_with fail
        refine (isBlank_any _ _).mono ?_
        rintro e w' ⟨rfl, rfl⟩
        rw [hb']
        go_wp2_with fail
        go_round
        case rel => exact ⟨k + 1, by go_num, by omega, HR.out⟩
        case measure => simp [intOf]; omega
    · rw [run_end _ _ (by omega)] at HR
      have E := Lib.hid (show (k : Int) = s.size by omega)
      go_wp2_with fail
      go_ret
      exact ⟨ret_i (by rw [← HR.out, E.out]), rfl⟩
theorem wordEnd_any (s : ByteArray) (i : Nat) (w : World) (hs : s.size ≤ 140737488351232) (hi : i ≤ s.size) :
    Calls Try.prog 30 #[.string s, .int .i64 i] w fun e w' => e = .returned (.int .i64 (run (byt s) s.size innerN i)) ∧ w = w' := by
  go_enter Try.func30, Try.ntmps30
  go_wp2_with fail
  go_step3
  go_wp2_with fail
  go_step3
  go_wp2_with fail
  go_loop [5] (fun v => ∃ k : Nat, v = .int .i64 k ∧ k ≤ s.size ∧ run (byt s) s.size innerN k = run (byt s) s.size innerN i) (fun v => s.size - (intOf v).toNat)
  case atStart => exact ⟨i, rfl, hi, rfl⟩
  case round =>
    obtain ⟨k, rfl, hk, hrun⟩ := hrel
    have HR := Lib.hid hrun
    clear hrun
    by_cases hlt : k < s.size
    · have hdk : decide ((k : Int) < (s.size : Int)) = true := by rw [decide_eq_true_eq]; omega
      have hc : s[k].toNat < 256 := UInt8.toNat_lt _
      have hkk := innerN_kind (byt s k)
      rw [← byt_eq hlt] at hkk
      cases hb : innerN (byt s k)
      · rw [run_stop _ _ hb] at HR
        rw [byt_eq hlt, hb, ← byt_eq hlt] at hkk
        replace hkk := hkk.symm
        clear hb
        go_wp2_with fail
        refine (kind_any _ _ hc).mono ?_
        rintro e w' ⟨rfl, rfl⟩
        go_wp2_with fail
        refine (isWord_any _ _).mono ?_
        rintro e w' ⟨rfl, rfl⟩
        go_wp2_with fail
        (try rw [Exit.noGoto_ret]); go_ret
        exact ⟨ret_i (by rw [HR.out]), rfl⟩
      · rw [run_step _ _ hlt hb] at HR
        rw [byt_eq hlt, hb, ← byt_eq hlt] at hkk
        replace hkk := hkk.symm
        clear hb
        go_wp2_with fail
        refine (kind_any _ _ hc).mono ?_
        rintro e w' ⟨rfl, rfl⟩
        go_wp2_with fail
        refine (isWord_any _ _).mono ?_
        rintro e w' ⟨rfl, rfl⟩
        go_wp2_with fail
        go_round
        case rel => exact ⟨k + 1, by go_num, by omega, HR.out⟩
        case measure => simp [intOf]; omega
    · rw [run_end _ _ (by omega)] at HR
      have E := Lib.hid (show (k : Int) = s.size by omega)
      go_wp2_with fail
      (try rw [Exit.noGoto_ret]); go_ret
      exact ⟨ret_i (by rw [← HR.out, E.out]), rfl⟩
end
end Go.Proofs.Ytogobjokjpddbaa
