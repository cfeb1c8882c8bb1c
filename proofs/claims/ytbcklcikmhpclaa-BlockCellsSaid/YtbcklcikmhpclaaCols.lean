/-
  Col, the program's and the reference's.
-/
import Derived.Test.YtbcklcikmhpclaaSets
namespace Go.Proofs.Ytbcklcikmhpclaa
open Go.RowKit
set_option linter.unusedVariables false
set_option linter.unusedSimpArgs false
/-- Column c's word, of the first k rows. -/
def colB (f : Nat → Nat) (c : Nat) : Nat → Nat
  | 0 => 0
  | k + 1 => if (f k).testBit c then colB f c k ||| pw k else colB f c k
theorem colB_miss {f : Nat → Nat} {c k : Nat} (hb : (f k).testBit c = false) : colB f c (k + 1) = colB f c k := by simp [colB, hb]
theorem colB_hit {f : Nat → Nat} {c k : Nat} (hb : (f k).testBit c = true) : colB f c (k + 1) = colB f c k ||| pw k := by simp [colB, hb]
theorem colB_lt (f : Nat → Nat) (c : Nat) : ∀ k, colB f c k < 2 ^ k
  | 0 => by simp [colB]
  | k + 1 => by
    have h := colB_lt f c k
    have h2 : 2 ^ (k + 1) = 2 ^ k * 2 := Nat.pow_succ 2 k
    unfold colB
    split
    · exact Nat.or_lt_two_pow (by omega) (by unfold pw; omega)
    · omega
theorem colB_le (f : Nat → Nat) (c k : Nat) (hk : k ≤ 64) : colB f c k < 18446744073709551616 :=
  Nat.lt_of_lt_of_le (colB_lt f c k) (Nat.pow_le_pow_right (n := 2) (by decide) hk)
theorem and_one64 (x c : Nat) (hx : x < 18446744073709551616) : bits .and .u64 ((x : Int) / 2 ^ c) 1 = if x.testBit c then 1 else 0 := by
  have e : ((x : Int) / 2 ^ c) = ((x / 2 ^ c : Nat) : Int) := by simp
  have hlt : x / 2 ^ c < 18446744073709551616 := Nat.lt_of_le_of_lt (Nat.div_le_self _ _) hx
  have h1 := bits_and64 (x / 2 ^ c) 1 hlt (by decide)
  rw [e]
  refine h1.trans ?_
  rw [Nat.and_one_is_mod, Nat.testBit_eq_decide_div_mod_eq]
  have h2 : x / 2 ^ c % 2 = 0 ∨ x / 2 ^ c % 2 = 1 := by omega
  rcases h2 with h2 | h2 <;> simp [h2]
section
set_option maxHeartbeats 400000
set_option maxRecDepth 100000
theorem col_no (f : Nat → Nat) (c : Int) (w : World) (h : c < 0 ∨ 64 ≤ c) :
    Calls Try.prog 9 #[.agg (Rw f), .int .i64 c] w fun e w' => e = .returned (.tuple #[.int .u64 0, .int .i64 2]) ∧ Below w.heap.size w w' := by
  go_enter Try.func9, Try.ntmps9
  go_wp2_with fail
  refine (line_no c _ h).mono ?_
  rintro e w' ⟨rfl, rfl⟩
  go_wp2_with fail
  go_ret2
  exact ⟨rfl, (Below.refl _ _).alloc (Nat.le_refl _) _⟩
theorem col_yes (f : Nat → Nat) (c : Nat) (w : World) (hc : c < 64) (hf : Wf f) :
    Calls Try.prog 9 #[.agg (Rw f), .int .i64 c] w fun e w' => e = .returned (.tuple #[.int .u64 (colB f c 64), .int .i64 0]) ∧ Below w.heap.size w w' := by
  go_enter Try.func9, Try.ntmps9
  go_wp2_with fail
  refine (line_yes c _ hc).mono ?_
  rintro e w' ⟨rfl, rfl⟩
  go_wp2_with (first | (apply wpList_ld rfl _ rfl _ rfl; focus ((repeat' (first | (with_reducible assumption) | (refine Hold.new ?_; first | rfl | (simp; done)) | (refine Hold.alloc ?_ _))); done)) | (apply wpList_st rfl _ _ rfl _ rfl _ rfl; focus ((repeat' (first | (with_reducible assumption) | (refine Hold.new ?_; first | rfl | (simp; done)) | (refine Hold.alloc ?_ _))); done)) | (refine wpList_bd rfl rfl ?_))
  go_loop [6, 13] (fun v i => ∃ k : Nat, k ≤ 64 ∧ i = .int .i64 k ∧ v = .int .u64 (colB f c k)) (fun _ i => 64 - (intOf i).toNat)
  case atStart => exact ⟨0, Nat.zero_le _, rfl, rfl⟩
  case round =>
    obtain ⟨k, hk, rfl, rfl⟩ := hrel
    by_cases hlt : k < 64
    · have hix := fun w => run_ix f k hlt w
      have hA := and_one64 (f k) c (hf k hlt)
      cases hb : (f k).testBit c
      · rw [hb] at hA
        simp only [Bool.false_eq_true, if_false] at hA
        go_wp2_with fail
        go_round
        case rel => exact ⟨k + 1, by omega, by go_num, by rw [show bits .or .u64 (colB f c k : Int) 0 = (colB f c k : Int) from (bits_or64 (colB f c k) 0 (colB_le f c k hk) (by decide)).trans (by simp)]; rw [colB_miss hb]⟩
        case measure => simp [intOf]; omega
      · rw [hb] at hA
        simp only [if_true] at hA
        go_wp2_with fail
        go_round
        case rel => exact ⟨k + 1, by omega, by go_num, by rw [wrap_pw hlt, bits_or64 _ _ (colB_le f c k hk) (pw_lt hlt), colB_hit hb]⟩
        case measure => simp [intOf]; omega
    · have e : k = 64 := by omega
      subst e
      go_wp2_with fail
      go_ret2
      exact ⟨rfl, (Below.refl _ _).alloc (Nat.le_refl _) _⟩
theorem rcol_no (f : Nat → Nat) (c : Int) (w : World) (h : c < 0 ∨ 64 ≤ c) :
    Calls Try.prog 13 #[.agg (Rw f), .int .i64 c] w fun e w' => e = .returned (.tuple #[.int .u64 0, .int .i64 2]) ∧ Below w.heap.size w w' := by
  go_enter Try.func13, Try.ntmps13
  go_wp2_with fail
  refine (in_no c _ h).mono ?_
  rintro e w' ⟨rfl, rfl⟩
  go_wp2_with fail
  go_ret2
  exact ⟨rfl, (Below.refl _ _).alloc (Nat.le_refl _) _⟩
theorem rcol_yes (f : Nat → Nat) (c : Nat) (w : World) (hc : c < 64) (hf : Wf f) :
    Calls Try.prog 13 #[.agg (Rw f), .int .i64 c] w fun e w' => e = .returned (.tuple #[.int .u64 (colB f c 64), .int .i64 0]) ∧ Below w.heap.size w w' := by
  go_enter Try.func13, Try.ntmps13
  go_wp2_with fail
  refine (in_yes c _ hc).mono ?_
  rintro e w' ⟨rfl, rfl⟩
  go_wp2_with (first | (apply wpList_ld rfl _ rfl _ rfl; focus ((repeat' (first | (with_reducible assumption) | (refine Hold.new ?_; first | rfl | (simp; done)) | (refine Hold.alloc ?_ _))); done)) | (apply wpList_st rfl _ _ rfl _ rfl _ rfl; focus ((repeat' (first | (with_reducible assumption) | (refine Hold.new ?_; first | rfl | (simp; done)) | (refine Hold.alloc ?_ _))); done)) | (refine wpList_bd rfl rfl ?_))
  go_loopw [6, 7] (fun v i wr => ∃ k : Nat, k ≤ 64 ∧ i = .int .i64 k ∧ v = .int .u64 (colB f c k) ∧ Hold wr w.heap.size (Rw f) ∧ Below w.heap.size w wr) (fun _ i _ => 64 - (intOf i).toNat)
  case atStart => exact ⟨0, Nat.zero_le _, rfl, rfl, Hold.new rfl, (Below.refl _ _).alloc (Nat.le_refl _) _⟩
  case round =>
    obtain ⟨k, hk, rfl, rfl, d, db⟩ := hrel
    by_cases hlt : k < 64
    · cases hb : (f k).testBit c
      · go_wp2_with (first | (apply wpList_ld rfl _ rfl _ rfl; focus ((repeat' (first | (with_reducible assumption) | (refine Hold.new ?_; first | rfl | (simp; done)) | (refine Hold.alloc ?_ _))); done)) | (apply wpList_st rfl _ _ rfl _ rfl _ rfl; focus ((repeat' (first | (with_reducible assumption) | (refine Hold.new ?_; first | rfl | (simp; done)) | (refine Hold.alloc ?_ _))); done)) | (refine wpList_bd rfl rfl ?_))
        refine (has_any f k c _ hlt hc).mono ?_
        rintro e w1 ⟨rfl, rfl⟩
        rw [hb]
        go_wp2_with fail
        go_roundw
        case rel => exact ⟨k + 1, by omega, by go_num, by rw [colB_miss hb], d.alloc _, db.alloc db.size _⟩
        case measure => simp [intOf]; omega
      · have hA : IntKind.u64.wrap (↑(colB f c k) + IntKind.u64.wrap (2 ^ k)) = ((colB f c (k + 1) : Nat) : Int) := by
          rw [add_word _ _ (colB_le f c k hk) hlt (Nat.testBit_lt_two_pow (colB_lt f c k))]
          rw [colB_hit hb]; rfl
        go_wp2_with (first | (apply wpList_ld rfl _ rfl _ rfl; focus ((repeat' (first | (with_reducible assumption) | (refine Hold.new ?_; first | rfl | (simp; done)) | (refine Hold.alloc ?_ _))); done)) | (apply wpList_st rfl _ _ rfl _ rfl _ rfl; focus ((repeat' (first | (with_reducible assumption) | (refine Hold.new ?_; first | rfl | (simp; done)) | (refine Hold.alloc ?_ _))); done)) | (refine wpList_bd rfl rfl ?_))
        refine (has_any f k c _ hlt hc).mono ?_
        rintro e w1 ⟨rfl, rfl⟩
        rw [hb]
        go_wp2_with fail
        go_roundw
        case rel => exact ⟨k + 1, by omega, by go_num, rfl, d.alloc _, db.alloc db.size _⟩
        case measure => simp [intOf]; omega
    · have e : k = 64 := by omega
      subst e
      go_wp2_with fail
      go_ret2
      exact ⟨rfl, db⟩
end
end Go.Proofs.Ytbcklcikmhpclaa
