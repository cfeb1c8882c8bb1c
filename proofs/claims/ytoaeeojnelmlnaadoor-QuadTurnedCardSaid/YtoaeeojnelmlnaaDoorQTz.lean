/-
  TrailingZeros64 of math/bits, over its table.
-/
import Derived.Test.YtoaeeojnelmlnaaDoorMath
import Derived.Test.YtoaeeojnelmlnaaDoorQHold
import Derived.Lib.TrailingZeros
namespace Go.Proofs.YtoaeeojnelmlnaaDoor
open Go.RowKit
set_option linter.unusedVariables false
set_option linter.unusedSimpArgs false
/-- The package's table lies in its variable. -/
def Tab (w : World) : Prop := ∀ j, j < 64 → w.cell? ⟨0, j, none⟩ = some (.int .u8 (Lib.deBruijn64tab.getD j 0))
theorem Tab.stays {w w' : World} (h : Tab w) (hb : Below w.heap.size w w') : Tab w' := fun j hj =>
  (hb.cell (p := ⟨0, j, none⟩) (block_lt_of_cell (h j hj))).trans (h j hj)
theorem neg_word (x a : Nat) (hx : x < 18446744073709551616) (hx0 : x ≠ 0) (hlow : x &&& (18446744073709551616 - x) = a) :
    IntKind.u64.wrap (bits .and .u64 (x : Int) (IntKind.u64.wrap (-(x : Int))) * 285870213051353865) / 288230376151711744 = ((a * 285870213051353865 % 18446744073709551616 / 288230376151711744 : Nat) : Int) := by
  have e : IntKind.u64.wrap (-(x : Int)) = ((18446744073709551616 - x : Nat) : Int) := by rw [IntKind.wrap_u64]; omega
  rw [e, bits_and64 x _ hx (by omega), hlow, IntKind.wrap_u64]
  omega
section
set_option maxHeartbeats 400000
set_option maxRecDepth 100000
theorem tz_core (x k idx : Nat) (w : World) (hne : ((x : Int) == 0) = false)
    (key : IntKind.u64.wrap (bits .and .u64 (x : Int) (IntKind.u64.wrap (-(x : Int))) * 285870213051353865) / 288230376151711744 = (idx : Int))
    (hi : idx < 64) (hk : k < 64) (hcell : w.cell? ⟨0, idx, none⟩ = some (.int .u8 k)) :
    Calls Tryd.prog 113 #[.int .u64 x] w fun e w' => e = .returned (.int .i64 k) ∧ w = w' := by
  go_enter Tryd.func113, Tryd.ntmps113
  go_wp2_with (simp only [key])
  go_ret
  exact ⟨rfl, rfl⟩
theorem tz_any (x : Nat) (w : World) (hx : x < 18446744073709551616) (hx0 : x ≠ 0) (hT : Tab w) :
    Calls Tryd.prog 113 #[.int .u64 x] w fun e w' => e = .returned (.int .i64 (Lib.ctz 64 x)) ∧ w = w' := by
  obtain ⟨hlow, hk⟩ := Lib.lowest_bit 64 x hx0 hx
  obtain ⟨hi, htab⟩ := Lib.deBruijn64_at _ hk
  have hcell := hT _ hi
  rw [htab] at hcell
  exact tz_core x _ _ w (by simp; omega) (neg_word x _ hx hx0 hlow) hi hk hcell
end
/-- The lowest bit of x, and x without it. -/
theorem low_facts (x : Nat) (hx : x < 18446744073709551616) (hx0 : x ≠ 0) :
    Lib.ctz 64 x < 64 ∧ x.testBit (Lib.ctz 64 x) = true ∧ ∀ i, (x &&& (x - 1)).testBit i = (x.testBit i && !decide (i = Lib.ctz 64 x)) := by
  have e : Lib.ctz 64 x = Lib.ctzFrom 64 x := by simp [Lib.ctz, hx0]
  rw [e]
  obtain ⟨m, hm, hk⟩ := Lib.ctzFrom_spec 64 x (by omega) hx
  generalize Lib.ctzFrom 64 x = k at *
  have hp : 0 < 2 ^ k := Nat.two_pow_pos k
  have hpp : 2 ^ (k + 1) = 2 ^ k * 2 := Nat.pow_succ 2 k
  have h1 : x = 2 ^ (k + 1) * m + 2 ^ k := by rw [hm, hpp, Nat.mul_add, Nat.mul_one, Nat.mul_assoc]
  have h2 : x - 1 = 2 ^ (k + 1) * m + (2 ^ k - 1) := by omega
  have b1 : ∀ i, x.testBit i = if i < k + 1 then (2 ^ k).testBit i else m.testBit (i - (k + 1)) := fun i => by
    rw [h1]; exact Nat.testBit_two_pow_mul_add m (by omega) i
  have b2 : ∀ i, (x - 1).testBit i = if i < k + 1 then (2 ^ k - 1).testBit i else m.testBit (i - (k + 1)) := fun i => by
    rw [h2]; exact Nat.testBit_two_pow_mul_add m (by omega) i
  refine ⟨hk, ?_, fun i => ?_⟩
  · rw [b1, if_pos (by omega)]; exact Nat.testBit_two_pow_self
  · rw [Nat.testBit_and, b1, b2]
    by_cases hi : i < k + 1
    · rw [if_pos hi, if_pos hi, Nat.testBit_two_pow, Nat.testBit_two_pow_sub_one]
      by_cases he : i = k
      · subst he; simp
      · have : ¬ k = i := fun h => he h.symm
        simp [this]
    · rw [if_neg hi, if_neg hi, Bool.and_self]
      have : ¬ i = k := by omega
      simp [this]
end Go.Proofs.YtoaeeojnelmlnaaDoor
