/-
  A set of states as bits: has, put.
-/
import Derived.Test.YtihlfphokgicbaaDoorArcMath
import Derived.Laws.Bits64b
import Derived.WalkSmall
namespace Go.Proofs.YtihlfphokgicbaaDoor
open Go.RowKit
set_option linter.unusedVariables false
set_option linter.unusedSimpArgs false
/-- Is a state in the set of two words? -/
def memS (u v : Nat) (q : Nat) : Bool := if q < 64 then u.testBit q else v.testBit (q - 64)
def setV (u v : Nat) : Value := .agg #[.int .u64 (u : Int), .int .u64 (v : Int)]
theorem alloc_far' (w : World) (o : Obj) : Far (fun _ => False) w (w.alloc o) := (Far.refl _ w).alloc o
theorem bit_shr (u q : Nat) (hu : u < 18446744073709551616) : (bits BinOp.and IntKind.u64 ((u : Int) / 2 ^ q) 1 == 1) = u.testBit q := by
  have e : (u : Int) / 2 ^ q = ((u / 2 ^ q : Nat) : Int) := by simp
  have hle : u / 2 ^ q ≤ u := Nat.div_le_self _ _
  generalize hx : u / 2 ^ q = x at *
  rw [e, and_one_u64 _ (by omega) (by omega), Nat.testBit_eq_decide_div_mod_eq, hx, Bool.eq_iff_iff]
  simp
  omega
theorem pow_lt (q : Nat) (hq : q < 64) : 2 ^ q < 18446744073709551616 := Nat.lt_of_lt_of_le (Nat.pow_lt_pow_right (by decide) hq) (by decide)
theorem or_put (u q : Nat) (hu : u < 18446744073709551616) (hq : q < 64) : bits BinOp.or IntKind.u64 (u : Int) (IntKind.u64.wrap (2 ^ q)) = ((u ||| 2 ^ q : Nat) : Int) := by
  have hp := pow_lt q hq
  have e : (2 : Int) ^ q = ((2 ^ q : Nat) : Int) := by simp
  have hw : IntKind.u64.wrap ((2 : Int) ^ q) = ((2 ^ q : Nat) : Int) := by
    rw [e]
    generalize 2 ^ q = x at *
    rw [IntKind.wrap_u64]
    omega
  rw [hw]
  exact bits_or_u64_nat u (2 ^ q) hu hp
theorem or_lt (u q : Nat) (hu : u < 18446744073709551616) (hq : q < 64) : u ||| 2 ^ q < 18446744073709551616 := Nat.or_lt_two_pow (n := 64) (by omega) (by have := pow_lt q hq; omega)
section
set_option maxHeartbeats 1000000
set_option maxRecDepth 100000
theorem has_low (u v q : Nat) (hq : q < 64) (hu : u < 18446744073709551616) (w : World) : Calls Tryd.prog 30 #[.agg #[.int .u64 (u : Int), .int .u64 (v : Int)], .int .i64 (q : Int)] w fun e w' => e = .returned (.bool (u.testBit q)) ∧ Far (fun _ => False) w w' := by
  have h1 : (q : Int) / 64 = 0 := by omega
  have h2 : (q : Int) % 64 = (q : Int) := by omega
  have h3 : (0 : Int) ≤ (q : Int) := by omega
  have h4 : (q : Int) ≤ 63 := by omega
  have HB := Lib.hid (bit_shr u q hu)
  go_enter Tryd.func30, Tryd.ntmps30
  go_wp2_with fail
  go_ret
  exact ⟨by rw [← HB.out]; rfl, alloc_far' _ _⟩
theorem has_high (u v r : Nat) (hr : r < 64) (hv : v < 18446744073709551616) (q : Int) (hq : q = 64 + (r : Int)) (w : World) : Calls Tryd.prog 30 #[.agg #[.int .u64 (u : Int), .int .u64 (v : Int)], .int .i64 q] w fun e w' => e = .returned (.bool (v.testBit r)) ∧ Far (fun _ => False) w w' := by
  have h1 : q / 64 = 1 := by omega
  have h2 : q % 64 = (r : Int) := by omega
  have h3 : (0 : Int) ≤ q := by omega
  have h4 : q ≤ 127 := by omega
  have HB := Lib.hid (bit_shr v r hv)
  have hq' := Lib.hid hq
  clear hq
  go_enter Tryd.func30, Tryd.ntmps30
  go_wp2_with fail
  go_ret
  exact ⟨by rw [← HB.out]; rfl, alloc_far' _ _⟩
theorem put_low (u v q g : Nat) (hq : q < 64) (hu : u < 18446744073709551616) (w : World) (hB : Bk w g 54 #[.int .u64 (u : Int), .int .u64 (v : Int)]) : Calls Tryd.prog 29 #[.pointer (some ⟨g, 0, none⟩), .int .i64 (q : Int)] w fun e w' => (∃ x, e = .returned x) ∧ Bk w' g 54 #[.int .u64 ((u ||| 2 ^ q : Nat) : Int), .int .u64 (v : Int)] ∧ Far (fun k => k = g) w w' := by
  have h1 : (q : Int) / 64 = 0 := by omega
  have h2 : (q : Int) % 64 = (q : Int) := by omega
  have h3 : (0 : Int) ≤ (q : Int) := by omega
  have h4 : (q : Int) ≤ 63 := by omega
  have c0 : w.cell? ⟨g, 0, none⟩ = some (.int .u64 (u : Int)) := hB.cell 0
  have f0 : w.frozen? ⟨g, 0, none⟩ = false := hB.free 0
  have HB := Lib.hid hB
  have HO := Lib.hid (or_put u q hu hq)
  clear hB
  go_enter Tryd.func29, Tryd.ntmps29
  go_wp2_with fail
  go_region
  all_goals
    rw [HO.out]
    go_end0
    exact ⟨⟨_, rfl⟩, HB.out.set 0 (.int .u64 ((u ||| 2 ^ q : Nat) : Int)), ((Far.refl (fun k => k = g) w).set ⟨g, 0, none⟩ (.int .u64 ((u ||| 2 ^ q : Nat) : Int)) (fun _ => rfl)).drew⟩
theorem put_high (u v r g : Nat) (hr : r < 64) (hv : v < 18446744073709551616) (q : Int) (hq : q = 64 + (r : Int)) (w : World) (hB : Bk w g 54 #[.int .u64 (u : Int), .int .u64 (v : Int)]) : Calls Tryd.prog 29 #[.pointer (some ⟨g, 0, none⟩), .int .i64 q] w fun e w' => (∃ x, e = .returned x) ∧ Bk w' g 54 #[.int .u64 (u : Int), .int .u64 ((v ||| 2 ^ r : Nat) : Int)] ∧ Far (fun k => k = g) w w' := by
  have h1 : q / 64 = 1 := by omega
  have h2 : q % 64 = (r : Int) := by omega
  have h3 : (0 : Int) ≤ q := by omega
  have h4 : q ≤ 127 := by omega
  have c0 : w.cell? ⟨g, 1, none⟩ = some (.int .u64 (v : Int)) := hB.cell 1
  have f0 : w.frozen? ⟨g, 1, none⟩ = false := hB.free 1
  have HB := Lib.hid hB
  have HO := Lib.hid (or_put v r hv hr)
  clear hB hq
  go_enter Tryd.func29, Tryd.ntmps29
  go_wp2_with fail
  go_region
  all_goals
    rw [HO.out]
    go_end0
    exact ⟨⟨_, rfl⟩, HB.out.set 1 (.int .u64 ((v ||| 2 ^ r : Nat) : Int)), ((Far.refl (fun k => k = g) w).set ⟨g, 1, none⟩ (.int .u64 ((v ||| 2 ^ r : Nat) : Int)) (fun _ => rfl)).drew⟩
/-- The two words of a set. -/
def SetB (w : World) (g : Nat) (u v : Nat) : Prop := Bk w g 54 #[.int .u64 (u : Int), .int .u64 (v : Int)] ∧ u < 18446744073709551616 ∧ v < 18446744073709551616
theorem mem_put_low (u v q p : Nat) (hq : q < 64) : memS (u ||| 2 ^ q) v p = (memS u v p || decide (p = q)) := by
  unfold memS
  by_cases hp : p < 64
  · have e : decide (q = p) = decide (p = q) := by rw [decide_eq_decide]; omega
    rw [if_pos hp, if_pos hp, Nat.testBit_or, Nat.testBit_two_pow, e]
  · rw [if_neg hp, if_neg hp, Bool.eq_iff_iff]
    simp
    omega
theorem mem_put_high (u v r p : Nat) : memS u (v ||| 2 ^ r) p = (memS u v p || decide (p = 64 + r)) := by
  unfold memS
  by_cases hp : p < 64
  · rw [if_pos hp, if_pos hp, Bool.eq_iff_iff]
    simp
    omega
  · have e : decide (r = p - 64) = decide (p = 64 + r) := by rw [decide_eq_decide]; omega
    rw [if_neg hp, if_neg hp, Nat.testBit_or, Nat.testBit_two_pow, e]
/-- put, at whatever state. -/
theorem put_any (u v q g : Nat) (hq : q < 128) (w : World) (hB : SetB w g u v) : Calls Tryd.prog 29 #[.pointer (some ⟨g, 0, none⟩), .int .i64 (q : Int)] w fun e w' => ∃ u' v', (∃ x, e = .returned x) ∧ SetB w' g u' v' ∧ (∀ p, memS u' v' p = (memS u v p || decide (p = q))) ∧ Far (fun k => k = g) w w' := by
  obtain ⟨hB, hu, hv⟩ := hB
  by_cases h : q < 64
  · exact (put_low u v q g h hu w hB).mono fun e w' ⟨h1, h2, h3⟩ => ⟨_, _, h1, ⟨h2, or_lt u q hu h, hv⟩, fun p => mem_put_low u v q p h, h3⟩
  · exact (put_high u v (q - 64) g (by omega) hv q (by omega) w hB).mono fun e w' ⟨h1, h2, h3⟩ => ⟨_, _, h1, ⟨h2, hu, or_lt v (q - 64) hv (by omega)⟩, fun p => by rw [mem_put_high, show 64 + (q - 64) = q by omega], h3⟩
theorem has_any (u v q : Nat) (hq : q < 128) (hu : u < 18446744073709551616) (hv : v < 18446744073709551616) (w : World) : Calls Tryd.prog 30 #[.agg #[.int .u64 (u : Int), .int .u64 (v : Int)], .int .i64 (q : Int)] w fun e w' => e = .returned (.bool (memS u v q)) ∧ Far (fun _ => False) w w' := by
  unfold memS
  by_cases h : q < 64
  · rw [if_pos h]; exact has_low u v q h hu w
  · rw [if_neg h]; exact has_high u v (q - 64) (by omega) hv q (by omega) w
end
end Go.Proofs.YtihlfphokgicbaaDoor
