/-
  Len, and OnesCount64 of math/bits.
-/
import Derived.Test.YtoaeeojnelmlnaaDoorQSmall
namespace Go.Proofs.YtoaeeojnelmlnaaDoor
open Go.RowKit
set_option linter.unusedVariables false
set_option linter.unusedSimpArgs false
/-- What math/bits.OnesCount64 reckons, step by step. -/
def s1 (x : Nat) : Nat := (x / 2 &&& 6148914691236517205) + (x &&& 6148914691236517205)
def s2 (x : Nat) : Nat := (x / 4 &&& 3689348814741910323) + (x &&& 3689348814741910323)
def s3 (x : Nat) : Nat := (x / 16 + x) &&& 1085102592571150095
def s6 (x : Nat) : Nat := (let y := x + x / 256; let z := y + y / 65536; z + z / 4294967296) % 128
def oc (x : Nat) : Nat := s6 (s3 (s2 (s1 x)))
theorem oc_lt (x : Nat) : oc x < 128 := Nat.mod_lt _ (by decide)
theorem and_lit (x d m : Nat) (hx : x < 18446744073709551616) (hm : m < 18446744073709551616) : bits .and .u64 ((x : Int) / (d : Int)) (m : Int) = ((x / d &&& m : Nat) : Int) := by
  rw [show ((x : Int) / (d : Int)) = ((x / d : Nat) : Int) by simp]
  exact bits_and64 _ _ (Nat.lt_of_le_of_lt (Nat.div_le_self _ _) hx) hm
section
set_option maxHeartbeats 400000
set_option maxRecDepth 100000
theorem ones_any (x : Nat) (w : World) (hx : x < 18446744073709551616) :
    Calls Tryd.prog 110 #[.int .u64 x] w fun e w' => e = .returned (.int .i64 (oc x)) ∧ w = w' := by
  have r1 : s1 x ≤ 2 * 6148914691236517205 := by
    have a := Nat.and_le_right (n := x / 2) (m := 6148914691236517205)
    have b := Nat.and_le_right (n := x) (m := 6148914691236517205)
    unfold s1; omega
  have h1 : IntKind.u64.wrap (bits .and .u64 (↑x / 2) 6148914691236517205 + bits .and .u64 ↑x 6148914691236517205) = ((s1 x : Nat) : Int) := by
    have a := and_lit x 2 6148914691236517205 hx (by decide)
    have b := bits_and64 x 6148914691236517205 hx (by decide)
    rw [show (bits .and .u64 (↑x / 2) 6148914691236517205) = _ from a, show (bits .and .u64 ↑x 6148914691236517205) = _ from b, ← Int.natCast_add]
    exact wrap_u64_nat _ (by unfold s1 at r1; omega)
  have ho : oc x = s6 (s3 (s2 (s1 x))) := rfl
  generalize oc x = res at *
  generalize s1 x = y at *
  have r2 : s2 y ≤ 2 * 3689348814741910323 := by
    have a := Nat.and_le_right (n := y / 4) (m := 3689348814741910323)
    have b := Nat.and_le_right (n := y) (m := 3689348814741910323)
    unfold s2; omega
  have h2 : IntKind.u64.wrap (bits .and .u64 (↑y / 4) 3689348814741910323 + bits .and .u64 ↑y 3689348814741910323) = ((s2 y : Nat) : Int) := by
    have a := and_lit y 4 3689348814741910323 (by omega) (by decide)
    have b := bits_and64 y 3689348814741910323 (by omega) (by decide)
    rw [show (bits .and .u64 (↑y / 4) 3689348814741910323) = _ from a, show (bits .and .u64 ↑y 3689348814741910323) = _ from b, ← Int.natCast_add]
    exact wrap_u64_nat _ (by unfold s2 at r2; omega)
  generalize s2 y = z at *
  have r3 : s3 z ≤ 1085102592571150095 := Nat.and_le_right
  have h3 : bits .and .u64 (IntKind.u64.wrap (↑z / 16 + ↑z)) 1085102592571150095 = ((s3 z : Nat) : Int) := by
    have e : IntKind.u64.wrap (↑z / 16 + ↑z) = ((z / 16 + z : Nat) : Int) := by
      rw [← wrap_u64_nat (z / 16 + z) (by omega)]; simp
    rw [e]
    exact bits_and64 _ 1085102592571150095 (by omega) (by decide)
  generalize s3 z = t at *
  have h4 : IntKind.u64.wrap (↑t + ↑t / 256) = ((t + t / 256 : Nat) : Int) := by
    rw [← wrap_u64_nat (t + t / 256) (by omega)]; simp
  obtain ⟨u, hu⟩ : ∃ u, u = t + t / 256 := ⟨_, rfl⟩
  rw [← hu] at h4
  have h5 : IntKind.u64.wrap (↑u + ↑u / 65536) = ((u + u / 65536 : Nat) : Int) := by
    rw [← wrap_u64_nat (u + u / 65536) (by omega)]; simp
  obtain ⟨v, hv⟩ : ∃ v, v = u + u / 65536 := ⟨_, rfl⟩
  rw [← hv] at h5
  have h6 : IntKind.u64.wrap (↑v + ↑v / 4294967296) = ((v + v / 4294967296 : Nat) : Int) := by
    rw [← wrap_u64_nat (v + v / 4294967296) (by omega)]; simp
  obtain ⟨q, hq⟩ : ∃ q, q = v + v / 4294967296 := ⟨_, rfl⟩
  rw [← hq] at h6
  have h7 : bits .and .i64 (q : Int) 127 = (res : Int) := by
    rw [i64_and127, ho]
    unfold s6
    simp only []
    rw [← hu, ← hv, ← hq]
    omega
  have rq : (q : Int) < 9223372036854775808 := by omega
  clear ho hu hv hq r1 r2 r3
  go_enter Tryd.func110, Tryd.ntmps110
  go_wp2
  go_ret
  exact ⟨rfl, rfl⟩
/-- How many cells the first k rows have, by OnesCount64. -/
def lenB (f : Nat → Nat) : Nat → Nat
  | 0 => 0
  | k + 1 => lenB f k + oc (f k)
theorem lenB_le (f : Nat → Nat) : ∀ k, lenB f k ≤ 128 * k
  | 0 => Nat.le_refl _
  | k + 1 => by have := lenB_le f k; have := oc_lt (f k); unfold lenB; omega
theorem len_any (f : Nat → Nat) (w : World) (hf : Wf f) :
    Calls Tryd.prog 84 #[.agg (Rw f)] w fun e w' => e = .returned (.int .i64 (lenB f 64)) ∧ Below w.heap.size w w' := by
  go_enter Tryd.func84, Tryd.ntmps84
  go_wp2_with (first | (apply wpList_ld rfl _ rfl _ rfl; focus ((repeat' (first | (with_reducible assumption) | (refine Hold.new ?_; first | rfl | (simp; done)) | (refine Hold.alloc ?_ _))); done)) | (apply wpList_st rfl _ _ rfl _ rfl _ rfl; focus ((repeat' (first | (with_reducible assumption) | (refine Hold.new ?_; first | rfl | (simp; done)) | (refine Hold.alloc ?_ _))); done)) | (refine wpList_bd rfl rfl ?_))
  go_loop [3, 7] (fun v i => ∃ k : Nat, k ≤ 64 ∧ i = .int .i64 k ∧ v = .int .i64 (lenB f k)) (fun _ i => 64 - (intOf i).toNat)
  case atStart => exact ⟨0, Nat.zero_le _, rfl, rfl⟩
  case round =>
    obtain ⟨k, hk, rfl, rfl⟩ := hrel
    by_cases hlt : k < 64
    · have hix := fun w => run_ix f k hlt w
      have hl := lenB_le f k
      have ho := oc_lt (f k)
      go_wp2_with fail
      refine (ones_any (f k) _ (hf k hlt)).mono ?_
      rintro e w' ⟨rfl, rfl⟩
      go_wp2_with fail
      go_round
      case rel => exact ⟨k + 1, by omega, by go_num, by rw [show lenB f (k + 1) = lenB f k + oc (f k) from rfl]; go_num⟩
      case measure => simp [intOf]; omega
    · have e : k = 64 := by omega
      subst e
      go_wp2_with fail
      go_ret
      exact ⟨rfl, (Below.refl _ _).alloc (Nat.le_refl _) _⟩
end
end Go.Proofs.YtoaeeojnelmlnaaDoor
