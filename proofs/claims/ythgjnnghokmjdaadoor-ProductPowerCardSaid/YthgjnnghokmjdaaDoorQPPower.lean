/-
  Power: n times.
-/
import Derived.Test.YthgjnnghokmjdaaDoorQPChain
namespace Go.Proofs.YthgjnnghokmjdaaDoor
open Go.RowKit Go.Shelf
set_option linter.unusedVariables false
set_option linter.unusedSimpArgs false
def powM (M : Nat → Nat → Bool) (side : Nat) : Nat → Nat → Nat → Bool
  | 0 => oneM side
  | n + 1 => mulM (powM M side n) M
section
variable {M : Nat → Nat → Bool} {side : Nat}
theorem powM_within (hs : side ≤ 1024) (hw : ∀ r c, M r c = true → r < side ∧ c < side) : ∀ n r c, powM M side n r c = true → r < side ∧ c < side
  | 0 => oneM_within side
  | n + 1 => mulM_within hs (powM_within hs hw n) hw
theorem fun2 {A B : Nat → Nat → Bool} (h : ∀ r c, A r c = B r c) : A = B := funext fun r => funext fun c => h r c
theorem powM_one (hs : side ≤ 1024) (hw : ∀ r c, M r c = true → r < side ∧ c < side) : powM M side 1 = M := fun2 (one_mul' hs hw)
theorem powM_add (hs : side ≤ 1024) (hw : ∀ r c, M r c = true → r < side ∧ c < side) (a : Nat) : ∀ b, mulM (powM M side a) (powM M side b) = powM M side (a + b)
  | 0 => fun2 (mul_one' hs (powM_within hs hw a))
  | b + 1 => by
    show mulM (powM M side a) (mulM (powM M side b) M) = mulM (powM M side (a + b)) M
    rw [← powM_add hs hw a b]
    exact (fun2 (mul_assoc' hs (powM_within hs hw a) (powM_within hs hw b))).symm
theorem powM_walk (hs : side ≤ 1024) (hw : ∀ r c, M r c = true → r < side ∧ c < side) {start : Nat} (hst : start < side) : ∀ n c, powM M side n start c = walkS M side start n c
  | 0, c => by
    rw [Bool.eq_iff_iff]
    show oneM side start c = true ↔ decide (c = start) = true
    rw [oneM_iff, decide_eq_true_eq]
    omega
  | n + 1, c => by
    have h1 := mulM_iff (A := powM M side n) (B := M) (r := start) (c := c) hs (powM_within hs hw n)
    have h2 := stepS_iff (M := M) (side := side) (S := walkS M side start n) hw (c := c)
    rw [Bool.eq_iff_iff]
    show mulM (powM M side n) M start c = true ↔ stepS M side (walkS M side start n) c = true
    rw [h1, h2]
    exact ⟨fun ⟨t, h3, h4⟩ => ⟨t, by rw [← powM_walk hs hw hst n t]; exact h3, h4⟩, fun ⟨t, h3, h4⟩ => ⟨t, by rw [powM_walk hs hw hst n t]; exact h3, h4⟩⟩
end
theorem and_1 (r : Nat) (hr : r ≤ 9223372036854775807) : bits .and .i64 (r : Int) 1 = ((r % 2 : Nat) : Int) := by
  have := and_one r 0
  simpa using this
section
variable {w : World} {B side : Nat} {F : Nat → Prop} {M : Nat → Nat → Bool}
set_option maxHeartbeats 8000000
set_option maxRecDepth 100000
theorem power_yes (h : Mx w B F side M) (hT : Tab w) (n : Nat) (hn : n ≤ 9223372036854775807) : Calls Tryd.prog 44 #[.pointer (some ⟨B, 0, none⟩), .int .i64 (n : Nat)] w fun e w' => ∃ B', e = .returned (.tuple #[.pointer (some ⟨B', 0, none⟩), .int .i64 0]) ∧ ∃ F', Mx w' B' F' side (powM M side n) ∧ (∀ k, F' k → w.heap.size ≤ k) ∧ Far (fun _ => False) w w' := by
  have hwin := h.within
  obtain ⟨s1, s2⟩ := h.sides
  have NO := pnone_any h.has
  rw [decide_eq_false (show ¬ side = 0 by omega)] at NO
  have SD := h.side
  have ON := one_yes side s1 s2 w
  have hmul := fun a b => powM_add (M := M) (side := side) s2 hwin a b
  have hone := powM_one (M := M) (side := side) s2 hwin
  have h' := Lib.hid h
  have hmul' := Lib.hid hmul
  have hone' := Lib.hid hone
  clear h hmul hone hwin
  go_enter Tryd.func44, Tryd.ntmps44
  go_wp2_with fail
  refine NO.mono ?_
  rintro e w' ⟨rfl, rfl⟩
  clear NO
  go_wp2_with fail
  refine SD.mono ?_
  rintro e w' ⟨rfl, rfl⟩
  clear SD
  go_wp2_with fail
  refine ON.mono ?_
  rintro e w1 ⟨Bp, rfl, Fp, hP, hlo, hf1⟩
  have hP' := Lib.hid hP
  have hlo' := Lib.hid hlo
  have hf1' := Lib.hid hf1
  have hX1 := Lib.hid (h'.out.still hf1)
  clear ON hP hlo hf1
  go_wp2_with fail
  go_loopw [1, 6, 8] (fun nv pv sv wr => ∃ (r a b Bp Bs : Nat) (Fp Fs : Nat → Prop), nv = .int .i64 (r : Nat) ∧ pv = .pointer (some ⟨Bp, 0, none⟩) ∧ sv = .pointer (some ⟨Bs, 0, none⟩) ∧ r ≤ n ∧ n = a + b * r ∧ Mx wr Bp Fp side (powM M side a) ∧ Mx wr Bs Fs side (powM M side b) ∧ (∀ q, Fp q → w.heap.size ≤ q) ∧ Far (fun _ => False) w wr) (fun nv _ _ _ => (intOf nv).toNat)
  case atStart => exact ⟨n, 0, 1, Bp, B, Fp, F, rfl, rfl, rfl, Nat.le_refl _, by omega, hP'.out, by rw [hone'.out]; exact hX1.out, hlo'.out, hf1'.out⟩
  case round =>
    clear hP' hlo' hf1' hX1
    obtain ⟨r, a, b, Bp, Bs, Fp, Fs, rfl, rfl, rfl, hr, hab, hP, hS, hlo, hf⟩ := hrel
    have hab' := Lib.hid hab
    clear hab
    by_cases hr0 : r = 0
    · subst hr0
      have hP' := Lib.hid (show Mx wr Bp Fp side (powM M side n) by rw [hab'.out, Nat.mul_zero, Nat.add_zero]; exact hP)
      have hlo' := Lib.hid hlo
      have hf' := Lib.hid hf
      clear hP hS hlo hf
      go_wp2_with fail
      go_ret2
      exact ⟨_, rfl, Fp, hP'.out, hlo'.out, hf'.out⟩
    · have hri : (0 : Int) < (r : Int) := by omega
      have hand := and_1 r (by omega)
      by_cases hodd : r % 2 = 1
      · rw [hodd] at hand
        have ML := pmul_any hP hS (hT.still hf)
        rw [hmul'.out] at ML
        have hf' := Lib.hid hf
        have hS' := Lib.hid hS
        clear hP hlo hf hS
        go_wp2_with fail
        refine ML.mono ?_
        rintro e w3 ⟨Bq, rfl, Fq, hQ, hlo, hf3⟩
        have hQ' := Lib.hid hQ
        have hf3' := Lib.hid (hf'.out.then hf3)
        have hlo' := Lib.hid (fun q hq => Nat.le_trans hf'.out.size (hlo q hq) : ∀ q, Fq q → w.heap.size ≤ q)
        have hS3 := Lib.hid (hS'.out.still hf3)
        clear ML hQ hf3 hlo hS' hf'
        by_cases h1' : r ≤ 1
        · have hle1 : ¬ (1 : Int) < (r : Int) := by omega
          go_wp2_with fail
          go_roundw
          case rel => exact ⟨r / 2, a + b, b, Bq, Bs, Fq, Fs, by go_num, rfl, rfl, by omega, (by
            have h1 : r = 1 := by omega
            have := hab'.out
            rw [h1] at this ⊢
            omega), hQ'.out, hS3.out, hlo'.out, hf3'.out⟩
          case measure => simp [intOf]; omega
        · have hle1 : (1 : Int) < (r : Int) := by omega
          have ML2 := pmul_any hS3.out hS3.out (hT.still hf3'.out)
          rw [hmul'.out] at ML2
          go_wp2_with fail
          refine ML2.mono ?_
          rintro e w4 ⟨Bt, rfl, Ft, hX, _, hf4⟩
          have hX' := Lib.hid hX
          have hQ4 := Lib.hid (hQ'.out.still hf4)
          have hf4' := Lib.hid (hf3'.out.then hf4)
          clear ML2 hX hf4
          go_wp2_with fail
          go_roundw
          case rel => exact ⟨r / 2, a + b, b + b, Bq, Bt, Fq, Ft, by go_num, rfl, rfl, by omega, (by
            have h8 : r = 2 * (r / 2) + 1 := by omega
            have h9 : b * r = b * (2 * (r / 2) + 1) := by rw [← h8]
            rw [hab'.out, h9, Nat.mul_add, Nat.mul_one, ← Nat.mul_assoc, Nat.mul_comm b 2, Nat.two_mul]; omega), hQ4.out, hX'.out, hlo'.out, hf4'.out⟩
          case measure => simp [intOf]; omega
      · have hev : r % 2 = 0 := by omega
        rw [hev] at hand
        have hle1 : (1 : Int) < (r : Int) := by omega
        have ML2 := pmul_any hS hS (hT.still hf)
        rw [hmul'.out] at ML2
        have hf' := Lib.hid hf
        have hP' := Lib.hid hP
        have hlo' := Lib.hid hlo
        clear hP hlo hf hS
        go_wp2_with fail
        refine ML2.mono ?_
        rintro e w4 ⟨Bt, rfl, Ft, hX, _, hf4⟩
        have hX' := Lib.hid hX
        have hP4 := Lib.hid (hP'.out.still hf4)
        have hf4' := Lib.hid (hf'.out.then hf4)
        clear ML2 hX hf4
        go_wp2_with fail
        go_roundw
        case rel => exact ⟨r / 2, a, b + b, Bp, Bt, Fp, Ft, by go_num, rfl, rfl, by omega, (by
          have h8 : r = 2 * (r / 2) := by omega
          have h9 : b * r = b * (2 * (r / 2)) := by rw [← h8]
          rw [hab'.out, h9, ← Nat.mul_assoc, Nat.mul_comm b 2, Nat.two_mul]), hP4.out, hX'.out, hlo'.out, hf4'.out⟩
        case measure => simp [intOf]; omega
end
end Go.Proofs.YthgjnnghokmjdaaDoor
