/-
  The algebra of products of blocks.
-/
import Derived.Test.YtbcklcikmhpclaaDoorMul
namespace Go.Proofs.YtbcklcikmhpclaaDoor
open Go.RowKit
set_option linter.unusedVariables false
set_option linter.unusedSimpArgs false
abbrev prod (f g : Nat → Nat) : Nat → Nat := blk (mulS f g)
abbrev uni (f g : Nat → Nat) : Nat → Nat := fun i => f i ||| g i
theorem uni_wf {f g : Nat → Nat} (hf : Wf f) (hg : Wf g) : Wf (uni f g) := fun i hi => Nat.or_lt_two_pow (n := 64) (hf i hi) (hg i hi)
theorem pw_wf : Wf pw := fun i hi => pw_lt hi
theorem any_iff (p : Nat → Bool) : ((List.range 64).any p = true) ↔ ∃ k, k < 64 ∧ p k = true := by simp [List.any_eq_true]
theorem mulS_iff (f g : Nat → Nat) (r c : Nat) : mulS f g r c = true ↔ ∃ k, k < 64 ∧ bt f r k = true ∧ bt g k c = true := by
  unfold mulS; rw [any_iff]; simp
theorem bt_prod (f g : Nat → Nat) (r c : Nat) (hc : c < 64) : bt (prod f g) r c = mulS f g r c := bt_blk _ r c hc
theorem bt_uni (f g : Nat → Nat) (r c : Nat) : bt (uni f g) r c = (bt f r c || bt g r c) := by unfold bt; exact Nat.testBit_or _ _ _
theorem prod_assoc (a b c : Nat → Nat) : Rw (prod (prod a b) c) = Rw (prod a (prod b c)) := blk_congr fun r q hr hq => by
  rw [Bool.eq_iff_iff, mulS_iff, mulS_iff]
  constructor
  · rintro ⟨k, hk, h1, h2⟩
    rw [bt_prod _ _ _ _ hk, mulS_iff] at h1
    obtain ⟨j, hj, h3, h4⟩ := h1
    exact ⟨j, hj, h3, by rw [bt_prod _ _ _ _ hq, mulS_iff]; exact ⟨k, hk, h4, h2⟩⟩
  · rintro ⟨j, hj, h3, h4⟩
    rw [bt_prod _ _ _ _ hq, mulS_iff] at h4
    obtain ⟨k, hk, h5, h2⟩ := h4
    exact ⟨k, hk, by rw [bt_prod _ _ _ _ hk, mulS_iff]; exact ⟨j, hj, h3, h5⟩, h2⟩
theorem bt_pw (r c : Nat) : bt pw r c = decide (r = c) := by unfold bt pw; exact Nat.testBit_two_pow
theorem prod_one_left (a : Nat → Nat) (ha : Wf a) : Rw (prod pw a) = Rw a := by
  rw [blk_bt ha]
  refine blk_congr fun r c hr hc => ?_
  rw [Bool.eq_iff_iff, mulS_iff]
  constructor
  · rintro ⟨k, hk, h1, h2⟩
    rw [bt_pw] at h1
    have : r = k := by simpa using h1
    rw [this]; exact h2
  · intro h
    exact ⟨r, hr, by rw [bt_pw]; simp, h⟩
theorem prod_one_right (a : Nat → Nat) (ha : Wf a) : Rw (prod a pw) = Rw a := by
  rw [blk_bt ha]
  refine blk_congr fun r c hr hc => ?_
  rw [Bool.eq_iff_iff, mulS_iff]
  constructor
  · rintro ⟨k, hk, h1, h2⟩
    rw [bt_pw] at h2
    have : k = c := by simpa using h2
    rw [this] at h1
    exact h1
  · intro h
    exact ⟨c, hc, h, by rw [bt_pw]; simp⟩
theorem prod_uni_right (a b c : Nat → Nat) : Rw (prod a (uni b c)) = Rw (uni (prod a b) (prod a c)) := by
  rw [Rw_blk (uni_wf (blk_wf _) (blk_wf _)) (S := fun r q => mulS a b r q || mulS a c r q) fun r q hr hq => by
    have := bt_uni (prod a b) (prod a c) r q
    rw [bt_prod _ _ _ _ hq, bt_prod _ _ _ _ hq] at this
    exact this]
  refine blk_congr fun r q hr hq => ?_
  rw [Bool.eq_iff_iff, Bool.or_eq_true, mulS_iff, mulS_iff, mulS_iff]
  constructor
  · rintro ⟨k, hk, h1, h2⟩
    rw [bt_uni, Bool.or_eq_true] at h2
    rcases h2 with h2 | h2
    · exact .inl ⟨k, hk, h1, h2⟩
    · exact .inr ⟨k, hk, h1, h2⟩
  · rintro (⟨k, hk, h1, h2⟩ | ⟨k, hk, h1, h2⟩)
    · exact ⟨k, hk, h1, by rw [bt_uni, h2]; rfl⟩
    · exact ⟨k, hk, h1, by rw [bt_uni, h2, Bool.or_true]⟩
theorem prod_uni_left (a b c : Nat → Nat) : Rw (prod (uni a b) c) = Rw (uni (prod a c) (prod b c)) := by
  rw [Rw_blk (uni_wf (blk_wf _) (blk_wf _)) (S := fun r q => mulS a c r q || mulS b c r q) fun r q hr hq => by
    have := bt_uni (prod a c) (prod b c) r q
    rw [bt_prod _ _ _ _ hq, bt_prod _ _ _ _ hq] at this
    exact this]
  refine blk_congr fun r q hr hq => ?_
  rw [Bool.eq_iff_iff, Bool.or_eq_true, mulS_iff, mulS_iff, mulS_iff]
  constructor
  · rintro ⟨k, hk, h1, h2⟩
    rw [bt_uni, Bool.or_eq_true] at h1
    rcases h1 with h1 | h1
    · exact .inl ⟨k, hk, h1, h2⟩
    · exact .inr ⟨k, hk, h1, h2⟩
  · rintro (⟨k, hk, h1, h2⟩ | ⟨k, hk, h1, h2⟩)
    · exact ⟨k, hk, by rw [bt_uni, h1]; rfl, h2⟩
    · exact ⟨k, hk, by rw [bt_uni, h1, Bool.or_true], h2⟩
/-- A block turned over. -/
abbrev trn (f : Nat → Nat) : Nat → Nat := blk fun r c => bt f c r
theorem trn_trn (f : Nat → Nat) (hf : Wf f) : Rw (trn (trn f)) = Rw f := by
  rw [blk_bt hf]
  exact blk_congr fun r c hr hc => by rw [bt_blk _ _ _ hr]
theorem trn_prod (a b : Nat → Nat) : Rw (trn (prod a b)) = Rw (prod (trn b) (trn a)) := blk_congr fun r c hr hc => by
  rw [bt_prod _ _ _ _ hr, Bool.eq_iff_iff, mulS_iff, mulS_iff]
  constructor
  · rintro ⟨k, hk, h1, h2⟩
    exact ⟨k, hk, by rw [bt_blk _ _ _ hk]; exact h2, by rw [bt_blk _ _ _ hc]; exact h1⟩
  · rintro ⟨k, hk, h1, h2⟩
    rw [bt_blk _ _ _ hk] at h1
    rw [bt_blk _ _ _ hc] at h2
    exact ⟨k, hk, h2, h1⟩
end Go.Proofs.YtbcklcikmhpclaaDoor
