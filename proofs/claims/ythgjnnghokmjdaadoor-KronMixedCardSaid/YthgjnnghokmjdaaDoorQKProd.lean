/-
  kron: Product; the squares' errors; Square.
-/
import Derived.Test.YthgjnnghokmjdaaDoorQKFold
import Derived.Test.YthgjnnghokmjdaaDoorQPFit
namespace Go.Proofs.YthgjnnghokmjdaaDoor
open Go.RowKit Go.Shelf
set_option linter.unusedVariables false
set_option linter.unusedSimpArgs false
section
variable {w : World} {Ba Bb Bc p q sc : Nat} {Fa Fb Fc : Nat → Prop} {A B C : Nat → Nat → Bool}
set_option maxHeartbeats 8000000
set_option maxRecDepth 100000
theorem knone_no (ha : Mx w Ba Fa p A) : Calls Tryd.prog 112 #[.pointer (some ⟨Ba, 0, none⟩)] w fun e w' => e = .returned (.bool false) ∧ w = w' := by
  have SD := ha.side
  have hp := ha.sides.1
  have e1 : ((p : Int) == 0) = false := by simp; omega
  clear ha
  go_enter Tryd.func112, Tryd.ntmps112
  go_wp2_with fail
  refine SD.mono ?_
  rintro e w' ⟨rfl, rfl⟩
  go_wp2_with fail
  go_ret
  exact ⟨rfl, rfl⟩
theorem kproduct_yes (ha : Mx w Ba Fa p A) (hb : Mx w Bb Fb q B) (hpq : p * q ≤ 1024) (hT : Tab w) : Calls Tryd.prog 49 #[.pointer (some ⟨Ba, 0, none⟩), .pointer (some ⟨Bb, 0, none⟩)] w fun e w' => ∃ B', e = .returned (.tuple #[.pointer (some ⟨B', 0, none⟩), .int .i64 0]) ∧ ∃ F', Mx w' B' F' (p * q) (kronM A B q) ∧ (∀ k, F' k → w.heap.size ≤ k) ∧ Far (fun _ => False) w w' := by
  obtain ⟨p1, p2⟩ := ha.sides
  obtain ⟨q1, q2⟩ := hb.sides
  obtain ⟨m, hm⟩ : ∃ m, m = p * q := ⟨_, rfl⟩
  have hm1 : 1 ≤ m := by rw [hm]; exact Nat.mul_pos p1 q1
  have hm2 : m ≤ 1024 := by omega
  have hmu : (p : Int) * (q : Int) = (m : Int) := by rw [hm, Int.natCast_mul]
  have NA := knone_no ha
  have NB := knone_no hb
  have SA := ha.side
  have SB := hb.side
  have NW := qnew_yes m hm1 hm2 w
  have ha' := Lib.hid ha
  have hb' := Lib.hid hb
  have hm' := Lib.hid hm
  clear ha hb hm hpq
  go_enter Tryd.func49, Tryd.ntmps49
  go_wp2_with fail
  refine NA.mono ?_
  rintro e w' ⟨rfl, rfl⟩
  go_wp2_with fail
  refine NB.mono ?_
  rintro e w' ⟨rfl, rfl⟩
  go_wp2_with fail
  refine SA.mono ?_
  rintro e w' ⟨rfl, rfl⟩
  go_wp2_with fail
  refine SB.mono ?_
  rintro e w' ⟨rfl, rfl⟩
  clear NA NB SA SB
  go_wp2_with fail
  refine NW.mono ?_
  rintro e w1 ⟨rfl, lv, hlv, hwd, hBk, hf1⟩
  have hX1 := Mx.new (w := w) hm1 hm2 hlv hwd hBk
  have LY := lay_any hX1 (ha'.out.still hf1) (hb'.out.still hf1) hm'.out (hT.still hf1) (fun h => by have := Qf_none h; have := hT.lt; omega)
  obtain ⟨Bm, hBm⟩ : ∃ b, b = w.heap.size := ⟨_, rfl⟩
  rw [← hBm] at LY ⊢
  have hf1' := Lib.hid hf1
  have hBm' := Lib.hid hBm
  clear NW hBk hf1 hX1 hBm
  go_wp2_with fail
  refine LY.mono ?_
  rintro e w2 ⟨rfl, F', hX2, hm2⟩
  have hX2' := Lib.hid hX2
  have hm2' := Lib.hid hm2
  clear LY hX2 hm2
  go_wp2_with fail
  go_ret2
  refine ⟨_, rfl, F', ?_, fun k hk => ?_, hf1'.out.trans hm2'.out.far fun k hk e => by have := Qf_none e; have := hBm'.out; omega⟩
  · rw [← hm'.out]
    exact hX2'.out.congr fun r c => by unfold joinM; rfl
  · rcases hm2'.out.more k hk with e | e
    · have := Qf_none e; have := hBm'.out; omega
    · have := hf1'.out.size; omega
theorem ksquares_yes (hc : Mx w Bc Fc sc C) (q t : Nat) (hq : 1 ≤ q) (ht : sc = t * q) : Calls Tryd.prog 115 #[.pointer (some ⟨Bc, 0, none⟩), .int .i64 (q : Nat)] w fun e w' => e = .returned (.int .i64 0) ∧ w = w' := by
  have NA := knone_no hc
  have SC := hc.side
  have q1 : ¬ (q : Int) < 1 := by omega
  have q0 : ((q : Int) == 0) = false := by simp; omega
  have q00 : ¬ (q : Int) = 0 := by omega
  have hmod : (sc : Int).tmod (q : Int) = 0 := by
    rw [ht, Int.natCast_mul, Int.tmod_eq_emod_of_nonneg (by omega)]
    exact Int.mul_emod_left _ _
  have hs2 := hc.sides.2
  clear hc ht
  go_enter Tryd.func115, Tryd.ntmps115
  go_wp2_with fail
  refine NA.mono ?_
  rintro e w' ⟨rfl, rfl⟩
  go_wp2_with fail
  refine SC.mono ?_
  rintro e w' ⟨rfl, rfl⟩
  go_wp2_with fail
  go_ret
  exact ⟨rfl, rfl⟩
theorem ksquares_no (hc : Mx w Bc Fc sc C) (q : Nat) (hq : 1 ≤ q) (ht : sc % q ≠ 0) : Calls Tryd.prog 115 #[.pointer (some ⟨Bc, 0, none⟩), .int .i64 (q : Nat)] w fun e w' => e = .returned (.int .i64 5) ∧ w = w' := by
  have NA := knone_no hc
  have SC := hc.side
  have q1 : ¬ (q : Int) < 1 := by omega
  have q0 : ((q : Int) == 0) = false := by simp; omega
  have q00 : ¬ (q : Int) = 0 := by omega
  obtain ⟨r, hr⟩ : ∃ r, sc % q = r := ⟨_, rfl⟩
  have hmod : (sc : Int).tmod (q : Int) = (r : Int) := by
    rw [Int.tmod_eq_emod_of_nonneg (by omega), ← hr, Int.natCast_emod]
  have hr0 : ((r : Int) == 0) = false := by simp; omega
  have hd1 : decide ((q : Int) < 1) = false := decide_eq_false q1
  have hrn : ((r : Int) != 0) = true := by simp; omega
  have hs2 := hc.sides.2
  clear hc ht hr
  go_enter Tryd.func115, Tryd.ntmps115
  go_wp2_with fail
  refine NA.mono ?_
  rintro e w' ⟨rfl, rfl⟩
  go_wp2_with fail
  refine SC.mono ?_
  rintro e w' ⟨rfl, rfl⟩
  go_wp2_with fail
  all_goals
    go_ret
    exact ⟨rfl, rfl⟩
end
end Go.Proofs.YthgjnnghokmjdaaDoor
