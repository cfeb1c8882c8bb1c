/-
  kron.Into whatever it is handed; the document's Into.
-/
import Derived.Test.YtkobbcmndneajaaDoorQKRefP
import Derived.Test.YtkobbcmndneajaaDoorQJoinD
namespace Go.Proofs.YtkobbcmndneajaaDoor
open Go.RowKit Go.Shelf
set_option linter.unusedVariables false
set_option linter.unusedSimpArgs false
def kinE (sc p q : Nat) : Nat := if sc = 0 ∨ p = 0 ∨ q = 0 then 1 else if sc = p * q then 0 else 5
theorem kinE_ok {sc p q : Nat} (h : kinE sc p q = 0) : (sc ≠ 0 ∧ p ≠ 0 ∧ q ≠ 0) ∧ sc = p * q := by
  unfold kinE at h
  split at h
  · cases h
  · split at h
    · omega
    · cases h
theorem newL_iff {C : Nat → Nat → Bool} {L : List (Nat × Nat)} {K : Nat → Nat → Bool} (h : ∀ r c, (r, c) ∈ L ↔ K r c = true) : newL C L = true ↔ ∃ r c, K r c = true ∧ C r c = false := by
  unfold newL
  rw [List.any_eq_true]
  constructor
  · rintro ⟨⟨r, c⟩, h1, h2⟩
    exact ⟨r, c, (h r c).1 h1, by simpa using h2⟩
  · rintro ⟨r, c, h1, h2⟩
    exact ⟨(r, c), (h r c).2 h1, by simpa using h2⟩
theorem HasF.mx' {w : World} {v : Value} {F : Nat → Prop} {s : Nat} {M : Nat → Nat → Bool} (h : HasF w v F s M) (h0 : s ≠ 0) : ∃ B, v = .pointer (some ⟨B, 0, Option.none⟩) ∧ Mx w B F s M := by
  rcases h with ⟨_, h1, _⟩ | h
  · exact absurd h1 h0
  · exact h
section
set_option maxHeartbeats 4000000
set_option maxRecDepth 100000
theorem kInto_any {w : World} {vc va vb : Value} {Fc Fa Fb : Nat → Prop} {sc p q : Nat} {C A B : Nat → Nat → Bool} (hc : HasF w vc Fc sc C) (ha : HasF w va Fa p A) (hb : HasF w vb Fb q B) (hT : Tab w) (hTF : ¬ Fc 0) :
    Calls Tryd.prog 39 #[vc, va, vb] w fun e w' => ∃ mo : Bool, e = .returned (.tuple #[.bool mo, .int .i64 (kinE sc p q : Nat)]) ∧ (mo = true ↔ kinE sc p q = 0 ∧ ∃ r c, kronM A B q r c = true ∧ C r c = false) ∧ ∃ F', HasF w' vc F' sc (if kinE sc p q = 0 then joinM C (kronM A B q) else C) ∧ Mv w w' Fc F' := by
  have NC := knone_any hc
  have NA := knone_any ha
  have NB := knone_any hb
  have SC := hc.side_any
  have SA := ha.side_any
  have SB := hb.side_any
  have hpb := ha.le
  have hqb := hb.le
  by_cases hE : kinE sc p q = 0
  · obtain ⟨⟨h0, h1, h2⟩, hs⟩ := kinE_ok hE
    obtain ⟨Bc, rfl, hXc⟩ := hc.mx' h0
    obtain ⟨Ba, rfl, hXa⟩ := ha.mx' h1
    obtain ⟨Bb, rfl, hXb⟩ := hb.mx' h2
    have LY := lay_any hXc hXa hXb hs hT hTF
    have hnw := newL_iff (C := C) (L := kronL q (cellsL A p) (cellsL B q)) (K := kronM A B q) fun r c => mem_kronL (by omega) hXa.within hXb.within
    rw [hE]
    rw [if_pos rfl]
    rw [decide_eq_false h0] at NC
    rw [decide_eq_false h1] at NA
    rw [decide_eq_false h2] at NB
    obtain ⟨mo, hmo⟩ : ∃ mo, newL C (kronL q (cellsL A p) (cellsL B q)) = mo := ⟨_, rfl⟩
    rw [hmo] at LY hnw
    have hmu : (p : Int) * (q : Int) = (sc : Int) := by rw [hs, Int.natCast_mul]
    have hws : IntKind.i64.wrap (sc : Int) = (sc : Int) := by
      have : sc ≤ 1048576 := by rw [hs]; exact Nat.mul_le_mul hpb hqb
      rw [IntKind.wrap_i64]; omega
    have hsb : sc ≤ 1048576 := by rw [hs]; exact Nat.mul_le_mul hpb hqb
    have hnw' := Lib.hid hnw
    clear hc ha hb hXc hXa hXb hE h0 h1 h2 hs hmo hT hnw
    go_enter Tryd.func39, Tryd.ntmps39
    go_wp2_with fail
    refine NC.mono ?_
    rintro e w' ⟨rfl, rfl⟩
    clear NC
    go_wp2_with fail
    refine NA.mono ?_
    rintro e w' ⟨rfl, rfl⟩
    clear NA
    go_wp2_with fail
    refine NB.mono ?_
    rintro e w' ⟨rfl, rfl⟩
    clear NB
    go_wp2_with fail
    refine SC.mono ?_
    rintro e w' ⟨rfl, rfl⟩
    clear SC
    go_wp2_with fail
    refine SA.mono ?_
    rintro e w' ⟨rfl, rfl⟩
    clear SA
    go_wp2_with fail
    refine SB.mono ?_
    rintro e w' ⟨rfl, rfl⟩
    clear SB
    go_wp2_with fail
    refine LY.mono ?_
    rintro e w' ⟨rfl, F', hX, hm⟩
    have hX' := Lib.hid hX
    have hm' := Lib.hid hm
    clear LY hX hm
    go_wp2_with fail
    (try rw [Exit.noGoto_ret])
    (try simp only [Exit.inBlock, Exit.then])
    refine bodyPost_ret (v := .tuple #[.bool mo, .int .i64 0]) (by simp [results, Tryd.f39, go_sem]) rfl ?_
    exact ⟨_, rfl, ⟨fun h => ⟨trivial, hnw'.out.1 h⟩, fun h => hnw'.out.2 h.2⟩, F', .inr ⟨Bc, rfl, hX'.out⟩, hm'.out⟩
  · rw [if_neg hE]
    have hend : ∃ F', HasF w vc F' sc C ∧ Mv w w Fc F' := ⟨Fc, hc, Mv.still (Far.refl _ w)⟩
    have hend' := Lib.hid hend
    have hE' := Lib.hid hE
    by_cases h0 : sc = 0
    · have e : kinE sc p q = 1 := by unfold kinE; rw [if_pos (.inl h0)]
      rw [e]
      rw [e] at hE'
      rw [decide_eq_true h0] at NC
      clear hc ha hb hE h0 hend hT e NA NB SC SA SB
      go_enter Tryd.func39, Tryd.ntmps39
      go_wp2_with fail
      refine NC.mono ?_
      rintro e w' ⟨rfl, rfl⟩
      clear NC
      go_wp2_with fail
      (try rw [Exit.noGoto_ret])
      (try simp only [Exit.inBlock, Exit.then])
      refine bodyPost_ret (v := .tuple #[.bool false, .int .i64 1]) (by simp [results, Tryd.f39, go_sem]) rfl ?_
      exact ⟨_, rfl, ⟨fun h => (by cases h), fun h => absurd h.1 hE'.out⟩, hend'.out⟩
    · rw [decide_eq_false h0] at NC
      by_cases h1 : p = 0
      · have e : kinE sc p q = 1 := by unfold kinE; rw [if_pos (.inr (.inl h1))]
        rw [e]
        rw [e] at hE'
        rw [decide_eq_true h1] at NA
        clear hc ha hb hE h0 h1 hend hT e NB SC SA SB
        go_enter Tryd.func39, Tryd.ntmps39
        go_wp2_with fail
        refine NC.mono ?_
        rintro e w' ⟨rfl, rfl⟩
        clear NC
        go_wp2_with fail
        refine NA.mono ?_
        rintro e w' ⟨rfl, rfl⟩
        clear NA
        go_wp2_with fail
        (try rw [Exit.noGoto_ret])
        (try simp only [Exit.inBlock, Exit.then])
        refine bodyPost_ret (v := .tuple #[.bool false, .int .i64 1]) (by simp [results, Tryd.f39, go_sem]) rfl ?_
        exact ⟨_, rfl, ⟨fun h => (by cases h), fun h => absurd h.1 hE'.out⟩, hend'.out⟩
      · rw [decide_eq_false h1] at NA
        by_cases h2 : q = 0
        · have e : kinE sc p q = 1 := by unfold kinE; rw [if_pos (.inr (.inr h2))]
          rw [e]
          rw [e] at hE'
          rw [decide_eq_true h2] at NB
          clear hc ha hb hE h0 h1 h2 hend hT e SC SA SB
          go_enter Tryd.func39, Tryd.ntmps39
          go_wp2_with fail
          refine NC.mono ?_
          rintro e w' ⟨rfl, rfl⟩
          clear NC
          go_wp2_with fail
          refine NA.mono ?_
          rintro e w' ⟨rfl, rfl⟩
          clear NA
          go_wp2_with fail
          refine NB.mono ?_
          rintro e w' ⟨rfl, rfl⟩
          clear NB
          go_wp2_with fail
          (try rw [Exit.noGoto_ret])
          (try simp only [Exit.inBlock, Exit.then])
          refine bodyPost_ret (v := .tuple #[.bool false, .int .i64 1]) (by simp [results, Tryd.f39, go_sem]) rfl ?_
          exact ⟨_, rfl, ⟨fun h => (by cases h), fun h => absurd h.1 hE'.out⟩, hend'.out⟩
        · rw [decide_eq_false h2] at NB
          have hsn : sc ≠ p * q := fun h => hE (by unfold kinE; rw [if_neg (by omega), if_pos h])
          have e : kinE sc p q = 5 := by unfold kinE; rw [if_neg (by omega), if_neg hsn]
          rw [e]
          rw [e] at hE'
          obtain ⟨m, hm⟩ : ∃ m, m = p * q := ⟨_, rfl⟩
          have hmu : (p : Int) * (q : Int) = (m : Int) := by rw [hm, Int.natCast_mul]
          have hm3 : m ≤ 1048576 := by rw [hm]; exact Nat.mul_le_mul hpb hqb
          have hwm : IntKind.i64.wrap (m : Int) = (m : Int) := by rw [IntKind.wrap_i64]; omega
          rw [← hm] at hsn
          obtain ⟨n1, n2, n3⟩ := nat_bne hsn
          clear hc ha hb hE h0 h1 h2 hend hT e hsn hm
          go_enter Tryd.func39, Tryd.ntmps39
          go_wp2_with fail
          refine NC.mono ?_
          rintro e w' ⟨rfl, rfl⟩
          clear NC
          go_wp2_with fail
          refine NA.mono ?_
          rintro e w' ⟨rfl, rfl⟩
          clear NA
          go_wp2_with fail
          refine NB.mono ?_
          rintro e w' ⟨rfl, rfl⟩
          clear NB
          go_wp2_with fail
          refine SC.mono ?_
          rintro e w' ⟨rfl, rfl⟩
          clear SC
          go_wp2_with fail
          refine SA.mono ?_
          rintro e w' ⟨rfl, rfl⟩
          clear SA
          go_wp2_with fail
          refine SB.mono ?_
          rintro e w' ⟨rfl, rfl⟩
          clear SB
          go_wp2_with fail
          (try rw [Exit.noGoto_ret])
          (try simp only [Exit.inBlock, Exit.then])
          refine bodyPost_ret (v := .tuple #[.bool false, .int .i64 5]) (by simp [results, Tryd.f39, go_sem]) rfl ?_
          exact ⟨_, rfl, ⟨fun h => (by cases h), fun h => absurd h.1 hE'.out⟩, hend'.out⟩
end
end Go.Proofs.YtkobbcmndneajaaDoor
