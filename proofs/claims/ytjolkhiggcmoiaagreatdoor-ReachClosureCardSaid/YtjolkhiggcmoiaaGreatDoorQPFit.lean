/-
  fit, Mul, One; the fold of the laws.
-/
import Derived.Test.YtjolkhiggcmoiaaGreatDoorQPMul
import Derived.BigQuiet
namespace Go.Proofs.YtjolkhiggcmoiaaGreatDoor
open Go.RowKit Go.Shelf
set_option linter.unusedVariables false
set_option linter.unusedSimpArgs false
/-- A matrix of a side, or none (of the side 0). -/
def HasSide (w : World) (v : Value) (s : Nat) : Prop := (v = .pointer none ∧ s = 0) ∨ ∃ B F M, v = .pointer (some ⟨B, 0, none⟩) ∧ Mx w B F s M
theorem HasSide.still {w w' : World} {v : Value} {s : Nat} (h : HasSide w v s) (hf : Far (fun _ => False) w w') : HasSide w' v s :=
  h.imp id fun ⟨B, F, M, e, hX⟩ => ⟨B, F, M, e, hX.still hf⟩
theorem HasSide.side {w : World} {v : Value} {s : Nat} (h : HasSide w v s) : Calls Tryz.prog 21 #[v] w fun e w' => e = .returned (.int .i64 (s : Nat)) ∧ w = w' := by
  rcases h with ⟨rfl, rfl⟩ | ⟨B, F, M, rfl, hX⟩
  · exact qside_nil w
  · exact hX.side
theorem HasSide.le {w : World} {v : Value} {s : Nat} (h : HasSide w v s) : s ≤ 1024 := by
  rcases h with ⟨_, rfl⟩ | ⟨B, F, M, _, hX⟩
  · omega
  · exact hX.sides.2
theorem HasSide.ptr {w : World} {v : Value} {s : Nat} (h : HasSide w v s) : ∃ a, v = .pointer a := by
  rcases h with ⟨rfl, rfl⟩ | ⟨B, F, M, rfl, hX⟩
  · exact ⟨_, rfl⟩
  · exact ⟨_, rfl⟩
theorem Mx.has {w : World} {B s : Nat} {F : Nat → Prop} {M : Nat → Nat → Bool} (h : Mx w B F s M) : HasSide w (.pointer (some ⟨B, 0, none⟩)) s := .inr ⟨B, F, M, rfl, h⟩
/-- What fit answers. -/
def fitE (ss : Nat → Nat) (n : Nat) : Nat := if (List.range n).all (fun k => decide (ss k ≠ 0)) then (if (List.range n).all (fun k => decide (ss k = ss 0)) then 0 else 5) else 1
theorem all_range {p : Nat → Bool} {n : Nat} : (List.range n).all p = true ↔ ∀ k, k < n → p k = true := by
  rw [List.all_eq_true]
  exact ⟨fun h k hk => h k (List.mem_range.2 hk), fun h k hk => h k (List.mem_range.1 hk)⟩
theorem fitE_nil {ss : Nat → Nat} {n k : Nat} (hk : k < n) (h : ss k = 0) : fitE ss n = 1 := by
  unfold fitE
  rw [if_neg]
  intro h2
  have := all_range.1 h2 k hk
  simp [h] at this
theorem fitE_side {ss : Nat → Nat} {n k : Nat} (h0 : ∀ k, k < n → ss k ≠ 0) (hk : k < n) (h : ss k ≠ ss 0) : fitE ss n = 5 := by
  unfold fitE
  rw [if_pos (all_range.2 fun k hk => by simpa using h0 k hk), if_neg]
  intro h2
  have := all_range.1 h2 k hk
  simp [h] at this
theorem fitE_ok {ss : Nat → Nat} {n : Nat} (h0 : ∀ k, k < n → ss k ≠ 0) (h1 : ∀ k, k < n → ss k = ss 0) : fitE ss n = 0 := by
  unfold fitE
  rw [if_pos (all_range.2 fun k hk => by simpa using h0 k hk), if_pos (all_range.2 fun k hk => by simpa using h1 k hk)]
section
set_option maxHeartbeats 8000000
set_option maxRecDepth 100000
theorem pnone_any {w : World} {v : Value} {s : Nat} (h : HasSide w v s) : Calls Tryz.prog 54 #[v] w fun e w' => e = .returned (.bool (decide (s = 0))) ∧ w = w' := by
  have SD := h.side
  have hle := h.le
  obtain ⟨a, rfl⟩ := h.ptr
  clear h
  go_enter Tryz.func54, Tryz.ntmps54
  go_wp2_with fail
  refine SD.mono ?_
  rintro e w' ⟨rfl, rfl⟩
  clear SD
  by_cases h0 : s = 0
  · subst h0
    go_wp2_with fail
    go_ret
    exact ⟨rfl, rfl⟩
  · have e1 : ((s : Int) == 0) = false := by simp; omega
    go_wp2_with fail
    go_ret
    exact ⟨by rw [decide_eq_false h0]; rfl, rfl⟩
theorem fit_any (w : World) (g off n cap : Nat) (hn : n ≤ 1000000) (vs : Nat → Value) (ss : Nat → Nat) (hg : g < w.heap.size) (hc : ∀ k, k < n → w.cell? ⟨g, off + k, none⟩ = some (vs k)) (hs : ∀ k, k < n → HasSide w (vs k) (ss k)) :
    Calls Tryz.prog 107 #[.slice (some ⟨g, off, none⟩) n cap] w fun e w' => e = .returned (.int .i64 (fitE ss n : Nat)) ∧ Far (fun _ => False) w w' := by
  have hc' := Lib.hid hc
  have hs' := Lib.hid hs
  clear hc hs
  go_enter Tryz.func107, Tryz.ntmps107
  go_wp2_with fail
  go_loopw [4, 9] (fun _ iv wr => ∃ k : Nat, k ≤ n ∧ iv = .int .i64 (k : Nat) ∧ (∀ q, q < k → ss q ≠ 0) ∧ wr = w) (fun _ iv _ => n - (intOf iv).toNat)
  case atStart => exact ⟨0, Nat.zero_le _, rfl, (fun q h => absurd h (Nat.not_lt_zero _)), rfl⟩
  case round =>
    obtain ⟨k, hk, rfl, h0, rfl⟩ := hrel
    by_cases hlt : k < n
    · have hki : (k : Int) < (n : Int) := by omega
      have c0 := hc'.out k hlt
      have NO := pnone_any (hs'.out k hlt)
      obtain ⟨a, ha⟩ := (hs'.out k hlt).ptr
      rw [ha] at c0 NO
      have h0' := Lib.hid h0
      clear h0 ha
      go_wp2_with fail
      refine NO.mono ?_
      rintro e w' ⟨rfl, rfl⟩
      clear NO
      by_cases hz : ss k = 0
      · have hfe := fitE_nil hlt hz
        have e1 : decide (ss k = 0) = true := by rw [decide_eq_true_eq]; exact hz
        have hfe' := Lib.hid hfe
        clear hfe
        rw [e1]
        clear hz e1
        go_wp2_with fail
        go_ret
        exact ⟨by rw [hfe'.out]; rfl, Far.refl _ _⟩
      · have e1 : decide (ss k = 0) = false := by rw [decide_eq_false_iff_not]; exact hz
        have hz' := Lib.hid hz
        rw [e1]
        clear hz e1
        go_wp2_with fail
        go_roundw
        case rel => exact ⟨k + 1, by omega, by go_num, (fun q hq => by
          rcases Nat.lt_or_ge q k with h | h
          · exact h0'.out q h
          · rw [show q = k by omega]; exact hz'.out), trivial⟩
        case measure => simp [intOf]; omega
    · have hke : k = n := by omega
      subst hke
      have h0' := Lib.hid h0
      clear h0
      go_wp2_with fail
      obtain ⟨wo, rfl⟩ : ∃ wo : World, wo = wr := ⟨_, rfl⟩
      go_loopw [6, 18] (fun _ iv wq => ∃ j : Nat, j ≤ k ∧ iv = .int .i64 (j : Nat) ∧ (∀ q, q < j → ss q = ss 0) ∧ Far (fun _ => False) wo wq) (fun _ iv _ => k - (intOf iv).toNat)
      case atStart => exact ⟨0, Nat.zero_le _, rfl, (fun q h => absurd h (Nat.not_lt_zero _)), Far.refl _ _⟩
      case round =>
        obtain ⟨j, hj, rfl, h1, hf⟩ := hrel
        by_cases hjl : j < k
        · have hji : (j : Int) < (k : Int) := by omega
          have h0i : (0 : Int) < (k : Int) := by omega
          have c0 : wr.cell? ⟨g, off + j, none⟩ = some (vs j) := (hf.cell hg).trans (hc'.out j hjl)
          have c1 : wr.cell? ⟨g, off, none⟩ = some (vs 0) := (hf.cell hg).trans (by have := hc'.out 0 (by omega); rw [Nat.add_zero] at this; exact this)
          have SJ : ∀ q : Nat, Calls Tryz.prog 21 #[vs j] (wr.drewN q) fun e w' => e = .returned (.int .i64 (ss j : Nat)) ∧ w' = wr.drewN q := fun q =>
            ((hs'.out j hjl).still (hf.then ((Far.refl _ wr).drewN q))).side.mono fun e w' h => ⟨h.1, h.2.symm⟩
          have S0 : ∀ q : Nat, Calls Tryz.prog 21 #[vs 0] (wr.drewN q) fun e w' => e = .returned (.int .i64 (ss 0 : Nat)) ∧ w' = wr.drewN q := fun q =>
            ((hs'.out 0 (by omega)).still (hf.then ((Far.refl _ wr).drewN q))).side.mono fun e w' h => ⟨h.1, h.2.symm⟩
          obtain ⟨aj, haj⟩ := (hs'.out j hjl).ptr
          obtain ⟨a0, ha0⟩ := (hs'.out 0 (by omega)).ptr
          have hlj := (hs'.out j hjl).le
          have hl0 := (hs'.out 0 (by omega)).le
          rw [haj] at c0 SJ
          rw [ha0] at c1 S0
          have h1' := Lib.hid h1
          have hf' := Lib.hid hf
          clear h1 hf haj ha0
          go_wp2_with fail
          obtain ⟨sj, hsj⟩ : ∃ x, ss j = x := ⟨_, rfl⟩
          obtain ⟨s0, hs0⟩ : ∃ x, ss 0 = x := ⟨_, rfl⟩
          rw [hsj] at SJ hlj
          rw [hs0] at S0 hl0
          have hsj' := Lib.hid hsj
          have hs0' := Lib.hid hs0
          clear hsj hs0
          by_cases hz : sj = s0
          · have e1 : ((sj : Int) != (s0 : Int)) = false := by simp [hz]
            have hz' := Lib.hid hz
            clear hz
            go_quiet (first | (go_at_call 21; exact Calls.quiet_of_same (SJ _)) | (go_at_call 21; exact Calls.quiet_of_same (S0 _)))
            have hfd := Lib.hid (hf'.out.then ((Far.refl (fun _ => False) wr).drewN nq))
            go_wp2_with fail
            go_roundw
            case rel => exact ⟨j + 1, by omega, by go_num, (fun q hq => by
              rcases Nat.lt_or_ge q j with h | h
              · exact h1'.out q h
              · rw [show q = j by omega, hsj'.out, hs0'.out]; exact hz'.out), hfd.out⟩
            case measure => simp [intOf]; omega
          · have e1 : ((sj : Int) != (s0 : Int)) = true := by simp; omega
            have hfe := Lib.hid (fitE_side h0'.out hjl (by rw [hsj'.out, hs0'.out]; exact hz))
            clear hz
            go_quiet (first | (go_at_call 21; exact Calls.quiet_of_same (SJ _)) | (go_at_call 21; exact Calls.quiet_of_same (S0 _)))
            have hfd := Lib.hid (hf'.out.then ((Far.refl (fun _ => False) wr).drewN nq))
            go_wp2_with fail
            go_ret
            exact ⟨by rw [hfe.out]; rfl, hfd.out⟩
        · have hje : j = k := by omega
          subst hje
          have hfe := fitE_ok h0'.out h1
          have hfe' := Lib.hid hfe
          clear hfe h1
          go_wp2_with fail
          go_ret
          exact ⟨by rw [hfe'.out]; rfl, hf⟩
/-- The unit. -/
def oneM (side : Nat) : Nat → Nat → Bool := fun r c => decide (r = c) && decide (r < side)
theorem putL_one (side : Nat) : ∀ r c, putL (fun k => k) (fun k => k) side r c = oneM side r c := fun r c => by
  rw [Bool.eq_iff_iff, putL_iff]
  unfold oneM
  rw [Bool.and_eq_true, decide_eq_true_eq, decide_eq_true_eq]
  constructor
  · rintro ⟨q, hq, rfl, h⟩
    exact ⟨h.symm, hq⟩
  · rintro ⟨h1, h2⟩
    exact ⟨r, h2, rfl, h1.symm⟩
end
end Go.Proofs.YtjolkhiggcmoiaaGreatDoor
