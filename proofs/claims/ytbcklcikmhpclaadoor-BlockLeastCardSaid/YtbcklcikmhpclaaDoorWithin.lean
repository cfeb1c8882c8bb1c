/-
  within, and what the closure's least says of it.
-/
import Derived.Test.YtbcklcikmhpclaaDoorClose
import Derived.Test.YtbcklcikmhpclaaDoorSmall
namespace Go.Proofs.YtbcklcikmhpclaaDoor
open Go.RowKit
set_option linter.unusedVariables false
set_option linter.unusedSimpArgs false
def okB (f g : Nat → Nat) (i : Nat) : Bool := f i &&& g i == f i
def withinB (f g : Nat → Nat) : Bool := (List.range 64).all (okB f g)
theorem within_true {f g : Nat → Nat} : withinB f g = true ↔ ∀ i, i < 64 → okB f g i = true := by
  unfold withinB; rw [List.all_eq_true]; simp
theorem okB_iff {f g : Nat → Nat} (hf : Wf f) (i : Nat) (hi : i < 64) : okB f g i = true ↔ ∀ c, c < 64 → bt f i c = true → bt g i c = true := by
  unfold okB
  rw [beq_iff_eq]
  constructor
  · intro h c hc hb
    unfold bt at hb ⊢
    rw [← h, Nat.testBit_and, Bool.and_eq_true] at hb
    exact hb.2
  · intro h
    refine word_eq (Nat.lt_of_le_of_lt Nat.and_le_left (hf i hi)) (hf i hi) fun c hc => ?_
    rw [Nat.testBit_and]
    have := h c hc
    unfold bt at this
    cases h1 : (f i).testBit c
    · simp
    · rw [this h1]; rfl
theorem within_iff {f g : Nat → Nat} (hf : Wf f) : withinB f g = true ↔ ∀ r c, r < 64 → c < 64 → bt f r c = true → bt g r c = true := by
  rw [within_true]
  exact ⟨fun h r c hr hc => (okB_iff hf r hr).1 (h r hr) c hc, fun h r hr => (okB_iff hf r hr).2 fun c hc => h r c hr hc⟩
section
set_option maxHeartbeats 1000000
set_option maxRecDepth 100000
theorem within_any (f g : Nat → Nat) (w : World) (hf : Wf f) (hg : Wf g) :
    Calls Tryd.prog 22 #[.agg (Rw f), .agg (Rw g)] w fun e w' => e = .returned (.bool (withinB f g)) ∧ Below w.heap.size w w' := by
  go_enter Tryd.func22, Tryd.ntmps22
  go_wp2_with fail
  go_loopw [5] (fun i wr => ∃ k : Nat, k ≤ 64 ∧ i = .int .i64 k ∧ (∀ j, j < k → okB f g j = true) ∧ Hold wr w.heap.size (Rw f) ∧ Hold wr (w.heap.size + 1) (Rw g) ∧ Below w.heap.size w wr) (fun i _ => 64 - (intOf i).toNat)
  case atStart => exact ⟨0, Nat.zero_le _, rfl, fun _ h => absurd h (Nat.not_lt_zero _), (Hold.new rfl).alloc _, Hold.new (by simp), ((Below.refl _ _).alloc (Nat.le_refl _) _).alloc (by simp) _⟩
  case round =>
    obtain ⟨k, hk, rfl, hok, d, d1, db⟩ := hrel
    have HO := Lib.hid hok
    clear hok
    by_cases hlt : k < 64
    · have hki : (k : Int) < 64 := by omega
      have hA := bits_and64 (f k) (g k) (hf k hlt) (hg k hlt)
      cases hb : okB f g k
      · have hq : (((f k &&& g k : Nat) : Int) != ((f k : Nat) : Int)) = true := by
          unfold okB at hb; simp at hb ⊢; omega
        have HF : Hid (withinB f g = false) := Lib.hid (by
          cases h : withinB f g
          · rfl
          · rw [within_true.1 h k hlt] at hb; cases hb)
        go_wp2_with fail
        refine still_all (by kernel_rfl) (by kernel_rfl) fun wd hwd => ?_
        have c1 := (d.drew_eq hwd).cell (Rw_get _ k hlt)
        have c2 := (d1.drew_eq hwd).cell (Rw_get _ k hlt)
        have eb := Below.drew_eq db hwd
        clear hwd d d1 db
        repeat still_step
        refine wpStill_nil ?_
        go_wp2_with fail
        go_ret
        exact ⟨by rw [HF.out]; rfl, eb⟩
      · have hq : (((f k &&& g k : Nat) : Int) != ((f k : Nat) : Int)) = false := by
          unfold okB at hb; simp at hb ⊢; omega
        have Hb := Lib.hid hb
        clear hb
        go_wp2_with fail
        refine still_all (by kernel_rfl) (by kernel_rfl) fun wd hwd => ?_
        have e := d.drew_eq hwd
        have e1 := d1.drew_eq hwd
        have c1 := e.cell (Rw_get _ k hlt)
        have c2 := e1.cell (Rw_get _ k hlt)
        have eb := Below.drew_eq db hwd
        clear hwd d d1 db
        repeat still_step
        refine wpStill_nil ?_
        go_wp2_with fail
        go_roundw
        case rel => exact ⟨k + 1, by omega, by go_num, fun j hj => by rcases Nat.lt_succ_iff_lt_or_eq.1 hj with h | h; exact HO.out j h; rw [h]; exact Hb.out, e, e1, eb⟩
        case measure => simp [intOf]; omega
    · have e : k = 64 := by omega
      subst e
      have HF : Hid (withinB f g = true) := Lib.hid (within_true.2 HO.out)
      go_wp2_with fail
      go_ret
      exact ⟨by rw [HF.out]; rfl, db⟩
end
end Go.Proofs.YtbcklcikmhpclaaDoor
