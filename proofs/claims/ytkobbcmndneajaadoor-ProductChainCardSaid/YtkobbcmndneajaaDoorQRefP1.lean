/-
  The document's Fit, Mul, One; the program's Mul, One whatever they are asked.
-/
import Derived.Test.YtkobbcmndneajaaDoorQTimes2
import Derived.Test.YtkobbcmndneajaaDoorQPFit
namespace Go.Proofs.YtkobbcmndneajaaDoor
open Go.RowKit Go.Shelf
set_option linter.unusedVariables false
set_option linter.unusedSimpArgs false
section
set_option maxHeartbeats 1000000
set_option maxRecDepth 100000
theorem rfit_any (w : World) (ao : Option Addr) (n cap : Nat) (hn : n ≤ 1000000) (ss : Nat → Nat) (hA : 0 < n → ∃ g off, ao = some ⟨g, off, none⟩ ∧ g < w.heap.size ∧ ∀ k, k < n → w.cell? ⟨g, off + k * 2, none⟩ = some (.int .i64 (ss k : Nat))) :
    Calls Tryd.prog 85 #[.slice ao n cap] w fun e w' => e = .returned (.int .i64 (fitE ss n : Nat)) ∧ Far (fun _ => False) w w' := by
  have hA' := Lib.hid hA
  clear hA
  go_enter Tryd.func85, Tryd.ntmps85
  go_wp2_with fail
  go_loopw [3] (fun kv wr => ∃ k : Nat, k ≤ n ∧ kv = .int .i64 (k : Nat) ∧ (∀ q, q < k → ss q ≠ 0) ∧ w = wr) (fun kv _ => n - (intOf kv).toNat)
  case atStart => exact ⟨0, Nat.zero_le _, rfl, fun q hq => by omega, rfl⟩
  case round =>
    obtain ⟨k, hk, rfl, h0, rfl⟩ := hrel
    by_cases hlt : k < n
    · have hki : (k : Int) < (n : Int) := by omega
      have hkb : (k : Int) + 1 ≤ 9223372036854775807 := by omega
      obtain ⟨g, off, rfl, hg, hc⟩ := hA'.out (by omega)
      have c0 := hc k hlt
      clear hc
      by_cases hz : ss k = 0
      · have hfe := Lib.hid (fitE_nil hlt hz)
        rw [hz] at c0
        clear h0 hz
        go_wp2_with fail
        go_ret
        exact ⟨by rw [hfe.out]; rfl, Far.refl _ _⟩
      · have hnext := Lib.hid (show ∀ q, q < k + 1 → ss q ≠ 0 from fun q hq => by
          by_cases e : q = k
          · rw [e]; exact hz
          · exact h0 q (by omega))
        obtain ⟨x, hx⟩ : ∃ x, ss k = x := ⟨_, rfl⟩
        rw [hx] at c0 hz
        have hz1 : ((x : Int) == 0) = false := by simp; omega
        clear h0 hz hx
        go_wp2_with fail
        go_roundw
        case rel => exact ⟨k + 1, by omega, by go_num, hnext.out, by first | rfl | trivial⟩
        case measure => simp only [intOf]; omega
    · have e : k = n := by omega
      have h0' := Lib.hid (show ∀ q, q < n → ss q ≠ 0 by rw [← e]; exact h0)
      clear h0 e
      go_wp2_with fail
      go_loopw [4] (fun jv wr => ∃ j : Nat, j ≤ n ∧ jv = .int .i64 (j : Nat) ∧ (∀ q, q < j → ss q = ss 0) ∧ Far (fun _ => False) w wr) (fun jv _ => n - (intOf jv).toNat)
      case atStart => exact ⟨0, Nat.zero_le _, rfl, fun q hq => by omega, Far.refl _ _⟩
      case round =>
        obtain ⟨j, hj, rfl, h1, hf⟩ := hrel
        by_cases hlt2 : j < n
        · have hji : (j : Int) < (n : Int) := by omega
          have hjb : (j : Int) + 1 ≤ 9223372036854775807 := by omega
          have hn0 : (0 : Int) < (n : Int) := by omega
          have hn00 : 0 < n := by omega
          obtain ⟨g, off, rfl, hg, hc⟩ := hA'.out (by omega)
          have c0 : wr.cell? ⟨g, off, none⟩ = some (.int .i64 (ss 0 : Nat)) := by
            have := hc 0 hn00
            rw [Nat.zero_mul, Nat.add_zero] at this
            exact (hf.cell hg).trans this
          have cj : wr.cell? ⟨g, off + j * 2, none⟩ = some (.int .i64 (ss j : Nat)) := (hf.cell hg).trans (hc j hlt2)
          clear hc
          by_cases hs : ss j = ss 0
          · have hnext := Lib.hid (show ∀ q, q < j + 1 → ss q = ss 0 from fun q hq => by
              by_cases e : q = j
              · rw [e]; exact hs
              · exact h1 q (by omega))
            rw [hs] at cj
            obtain ⟨x, hx⟩ : ∃ x, ss 0 = x := ⟨_, rfl⟩
            rw [hx] at c0 cj
            have hf' := Lib.hid hf
            clear h1 hs hx hf
            go_wp2_with fail
            go_quiet (fail)
            have hfd := Lib.hid (hf'.out.then ((Far.refl (fun _ => False) wr).drewN nq))
            go_wp2_with fail
            go_roundw
            case rel => exact ⟨j + 1, by omega, by go_num, hnext.out, hfd.out⟩
            case measure => simp only [intOf]; omega
          · have hfe := Lib.hid (fitE_side h0'.out hlt2 hs)
            obtain ⟨x, hx⟩ : ∃ x, ss 0 = x := ⟨_, rfl⟩
            obtain ⟨y, hy⟩ : ∃ y, ss j = y := ⟨_, rfl⟩
            rw [hx] at c0 hs
            rw [hy] at cj hs
            have hne : ((y : Int) == (x : Int)) = false := by simp; omega
            have hne2 : ((y : Int) != (x : Int)) = true := by simp; omega
            have hf' := Lib.hid hf
            clear h1 hs hx hy hf
            go_wp2_with fail
            go_quiet (fail)
            have hfd := Lib.hid (hf'.out.then ((Far.refl (fun _ => False) wr).drewN nq))
            go_wp2_with fail
            go_ret
            exact ⟨by rw [hfe.out]; rfl, hfd.out⟩
        · have hje : j = n := by omega
          have hfe := Lib.hid (fitE_ok h0'.out (fun q hq => h1 q (by omega)))
          clear h1 hje
          go_wp2_with fail
          go_ret
          exact ⟨by rw [hfe.out]; rfl, hf⟩
/-- What Mul answers. -/
def mulE (sa sb : Nat) : Nat := fitE (fun k => if k = 0 then sa else sb) 2
def mulSd (sa sb : Nat) : Nat := if mulE sa sb = 0 then sa else 0
def mulMM (sa sb : Nat) (A B : Nat → Nat → Bool) : Nat → Nat → Bool := if mulE sa sb = 0 then mulM A B else zeroM
theorem mulE_ok {sa sb : Nat} (h : mulE sa sb = 0) : sa = sb ∧ sa ≠ 0 := by
  unfold mulE at h
  have h0 : ∀ k, k < 2 → (fun k => if k = 0 then sa else sb) k ≠ 0 := fun k hk hz => by
    rw [fitE_nil hk hz] at h; cases h
  have h1 : (fun k => if k = 0 then sa else sb) 1 = (fun k => if k = 0 then sa else sb) 0 := by
    by_cases e : (fun k => if k = 0 then sa else sb) 1 = (fun k => if k = 0 then sa else sb) 0
    · exact e
    · rw [fitE_side h0 (by decide : 1 < 2) e] at h; cases h
  have h2 := h0 0 (by decide)
  simp at h1 h2
  exact ⟨h1.symm, h2⟩
theorem HasF.has {w : World} {v : Value} {F : Nat → Prop} {s : Nat} {M : Nat → Nat → Bool} (h : HasF w v F s M) : HasSide w v s := by
  rcases h with ⟨e, h0, _⟩ | ⟨B, e, hX⟩
  · exact .inl ⟨e, h0⟩
  · exact .inr ⟨B, F, M, e, hX⟩
theorem HasF.mx {w : World} {v : Value} {F : Nat → Prop} {s : Nat} {M : Nat → Nat → Bool} (h : HasF w v F s M) (h0 : s ≠ 0) : ∃ B, v = .pointer (some ⟨B, 0, Option.none⟩) ∧ Mx w B F s M := by
  rcases h with ⟨_, h1, _⟩ | h
  · exact absurd h1 h0
  · exact h
theorem pMul_any {w : World} {va vb : Value} {Fa Fb : Nat → Prop} {sa sb : Nat} {A B : Nat → Nat → Bool} (ha : HasF w va Fa sa A) (hb : HasF w vb Fb sb B) (hT : Tab w) : Calls Tryd.prog 81 #[va, vb] w fun e w' => ∃ v, e = .returned (.tuple #[v, .int .i64 (mulE sa sb : Nat)]) ∧ ∃ F', HasF w' v F' (mulSd sa sb) (mulMM sa sb A B) ∧ (∀ k, F' k → w.heap.size ≤ k) ∧ Far (fun _ => False) w w' := by
  unfold mulSd mulMM
  by_cases h : mulE sa sb = 0
  · obtain ⟨rfl, h0⟩ := mulE_ok h
    obtain ⟨Ba, rfl, hXa⟩ := ha.mx h0
    obtain ⟨Bb, rfl, hXb⟩ := hb.mx h0
    rw [if_pos h, if_pos h, h]
    refine (pMul_yes hXa hXb hT).mono ?_
    rintro e w' ⟨B', rfl, F', hX, hlo, hf⟩
    exact ⟨_, rfl, F', .inr ⟨B', rfl, hX⟩, hlo, hf⟩
  · rw [if_neg h, if_neg h]
    refine (pMul_no ha.has hb.has h).mono ?_
    rintro e w' ⟨rfl, hf⟩
    exact ⟨_, rfl, _, HasF.none _, fun _ h => h.elim, hf⟩
end
end Go.Proofs.YtkobbcmndneajaaDoor
