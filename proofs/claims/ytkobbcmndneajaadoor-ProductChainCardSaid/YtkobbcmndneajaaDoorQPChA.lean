/-
  product.Chain whatever it is handed.
-/
import Derived.Test.YtkobbcmndneajaaDoorQPChain
import Derived.Test.YtkobbcmndneajaaDoorQPInto
namespace Go.Proofs.YtkobbcmndneajaaDoor
open Go.RowKit Go.Shelf
set_option linter.unusedVariables false
set_option linter.unusedSimpArgs false
def chE (ss : Nat → Nat) (n : Nat) : Nat := if n = 0 then 2 else fitE ss n
def chS (ss : Nat → Nat) (n : Nat) : Nat := if chE ss n = 0 then ss 0 else 0
def chMM (ss : Nat → Nat) (Ms : Nat → Nat → Nat → Bool) (n : Nat) : Nat → Nat → Bool := if chE ss n = 0 then chainM Ms (n - 1) else zeroM
theorem chE_ok {ss : Nat → Nat} {n : Nat} (h : chE ss n = 0) : 1 ≤ n ∧ (∀ k, k < n → ss k ≠ 0) ∧ ∀ k, k < n → ss k = ss 0 := by
  unfold chE at h
  split at h
  · cases h
  · have h0 : ∀ k, k < n → ss k ≠ 0 := fun k hk hz => by rw [fitE_nil hk hz] at h; cases h
    refine ⟨by omega, h0, fun k hk => ?_⟩
    by_cases e : ss k = ss 0
    · exact e
    · rw [fitE_side h0 hk e] at h; cases h
section
set_option maxHeartbeats 4000000
set_option maxRecDepth 100000
theorem pChain_any (w : World) (ao : Option Addr) (n cap : Nat) (hn : n ≤ 1000000) (hcap : n ≤ cap) (vs : Nat → Value) (Fs : Nat → Nat → Prop) (ss : Nat → Nat) (Ms : Nat → Nat → Nat → Bool) (hA : 0 < n → ∃ g off, ao = some ⟨g, off, none⟩ ∧ g < w.heap.size ∧ ∀ k, k < n → w.cell? ⟨g, off + k, none⟩ = some (vs k)) (hs : ∀ k, k < n → HasF w (vs k) (Fs k) (ss k) (Ms k)) (hT : Tab w) :
    Calls Tryd.prog 30 #[.slice ao n cap] w fun e w' => ∃ v, e = .returned (.tuple #[v, .int .i64 (chE ss n : Nat)]) ∧ ∃ F', HasF w' v F' (chS ss n) (chMM ss Ms n) ∧ (∀ k, F' k → w.heap.size ≤ k) ∧ Far (fun _ => False) w w' := by
  unfold chS chMM
  by_cases hE : chE ss n = 0
  · obtain ⟨h1, h0, h2⟩ := chE_ok hE
    rw [hE, if_pos rfl, if_pos rfl]
    obtain ⟨g, off, rfl, hg, hc⟩ := hA (by omega)
    have hB : ∀ k, ∃ B, k < n → vs k = .pointer (some ⟨B, 0, none⟩) ∧ Mx w B (Fs k) (ss 0) (Ms k) := fun k => by
      by_cases hk : k < n
      · obtain ⟨B, e, hX⟩ := (hs k hk).mx (h0 k hk)
        exact ⟨B, fun _ => ⟨e, h2 k hk ▸ hX⟩⟩
      · exact ⟨0, fun h => absurd h hk⟩
    obtain ⟨Bs, hBs⟩ := Classical.axiomOfChoice hB
    refine (chain_yes w g off n cap h1 hn hcap (ss 0) Bs Fs Ms hg (fun k hk => (hc k hk).trans (by rw [(hBs k hk).1])) (fun k hk => (hBs k hk).2) hT).mono ?_
    rintro e w' ⟨B', rfl, F', hX, hlo, hf⟩
    exact ⟨_, rfl, F', .inr ⟨B', rfl, hX⟩, hlo, hf⟩
  · rw [if_neg hE, if_neg hE]
    by_cases h0 : n = 0
    · have e : chE ss n = 2 := by unfold chE; rw [if_pos h0]
      rw [e]
      subst h0
      clear hA hs hT e hE
      go_enter Tryd.func30, Tryd.ntmps30
      go_wp2_with fail
      (try rw [Exit.noGoto_ret])
      (try simp only [Exit.inBlock, Exit.then])
      refine bodyPost_ret (v := .tuple #[.pointer none, .int .i64 2]) (by simp [results, Tryd.f30, go_sem]) rfl ?_
      exact ⟨_, rfl, _, HasF.none _, fun _ h => h.elim, Far.refl _ _⟩
    · obtain ⟨g, off, rfl, hg, hc⟩ := hA (by omega)
      have FT := fit_any w g off n cap hn vs ss hg hc (fun k hk => (hs k hk).has)
      have e : chE ss n = fitE ss n := by unfold chE; rw [if_neg h0]
      rw [e] at hE ⊢
      obtain ⟨E, hEE⟩ : ∃ E, fitE ss n = E := ⟨_, rfl⟩
      rw [hEE] at FT hE ⊢
      have E0 := nat_beq0 hE
      have E1 : ((E : Int) != 0) = true := by simp; omega
      have E2 : ¬ (E : Int) = 0 := by omega
      have n0 := nat_beq0 h0
      clear hA hs hT e hE hEE hc
      go_enter Tryd.func30, Tryd.ntmps30
      go_wp2_with fail
      refine FT.mono ?_
      rintro e w2 ⟨rfl, hf2⟩
      have hf2' := Lib.hid hf2
      clear FT hf2
      go_wp2_with fail
      (try rw [Exit.noGoto_ret])
      (try simp only [Exit.inBlock, Exit.then])
      refine bodyPost_ret (v := .tuple #[.pointer none, .int .i64 (E : Nat)]) (by simp [results, Tryd.f30, go_sem]) rfl ?_
      exact ⟨_, rfl, _, HasF.none _, fun _ h => h.elim, hf2'.out⟩
end
end Go.Proofs.YtkobbcmndneajaaDoor
