/-
  One of the program and of the document, whatever side is asked for; few.
-/
import Derived.Test.YtkobbcmndneajaaDoorQRefP2
namespace Go.Proofs.YtkobbcmndneajaaDoor
open Go.RowKit Go.Shelf
set_option linter.unusedVariables false
set_option linter.unusedSimpArgs false
def oneS (s : Int) : Nat := if sideOK s = true then s.toNat else 0
def oneMM (s : Int) : Nat → Nat → Bool := if sideOK s = true then oneM s.toNat else zeroM
def oneE (s : Int) : Nat := if sideOK s = true then 0 else 2
theorem oneM_within (s : Nat) : ∀ r c, oneM s r c = true → r < s ∧ c < s := fun r c h => by
  unfold oneM at h
  rw [Bool.and_eq_true, decide_eq_true_eq, decide_eq_true_eq] at h
  omega
theorem one_cells {s i : Nat} (hi : i < s) : cellsK (oneM s) s (i + 1) = cellsK (oneM s) s i ++ [(i, i)] := by
  rw [cellsK_succ]
  congr 1
  have : colsM (oneM s) s i = [i] := by
    have h1 : ((colsM (oneM s) s i).map fun c => (i, c)) = [(i, i)] := by
      refine rise_eq ?_ (List.pairwise_singleton _ _) fun x => ?_
      · rw [List.pairwise_map]
        exact (colsM_rise _ _ _).imp fun h => .inr ⟨rfl, h⟩
      · rw [List.mem_map, List.mem_singleton]
        constructor
        · rintro ⟨c, hc, rfl⟩
          have := (mem_colsM.1 hc).2
          unfold oneM at this
          rw [Bool.and_eq_true, decide_eq_true_eq] at this
          rw [← this.1]
        · rintro rfl
          exact ⟨i, mem_colsM.2 ⟨hi, by unfold oneM; simp [hi]⟩, rfl⟩
    have h2 := congrArg (List.map Prod.snd) h1
    simpa [List.map_map, Function.comp_def] using h2
  rw [this]; rfl
section
set_option maxHeartbeats 4000000
set_option maxRecDepth 100000
theorem rfew_any (w : World) (g off n cap : Nat) (hn : n ≤ 1000000) (sv : Nat → Value) (av : Nat → Option Addr) (ls cs : Nat → Nat) (hc : ∀ k, k < n → w.cell? ⟨g, off + k * 2 + 1, none⟩ = some (.slice (av k) (ls k) (cs k))) :
    Calls Tryd.prog 24 #[.slice (some ⟨g, off, none⟩) n cap] w fun e w' => e = .returned (.bool ((List.range n).all fun k => decide (ls k ≤ 400))) ∧ w = w' := by
  have hc' := Lib.hid hc
  clear hc
  go_enter Tryd.func24, Tryd.ntmps24
  go_wp2_with fail
  go_loopw [3] (fun kv wr => ∃ k : Nat, k ≤ n ∧ kv = .int .i64 (k : Nat) ∧ (∀ q, q < k → ls q ≤ 400) ∧ w = wr) (fun kv _ => n - (intOf kv).toNat)
  case atStart => exact ⟨0, Nat.zero_le _, rfl, fun q hq => by omega, rfl⟩
  case round =>
    obtain ⟨k, hk, rfl, h0, rfl⟩ := hrel
    by_cases hlt : k < n
    · have hki : (k : Int) < (n : Int) := by omega
      have hkb : (k : Int) + 1 ≤ 9223372036854775807 := by omega
      have c0 := hc'.out k hlt
      obtain ⟨l, hl⟩ : ∃ l, ls k = l := ⟨_, rfl⟩
      obtain ⟨a, ha⟩ : ∃ a, av k = a := ⟨_, rfl⟩
      obtain ⟨c, hcc⟩ : ∃ c, cs k = c := ⟨_, rfl⟩
      rw [hl, ha, hcc] at c0
      by_cases h4 : l ≤ 400
      · have hnext := Lib.hid (show ∀ q, q < k + 1 → ls q ≤ 400 from fun q hq => by
          by_cases e : q = k
          · rw [e, hl]; exact h4
          · exact h0 q (by omega))
        have h4i : ¬ (400 : Int) < (l : Int) := by omega
        have h4n : ¬ 400 < l := by omega
        clear h0 hl ha hcc
        go_wp2_with fail
        go_roundw
        case rel => exact ⟨k + 1, by omega, by go_num, hnext.out, by first | rfl | trivial⟩
        case measure => simp only [intOf]; omega
      · have hno := Lib.hid (show ((List.range n).all fun k => decide (ls k ≤ 400)) = false by
          cases hh : (List.range n).all fun k => decide (ls k ≤ 400)
          · rfl
          · have := of_decide_eq_true (all_range.1 hh k hlt)
            rw [hl] at this; exact absurd this h4)
        have h4i : (400 : Int) < (l : Int) := by omega
        have h4n : 400 < l := by omega
        clear h0 hl ha hcc
        go_wp2_with fail
        go_ret
        exact ⟨by rw [hno.out]; rfl, rfl⟩
    · have e : k = n := by omega
      have hyes := Lib.hid (show ((List.range n).all fun k => decide (ls k ≤ 400)) = true from all_range.2 fun q hq => decide_eq_true (h0 q (by omega)))
      clear h0 e
      go_wp2_with fail
      go_ret
      exact ⟨by rw [hyes.out]; rfl, rfl⟩
end
end Go.Proofs.YtkobbcmndneajaaDoor
