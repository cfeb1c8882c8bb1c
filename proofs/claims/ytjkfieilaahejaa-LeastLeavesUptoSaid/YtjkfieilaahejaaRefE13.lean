/-
  The document's Shortest, Empty.
-/
import Derived.Test.YtjkfieilaahejaaRefLeast13
import Derived.Test.YtjkfieilaahejaaGood13
namespace Go.Proofs.Ytjkfieilaahejaa
open Go.RowKit
set_option linter.unusedVariables false
set_option linter.unusedSimpArgs false
theorem BRow.congr {w : World} {g n : Nat} {f f' : Nat → Bool} (h : BRow w g n f) (e : ∀ k, k < n → f k = f' k) : BRow w g n f' := by
  unfold BRow at *
  have : bcells n f = bcells n f' := by
    unfold bcells
    congr 1
    exact List.map_congr_left fun k hk => by rw [e k (List.mem_range.1 hk)]
  rw [← this]
  exact h
section
set_option maxHeartbeats 4000000
set_option maxRecDepth 100000
theorem rshort_any (S : Nat) (pv : Value) (T : List Tr) (w : World) (hP : Prods w pv T) (hs : T.length ≤ 4398046510976) (hs2 : ∀ t ∈ T, t.2.2.length ≤ maxLen) (hok : CnfOK (S : Int) T) :
    Calls Try.prog 54 #[.agg #[.int .i64 (S : Int), pv]] w fun e w' => Far (fun _ => False) w w' ∧ ∃ gR s, e = .returned (.slice (some ⟨gR, 0, none⟩) S S) ∧ w.heap.size ≤ gR ∧ IRow w' gR S s ∧ ClosedS T s ∧ LeastS T s ∧ RngS s := by
  obtain ⟨h0, hh0⟩ : ∃ h, h = w.heap.size := ⟨_, rfl⟩
  obtain ⟨ao, ac, rfl⟩ := Src.form hP.1
  obtain ⟨w1, hw1⟩ : ∃ w1, w1 = w.alloc (.cells #[.int .i64 (S : Int), .slice ao T.length ac] 24) := ⟨_, rfl⟩
  have hF1 : Far (fun _ => False) w w1 := hw1 ▸ alloc_far0 _ _
  have hX : Bk w1 h0 24 #[.int .i64 (S : Int), .slice ao T.length ac] := hw1 ▸ Bk.new hh0
  have a0 : w1.cell? ⟨h0, 0, none⟩ = some (.int .i64 (S : Int)) := hX.cell 0
  have a1 : w1.cell? ⟨h0, 1, none⟩ = some (.slice ao T.length ac) := hX.cell 1
  have RL := rleast_any S (.slice ao T.length ac) T w1 (hP.move hF1) hs hs2 hok
  have hS2 : S ≤ 1024 := by have := hok.1.2; omega
  have hF1' := Lib.hid hF1
  have hw1' := Lib.hid hw1
  have hh0' := Lib.hid hh0
  clear hP hs hs2 hok hX hF1 hw1 hh0
  go_enter Try.func54, Try.ntmps54
  go_upto_region 1 with fail
  rw [← hh0'.out, ← hw1'.out]
  go_wp2_with fail
  refine RL.mono ?_
  rintro e w2 ⟨hf2, gR, s, rfl, hg, hall⟩
  have hF2 := Lib.hid (hF1'.out.then hf2)
  have hg' := Lib.hid (Nat.le_trans hF1'.out.size hg)
  have hall' := Lib.hid hall
  clear RL hf2 hg hall a0 a1
  go_wp2_with fail
  go_ret
  exact ⟨hF2.out, gR, s, rfl, hg'.out, hall'.out⟩
theorem rempty_any (S : Nat) (pv : Value) (T : List Tr) (w : World) (hP : Prods w pv T) (hs : T.length ≤ 4398046510976) (hs2 : ∀ t ∈ T, t.2.2.length ≤ maxLen) (hok : CnfOK (S : Int) T) :
    Calls Try.prog 30 #[.agg #[.int .i64 (S : Int), pv]] w fun e w' => Far (fun _ => False) w w' ∧ ∃ gB s, e = .returned (.slice (some ⟨gB, 0, none⟩) S S) ∧ BRow w' gB S (fun k => (s k == 0)) ∧ ClosedS T s ∧ LeastS T s ∧ RngS s := by
  obtain ⟨h0, hh0⟩ : ∃ h, h = w.heap.size := ⟨_, rfl⟩
  obtain ⟨ao, ac, rfl⟩ := Src.form hP.1
  obtain ⟨w1, hw1⟩ : ∃ w1, w1 = w.alloc (.cells #[.int .i64 (S : Int), .slice ao T.length ac] 24) := ⟨_, rfl⟩
  have hF1 : Far (fun _ => False) w w1 := hw1 ▸ alloc_far0 _ _
  have hX : Bk w1 h0 24 #[.int .i64 (S : Int), .slice ao T.length ac] := hw1 ▸ Bk.new hh0
  have a0 : w1.cell? ⟨h0, 0, none⟩ = some (.int .i64 (S : Int)) := hX.cell 0
  have a1 : w1.cell? ⟨h0, 1, none⟩ = some (.slice ao T.length ac) := hX.cell 1
  have RL := rshort_any S (.slice ao T.length ac) T w1 (hP.move hF1) hs hs2 hok
  have hS2 : S ≤ 1024 := by have := hok.1.2; omega
  have MK := make_bools S (by omega)
  have hX' := Lib.hid hX
  have hF1' := Lib.hid hF1
  have hw1' := Lib.hid hw1
  have hh0' := Lib.hid hh0
  clear hP hs hs2 hok hX hF1 hw1 hh0
  go_enter Try.func30, Try.ntmps30
  go_upto_region 1 with fail
  rw [← hh0'.out, ← hw1'.out]
  go_wp2_with fail
  refine RL.mono ?_
  rintro e w2 ⟨hf2, gR, s, rfl, hg, hr2, hall⟩
  obtain ⟨gB, hgB⟩ : ∃ g, g = w2.heap.size := ⟨_, rfl⟩
  obtain ⟨w3, hw3⟩ : ∃ w3, w3 = w2.alloc (.cells (bcells S fun _ => false) 4) := ⟨_, rfl⟩
  have hf3 : Far (fun _ => False) w2 w3 := hw3 ▸ alloc_far0 _ _
  have hX2 := hX'.out.far' hf2 id
  have b0 : w2.cell? ⟨h0, 0, none⟩ = some (.int .i64 (S : Int)) := hX2.cell 0
  have hX3 := Lib.hid (hX2.far' hf3 id)
  have hr3 : Hid (IRow w3 gR S s) := Lib.hid (Bk.far' hr2 hf3 id)
  have hB3 : Hid (BRow w3 gB S (fun _ => false)) := Lib.hid (hw3 ▸ Bk.new hgB)
  have hne : h0 ≠ gB := by have := hX2.lt; omega
  have hne2 : gR ≠ gB := by have := Bk.lt hr2; omega
  have hF2 := Lib.hid (hF1'.out.then (hf2.then hf3))
  have hgw := Lib.hid (show w.heap.size ≤ gB by have := hF1'.out.size; have := hf2.size; omega)
  have hall' := Lib.hid hall
  have hgB' := Lib.hid hgB
  have hw3' := Lib.hid hw3
  clear RL hf2 hg hr2 hall a0 a1 hgB hw3 hf3 hX2
  go_upto_region 3 with fail
  rw [← hgB'.out, ← hw3'.out]
  clear b0
  go_wp2_with fail
  go_loopw [5] (fun iv wr => ∃ i : Nat, iv = .int .i64 i ∧ i ≤ S ∧ Hid (BRow wr gB S (fun k => if k < i then (s k == 0) else false)) ∧ Far (fun k => k = gB) w3 wr) (fun iv _ => S - (intOf iv).toNat)
  case atStart => exact ⟨0, rfl, Nat.zero_le _, Lib.hid (by simpa using hB3.out), Far.refl _ _⟩
  case round =>
    obtain ⟨i, rfl, hi, hr, hfw⟩ := hrel
    have b0 : wr.cell? ⟨h0, 0, none⟩ = some (.int .i64 (S : Int)) := (hX3.out.far' hfw hne).cell 0
    by_cases hlt : i < S
    · have e1 : decide ((i : Int) < (S : Int)) = true := by rw [decide_eq_true_eq]; omega
      have hii : (i : Int) < (S : Int) := by omega
      have q0 : wr.cell? ⟨gR, i, none⟩ = some (.int .i64 (s i)) := IRow.at (show IRow wr gR S s from Bk.far' hr3.out hfw hne2) hlt
      have q1 : wr.frozen? ⟨gB, i, none⟩ = false := Bk.free hr.out i
      have q2 := IRow_at hr.out hlt
      have hr2 := Lib.hid (show BRow (wr.setCell ⟨gB, i, none⟩ (.bool (s i == 0))) gB S (fun k => if k < i + 1 then (s k == 0) else false) from (BRow.put hr.out i (s i == 0)).congr fun k hk => by
        show updG (fun k => if k < i then (s k == 0) else false) i (s i == 0) k = if k < i + 1 then (s k == 0) else false
        unfold updG
        by_cases e : k = i
        · subst e; rw [if_pos rfl, if_pos (by omega)]
        · rw [if_neg e]
          dsimp only
          by_cases e2 : k < i
          · rw [if_pos e2, if_pos (by omega)]
          · rw [if_neg e2, if_neg (by omega)])
      have hfw2 := Lib.hid (hfw.set ⟨gB, i, none⟩ (.bool (s i == 0)) (fun _ => rfl))
      clear hr hfw
      go_wp2_with fail
      go_roundw
      case rel => exact ⟨i + 1, by go_num, by omega, hr2, hfw2.out⟩
      case measure => simp [intOf]; omega
    · have e1 : decide ((i : Int) < (S : Int)) = false := by rw [decide_eq_false_iff_not]; omega
      have hin : i = S := by omega
      subst hin
      have hrf := Lib.hid (hr.out.congr (f' := fun k => (s k == 0)) fun k hk => if_pos hk)
      have hW := Lib.hid (hF2.out.out hfw fun k hk e => by have := hgw.out; omega)
      clear hr hfw
      go_wp2_with fail
      go_ret
      exact ⟨hW.out, gB, s, rfl, hrf.out, hall'.out⟩
end
end Go.Proofs.Ytjkfieilaahejaa
