/-
  The head of the laws; what a copy keeps.
-/
import Derived.Test.YtjkfieilaahejaaShort13
namespace Go.Proofs.Ytjkfieilaahejaa
open Go.RowKit
set_option linter.unusedVariables false
set_option linter.unusedSimpArgs false
theorem pl_some {T T' : List Tr} (h : T'.map pl = T.map pl) {t : Tr} (ht : t ∈ T') : ∃ u ∈ T, u.1 = t.1 ∧ u.2.2 = t.2.2 := by
  have h1 : pl t ∈ T'.map pl := List.mem_map.2 ⟨t, ht, rfl⟩
  rw [h] at h1
  obtain ⟨u, hu, e⟩ := List.mem_map.1 h1
  exact ⟨u, hu, (congrArg Prod.fst e : (pl u).1 = (pl t).1), (congrArg Prod.snd e : (pl u).2 = (pl t).2)⟩
theorem pl_ok {S : Int} {T T' : List Tr} (h : T'.map pl = T.map pl) (hw : CnfOK S T) : CnfOK S T' := ⟨hw.1, fun t ht => by
  obtain ⟨u, hu, e1, e2⟩ := pl_some h ht
  have := hw.2 u hu
  unfold prodOK at *
  rw [← e1, ← e2]
  exact this⟩
theorem pl_closedS {T T' : List Tr} (h : T'.map pl = T.map pl) {s : Nat → Int} (hc : ClosedS T s) : ClosedS T' s := fun t ht => by
  obtain ⟨u, hu, e1, e2⟩ := pl_some h ht
  rw [← e1, ← e2]
  exact hc u hu
theorem pl_sh {S : Nat} {T T' : List Tr} (h : T'.map pl = T.map pl) {s : Nat → Int} (hc : ShOK S T' s) : ShOK S T s :=
  ⟨pl_closedS h.symm hc.1, fun k hk => by
    obtain ⟨t, ht, h1, h2, h3⟩ := hc.2.1 k hk
    obtain ⟨u, hu, e1, e2⟩ := pl_some h ht
    exact ⟨u, hu, by rw [e1]; exact h1, by rw [e2]; exact h2, by rw [e2]; exact h3⟩, fun u hu => hc.2.2.1 u (pl_closedS h hu), hc.2.2.2⟩
theorem pl_closedG {good : (Nat → Bool) → Sy → Bool} {T T' : List Tr} (h : T'.map pl = T.map pl) {E : Nat → Bool} (hc : ClosedG good T E) : ClosedG good T' E := fun t ht hb => by
  obtain ⟨u, hu, e1, e2⟩ := pl_some h ht
  rw [← e1]
  exact hc u hu (by rw [e2]; exact hb)
theorem pl_leastG {good : (Nat → Bool) → Sy → Bool} {T T' : List Tr} (h : T'.map pl = T.map pl) {E : Nat → Bool} (hc : LeastG good T' E) : LeastG good T E := fun C hC => hc C (pl_closedG h hC)
theorem head_s {v1 : Value} {s : Nat → Int} (h : ShOK 2 [((1 : Int), v1, [((true, 0) : Sy)])] s) : s 0 = -1 ∧ s 1 = 1 := by
  obtain ⟨h1, h2, h3, h4⟩ := h
  have a := h1 _ (List.mem_singleton.2 rfl)
  have b := h3 (fun k => if k = 1 then 1 else -1) (fun t ht => by
    rw [List.mem_singleton.1 ht]
    exact (show lei 1 1 from .inr ⟨by decide, by decide⟩))
  have b0 := b 0
  have b1 := b 1
  have c0 := h4 0
  have c1 := h4 1
  have hl : long s [((true, 0) : Sy)] 0 = 1 := rfl
  dsimp only at a
  rw [hl] at a
  simp only [lei] at a b0 b1
  simp at a b0 b1
  omega
section
set_option maxHeartbeats 8000000
set_option maxRecDepth 100000
theorem head13_any (w : World) : Calls Try.prog 10 #[] w fun e w' => e = .returned (.bool true) ∧ Far (fun _ => False) w w' := by
  obtain ⟨b1, hb1⟩ : ∃ b, b = w.heap.size := ⟨_, rfl⟩
  obtain ⟨b2, hb2⟩ : ∃ b, b = b1 + 1 := ⟨_, rfl⟩
  obtain ⟨w1, hw1⟩ : ∃ w1, w1 = w.alloc (.cells #[.bool true, .int .i64 0] 50) := ⟨_, rfl⟩
  obtain ⟨w2, hw2⟩ : ∃ w2, w2 = w1.alloc (.cells #[.int .i64 1, .slice (some ⟨b1, 0, none⟩) 1 1] 44) := ⟨_, rfl⟩
  have z1 : w1.heap.size = b2 := by rw [hw1]; simp [hb2, hb1]
  have hB1 : Body w1 (.slice (some ⟨b1, 0, none⟩) 1 1) [((true, 0) : Sy)] := by rw [hw1, hb1]; exact src_new w 50 [.bool true, .int .i64 0]
  have hF2 : Far (fun _ => False) w1 w2 := hw2 ▸ alloc_far0 _ _
  have hF : Far (fun _ => False) w w2 := (hw1 ▸ alloc_far0 _ _ : Far (fun _ => False) w w1).then hF2
  have hP : Prods w2 (.slice (some ⟨b2, 0, none⟩) 1 1) [((1 : Int), .slice (some ⟨b1, 0, none⟩) 1 1, [((true, 0) : Sy)])] := by
    refine ⟨?_, fun t ht => ?_⟩
    · rw [hw2, ← z1]; exact src_new w1 44 [.int .i64 1, .slice (some ⟨b1, 0, none⟩) 1 1]
    · rw [List.mem_singleton.1 ht]; exact hB1.move hF2
  have SH := shortest_yes 2 (.slice (some ⟨b2, 0, none⟩) 1 1) _ w2 hP (by simp) (fun t ht => by rw [List.mem_singleton.1 ht]; simp [maxLen]) ⟨⟨by decide, by decide⟩, fun t ht => by
    rw [List.mem_singleton.1 ht]
    exact ⟨show (0 : Int) ≤ 1 ∧ (1 : Int) < 2 by decide, fun x hx => by rw [List.mem_singleton.1 hx]; exact ⟨show (0 : Int) ≤ 0 by decide, fun _ => show (0 : Int) < 16 by decide, fun h => by cases h⟩⟩⟩
  have hF' := Lib.hid hF
  have hb1' := Lib.hid hb1
  have hb2' := Lib.hid hb2
  have hw1' := Lib.hid hw1
  have hw2' := Lib.hid hw2
  clear hb1 hb2 hw1 hw2 z1 hB1 hF2 hF hP
  go_enter Try.func10, Try.ntmps10
  go_wp2_with fail
  rw [← hb1'.out, ← hb2'.out, ← hw1'.out, ← hw2'.out]
  refine SH.mono ?_
  rintro e w3 ⟨hf3, gR, s, rfl, hg3, hr3, hsh⟩
  obtain ⟨s0, s1⟩ := head_s hsh
  have q0 : w3.cell? ⟨gR, 0, none⟩ = some (.int .i64 (s 0)) := IRow.at hr3 (by decide)
  have q1 : w3.cell? ⟨gR, 1, none⟩ = some (.int .i64 (s 1)) := IRow.at hr3 (by decide)
  rw [s0] at q0
  rw [s1] at q1
  have hf3' := Lib.hid (hF'.out.then hf3)
  clear SH hf3 hg3 hr3 hsh s0 s1
  go_wp2_with fail
  go_ret
  exact ⟨rfl, hf3'.out⟩
end
end Go.Proofs.Ytjkfieilaahejaa
