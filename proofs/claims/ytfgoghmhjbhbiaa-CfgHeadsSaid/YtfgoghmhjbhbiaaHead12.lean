/-
  The calls whose answers the document fixes.
-/
import Derived.Test.YtfgoghmhjbhbiaaCheckC
namespace Go.Proofs.Ytfgoghmhjbhbiaa
open Go.RowKit
set_option linter.unusedVariables false
set_option linter.unusedSimpArgs false
section
set_option maxHeartbeats 4000000
set_option maxRecDepth 100000
theorem rnone_nil (w : World) : Calls Try.prog 63 #[.pointer none] w fun e w' => e = .returned (.bool true) ∧ w = w' := by
  go_enter Try.func63, Try.ntmps63
  go_wp2_with fail
  go_ret
  exact ⟨rfl, rfl⟩
theorem states_nil (w : World) : Calls Try.prog 46 #[.pointer none] w fun e w' => e = .returned (.int .i64 0) ∧ w = w' := by
  have N1 := rnone_nil w
  go_enter Try.func46, Try.ntmps46
  go_wp2_with fail
  refine N1.mono ?_
  rintro e w' ⟨rfl, rfl⟩
  go_wp2_with fail
  go_ret
  exact ⟨rfl, rfl⟩
theorem of_nil (w : World) : Calls Try.prog 32 #[.pointer none] w fun e w' => e = .returned (.tuple #[.agg #[.int .i64 0, .slice none 0 0], .int .i64 1]) ∧ Far (fun _ => False) w w' := by
  obtain ⟨kR, hkR⟩ : ∃ k, k = w.heap.size := ⟨_, rfl⟩
  obtain ⟨w1, hw1⟩ : ∃ w1, w1 = w.alloc (.cells #[.int .i64 0, .slice none 0 0] 24) := ⟨_, rfl⟩
  have hR : Bk w1 kR 24 #[.int .i64 0, .slice none 0 0] := hw1 ▸ Bk.new hkR
  have hF : Far (fun _ => False) w w1 := hw1 ▸ (Far.refl _ w).alloc _
  have S1 := states_nil w1
  have b0 : w1.cell? ⟨kR, 0, none⟩ = some (.int .i64 0) := hR.cell 0
  have b1 : w1.cell? ⟨kR, 1, none⟩ = some (.slice none 0 0) := hR.cell 1
  have z0 : w1.frozen? ⟨kR, 0, none⟩ = false := hR.free 0
  have z1 : w1.frozen? ⟨kR, 1, none⟩ = false := hR.free 1
  have hkR' := Lib.hid hkR
  have hw1' := Lib.hid hw1
  have hR' := Lib.hid hR
  have hF' := Lib.hid hF
  clear hkR hw1 hR hF
  go_enter Try.func32, Try.ntmps32
  go_upto_region 1 with fail
  rw [← hkR'.out, ← hw1'.out]
  go_wp2_with fail
  refine S1.mono ?_
  rintro e w2 ⟨rfl, rfl⟩
  go_wp2_with fail
  have hS5 := (Far.refl (fun k => k = kR) w1).set ⟨kR, 0, none⟩ (.int .i64 0) (fun _ => rfl)
  have hS6 := hS5.set ⟨kR, 1, none⟩ (.slice none 0 0) (fun _ => rfl)
  have hB6 : Bk ((w1.setCell ⟨kR, 0, none⟩ (.int .i64 0)).setCell ⟨kR, 1, none⟩ (.slice none 0 0)) kR 24 #[.int .i64 0, .slice none 0 0] := (hR'.out.set 0 (.int .i64 0)).set 1 _
  have hF6 := Lib.hid (hF'.out.out hS6 fun k hk e => by have := hkR'.out; omega)
  clear b0 b1 z0 z1 hS5 hS6 S1
  generalize ((w1.setCell ⟨kR, 0, none⟩ (.int .i64 0)).setCell ⟨kR, 1, none⟩ (.slice none 0 0)) = W6 at *
  have c0 : W6.cell? ⟨kR, 0, none⟩ = some (.int .i64 0) := hB6.cell 0
  have c1 : W6.cell? ⟨kR, 1, none⟩ = some (.slice none 0 0) := hB6.cell 1
  exact bodyPost_ret (v := .tuple #[.agg #[.int .i64 0, .slice none 0 0], .int .i64 1]) (by simp [results, Try.f32, go_sem, c0, c1]) rfl ⟨rfl, hF6.out⟩
theorem head12_any (w : World) : Calls Try.prog 13 #[] w fun e w' => e = .returned (.bool true) ∧ Far (fun _ => False) w w' := by
  have O1 := of_nil w
  have n0 : ¬ CnfOK 0 [] := fun h => by have := h.1.1; omega
  have n1 : CnfOK 1 [] := ⟨⟨by omega, by omega⟩, fun t ht => by cases ht⟩
  have K0 := Lib.hid (fun w' => check_any 0 (.slice none 0 0) [] w' ⟨Src.nil _ _, fun t ht => by cases ht⟩ (Nat.zero_le _) (fun t ht => by cases ht))
  have K1 := Lib.hid (fun w' => check_any 1 (.slice none 0 0) [] w' ⟨Src.nil _ _, fun t ht => by cases ht⟩ (Nat.zero_le _) (fun t ht => by cases ht))
  rw [pcode_no n0] at K0
  rw [pcode_yes n1] at K1
  go_enter Try.func13, Try.ntmps13
  go_wp2_with fail
  refine O1.mono ?_
  rintro e w2 ⟨rfl, hf2⟩
  have hf2' := Lib.hid hf2
  clear O1 hf2
  go_upto_region 2 with fail
  obtain ⟨w3, hw3⟩ : ∃ w3, w3 = w2.alloc (.cells #[.int .i64 0, .slice none 0 0] 24) := ⟨_, rfl⟩
  rw [← hw3]
  have hf3' := Lib.hid (hf2'.out.then (hw3 ▸ (Far.refl _ w2).alloc _ : Far (fun _ => False) w2 w3))
  have I0 := K0.out w3
  clear hw3
  go_wp2_with fail
  refine I0.mono ?_
  rintro e w4 ⟨rfl, hf4⟩
  have hf4' := Lib.hid (hf3'.out.then hf4)
  have I1 := K1.out w4
  clear hf4 I0
  go_wp2_with fail
  refine I1.mono ?_
  rintro e w5 ⟨rfl, hf5⟩
  have hf5' := Lib.hid (hf4'.out.then hf5)
  clear hf5 I1
  go_wp2_with fail
  go_ret
  exact ⟨rfl, hf5'.out⟩
end
end Go.Proofs.Ytfgoghmhjbhbiaa
