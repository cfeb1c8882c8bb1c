/-
  The head of the laws of derive.
-/
import Derived.Test.YteojbnkjphghkaaDoorPHas15
namespace Go.Proofs.YteojbnkjphghkaaDoor
open Go.RowKit
set_option linter.unusedVariables false
set_option linter.unusedSimpArgs false
def headT (b1 : Nat) : List Tr := [((0 : Int), .slice (some ⟨b1, 0, none⟩) 1 1, [((true, 2) : Sy)])]
theorem headT_weak (b1 : Nat) : WeakP 1 (headT b1) := by
  refine ⟨⟨⟨by decide, by decide⟩, fun t ht => ?_⟩, fun t ht => ?_⟩
  · rw [List.mem_singleton.1 ht]
    exact ⟨show (0 : Int) ≤ 0 ∧ (0 : Int) < 1 by decide, fun x hx => by rw [List.mem_singleton.1 hx]; exact ⟨show (0 : Int) ≤ 2 by decide, fun _ => show (2 : Int) < 16 by decide, fun h => by cases h⟩⟩
  · rw [List.mem_singleton.1 ht]
    rfl
theorem headT_code (b1 : Nat) (x : Int) : codeL 1 (headT b1) [0] [x].length = 0 := code_ok (headT_weak b1) (fun ⟨y, hy, h⟩ => by rw [List.mem_singleton.1 hy] at h; omega) (by simp)
theorem head_two (b1 : Nat) : ansP 1 (headT b1) 0 [2] := ⟨headT_code b1 2, .one (b := true) (n := 2) (by simp [headT, pl]) rfl⟩
theorem head_one (b1 : Nat) : ¬ ansP 1 (headT b1) 0 [1] := fun ⟨_, h⟩ => by
  have h9 := der_least (P := (headT b1).map pl) (W := [1]) (K := fun _ => False)
    ⟨fun h i hp hi => by simp [headT, pl] at hp, fun h b n i hp hw => by
      simp only [headT, pl, List.map_cons, List.map_nil, List.mem_singleton, Prod.mk.injEq, List.cons.injEq] at hp
      obtain ⟨_, ⟨_, rfl⟩, _⟩ := hp
      match i, hw with
      | 0, hw => simp at hw
      | i + 1, hw => simp at hw⟩
    (fun h b a d c i k j hp h1 h2 => h1) h
  exact h9
section
set_option maxHeartbeats 4000000
set_option maxRecDepth 100000
theorem head15_any (w : World) (hT : Tab w) : Calls Tryd.prog 12 #[] w fun e w' => e = .returned (.bool true) ∧ Far (fun _ => False) w w' := by
  obtain ⟨b1, hb1⟩ : ∃ b, b = w.heap.size := ⟨_, rfl⟩
  obtain ⟨b2, hb2⟩ : ∃ b, b = b1 + 1 := ⟨_, rfl⟩
  obtain ⟨b3, hb3⟩ : ∃ b, b = b2 + 1 := ⟨_, rfl⟩
  obtain ⟨b4, hb4⟩ : ∃ b, b = b3 + 1 := ⟨_, rfl⟩
  obtain ⟨w1, hw1⟩ : ∃ w1, w1 = w.alloc (.cells #[.bool true, .int .i64 2] 50) := ⟨_, rfl⟩
  obtain ⟨w2, hw2⟩ : ∃ w2, w2 = w1.alloc (.cells #[.int .i64 0, .slice (some ⟨b1, 0, none⟩) 1 1] 48) := ⟨_, rfl⟩
  obtain ⟨w3, hw3⟩ : ∃ w3, w3 = w2.alloc (.cells #[.int .i64 1, .slice (some ⟨b2, 0, none⟩) 1 1] 24) := ⟨_, rfl⟩
  obtain ⟨w4, hw4⟩ : ∃ w4, w4 = w3.alloc (.cells #[.int .i64 2] 3) := ⟨_, rfl⟩
  have z1 : w1.heap.size = b2 := by rw [hw1]; simp [hb2, hb1]
  have z2 : w2.heap.size = b3 := by rw [hw2]; simp [hb3, z1]
  have z3 : w3.heap.size = b4 := by rw [hw3]; simp [hb4, z2]
  have hB1 : Body w1 (.slice (some ⟨b1, 0, none⟩) 1 1) [((true, 2) : Sy)] := by rw [hw1, hb1]; exact src_new w 50 [.bool true, .int .i64 2]
  have hF2 : Far (fun _ => False) w1 w2 := hw2 ▸ alloc_far0 _ _
  have hF3 : Far (fun _ => False) w2 w3 := hw3 ▸ alloc_far0 _ _
  have hF4 : Far (fun _ => False) w3 w4 := hw4 ▸ alloc_far0 _ _
  have hF : Far (fun _ => False) w w3 := ((hw1 ▸ alloc_far0 _ _ : Far (fun _ => False) w w1).then hF2).then hF3
  have hP : Prods w3 (.slice (some ⟨b2, 0, none⟩) 1 1) (headT b1) := by
    refine Prods.move ⟨?_, fun t ht => ?_⟩ hF3
    · rw [hw2, ← z1]; exact src_new w1 48 [.int .i64 0, .slice (some ⟨b1, 0, none⟩) 1 1]
    · rw [List.mem_singleton.1 ht]; exact hB1.move hF2
  have hA : Bk w3 b3 24 #[.int .i64 1, .slice (some ⟨b2, 0, none⟩) 1 1] := hw3 ▸ Bk.new z2.symm
  have hX : Bk w4 b4 3 #[.int .i64 2] := hw4 ▸ Bk.new z3.symm
  have HS := fun (x : Int) (bb : Nat) (w' : World) (hf : Far (fun _ => False) w3 w') (hx : Bk w' bb 3 #[.int .i64 x]) => phas_word 1 (.slice (some ⟨b2, 0, none⟩) 1 1) (.slice (some ⟨bb, 0, none⟩) 1 1) (headT b1) 0 [x] w' (hP.move hf) (wd_one hx) (by simp [headT]) (fun t ht => by rw [List.mem_singleton.1 ht]; simp [maxLen]) (hT.stays ((hF.then hf).below (Nat.le_refl _) fun _ _ h => h))
  have H1 := HS 2 b4 w4 hF4 hX
  rw [headT_code] at H1
  have HS' := Lib.hid HS
  have a0 : w3.cell? ⟨b3, 0, none⟩ = some (.int .i64 1) := hA.cell 0
  have a1 : w3.cell? ⟨b3, 1, none⟩ = some (.slice (some ⟨b2, 0, none⟩) 1 1) := hA.cell 1
  have hF' := Lib.hid hF
  have hF4' := Lib.hid hF4
  have hb1' := Lib.hid hb1
  have hb2' := Lib.hid hb2
  have hb3' := Lib.hid hb3
  have hz3' := Lib.hid z3
  have hw1' := Lib.hid hw1
  have hw2' := Lib.hid hw2
  have hw3' := Lib.hid hw3
  have hw4' := Lib.hid hw4
  have hA' := Lib.hid hA
  clear hb1 hb2 hb3 hb4 hw1 hw2 hw3 hw4 z1 z2 z3 hB1 hF2 hF3 hF4 hF hP hA hX HS hT
  go_enter Tryd.func12, Tryd.ntmps12
  go_upto_region 2 with fail
  rw [← hb1'.out, ← hb2'.out, ← hb3'.out, ← hw1'.out, ← hw2'.out, ← hw3'.out]
  go_wp2_with fail
  rw [hz3'.out, ← hw4'.out]
  refine H1.mono ?_
  rintro e w5 ⟨⟨b, rfl, hb⟩, hf5⟩
  obtain rfl : b = true := hb.2 (head_two b1)
  have hf5' := Lib.hid (hF4'.out.then hf5)
  have a0 : w5.cell? ⟨b3, 0, none⟩ = some (.int .i64 1) := (hA'.out.far' hf5'.out id).cell 0
  have a1 : w5.cell? ⟨b3, 1, none⟩ = some (.slice (some ⟨b2, 0, none⟩) 1 1) := (hA'.out.far' hf5'.out id).cell 1
  obtain ⟨b6, hb6⟩ : ∃ b, b = w5.heap.size := ⟨_, rfl⟩
  obtain ⟨w6, hw6⟩ : ∃ w6, w6 = w5.alloc (.cells #[.int .i64 1] 3) := ⟨_, rfl⟩
  have hF6 : Far (fun _ => False) w5 w6 := hw6 ▸ alloc_far0 _ _
  have H2 := HS'.out 1 b6 w6 (hf5'.out.then hF6) (hw6 ▸ Bk.new hb6)
  rw [headT_code] at H2
  have hF6' := Lib.hid (hf5'.out.then hF6)
  have hw6' := Lib.hid hw6
  have hb6' := Lib.hid hb6
  clear H1 hb hf5 hw6 hb6 hF6
  go_wp2_with fail
  rw [← hb6'.out, ← hw6'.out]
  refine H2.mono ?_
  rintro e w7 ⟨⟨b, rfl, hb⟩, hf7⟩
  obtain rfl : b = false := by
    cases b with
    | false => rfl
    | true => exact absurd (hb.1 rfl) (head_one b1)
  have hf7' := Lib.hid (hF'.out.then (hF6'.out.then hf7))
  clear H2 hb hf7 a0 a1
  go_wp2_with fail
  go_ret
  exact ⟨rfl, hf7'.out⟩
end
end Go.Proofs.YteojbnkjphghkaaDoor
