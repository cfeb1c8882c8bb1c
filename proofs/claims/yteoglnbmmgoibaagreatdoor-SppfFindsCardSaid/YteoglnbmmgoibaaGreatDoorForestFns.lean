/-
  Facts and packs compared; places.
-/
import Derived.Test.YteoglnbmmgoibaaGreatDoorForest
namespace Go.Proofs.YteoglnbmmgoibaaGreatDoor
open Go.RowKit
set_option linter.unusedVariables false
set_option linter.unusedSimpArgs false
def ord3 (a b c a' b' c' : Int) : Int := orO (cmpI a a') (cmpI b b') (cmpI c c')
def less3 (a b c a' b' c' : Int) : Bool := if a ≠ a' then decide (a < a') else if b ≠ b' then decide (b < b') else decide (c < c')
theorem ord_less (a b c a' b' c' : Int) : decide (ord3 a b c a' b' c' ≥ 0) = !less3 a b c a' b' c' := by
  have k : ∀ x y : Int, (x < y ∧ cmpI x y = -1) ∨ (x = y ∧ cmpI x y = 0) ∨ (y < x ∧ cmpI x y = 1) := fun x y => by
    unfold cmpI
    rcases Int.lt_trichotomy x y with h | h | h
    · exact .inl ⟨h, if_pos h⟩
    · exact .inr (.inl ⟨h, by rw [if_neg (by omega), if_neg (by omega)]⟩)
    · exact .inr (.inr ⟨h, by rw [if_neg (by omega), if_pos h]⟩)
  unfold ord3 orO less3
  have p1 : ((-1 : Int) ≠ 0) := by decide
  have p2 : ((1 : Int) ≠ 0) := by decide
  have p0 : ¬ ((0 : Int) ≠ 0) := fun h => h rfl
  rcases k a a' with ⟨h1, h2⟩ | ⟨h1, h2⟩ | ⟨h1, h2⟩
  · rw [h2, if_pos p1, if_pos (show a ≠ a' by omega), decide_eq_true h1]; rfl
  · rw [h2, if_neg p0, if_neg (show ¬ a ≠ a' from fun h => h h1)]
    rcases k b b' with ⟨h3, h4⟩ | ⟨h3, h4⟩ | ⟨h3, h4⟩
    · rw [h4, if_pos p1, if_pos (show b ≠ b' by omega), decide_eq_true h3]; rfl
    · rw [h4, if_neg p0, if_neg (show ¬ b ≠ b' from fun h => h h3)]
      rcases k c c' with ⟨h5, h6⟩ | ⟨h5, h6⟩ | ⟨h5, h6⟩
      · rw [h6, decide_eq_true h5]; rfl
      · rw [h6, decide_eq_false (show ¬ c < c' by omega)]; rfl
      · rw [h6, decide_eq_false (show ¬ c < c' by omega)]; rfl
    · rw [h4, if_pos p2, if_pos (show b ≠ b' by omega), decide_eq_false (show ¬ b < b' by omega)]; rfl
  · rw [h2, if_pos p2, if_pos (show a ≠ a' by omega), decide_eq_false (show ¬ a < a' by omega)]; rfl
theorem or_new (a b c : Int) (w : World) : Calls Tryz.prog 23 #[.slice (some ⟨w.heap.size, 0, none⟩) 3 3] (w.alloc (.cells #[.int .i64 a, .int .i64 b, .int .i64 c] 3)) fun e w' => e = .returned (.int .i64 (orO a b c)) ∧ Far (fun _ => False) w w' :=
  (or_any a b c w.heap.size 3 _ (Bk.cell (Bk.new rfl) 0) (Bk.cell (Bk.new rfl) 1) (Bk.cell (Bk.new rfl) 2)).mono fun e w' ⟨he, hw⟩ => ⟨he, hw ▸ alloc_far0 _ _⟩
theorem or_new_d (a b c : Int) (w : World) : Calls Tryz.prog 23 #[.slice (some ⟨w.heap.size, 0, none⟩) 3 3] (w.alloc (.cells #[.int .i64 a, .int .i64 b, .int .i64 c] 3)).drew fun e w' => e = .returned (.int .i64 (orO a b c)) ∧ Far (fun _ => False) w w' :=
  have hB : Bk (w.alloc (.cells #[.int .i64 a, .int .i64 b, .int .i64 c] 3)).drew w.heap.size 3 #[.int .i64 a, .int .i64 b, .int .i64 c] := (Bk.new (w := w) rfl).far' (drew_far _) id
  (or_any a b c w.heap.size 3 _ (hB.cell 0) (hB.cell 1) (hB.cell 2)).mono fun e w' ⟨he, hw⟩ => ⟨he, hw ▸ (alloc_far0 _ _).drew⟩
section
set_option maxHeartbeats 4000000
set_option maxRecDepth 100000
theorem fless_any (x0 x1 x2 y0 y1 y2 : Int) (w : World) : Calls Tryz.prog 18 #[.agg #[.int .i64 x0, .int .i64 x1, .int .i64 x2], .agg #[.int .i64 y0, .int .i64 y1, .int .i64 y2]] w fun e w' => e = .returned (.bool (less3 x0 x1 x2 y0 y1 y2)) ∧ Far (fun _ => False) w w' := by
  have hl3 : less3 x0 x1 x2 y0 y1 y2 = if x0 ≠ y0 then decide (x0 < y0) else if x1 ≠ y1 then decide (x1 < y1) else decide (x2 < y2) := rfl
  have hlh := Lib.hid hl3
  clear hl3
  obtain ⟨h0, hh⟩ : ∃ h, h = w.heap.size := ⟨_, rfl⟩
  obtain ⟨h1, hh1⟩ : ∃ h, h = h0 + 1 := ⟨_, rfl⟩
  obtain ⟨w0, hw0⟩ : ∃ w0, w0 = w.alloc (.cells #[.int .i64 x0, .int .i64 x1, .int .i64 x2] 33) := ⟨_, rfl⟩
  obtain ⟨W, hW⟩ : ∃ W, W = w0.alloc (.cells #[.int .i64 y0, .int .i64 y1, .int .i64 y2] 33) := ⟨_, rfl⟩
  have hz0 : w0.heap.size = h1 := by rw [hw0]; simp [hh1, hh]
  have hA : Bk W h0 33 #[.int .i64 x0, .int .i64 x1, .int .i64 x2] := hW ▸ ((hw0 ▸ Bk.new hh : Bk w0 h0 33 #[.int .i64 x0, .int .i64 x1, .int .i64 x2]).alloc _)
  have hB : Bk W h1 33 #[.int .i64 y0, .int .i64 y1, .int .i64 y2] := hW ▸ Bk.new hz0.symm
  have hF : Far (fun _ => False) w W := hW ▸ (hw0 ▸ (Far.refl _ w).alloc _ : Far (fun _ => False) w w0).alloc _
  have hl0 := hA.lt
  have hl1 := hB.lt
  have a0 : W.cell? ⟨h0, 0, none⟩ = some (.int .i64 x0) := hA.cell 0
  have a1 : W.cell? ⟨h0, 1, none⟩ = some (.int .i64 x1) := hA.cell 1
  have a2 : W.cell? ⟨h0, 2, none⟩ = some (.int .i64 x2) := hA.cell 2
  have b0 : W.cell? ⟨h1, 0, none⟩ = some (.int .i64 y0) := hB.cell 0
  have b1 : W.cell? ⟨h1, 1, none⟩ = some (.int .i64 y1) := hB.cell 1
  have b2 : W.cell? ⟨h1, 2, none⟩ = some (.int .i64 y2) := hB.cell 2
  have hh' := Lib.hid hh
  have hh1' := Lib.hid hh1
  have hw0' := Lib.hid hw0
  have hW' := Lib.hid hW
  have hF' := Lib.hid hF
  clear hh hh1 hw0 hW hz0 hA hB hF
  go_enter Tryz.func18, Tryz.ntmps18
  go_upto_region 1 with fail
  rw [← hh'.out, ← hh1'.out, ← hw0'.out, ← hW'.out]
  by_cases e0 : x0 = y0
  · have g0 : (x0 == y0) = true := by simpa using e0
    by_cases e1 : x1 = y1
    · have g1 : (x1 == y1) = true := by simpa using e1
      have hr := Lib.hid (show less3 x0 x1 x2 y0 y1 y2 = decide (x2 < y2) by rw [hlh.out, if_neg (fun e => e e0), if_neg (fun e => e e1)])
      clear e0 e1
      go_wp2_with fail
      go_ret
      exact ⟨by rw [hr.out]; rfl, hF'.out⟩
    · have g1 : (x1 == y1) = false := by simpa using e1
      have hr := Lib.hid (show less3 x0 x1 x2 y0 y1 y2 = decide (x1 < y1) by rw [hlh.out, if_neg (fun e => e e0), if_pos e1])
      clear e0 e1
      go_wp2_with fail
      go_ret
      exact ⟨by rw [hr.out]; rfl, hF'.out⟩
  · have g0 : (x0 == y0) = false := by simpa using e0
    have hr := Lib.hid (show less3 x0 x1 x2 y0 y1 y2 = decide (x0 < y0) by rw [hlh.out, if_pos e0])
    clear e0
    go_wp2_with fail
    go_ret
    exact ⟨by rw [hr.out]; rfl, hF'.out⟩
theorem pless_any (x0 x1 x2 x3 x4 y0 y1 y2 y3 y4 : Int) (w : World) : Calls Tryz.prog 20 #[.agg #[.int .i64 x0, .int .i64 x1, .int .i64 x2, .int .i64 x3, .int .i64 x4], .agg #[.int .i64 y0, .int .i64 y1, .int .i64 y2, .int .i64 y3, .int .i64 y4]] w fun e w' => e = .returned (.bool (less3 x0 x1 x2 y0 y1 y2)) ∧ Far (fun _ => False) w w' := by
  have hl3 : less3 x0 x1 x2 y0 y1 y2 = if x0 ≠ y0 then decide (x0 < y0) else if x1 ≠ y1 then decide (x1 < y1) else decide (x2 < y2) := rfl
  have hlh := Lib.hid hl3
  clear hl3
  obtain ⟨h0, hh⟩ : ∃ h, h = w.heap.size := ⟨_, rfl⟩
  obtain ⟨h1, hh1⟩ : ∃ h, h = h0 + 1 := ⟨_, rfl⟩
  obtain ⟨w0, hw0⟩ : ∃ w0, w0 = w.alloc (.cells #[.int .i64 x0, .int .i64 x1, .int .i64 x2, .int .i64 x3, .int .i64 x4] 42) := ⟨_, rfl⟩
  obtain ⟨W, hW⟩ : ∃ W, W = w0.alloc (.cells #[.int .i64 y0, .int .i64 y1, .int .i64 y2, .int .i64 y3, .int .i64 y4] 42) := ⟨_, rfl⟩
  have hz0 : w0.heap.size = h1 := by rw [hw0]; simp [hh1, hh]
  have hA : Bk W h0 42 #[.int .i64 x0, .int .i64 x1, .int .i64 x2, .int .i64 x3, .int .i64 x4] := hW ▸ ((hw0 ▸ Bk.new hh : Bk w0 h0 42 #[.int .i64 x0, .int .i64 x1, .int .i64 x2, .int .i64 x3, .int .i64 x4]).alloc _)
  have hB : Bk W h1 42 #[.int .i64 y0, .int .i64 y1, .int .i64 y2, .int .i64 y3, .int .i64 y4] := hW ▸ Bk.new hz0.symm
  have hF : Far (fun _ => False) w W := hW ▸ (hw0 ▸ (Far.refl _ w).alloc _ : Far (fun _ => False) w w0).alloc _
  have hl0 := hA.lt
  have hl1 := hB.lt
  have a0 : W.cell? ⟨h0, 0, none⟩ = some (.int .i64 x0) := hA.cell 0
  have a1 : W.cell? ⟨h0, 1, none⟩ = some (.int .i64 x1) := hA.cell 1
  have a2 : W.cell? ⟨h0, 2, none⟩ = some (.int .i64 x2) := hA.cell 2
  have a3 : W.cell? ⟨h0, 3, none⟩ = some (.int .i64 x3) := hA.cell 3
  have a4 : W.cell? ⟨h0, 4, none⟩ = some (.int .i64 x4) := hA.cell 4
  have b0 : W.cell? ⟨h1, 0, none⟩ = some (.int .i64 y0) := hB.cell 0
  have b1 : W.cell? ⟨h1, 1, none⟩ = some (.int .i64 y1) := hB.cell 1
  have b2 : W.cell? ⟨h1, 2, none⟩ = some (.int .i64 y2) := hB.cell 2
  have b3 : W.cell? ⟨h1, 3, none⟩ = some (.int .i64 y3) := hB.cell 3
  have b4 : W.cell? ⟨h1, 4, none⟩ = some (.int .i64 y4) := hB.cell 4
  have hh' := Lib.hid hh
  have hh1' := Lib.hid hh1
  have hw0' := Lib.hid hw0
  have hW' := Lib.hid hW
  have hF' := Lib.hid hF
  clear hh hh1 hw0 hW hz0 hA hB hF
  go_enter Tryz.func20, Tryz.ntmps20
  go_upto_region 1 with fail
  rw [← hh'.out, ← hh1'.out, ← hw0'.out, ← hW'.out]
  by_cases e0 : x0 = y0
  · have g0 : (x0 == y0) = true := by simpa using e0
    by_cases e1 : x1 = y1
    · have g1 : (x1 == y1) = true := by simpa using e1
      have hr := Lib.hid (show less3 x0 x1 x2 y0 y1 y2 = decide (x2 < y2) by rw [hlh.out, if_neg (fun e => e e0), if_neg (fun e => e e1)])
      clear e0 e1
      go_wp2_with fail
      go_ret
      exact ⟨by rw [hr.out]; rfl, hF'.out⟩
    · have g1 : (x1 == y1) = false := by simpa using e1
      have hr := Lib.hid (show less3 x0 x1 x2 y0 y1 y2 = decide (x1 < y1) by rw [hlh.out, if_neg (fun e => e e0), if_pos e1])
      clear e0 e1
      go_wp2_with fail
      go_ret
      exact ⟨by rw [hr.out]; rfl, hF'.out⟩
  · have g0 : (x0 == y0) = false := by simpa using e0
    have hr := Lib.hid (show less3 x0 x1 x2 y0 y1 y2 = decide (x0 < y0) by rw [hlh.out, if_pos e0])
    clear e0
    go_wp2_with fail
    go_ret
    exact ⟨by rw [hr.out]; rfl, hF'.out⟩
theorem ofacts_any (x0 x1 x2 y0 y1 y2 : Int) (w : World) : Calls Tryz.prog 13 #[.agg #[.int .i64 x0, .int .i64 x1, .int .i64 x2], .agg #[.int .i64 y0, .int .i64 y1, .int .i64 y2]] w fun e w' => e = .returned (.int .i64 (ord3 x0 x1 x2 y0 y1 y2)) ∧ Far (fun _ => False) w w' := by
  have hO := Lib.hid (show orO (cmpI x0 y0) (cmpI x1 y1) (cmpI x2 y2) = ord3 x0 x1 x2 y0 y1 y2 from rfl)
  obtain ⟨h0, hh⟩ : ∃ h, h = w.heap.size := ⟨_, rfl⟩
  obtain ⟨h1, hh1⟩ : ∃ h, h = h0 + 1 := ⟨_, rfl⟩
  obtain ⟨w0, hw0⟩ : ∃ w0, w0 = w.alloc (.cells #[.int .i64 x0, .int .i64 x1, .int .i64 x2] 33) := ⟨_, rfl⟩
  obtain ⟨W, hW⟩ : ∃ W, W = w0.alloc (.cells #[.int .i64 y0, .int .i64 y1, .int .i64 y2] 33) := ⟨_, rfl⟩
  have hz0 : w0.heap.size = h1 := by rw [hw0]; simp [hh1, hh]
  have hA : Bk W h0 33 #[.int .i64 x0, .int .i64 x1, .int .i64 x2] := hW ▸ ((hw0 ▸ Bk.new hh : Bk w0 h0 33 #[.int .i64 x0, .int .i64 x1, .int .i64 x2]).alloc _)
  have hB : Bk W h1 33 #[.int .i64 y0, .int .i64 y1, .int .i64 y2] := hW ▸ Bk.new hz0.symm
  have hF : Far (fun _ => False) w W := hW ▸ (hw0 ▸ (Far.refl _ w).alloc _ : Far (fun _ => False) w w0).alloc _
  have hl0 := hA.lt
  have hl1 := hB.lt
  have a0 : W.cell? ⟨h0, 0, none⟩ = some (.int .i64 x0) := hA.cell 0
  have a1 : W.cell? ⟨h0, 1, none⟩ = some (.int .i64 x1) := hA.cell 1
  have a2 : W.cell? ⟨h0, 2, none⟩ = some (.int .i64 x2) := hA.cell 2
  have b0 : W.cell? ⟨h1, 0, none⟩ = some (.int .i64 y0) := hB.cell 0
  have b1 : W.cell? ⟨h1, 1, none⟩ = some (.int .i64 y1) := hB.cell 1
  have b2 : W.cell? ⟨h1, 2, none⟩ = some (.int .i64 y2) := hB.cell 2
  have hh' := Lib.hid hh
  have hh1' := Lib.hid hh1
  have hw0' := Lib.hid hw0
  have hW' := Lib.hid hW
  have hF' := Lib.hid hF
  clear hh hh1 hw0 hW hz0 hA hB hF
  go_enter Tryz.func13, Tryz.ntmps13
  go_upto_region 1 with fail
  rw [← hh'.out, ← hh1'.out, ← hw0'.out, ← hW'.out]
  have HK := Lib.hid (show ∀ w2, Far (fun _ => False) W w2 → w2.cell? ⟨h0, 0, none⟩ = some (.int .i64 x0) ∧ w2.cell? ⟨h0, 1, none⟩ = some (.int .i64 x1) ∧ w2.cell? ⟨h0, 2, none⟩ = some (.int .i64 x2) ∧ w2.cell? ⟨h1, 0, none⟩ = some (.int .i64 y0) ∧ w2.cell? ⟨h1, 1, none⟩ = some (.int .i64 y1) ∧ w2.cell? ⟨h1, 2, none⟩ = some (.int .i64 y2) ∧ h0 < w2.heap.size ∧ h1 < w2.heap.size from fun w2 h => ⟨(h.cell hl0).trans a0, (h.cell hl0).trans a1, (h.cell hl0).trans a2, (h.cell hl1).trans b0, (h.cell hl1).trans b1, (h.cell hl1).trans b2, Nat.lt_of_lt_of_le hl0 h.size, Nat.lt_of_lt_of_le hl1 h.size⟩)
  go_region_held3 (fun w2 => w2.cell? ⟨h0, 0, none⟩ = some (.int .i64 x0) ∧ w2.cell? ⟨h0, 1, none⟩ = some (.int .i64 x1) ∧ w2.cell? ⟨h0, 2, none⟩ = some (.int .i64 x2) ∧ w2.cell? ⟨h1, 0, none⟩ = some (.int .i64 y0) ∧ w2.cell? ⟨h1, 1, none⟩ = some (.int .i64 y1) ∧ w2.cell? ⟨h1, 2, none⟩ = some (.int .i64 y2)) (go_keep)
    (first
      | (go_at_call 24; refine (compare_any _ _ _).mono ?_; rintro e w' ⟨rfl, rfl⟩)
      | (go_at_call 23; refine (or_new_d _ _ _ _).mono ?_; rintro e w3 ⟨rfl, hf3⟩; obtain ⟨d0, d1, d2, d3, d4, d5, e8, e9⟩ := HK.out w3 hf3))
  all_goals
    have HF := Lib.hid (hF'.out.then hf3)
    go_wp2_with fail
    go_ret
    exact ⟨by rw [← hO.out]; rfl, HF.out⟩
theorem opacks_any (x0 x1 x2 x3 x4 y0 y1 y2 y3 y4 : Int) (w : World) : Calls Tryz.prog 14 #[.agg #[.int .i64 x0, .int .i64 x1, .int .i64 x2, .int .i64 x3, .int .i64 x4], .agg #[.int .i64 y0, .int .i64 y1, .int .i64 y2, .int .i64 y3, .int .i64 y4]] w fun e w' => e = .returned (.int .i64 (ord3 x0 x1 x2 y0 y1 y2)) ∧ Far (fun _ => False) w w' := by
  have hO := Lib.hid (show orO (cmpI x0 y0) (cmpI x1 y1) (cmpI x2 y2) = ord3 x0 x1 x2 y0 y1 y2 from rfl)
  obtain ⟨h0, hh⟩ : ∃ h, h = w.heap.size := ⟨_, rfl⟩
  obtain ⟨h1, hh1⟩ : ∃ h, h = h0 + 1 := ⟨_, rfl⟩
  obtain ⟨w0, hw0⟩ : ∃ w0, w0 = w.alloc (.cells #[.int .i64 x0, .int .i64 x1, .int .i64 x2, .int .i64 x3, .int .i64 x4] 42) := ⟨_, rfl⟩
  obtain ⟨W, hW⟩ : ∃ W, W = w0.alloc (.cells #[.int .i64 y0, .int .i64 y1, .int .i64 y2, .int .i64 y3, .int .i64 y4] 42) := ⟨_, rfl⟩
  have hz0 : w0.heap.size = h1 := by rw [hw0]; simp [hh1, hh]
  have hA : Bk W h0 42 #[.int .i64 x0, .int .i64 x1, .int .i64 x2, .int .i64 x3, .int .i64 x4] := hW ▸ ((hw0 ▸ Bk.new hh : Bk w0 h0 42 #[.int .i64 x0, .int .i64 x1, .int .i64 x2, .int .i64 x3, .int .i64 x4]).alloc _)
  have hB : Bk W h1 42 #[.int .i64 y0, .int .i64 y1, .int .i64 y2, .int .i64 y3, .int .i64 y4] := hW ▸ Bk.new hz0.symm
  have hF : Far (fun _ => False) w W := hW ▸ (hw0 ▸ (Far.refl _ w).alloc _ : Far (fun _ => False) w w0).alloc _
  have hl0 := hA.lt
  have hl1 := hB.lt
  have a0 : W.cell? ⟨h0, 0, none⟩ = some (.int .i64 x0) := hA.cell 0
  have a1 : W.cell? ⟨h0, 1, none⟩ = some (.int .i64 x1) := hA.cell 1
  have a2 : W.cell? ⟨h0, 2, none⟩ = some (.int .i64 x2) := hA.cell 2
  have a3 : W.cell? ⟨h0, 3, none⟩ = some (.int .i64 x3) := hA.cell 3
  have a4 : W.cell? ⟨h0, 4, none⟩ = some (.int .i64 x4) := hA.cell 4
  have b0 : W.cell? ⟨h1, 0, none⟩ = some (.int .i64 y0) := hB.cell 0
  have b1 : W.cell? ⟨h1, 1, none⟩ = some (.int .i64 y1) := hB.cell 1
  have b2 : W.cell? ⟨h1, 2, none⟩ = some (.int .i64 y2) := hB.cell 2
  have b3 : W.cell? ⟨h1, 3, none⟩ = some (.int .i64 y3) := hB.cell 3
  have b4 : W.cell? ⟨h1, 4, none⟩ = some (.int .i64 y4) := hB.cell 4
  have hh' := Lib.hid hh
  have hh1' := Lib.hid hh1
  have hw0' := Lib.hid hw0
  have hW' := Lib.hid hW
  have hF' := Lib.hid hF
  clear hh hh1 hw0 hW hz0 hA hB hF
  go_enter Tryz.func14, Tryz.ntmps14
  go_upto_region 1 with fail
  rw [← hh'.out, ← hh1'.out, ← hw0'.out, ← hW'.out]
  have HK := Lib.hid (show ∀ w2, Far (fun _ => False) W w2 → w2.cell? ⟨h0, 0, none⟩ = some (.int .i64 x0) ∧ w2.cell? ⟨h0, 1, none⟩ = some (.int .i64 x1) ∧ w2.cell? ⟨h0, 2, none⟩ = some (.int .i64 x2) ∧ w2.cell? ⟨h0, 3, none⟩ = some (.int .i64 x3) ∧ w2.cell? ⟨h0, 4, none⟩ = some (.int .i64 x4) ∧ w2.cell? ⟨h1, 0, none⟩ = some (.int .i64 y0) ∧ w2.cell? ⟨h1, 1, none⟩ = some (.int .i64 y1) ∧ w2.cell? ⟨h1, 2, none⟩ = some (.int .i64 y2) ∧ w2.cell? ⟨h1, 3, none⟩ = some (.int .i64 y3) ∧ w2.cell? ⟨h1, 4, none⟩ = some (.int .i64 y4) ∧ h0 < w2.heap.size ∧ h1 < w2.heap.size from fun w2 h => ⟨(h.cell hl0).trans a0, (h.cell hl0).trans a1, (h.cell hl0).trans a2, (h.cell hl0).trans a3, (h.cell hl0).trans a4, (h.cell hl1).trans b0, (h.cell hl1).trans b1, (h.cell hl1).trans b2, (h.cell hl1).trans b3, (h.cell hl1).trans b4, Nat.lt_of_lt_of_le hl0 h.size, Nat.lt_of_lt_of_le hl1 h.size⟩)
  go_region_held3 (fun w2 => w2.cell? ⟨h0, 0, none⟩ = some (.int .i64 x0) ∧ w2.cell? ⟨h0, 1, none⟩ = some (.int .i64 x1) ∧ w2.cell? ⟨h0, 2, none⟩ = some (.int .i64 x2) ∧ w2.cell? ⟨h0, 3, none⟩ = some (.int .i64 x3) ∧ w2.cell? ⟨h0, 4, none⟩ = some (.int .i64 x4) ∧ w2.cell? ⟨h1, 0, none⟩ = some (.int .i64 y0) ∧ w2.cell? ⟨h1, 1, none⟩ = some (.int .i64 y1) ∧ w2.cell? ⟨h1, 2, none⟩ = some (.int .i64 y2) ∧ w2.cell? ⟨h1, 3, none⟩ = some (.int .i64 y3) ∧ w2.cell? ⟨h1, 4, none⟩ = some (.int .i64 y4)) (go_keep)
    (first
      | (go_at_call 24; refine (compare_any _ _ _).mono ?_; rintro e w' ⟨rfl, rfl⟩)
      | (go_at_call 23; refine (or_new_d _ _ _ _).mono ?_; rintro e w3 ⟨rfl, hf3⟩; obtain ⟨d0, d1, d2, d3, d4, d5, d6, d7, d8, d9, e8, e9⟩ := HK.out w3 hf3))
  all_goals
    have HF := Lib.hid (hF'.out.then hf3)
    go_wp2_with fail
    go_ret
    exact ⟨by rw [← hO.out]; rfl, HF.out⟩
end
end Go.Proofs.YteoglnbmmgoibaaGreatDoor
