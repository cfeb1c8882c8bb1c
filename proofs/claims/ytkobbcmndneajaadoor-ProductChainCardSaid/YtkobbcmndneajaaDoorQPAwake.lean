/-
  The laws' head; ProductTurned walked.
-/
import Derived.Test.YtkobbcmndneajaaDoorQPWalk
namespace Go.Proofs.YtkobbcmndneajaaDoor
open Go.RowKit Go.Shelf
set_option linter.unusedVariables false
set_option linter.unusedSimpArgs false
/-! ### The head's matrix -/
def a3R (k : Nat) : Nat := if k = 0 then 0 else if k = 1 then 69 else 1
def a3C (k : Nat) : Nat := if k = 0 then 69 else 1
def a3M : Nat → Nat → Bool := putL a3R a3C 3
theorem a3M_iff {r c : Nat} : a3M r c = true ↔ (r = 0 ∧ c = 69) ∨ (r = 69 ∧ c = 1) ∨ (r = 1 ∧ c = 1) := by
  unfold a3M
  rw [putL_iff]
  constructor
  · rintro ⟨q, hq, rfl, rfl⟩
    rcases (show q = 0 ∨ q = 1 ∨ q = 2 by omega) with rfl | rfl | rfl <;> decide
  · rintro (⟨rfl, rfl⟩ | ⟨rfl, rfl⟩ | ⟨rfl, rfl⟩)
    · exact ⟨0, by decide, by decide, by decide⟩
    · exact ⟨1, by decide, by decide, by decide⟩
    · exact ⟨2, by decide, by decide, by decide⟩
theorem a3_within : ∀ r c, a3M r c = true → r < 70 ∧ c < 70 := fun r c h => by
  rcases a3M_iff.1 h with ⟨rfl, rfl⟩ | ⟨rfl, rfl⟩ | ⟨rfl, rfl⟩ <;> omega
theorem a3_prod {r c : Nat} : mulM a3M a3M r c = true ↔ (r = 0 ∧ c = 1) ∨ (r = 69 ∧ c = 1) ∨ (r = 1 ∧ c = 1) := by
  rw [mulM_iff (side := 70) (by decide) a3_within]
  constructor
  · rintro ⟨t, h1, h2⟩
    rcases a3M_iff.1 h1 with ⟨rfl, rfl⟩ | ⟨rfl, rfl⟩ | ⟨rfl, rfl⟩ <;> rcases a3M_iff.1 h2 with ⟨e, rfl⟩ | ⟨e, rfl⟩ | ⟨e, rfl⟩ <;> simp at e ⊢
  · rintro (⟨rfl, rfl⟩ | ⟨rfl, rfl⟩ | ⟨rfl, rfl⟩)
    · exact ⟨69, a3M_iff.2 (by simp), a3M_iff.2 (by simp)⟩
    · exact ⟨1, a3M_iff.2 (by simp), a3M_iff.2 (by simp)⟩
    · exact ⟨1, a3M_iff.2 (by simp), a3M_iff.2 (by simp)⟩
theorem a3_num : numM (mulM a3M a3M) = 3 := by
  have e : ∀ r c, mulM a3M a3M r c = putM (putM (putM (fun _ _ => false) 0 1) 69 1) 1 1 r c := fun r c => by
    rw [Bool.eq_iff_iff, a3_prod]
    simp [putM, or_assoc]
  rw [numM_congr e, numM_put (by decide) (by decide) (by simp [putM]), numM_put (by decide) (by decide) (by simp [putM]), numM_put (by decide) (by decide) rfl, numM_zero]
theorem a3_walk : setL (walkS a3M 70 0 2) 70 = [1] := by
  refine up_nat (setL_rise _ _) (by simp) fun x => ?_
  rw [mem_setL, List.mem_singleton]
  have h2 : walkS a3M 70 0 2 x = true ↔ x = 1 := by
    show stepS a3M 70 (stepS a3M 70 fun c => decide (c = 0)) x = true ↔ _
    rw [stepS_iff a3_within]
    constructor
    · rintro ⟨i, h1, h2⟩
      obtain ⟨k, h3, h4⟩ := (stepS_iff a3_within).1 h1
      have : k = 0 := by simpa using h3
      subst this
      rcases a3M_iff.1 h4 with ⟨_, rfl⟩ | ⟨e, _⟩ | ⟨e, _⟩
      · rcases a3M_iff.1 h2 with ⟨e, _⟩ | ⟨_, rfl⟩ | ⟨e, _⟩
        · cases e
        · rfl
        · cases e
      · cases e
      · cases e
    · rintro rfl
      exact ⟨69, (stepS_iff a3_within).2 ⟨0, by simp, a3M_iff.2 (by simp)⟩, a3M_iff.2 (by simp)⟩
  rw [h2]
  omega
section
set_option maxHeartbeats 8000000
set_option maxRecDepth 100000
theorem awake03_any (w : World) (hT : Tab w) : Calls Tryd.prog 25 #[] w fun e w' => e = .returned (.bool true) ∧ Far (fun _ => False) w w' := by
  have hcl : Cls (w.alloc (.cells #[.int .i64 0, .int .i64 69, .int .i64 69, .int .i64 1, .int .i64 1, .int .i64 1] 82)) (some ⟨w.heap.size, 0, none⟩) 3 (fun k => (a3R k : Nat)) (fun k => (a3C k : Nat)) := fun _ => by
    have hb : Bk (w.alloc (.cells #[.int .i64 0, .int .i64 69, .int .i64 69, .int .i64 1, .int .i64 1, .int .i64 1] 82)) w.heap.size 82 #[.int .i64 0, .int .i64 69, .int .i64 69, .int .i64 1, .int .i64 1, .int .i64 1] := Bk.new rfl
    refine ⟨w.heap.size, 0, rfl, hb.lt, fun k hk => ?_⟩
    rcases (show k = 0 ∨ k = 1 ∨ k = 2 by omega) with rfl | rfl | rfl
    · exact ⟨hb.cell 0, hb.cell 1⟩
    · exact ⟨hb.cell 2, hb.cell 3⟩
    · exact ⟨hb.cell 4, hb.cell 5⟩
  have OF := qof_yes 70 (by decide) (by decide) _ 3 3 a3R a3C (by decide) (fun k hk => by unfold a3R a3C; split <;> (try split) <;> decide) _ hcl
  have hfa : Far (fun _ => False) w (w.alloc (.cells #[.int .i64 0, .int .i64 69, .int .i64 69, .int .i64 1, .int .i64 1, .int .i64 1] 82)) := (Far.refl _ w).alloc _
  clear hcl
  go_enter Tryd.func25, Tryd.ntmps25
  go_wp2_with fail
  refine OF.mono ?_
  rintro e w1 ⟨B, rfl, F, hX, hlo, hf1⟩
  have hf1' := Lib.hid (hfa.then hf1)
  have hX' := Lib.hid (show Mx w1 B F 70 a3M from hX)
  have ML := pMul_yes hX'.out hX'.out (hT.still hf1'.out)
  clear hfa hf1 OF hX hlo
  go_wp2_with fail
  refine ML.mono ?_
  rintro e w2 ⟨Bp, rfl, Fp, hP, _, hf2⟩
  have hP' := Lib.hid hP
  have hf2' := Lib.hid (hf1'.out.then hf2)
  have WK := walk_yes (hX'.out.still hf2) (hT.still hf2'.out) 0 2 (by decide) (by decide)
  rw [a3_walk] at WK
  clear ML hP hf2 hX'
  go_wp2_with fail
  refine WK.mono ?_
  rintro e w3 ⟨v, rfl, hown, hf3⟩
  obtain ⟨vo, vc, rfl⟩ := q_form hown
  have hP3 := Lib.hid (hP'.out.still hf3)
  have hf3' := Lib.hid (hf2'.out.then hf3)
  have hown' := Lib.hid hown
  have G1 := hP3.out.get 69 1 (by decide) (by decide)
  rw [show mulM a3M a3M 69 1 = true from a3_prod.2 (by simp)] at G1
  clear WK hown hf3 hP'
  go_wp2_with fail
  refine G1.mono ?_
  rintro e w4 ⟨rfl, hf4⟩
  have LE := qlen_any (hP3.out.still hf4)
  rw [a3_num] at LE
  have hf4' := Lib.hid hf4
  clear G1 hf4
  go_wp2_with fail
  refine LE.mono ?_
  rintro e w5 ⟨rfl, hf5⟩
  have hf35 := Lib.hid (hf4'.out.then hf5)
  have ho5 := row_same hown'.out fun k hk hl => hf35.out.block k hl id
  obtain ⟨g, c2, hsv, _⟩ := ho5.form (by decide)
  simp only [Value.slice.injEq] at hsv
  obtain ⟨rfl, _, _⟩ := hsv
  have c0 : w5.cell? ⟨g, 0, none⟩ = some (.int .i64 1) := by
    have := ho5.cellAt 0 (by decide)
    exact this
  have hf5' := Lib.hid (hf3'.out.then hf35.out)
  clear LE hf5 ho5
  go_wp2_with fail
  go_ret
  exact ⟨rfl, hf5'.out⟩
end
theorem turn_mul {A B : Nat → Nat → Bool} {side : Nat} (hs : side ≤ 1024) (ha : ∀ r c, A r c = true → r < side ∧ c < side) (hb : ∀ r c, B r c = true → r < side ∧ c < side) : ∀ r c, tnM (mulM A B) r c = mulM (tnM B) (tnM A) r c := fun r c => by
  have h1 : tnM (mulM A B) r c = mulM A B c r := by unfold tnM; rfl
  have h2 := mulM_iff (A := A) (B := B) (r := c) (c := r) hs ha
  have h3 := mulM_iff (A := tnM B) (B := tnM A) (r := r) (c := c) hs (fun r c h => ⟨(hb c r h).2, (hb c r h).1⟩)
  rw [h1, Bool.eq_iff_iff, h2, h3]
  exact ⟨fun ⟨t, h1, h2⟩ => ⟨t, h2, h1⟩, fun ⟨t, h1, h2⟩ => ⟨t, h2, h1⟩⟩
section
set_option maxHeartbeats 8000000
set_option maxRecDepth 100000
end
end Go.Proofs.YtkobbcmndneajaaDoor
