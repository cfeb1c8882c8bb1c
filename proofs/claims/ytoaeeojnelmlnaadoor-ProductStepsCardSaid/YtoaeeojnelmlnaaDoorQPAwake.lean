/-
  The laws' head; ProductTurned walked.
-/
import Derived.Test.YtoaeeojnelmlnaaDoorQPWalk
namespace Go.Proofs.YtoaeeojnelmlnaaDoor
open Go.RowKit Go.Shelf
set_option linter.unusedVariables false
set_option linter.unusedSimpArgs false
/-! ### The head's matrix -/
def a3R (k : Nat) : Nat := if k = 0 then 0 else if k = 1 then 69 else 1
def a3C (k : Nat) : Nat := if k = 0 then 69 else 1
def a3M : Nat → Nat → Bool := putL a3R a3C 3
theorem a3M_iff {r c : Nat} : a3M r c = true ↔ (r = 0 ∧ c = 69) ∨ (r = 69 ∧ c = 1) ∨ (r = 1 ∧ c = 1) := by
  unfold a3M
  rw [putL_iff]
  constructor
  · rintro ⟨q, hq, rfl, rfl⟩
    rcases (show q = 0 ∨ q = 1 ∨ q = 2 by omega) with rfl | rfl | rfl <;> decide
  · rintro (⟨rfl, rfl⟩ | ⟨rfl, rfl⟩ | ⟨rfl, rfl⟩)
    · exact ⟨0, by decide, by decide, by decide⟩
    · exact ⟨1, by decide, by decide, by decide⟩
    · exact ⟨2, by decide, by decide, by decide⟩
theorem a3_within : ∀ r c, a3M r c = true → r < 70 ∧ c < 70 := fun r c h => by
  rcases a3M_iff.1 h with ⟨rfl, rfl⟩ | ⟨rfl, rfl⟩ | ⟨rfl, rfl⟩ <;> omega
theorem a3_prod {r c : Nat} : mulM a3M a3M r c = true ↔ (r = 0 ∧ c = 1) ∨ (r = 69 ∧ c = 1) ∨ (r = 1 ∧ c = 1) := by
  rw [mulM_iff (side := 70) (by decide) a3_within]
  constructor
  · rintro ⟨t, h1, h2⟩
    rcases a3M_iff.1 h1 with ⟨rfl, rfl⟩ | ⟨rfl, rfl⟩ | ⟨rfl, rfl⟩ <;> rcases a3M_iff.1 h2 with ⟨e, rfl⟩ | ⟨e, rfl⟩ | ⟨e, rfl⟩ <;> simp at e ⊢
  · rintro (⟨rfl, rfl⟩ | ⟨rfl, rfl⟩ | ⟨rfl, rfl⟩)
    · exact ⟨69, a3M_iff.2 (by simp), a3M_iff.2 (by simp)⟩
    · exact ⟨1, a3M_iff.2 (by simp), a3M_iff.2 (by simp)⟩
    · exact ⟨1, a3M_iff.2 (by simp), a3M_iff.2 (by simp)⟩
theorem a3_num : numM (mulM a3M a3M) = 3 := by
  have e : ∀ r c, mulM a3M a3M r c = putM (putM (putM (fun _ _ => false) 0 1) 69 1) 1 1 r c := fun r c => by
    rw [Bool.eq_iff_iff, a3_prod]
    simp [putM, or_assoc]
  rw [numM_congr e, numM_put (by decide) (by decide) (by simp [putM]), numM_put (by decide) (by decide) (by simp [putM]), numM_put (by decide) (by decide) rfl, numM_zero]
theorem a3_walk : setL (walkS a3M 70 0 2) 70 = [1] := by
  refine up_nat (setL_rise _ _) (by simp) fun x => ?_
  rw [mem_setL, List.mem_singleton]
  have h2 : walkS a3M 70 0 2 x = true ↔ x = 1 := by
    show stepS a3M 70 (stepS a3M 70 fun c => decide (c = 0)) x = true ↔ _
    rw [stepS_iff a3_within]
    constructor
    · rintro ⟨i, h1, h2⟩
      obtain ⟨k, h3, h4⟩ := (stepS_iff a3_within).1 h1
      have : k = 0 := by simpa using h3
      subst this
      rcases a3M_iff.1 h4 with ⟨_, rfl⟩ | ⟨e, _⟩ | ⟨e, _⟩
      · rcases a3M_iff.1 h2 with ⟨e, _⟩ | ⟨_, rfl⟩ | ⟨e, _⟩
        · cases e
        · rfl
        · cases e
      · cases e
      · cases e
    · rintro rfl
      exact ⟨69, (stepS_iff a3_within).2 ⟨0, by simp, a3M_iff.2 (by simp)⟩, a3M_iff.2 (by simp)⟩
  rw [h2]
  omega
section
set_option maxHeartbeats 8000000
set_option maxRecDepth 100000
theorem awake03_any (w : World) (hT : Tab w) : Calls Tryd.prog 38 #[] w fun e w' => e = .returned (.bool true) ∧ Far (fun _ => False) w w' := by
  have hcl : Cls (w.alloc (.cells #[.int .i64 0, .int .i64 69, .int .i64 69, .int .i64 1, .int .i64 1, .int .i64 1] 58)) (some ⟨w.heap.size, 0, none⟩) 3 (fun k => (a3R k : Nat)) (fun k => (a3C k : Nat)) := fun _ => by
    have hb : Bk (w.alloc (.cells #[.int .i64 0, .int .i64 69, .int .i64 69, .int .i64 1, .int .i64 1, .int .i64 1] 58)) w.heap.size 58 #[.int .i64 0, .int .i64 69, .int .i64 69, .int .i64 1, .int .i64 1, .int .i64 1] := Bk.new rfl
    refine ⟨w.heap.size, 0, rfl, hb.lt, fun k hk => ?_⟩
    rcases (show k = 0 ∨ k = 1 ∨ k = 2 by omega) with rfl | rfl | rfl
    · exact ⟨hb.cell 0, hb.cell 1⟩
    · exact ⟨hb.cell 2, hb.cell 3⟩
    · exact ⟨hb.cell 4, hb.cell 5⟩
  have OF := qof_yes 70 (by decide) (by decide) _ 3 3 a3R a3C (by decide) (fun k hk => by unfold a3R a3C; split <;> (try split) <;> decide) _ hcl
  have hfa : Far (fun _ => False) w (w.alloc (.cells #[.int .i64 0, .int .i64 69, .int .i64 69, .int .i64 1, .int .i64 1, .int .i64 1] 58)) := (Far.refl _ w).alloc _
  clear hcl
  go_enter Tryd.func38, Tryd.ntmps38
  go_wp2_with fail
  refine OF.mono ?_
  rintro e w1 ⟨B, rfl, F, hX, hlo, hf1⟩
  have hf1' := Lib.hid (hfa.then hf1)
  have hX' := Lib.hid (show Mx w1 B F 70 a3M from hX)
  have ML := pMul_yes hX'.out hX'.out (hT.still hf1'.out)
  clear hfa hf1 OF hX hlo
  go_wp2_with fail
  refine ML.mono ?_
  rintro e w2 ⟨Bp, rfl, Fp, hP, _, hf2⟩
  have hP' := Lib.hid hP
  have hf2' := Lib.hid (hf1'.out.then hf2)
  have WK := walk_yes (hX'.out.still hf2) (hT.still hf2'.out) 0 2 (by decide) (by decide)
  rw [a3_walk] at WK
  clear ML hP hf2 hX'
  go_wp2_with fail
  refine WK.mono ?_
  rintro e w3 ⟨v, rfl, hown, hf3⟩
  obtain ⟨vo, vc, rfl⟩ := q_form hown
  have hP3 := Lib.hid (hP'.out.still hf3)
  have hf3' := Lib.hid (hf2'.out.then hf3)
  have hown' := Lib.hid hown
  have G1 := hP3.out.get 69 1 (by decide) (by decide)
  rw [show mulM a3M a3M 69 1 = true from a3_prod.2 (by simp)] at G1
  clear WK hown hf3 hP'
  go_wp2_with fail
  refine G1.mono ?_
  rintro e w4 ⟨rfl, hf4⟩
  have LE := qlen_any (hP3.out.still hf4)
  rw [a3_num] at LE
  have hf4' := Lib.hid hf4
  clear G1 hf4
  go_wp2_with fail
  refine LE.mono ?_
  rintro e w5 ⟨rfl, hf5⟩
  have hf35 := Lib.hid (hf4'.out.then hf5)
  have ho5 := row_same hown'.out fun k hk hl => hf35.out.block k hl id
  obtain ⟨g, c2, hsv, _⟩ := ho5.form (by decide)
  simp only [Value.slice.injEq] at hsv
  obtain ⟨rfl, _, _⟩ := hsv
  have c0 : w5.cell? ⟨g, 0, none⟩ = some (.int .i64 1) := by
    have := ho5.cellAt 0 (by decide)
    exact this
  have hf5' := Lib.hid (hf3'.out.then hf35.out)
  clear LE hf5 ho5
  go_wp2_with fail
  go_ret
  exact ⟨rfl, hf5'.out⟩
end
theorem turn_mul {A B : Nat → Nat → Bool} {side : Nat} (hs : side ≤ 1024) (ha : ∀ r c, A r c = true → r < side ∧ c < side) (hb : ∀ r c, B r c = true → r < side ∧ c < side) : ∀ r c, tnM (mulM A B) r c = mulM (tnM B) (tnM A) r c := fun r c => by
  have h1 : tnM (mulM A B) r c = mulM A B c r := by unfold tnM; rfl
  have h2 := mulM_iff (A := A) (B := B) (r := c) (c := r) hs ha
  have h3 := mulM_iff (A := tnM B) (B := tnM A) (r := r) (c := c) hs (fun r c h => ⟨(hb c r h).2, (hb c r h).1⟩)
  rw [h1, Bool.eq_iff_iff, h2, h3]
  exact ⟨fun ⟨t, h1, h2⟩ => ⟨t, h2, h1⟩, fun ⟨t, h1, h2⟩ => ⟨t, h2, h1⟩⟩
section
set_option maxHeartbeats 8000000
set_option maxRecDepth 100000
theorem pturned_law (W : World) (x : Int) (ao : Option Addr) (n cap : Nat) (R C : Nat → Int) (hn : n ≤ 9223372036854775807) (hC : Cls W ao n R C) (bo : Option Addr) (m bcap : Nat) (R2 C2 : Nat → Int) (hm : m ≤ 9223372036854775807) (hC2 : Cls W bo m R2 C2) (hT : Tab W) :
    Calls Tryd.prog 12 #[.int .i64 x, .slice ao n cap, .slice bo m bcap] W fun e w' => e = .returned (.bool true) ∧ Far (fun _ => False) W w' := by
  obtain ⟨s, hs⟩ : ∃ s, (x % 256).toNat + 1 = s := ⟨_, rfl⟩
  have hs1 : 1 ≤ s := by omega
  have hs2 : s ≤ 1024 := by omega
  have SZ := side03_any x W
  rw [hs] at SZ
  have FA := fold03_any s hs1 hs2 ao n cap R C hn W hC
  obtain ⟨A, hA⟩ : ∃ M, foldR s R C n = M := ⟨_, rfl⟩
  rw [hA] at FA
  have FB : ∀ w, Far (fun _ => False) W w → _ := fun w hf => fold03_any s hs1 hs2 bo m bcap R2 C2 hm w (hC2.move hf)
  obtain ⟨D, hD⟩ : ∃ M, foldR s R2 C2 m = M := ⟨_, rfl⟩
  rw [hD] at FB
  clear hA hD hs hC hC2
  go_enter Tryd.func12, Tryd.ntmps12
  go_wp2_with fail
  refine SZ.mono ?_
  rintro e w' ⟨rfl, rfl⟩
  clear SZ
  go_wp2_with fail
  refine FA.mono ?_
  rintro e w1 ⟨Ba, rfl, Fa, hXa, _, hf1⟩
  have hXa' := Lib.hid hXa
  have hf1' := Lib.hid hf1
  have FB1 := FB w1 hf1
  clear FA FB hXa hf1
  go_wp2_with fail
  refine FB1.mono ?_
  rintro e w2 ⟨Bb, rfl, Fb, hXb, _, hf2⟩
  have hXa2 := Lib.hid (hXa'.out.still hf2)
  have hXb2 := Lib.hid hXb
  have hf2' := Lib.hid (hf1'.out.then hf2)
  have wa := Lib.hid hXa2.out.within
  have wb := Lib.hid hXb2.out.within
  have ML := pMul_yes hXa2.out hXb2.out (hT.still hf2'.out)
  clear FB1 hXb hf2 hXa' hf1'
  go_wp2_with fail
  refine ML.mono ?_
  rintro e w3 ⟨Bp, rfl, Fp, hP, _, hf3⟩
  have hP' := Lib.hid hP
  have hXa3 := Lib.hid (hXa2.out.still hf3)
  have hf3' := Lib.hid (hf2'.out.then hf3)
  have T1 := qturn_any (hXb2.out.still hf3)
  clear ML hP hf3 hXa2 hXb2 hf2'
  go_wp2_with fail
  refine T1.mono ?_
  rintro e w4 ⟨Bt, rfl, Ft, hXt, _, hf4⟩
  have hXt' := Lib.hid hXt
  have hP4 := Lib.hid (hP'.out.still hf4)
  have hf4' := Lib.hid (hf3'.out.then hf4)
  have T2 := qturn_any (hXa3.out.still hf4)
  clear T1 hXt hf4 hP' hf3' hXa3
  go_wp2_with fail
  refine T2.mono ?_
  rintro e w5 ⟨Bu, rfl, Fu, hXu, _, hf5⟩
  have hP5 := Lib.hid (hP4.out.still hf5)
  have hf5' := Lib.hid (hf4'.out.then hf5)
  have ML2 := pMul_yes (hXt'.out.still hf5) hXu (hT.still hf5'.out)
  clear T2 hXu hf5 hXt' hf4' hP4
  go_wp2_with fail
  refine ML2.mono ?_
  rintro e w6 ⟨Bq, rfl, Fq, hQ, _, hf6⟩
  have hQ' := Lib.hid hQ
  have hf6' := Lib.hid (hf5'.out.then hf6)
  have T3 := qturn_any (hP5.out.still hf6)
  clear ML2 hQ hf6 hf5' hP5
  go_wp2_with fail
  refine T3.mono ?_
  rintro e w7 ⟨Bv, rfl, Fv, hXv, _, hf7⟩
  have hf7' := Lib.hid (hf6'.out.then hf7)
  have S1 := qsame_any hXv (hQ'.out.still hf7)
  clear T3 hXv hf7 hf6' hQ'
  go_wp2_with fail
  refine S1.mono ?_
  rintro e w8 ⟨v1, rfl, hv1, hf8⟩
  have hv1t : v1 = true := hv1.2 ⟨by trivial, turn_mul hs2 wa.out wb.out⟩
  subst hv1t
  have hf8' := Lib.hid (hf7'.out.then hf8)
  have AW := awake03_any w8 (hT.still hf8'.out)
  clear S1 hv1 hf8 hf7'
  go_wp2_with fail
  refine AW.mono ?_
  rintro e w9 ⟨rfl, hf9⟩
  have hf9' := Lib.hid (hf8'.out.then hf9)
  clear AW hf9
  go_wp2_with fail
  go_ret
  exact ⟨rfl, hf9'.out⟩
end
end Go.Proofs.YtoaeeojnelmlnaaDoor
