/-
  Put, Block: with their errors.
-/
import Derived.Test.YtjolkhiggcmoiaaGreatDoorQPut
import Derived.Test.YtjolkhiggcmoiaaGreatDoorQBase
namespace Go.Proofs.YtjolkhiggcmoiaaGreatDoor
open Go.RowKit
set_option linter.unusedVariables false
set_option linter.unusedSimpArgs false
section
variable {w w' : World} {B side : Nat} {F : Nat → Prop} {M : Nat → Nat → Bool}
section
set_option maxHeartbeats 4000000
set_option maxRecDepth 100000
theorem wid_le (side i : Nat) : wid side i ≤ 64 := Nat.min_le_left _ _
theorem cut_fits {side i j : Nat} {f : Nat → Nat} : (∀ r c, r < 64 → c < 64 → cutS f (wid side i) (wid side j) r c = bt f r c) ↔ ∀ r c, r < 64 → c < 64 → bt f r c = true → 64 * i + r < side ∧ 64 * j + c < side := by
  unfold cutS wid
  constructor
  · intro h r c hr hc hb
    have := h r c hr hc
    rw [hb] at this
    simp at this
    omega
  · intro h r c hr hc
    cases hb : bt f r c
    · simp
    · have := h r c hr hc hb
      simp
      omega
theorem qPut_yes (h : Mx w B F side M) (i j : Nat) (hi : i < lns side) (hj : j < lns side) {f : Nat → Nat} (hf : Wf f) (hin : ∀ r c, r < 64 → c < 64 → bt f r c = true → 64 * i + r < side ∧ 64 * j + c < side) :
    Calls Tryz.prog 134 #[.pointer (some ⟨B, 0, none⟩), .int .i64 i, .int .i64 j, .agg (Rw f)] w fun e w' => e = .returned (.tuple #[.bool (newB M i j f), .int .i64 0]) ∧ ∃ F', Mx w' B F' side (orM M i j f) ∧ Mv w w' F F' := by
  have hz : ∀ w, (zeroValue 108).run Tryz.prog w = .ok (.agg (Rw fun _ => 0)) w := (zero_of_info blockZero).1
  have hS := Lib.hid h
  obtain ⟨lv, root, nv, lvv, ns, A, ps, hq, hfull, rfl⟩ := h
  have ha : Far (fun _ => False) w (w.alloc (.cells (Rw f) 108)) := (Far.refl _ w).alloc _
  have N := qnone_no (hq.still ha)
  have H := qhas_yes (hq.still ha) i j hi hj
  have d0 : Hold (w.alloc (.cells (Rw f) 108)) w.heap.size (Rw f) := Hold.new rfl
  have hq' := Lib.hid (hq.still ha)
  clear hq hfull
  go_enter Tryz.func134, Tryz.ntmps134
  go_wp2_with fail
  refine N.mono ?_
  rintro e w' ⟨rfl, rfl⟩
  go_wp2_with fail
  refine H.mono ?_
  rintro e w' ⟨rfl, rfl⟩
  clear N H
  go_upto_region 5 with fail
  obtain ⟨wB, hwB⟩ : ∃ wB, wB = w.alloc (.cells (Rw f) 108) := ⟨_, rfl⟩
  rw [← hwB] at hq' d0 ha ⊢
  obtain ⟨kb, hkb⟩ : ∃ kb, kb = w.heap.size := ⟨_, rfl⟩
  have hkB : kb < wB.heap.size := by rw [hwB, hkb]; simp
  rw [← hkb] at d0 ⊢
  have WI := fun W (h9 : Far (fun _ => False) wB W) k (hk : k < lns side) => qwidth_any (hq'.out.still h9) k hk
  have hwB' := Lib.hid hwB
  have hlow := Lib.hid hkB
  have hkb' := Lib.hid hkb
  clear hwB hkB hkb
  go_cut [10, 11] (fun pv ev wc => ev = .int .i64 0 ∧ ∃ p, pv = .pointer (some ⟨p, 0, none⟩) ∧ wB.heap.size ≤ p ∧ Hold wc p (Rw (blk (cutS f (wid side i) (wid side j)))) ∧ Hold wc kb (Rw f) ∧ Far (fun _ => False) wB wc)
  case first =>
    rename_i hJ hM
    refine wp_region_held_drew (S := fun w' => Hold w' kb (Rw f) ∧ Far (fun _ => False) wB w') (by kernel_rfl) ⟨d0, (Far.refl _ wB).drew⟩ fun hS => ?_
    generalize wB.drew = wd at *
    refine wpAnyH_take (i := 0) rfl (by kernel_rfl) (by kernel_rfl) (by kernel_rfl) (fun _ _ _ h => h) (yl rfl _ rfl _ rfl fun w h => h.1) (by assumption) ?_
    simp only [Act.put, List.setIfInBounds_toArray, List.set_cons_zero, List.set_cons_succ]
    refine wpAnyH_take (i := 1) (v := ?v1x2) rfl (by kernel_rfl) (by kernel_rfl) (by kernel_rfl) (fun _ _ _ h => h) (Or.inl ⟨by rfl, ?y1x2⟩) (by assumption) ?r1x2
    case y1x2 => (intro w hSw; (try dsimp only at hSw); go_simp; (try with_reducible rfl))
    simp only [Act.put, List.setIfInBounds_toArray, List.set_cons_zero, List.set_cons_succ]
    refine wpAnyH_take (i := 2) (v := ?v2x3) rfl (by kernel_rfl) (by kernel_rfl) (by kernel_rfl) (fun _ _ _ h => h) (Or.inl ⟨by rfl, ?y2x3⟩) (by assumption) ?r2x3
    case y2x3 => (intro w hSw; (try dsimp only at hSw); go_simp; (try with_reducible rfl))
    simp only [Act.put, List.setIfInBounds_toArray, List.set_cons_zero, List.set_cons_succ]
    refine wpAnyH_take (i := 4) (v := ?v4x4) rfl (by kernel_rfl) (by kernel_rfl) (by kernel_rfl) (fun _ _ _ h => h) (Or.inl ⟨by rfl, ?y4x4⟩) (by assumption) ?r4x4
    case y4x4 => (intro w hSw; (try dsimp only at hSw); go_simp; (try with_reducible rfl))
    simp only [Act.put, List.setIfInBounds_toArray, List.set_cons_zero, List.set_cons_succ]
    refine wpAnyH_take (i := 5) (v := ?v5x5) rfl (by kernel_rfl) (by kernel_rfl) (by kernel_rfl) (fun _ _ _ h => h) (Or.inl ⟨by rfl, ?y5x5⟩) (by assumption) ?r5x5
    case y5x5 => (intro w hSw; (try dsimp only at hSw); go_simp; (try with_reducible rfl))
    simp only [Act.put, List.setIfInBounds_toArray, List.set_cons_zero, List.set_cons_succ]
    refine wpAnyH_ready (rs := [3, 11]) (by kernel_rfl) (by decide) (AllReadyH.cons rfl (fun K' hK => ?_) (AllReadyH.cons rfl (fun K' hK => ?_) AllReadyH.nil))
    · skip
      refine hw_call _ _ _ _ rfl (by go_simp) ((WI _ hS.2 i hi).mono fun _ _ h => ⟨h.1, h.2⟩) fun w1 hb1 => ?_
      have hf1 : Far (fun _ => False) wd w1 := hb1 ▸ Far.refl _ wd
      refine hK.out _ _ ⟨hold_far hS.1 hf1 id, hS.2.then hf1⟩ fun hS1 => ?_
      go_simp
      clear hK
      refine wpAnyH_ready (rs := [6, 11]) (by kernel_rfl) (by decide) (AllReadyH.cons rfl (fun K' hK => ?_) (AllReadyH.cons rfl (fun K' hK => ?_) AllReadyH.nil))
      · skip
        refine hw_call _ _ _ _ rfl (by go_simp) ((WI _ hS1.2 j hj).mono fun _ _ h => ⟨h.1, h.2⟩) fun w2 hb2 => ?_
        have hf2 : Far (fun _ => False) w1 w2 := hb2 ▸ Far.refl _ w1
        refine hK.out _ _ ⟨hold_far hS1.1 hf2 id, hS1.2.then hf2⟩ fun hS2 => ?_
        go_simp
        clear hK
        refine wpAnyH_ready (rs := [7, 11]) (by kernel_rfl) (by decide) (AllReadyH.cons rfl (fun K' hK => ?_) (AllReadyH.cons rfl (fun K' hK => ?_) AllReadyH.nil))
        · skip
          refine hw_call _ _ _ _ rfl (by go_simp) (corner_yes f (wid side i) (wid side j) w2 hf (wid_le _ _) (wid_le _ _)) fun w3 hb3 => ?_
          have hf3 : Far (fun _ => False) w2 w3 := below_far hb3
          refine hK.out _ _ ⟨hold_far hS2.1 hf3 id, hS2.2.then hf3⟩ fun hS3 => ?_
          go_simp
          clear hK
          refine wpAnyH_take (i := 8) (v := ?v8x6) rfl (by kernel_rfl) (by kernel_rfl) (by kernel_rfl) (fun _ _ _ h => h) (Or.inl ⟨by rfl, ?y8x6⟩) (by assumption) ?r8x6
          case y8x6 => (intro w hSw; (try dsimp only at hSw); go_simp; (try with_reducible rfl))
          simp only [Act.put, List.setIfInBounds_toArray, List.set_cons_zero, List.set_cons_succ]
          refine wpAnyH_take (i := 9) (v := ?v9x7) rfl (by kernel_rfl) (by kernel_rfl) (by kernel_rfl) (fun _ _ _ h => h) (Or.inl ⟨by rfl, ?y9x7⟩) (by assumption) ?r9x7
          case y9x7 => (intro w hSw; (try dsimp only at hSw); go_simp; (try with_reducible rfl))
          simp only [Act.put, List.setIfInBounds_toArray, List.set_cons_zero, List.set_cons_succ]
          refine wpAnyH_take (i := 10) (v := ?v10x8) rfl (by kernel_rfl) (by kernel_rfl) (by kernel_rfl) (fun _ _ _ h => h) (Or.inl ⟨by rfl, ?y10x8⟩) (by assumption) ?r10x8
          case y10x8 => (intro w hSw; (try dsimp only at hSw); go_simp; (try with_reducible rfl))
          simp only [Act.put, List.setIfInBounds_toArray, List.set_cons_zero, List.set_cons_succ]
          refine wpAnyH_ready (rs := [11]) (by kernel_rfl) (by decide) (AllReadyH.cons rfl (fun K' hK => ?_) AllReadyH.nil)
          refine hw_run _ _ rfl (run_mk w3 rfl) ?_
          have hf4 : Far (fun _ => False) w3 (w3.alloc (.cells (Rw fun _ => 0) 108)) := (Far.refl _ w3).alloc _
          have hp4 : Hold (w3.alloc (.cells (Rw fun _ => 0) 108)) w3.heap.size (Rw fun _ => 0) := Hold.new rfl
          have hl4 := (hS3.2).size
          refine hK.out _ _ ⟨hold_far hS3.1 hf4 id, hS3.2.then hf4⟩ fun hS4 => ?_
          go_simp
          clear hK
          refine wpAnyH_ready (rs := [12]) (by kernel_rfl) (by decide) (AllReadyH.cons rfl (fun K' hK => ?_) AllReadyH.nil)
          refine hw_st rfl _ _ rfl _ rfl _ rfl hp4 ?_
          have hr5 := row_far (w3.alloc (.cells (Rw fun _ => 0) 108)) w3.heap.size (Rw (blk (cutS f (wid side i) (wid side j))))
          have hq5 := Hold.row hp4 (Rw (blk (cutS f (wid side i) (wid side j))))
          refine hK.out _ _ ⟨hold_far hS4.1 hr5 (by have := hlow.out; omega), hS4.2.trans hr5 (fun k hk (e : k = _) => by omega)⟩ fun hS5 => ?_
          go_simp
          clear hK
          refine wpAnyH_take (i := 13) (v := ?v13x9) rfl (by kernel_rfl) (by kernel_rfl) (by kernel_rfl) (fun _ _ _ h => h) (Or.inl ⟨by rfl, ?y13x9⟩) (by assumption) ?r13x9
          case y13x9 => (intro w hSw; (try dsimp only at hSw); go_simp; (try with_reducible rfl))
          simp only [Act.put, List.setIfInBounds_toArray, List.set_cons_zero, List.set_cons_succ]
          refine wpAnyH_done (by kernel_rfl) ?_ _
          go_simp
          refine hM _ _ (Met.intro (hJ _ _ ?_))
          repeat apply Exists.intro
          refine ⟨?rel1, rfl⟩
          exact ⟨rfl, w3.heap.size, rfl, by have := hlow.out; omega, hq5, hS5.1, hS5.2⟩
        · skip
          refine hw_run _ _ rfl (run_mk w2 rfl) ?_
          have hf6 : Far (fun _ => False) w2 (w2.alloc (.cells (Rw fun _ => 0) 108)) := (Far.refl _ w2).alloc _
          have hp6 : Hold (w2.alloc (.cells (Rw fun _ => 0) 108)) w2.heap.size (Rw fun _ => 0) := Hold.new rfl
          have hl6 := (hS2.2).size
          refine hK.out _ _ ⟨hold_far hS2.1 hf6 id, hS2.2.then hf6⟩ fun hS6 => ?_
          go_simp
          clear hK
          refine wpAnyH_ready (rs := [7]) (by kernel_rfl) (by decide) (AllReadyH.cons rfl (fun K' hK => ?_) AllReadyH.nil)
          refine hw_call _ _ _ _ rfl (by go_simp) (corner_yes f (wid side i) (wid side j) (w2.alloc (.cells (Rw fun _ => 0) 108)) hf (wid_le _ _) (wid_le _ _)) fun w7 hb7 => ?_
          have hf7 : Far (fun _ => False) (w2.alloc (.cells (Rw fun _ => 0) 108)) w7 := below_far hb7
          have hp7 := hold_far hp6 hf7 id
          refine hK.out _ _ ⟨hold_far hS6.1 hf7 id, hS6.2.then hf7⟩ fun hS7 => ?_
          go_simp
          clear hK
          refine wpAnyH_take (i := 8) (v := ?v8x10) rfl (by kernel_rfl) (by kernel_rfl) (by kernel_rfl) (fun _ _ _ h => h) (Or.inl ⟨by rfl, ?y8x10⟩) (by assumption) ?r8x10
          case y8x10 => (intro w hSw; (try dsimp only at hSw); go_simp; (try with_reducible rfl))
          simp only [Act.put, List.setIfInBounds_toArray, List.set_cons_zero, List.set_cons_succ]
          refine wpAnyH_take (i := 9) (v := ?v9x11) rfl (by kernel_rfl) (by kernel_rfl) (by kernel_rfl) (fun _ _ _ h => h) (Or.inl ⟨by rfl, ?y9x11⟩) (by assumption) ?r9x11
          case y9x11 => (intro w hSw; (try dsimp only at hSw); go_simp; (try with_reducible rfl))
          simp only [Act.put, List.setIfInBounds_toArray, List.set_cons_zero, List.set_cons_succ]
          refine wpAnyH_take (i := 10) (v := ?v10x12) rfl (by kernel_rfl) (by kernel_rfl) (by kernel_rfl) (fun _ _ _ h => h) (Or.inl ⟨by rfl, ?y10x12⟩) (by assumption) ?r10x12
          case y10x12 => (intro w hSw; (try dsimp only at hSw); go_simp; (try with_reducible rfl))
          simp only [Act.put, List.setIfInBounds_toArray, List.set_cons_zero, List.set_cons_succ]
          refine wpAnyH_ready (rs := [12]) (by kernel_rfl) (by decide) (AllReadyH.cons rfl (fun K' hK => ?_) AllReadyH.nil)
          refine hw_st rfl _ _ rfl _ rfl _ rfl hp7 ?_
          have hr8 := row_far w7 w2.heap.size (Rw (blk (cutS f (wid side i) (wid side j))))
          have hq8 := Hold.row hp7 (Rw (blk (cutS f (wid side i) (wid side j))))
          refine hK.out _ _ ⟨hold_far hS7.1 hr8 (by have := hlow.out; omega), hS7.2.trans hr8 (fun k hk (e : k = _) => by omega)⟩ fun hS8 => ?_
          go_simp
          clear hK
          refine wpAnyH_take (i := 13) (v := ?v13x13) rfl (by kernel_rfl) (by kernel_rfl) (by kernel_rfl) (fun _ _ _ h => h) (Or.inl ⟨by rfl, ?y13x13⟩) (by assumption) ?r13x13
          case y13x13 => (intro w hSw; (try dsimp only at hSw); go_simp; (try with_reducible rfl))
          simp only [Act.put, List.setIfInBounds_toArray, List.set_cons_zero, List.set_cons_succ]
          refine wpAnyH_done (by kernel_rfl) ?_ _
          go_simp
          refine hM _ _ (Met.intro (hJ _ _ ?_))
          repeat apply Exists.intro
          refine ⟨?rel2, rfl⟩
          exact ⟨rfl, w2.heap.size, rfl, by have := hlow.out; omega, hq8, hS8.1, hS8.2⟩
      · skip
        refine hw_run _ _ rfl (run_mk w1 rfl) ?_
        have hf9 : Far (fun _ => False) w1 (w1.alloc (.cells (Rw fun _ => 0) 108)) := (Far.refl _ w1).alloc _
        have hp9 : Hold (w1.alloc (.cells (Rw fun _ => 0) 108)) w1.heap.size (Rw fun _ => 0) := Hold.new rfl
        have hl9 := (hS1.2).size
        refine hK.out _ _ ⟨hold_far hS1.1 hf9 id, hS1.2.then hf9⟩ fun hS9 => ?_
        go_simp
        clear hK
        refine wpAnyH_ready (rs := [6]) (by kernel_rfl) (by decide) (AllReadyH.cons rfl (fun K' hK => ?_) AllReadyH.nil)
        refine hw_call _ _ _ _ rfl (by go_simp) ((WI _ hS9.2 j hj).mono fun _ _ h => ⟨h.1, h.2⟩) fun w10 hb10 => ?_
        have hf10 : Far (fun _ => False) (w1.alloc (.cells (Rw fun _ => 0) 108)) w10 := hb10 ▸ Far.refl _ (w1.alloc (.cells (Rw fun _ => 0) 108))
        have hp10 := hold_far hp9 hf10 id
        refine hK.out _ _ ⟨hold_far hS9.1 hf10 id, hS9.2.then hf10⟩ fun hS10 => ?_
        go_simp
        clear hK
        refine wpAnyH_ready (rs := [7]) (by kernel_rfl) (by decide) (AllReadyH.cons rfl (fun K' hK => ?_) AllReadyH.nil)
        refine hw_call _ _ _ _ rfl (by go_simp) (corner_yes f (wid side i) (wid side j) w10 hf (wid_le _ _) (wid_le _ _)) fun w11 hb11 => ?_
        have hf11 : Far (fun _ => False) w10 w11 := below_far hb11
        have hp11 := hold_far hp10 hf11 id
        refine hK.out _ _ ⟨hold_far hS10.1 hf11 id, hS10.2.then hf11⟩ fun hS11 => ?_
        go_simp
        clear hK
        refine wpAnyH_take (i := 8) (v := ?v8x14) rfl (by kernel_rfl) (by kernel_rfl) (by kernel_rfl) (fun _ _ _ h => h) (Or.inl ⟨by rfl, ?y8x14⟩) (by assumption) ?r8x14
        case y8x14 => (intro w hSw; (try dsimp only at hSw); go_simp; (try with_reducible rfl))
        simp only [Act.put, List.setIfInBounds_toArray, List.set_cons_zero, List.set_cons_succ]
        refine wpAnyH_take (i := 9) (v := ?v9x15) rfl (by kernel_rfl) (by kernel_rfl) (by kernel_rfl) (fun _ _ _ h => h) (Or.inl ⟨by rfl, ?y9x15⟩) (by assumption) ?r9x15
        case y9x15 => (intro w hSw; (try dsimp only at hSw); go_simp; (try with_reducible rfl))
        simp only [Act.put, List.setIfInBounds_toArray, List.set_cons_zero, List.set_cons_succ]
        refine wpAnyH_take (i := 10) (v := ?v10x16) rfl (by kernel_rfl) (by kernel_rfl) (by kernel_rfl) (fun _ _ _ h => h) (Or.inl ⟨by rfl, ?y10x16⟩) (by assumption) ?r10x16
        case y10x16 => (intro w hSw; (try dsimp only at hSw); go_simp; (try with_reducible rfl))
        simp only [Act.put, List.setIfInBounds_toArray, List.set_cons_zero, List.set_cons_succ]
        refine wpAnyH_ready (rs := [12]) (by kernel_rfl) (by decide) (AllReadyH.cons rfl (fun K' hK => ?_) AllReadyH.nil)
        refine hw_st rfl _ _ rfl _ rfl _ rfl hp11 ?_
        have hr12 := row_far w11 w1.heap.size (Rw (blk (cutS f (wid side i) (wid side j))))
        have hq12 := Hold.row hp11 (Rw (blk (cutS f (wid side i) (wid side j))))
        refine hK.out _ _ ⟨hold_far hS11.1 hr12 (by have := hlow.out; omega), hS11.2.trans hr12 (fun k hk (e : k = _) => by omega)⟩ fun hS12 => ?_
        go_simp
        clear hK
        refine wpAnyH_take (i := 13) (v := ?v13x17) rfl (by kernel_rfl) (by kernel_rfl) (by kernel_rfl) (fun _ _ _ h => h) (Or.inl ⟨by rfl, ?y13x17⟩) (by assumption) ?r13x17
        case y13x17 => (intro w hSw; (try dsimp only at hSw); go_simp; (try with_reducible rfl))
        simp only [Act.put, List.setIfInBounds_toArray, List.set_cons_zero, List.set_cons_succ]
        refine wpAnyH_done (by kernel_rfl) ?_ _
        go_simp
        refine hM _ _ (Met.intro (hJ _ _ ?_))
        repeat apply Exists.intro
        refine ⟨?rel3, rfl⟩
        exact ⟨rfl, w1.heap.size, rfl, by have := hlow.out; omega, hq12, hS12.1, hS12.2⟩
    · skip
      refine hw_run _ _ rfl (run_mk wd rfl) ?_
      have hf13 : Far (fun _ => False) wd (wd.alloc (.cells (Rw fun _ => 0) 108)) := (Far.refl _ wd).alloc _
      have hp13 : Hold (wd.alloc (.cells (Rw fun _ => 0) 108)) wd.heap.size (Rw fun _ => 0) := Hold.new rfl
      have hl13 := (hS.2).size
      refine hK.out _ _ ⟨hold_far hS.1 hf13 id, hS.2.then hf13⟩ fun hS13 => ?_
      go_simp
      clear hK
      refine wpAnyH_ready (rs := [3]) (by kernel_rfl) (by decide) (AllReadyH.cons rfl (fun K' hK => ?_) AllReadyH.nil)
      refine hw_call _ _ _ _ rfl (by go_simp) ((WI _ hS13.2 i hi).mono fun _ _ h => ⟨h.1, h.2⟩) fun w14 hb14 => ?_
      have hf14 : Far (fun _ => False) (wd.alloc (.cells (Rw fun _ => 0) 108)) w14 := hb14 ▸ Far.refl _ (wd.alloc (.cells (Rw fun _ => 0) 108))
      have hp14 := hold_far hp13 hf14 id
      refine hK.out _ _ ⟨hold_far hS13.1 hf14 id, hS13.2.then hf14⟩ fun hS14 => ?_
      go_simp
      clear hK
      refine wpAnyH_ready (rs := [6]) (by kernel_rfl) (by decide) (AllReadyH.cons rfl (fun K' hK => ?_) AllReadyH.nil)
      refine hw_call _ _ _ _ rfl (by go_simp) ((WI _ hS14.2 j hj).mono fun _ _ h => ⟨h.1, h.2⟩) fun w15 hb15 => ?_
      have hf15 : Far (fun _ => False) w14 w15 := hb15 ▸ Far.refl _ w14
      have hp15 := hold_far hp14 hf15 id
      refine hK.out _ _ ⟨hold_far hS14.1 hf15 id, hS14.2.then hf15⟩ fun hS15 => ?_
      go_simp
      clear hK
      refine wpAnyH_ready (rs := [7]) (by kernel_rfl) (by decide) (AllReadyH.cons rfl (fun K' hK => ?_) AllReadyH.nil)
      refine hw_call _ _ _ _ rfl (by go_simp) (corner_yes f (wid side i) (wid side j) w15 hf (wid_le _ _) (wid_le _ _)) fun w16 hb16 => ?_
      have hf16 : Far (fun _ => False) w15 w16 := below_far hb16
      have hp16 := hold_far hp15 hf16 id
      refine hK.out _ _ ⟨hold_far hS15.1 hf16 id, hS15.2.then hf16⟩ fun hS16 => ?_
      go_simp
      clear hK
      refine wpAnyH_take (i := 8) (v := ?v8x18) rfl (by kernel_rfl) (by kernel_rfl) (by kernel_rfl) (fun _ _ _ h => h) (Or.inl ⟨by rfl, ?y8x18⟩) (by assumption) ?r8x18
      case y8x18 => (intro w hSw; (try dsimp only at hSw); go_simp; (try with_reducible rfl))
      simp only [Act.put, List.setIfInBounds_toArray, List.set_cons_zero, List.set_cons_succ]
      refine wpAnyH_take (i := 9) (v := ?v9x19) rfl (by kernel_rfl) (by kernel_rfl) (by kernel_rfl) (fun _ _ _ h => h) (Or.inl ⟨by rfl, ?y9x19⟩) (by assumption) ?r9x19
      case y9x19 => (intro w hSw; (try dsimp only at hSw); go_simp; (try with_reducible rfl))
      simp only [Act.put, List.setIfInBounds_toArray, List.set_cons_zero, List.set_cons_succ]
      refine wpAnyH_take (i := 10) (v := ?v10x20) rfl (by kernel_rfl) (by kernel_rfl) (by kernel_rfl) (fun _ _ _ h => h) (Or.inl ⟨by rfl, ?y10x20⟩) (by assumption) ?r10x20
      case y10x20 => (intro w hSw; (try dsimp only at hSw); go_simp; (try with_reducible rfl))
      simp only [Act.put, List.setIfInBounds_toArray, List.set_cons_zero, List.set_cons_succ]
      refine wpAnyH_ready (rs := [12]) (by kernel_rfl) (by decide) (AllReadyH.cons rfl (fun K' hK => ?_) AllReadyH.nil)
      refine hw_st rfl _ _ rfl _ rfl _ rfl hp16 ?_
      have hr17 := row_far w16 wd.heap.size (Rw (blk (cutS f (wid side i) (wid side j))))
      have hq17 := Hold.row hp16 (Rw (blk (cutS f (wid side i) (wid side j))))
      refine hK.out _ _ ⟨hold_far hS16.1 hr17 (by have := hlow.out; omega), hS16.2.trans hr17 (fun k hk (e : k = _) => by omega)⟩ fun hS17 => ?_
      go_simp
      clear hK
      refine wpAnyH_take (i := 13) (v := ?v13x21) rfl (by kernel_rfl) (by kernel_rfl) (by kernel_rfl) (fun _ _ _ h => h) (Or.inl ⟨by rfl, ?y13x21⟩) (by assumption) ?r13x21
      case y13x21 => (intro w hSw; (try dsimp only at hSw); go_simp; (try with_reducible rfl))
      simp only [Act.put, List.setIfInBounds_toArray, List.set_cons_zero, List.set_cons_succ]
      refine wpAnyH_done (by kernel_rfl) ?_ _
      go_simp
      refine hM _ _ (Met.intro (hJ _ _ ?_))
      repeat apply Exists.intro
      refine ⟨?rel4, rfl⟩
      exact ⟨rfl, wd.heap.size, rfl, by have := hlow.out; omega, hq17, hS17.1, hS17.2⟩
  case rest =>
    obtain ⟨rfl, p, rfl, hp, hH, hB, hF⟩ := hcut
    have E := fun w' => eq_run (blk (cutS f (wid side i) (wid side j))) f w'
    have hs : sameB (blk (cutS f (wid side i) (wid side j))) f = true := by
      unfold sameB
      refine List.all_eq_true.2 fun r hr => ?_
      have hr' : r < 64 := by simpa using (List.mem_range'_1.1 hr).2
      have : blk (cutS f (wid side i) (wid side j)) r = f r := word_eq (blk_wf _ r hr') (hf r hr') fun c hc => by
        rw [blk_bit _ _ _ hc]; exact cut_fits.2 hin r c hr' hc
      simp [this]
    rw [hs] at E
    have hFw : Far (fun _ => False) w wc := ha.then hF
    have P := qput_any (hS.out.still hFw) i j hi hj hf hin
    clear WI hq' d0 ha hF
    go_wp2_with (apply wpList_ld rfl _ rfl _ rfl; focus (assumption))
    refine P.mono ?_
    rintro e w2 ⟨rfl, F', hX, hm⟩
    go_wp2_with fail
    go_ret2
    exact ⟨rfl, F', hX, (Mv.still hFw).trans hm⟩
end
end
end Go.Proofs.YtjolkhiggcmoiaaGreatDoor
