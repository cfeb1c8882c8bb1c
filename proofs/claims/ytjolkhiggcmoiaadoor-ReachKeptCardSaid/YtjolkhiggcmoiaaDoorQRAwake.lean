/-
  A new keeper; the law's awake.
-/
import Derived.Test.YtjolkhiggcmoiaaDoorQRKAdd
namespace Go.Proofs.YtjolkhiggcmoiaaDoor
open Go.RowKit Go.Shelf
set_option linter.unusedVariables false
set_option linter.unusedSimpArgs false
theorem tnM_zero : ∀ r c, tnM zeroM r c = zeroM r c := fun _ _ => rfl
section
set_option maxHeartbeats 8000000
set_option maxRecDepth 100000
theorem knew_yes (s : Nat) (h1 : 1 ≤ s) (h2 : s ≤ 1024) (w : World) : Calls Tryd.prog 27 #[.int .i64 (s : Nat)] w fun e w' => ∃ B ps pb pc Fs Fb Fc, e = .returned (.tuple #[.pointer (some ⟨B, 0, none⟩), .int .i64 0]) ∧ Kp w' B ps pb pc Fs Fb Fc s zeroM zeroM ∧ (∀ k, KF B Fs Fb Fc k → w.heap.size ≤ k) ∧ Far (fun _ => False) w w' := by
  have NW := qnew_yes s h1 h2 w
  go_enter Tryd.func27, Tryd.ntmps27
  go_wp2_with fail
  refine NW.mono ?_
  rintro e w1 ⟨rfl, lv, hlv, hwd, hBm, hf1⟩
  have hM1 := Mx.new (w := w) h1 h2 hlv hwd hBm
  obtain ⟨p0, hp0⟩ : ∃ p, p = w.heap.size := ⟨_, rfl⟩
  rw [← hp0] at hM1 ⊢
  have hF1 : ∀ k, Qf p0 (.slice none 0 0) (.slice none 0 0) k → w.heap.size ≤ k := fun k hk => by
    rw [Qf_none hk, hp0]; exact Nat.le_refl _
  obtain ⟨F1, hF1e⟩ : ∃ F, Qf p0 (.slice none 0 0) (.slice none 0 0) = F := ⟨_, rfl⟩
  rw [hF1e] at hM1 hF1
  have CP1 := qcopy_any hM1
  have hM1' := Lib.hid hM1
  have hf1' := Lib.hid hf1
  have hF1' := Lib.hid hF1
  clear NW hlv hwd hBm hf1 hM1 hF1 hF1e hp0
  go_wp2_with fail
  refine CP1.mono ?_
  rintro e w2 ⟨p2, rfl, F2, hM2, hlo2, hf2⟩
  have hM12 := hM1'.out.still hf2
  have CP2 := qcopy_any hM12
  have hM2' := Lib.hid hM2
  have hM12' := Lib.hid hM12
  have hlo2' := Lib.hid hlo2
  have hf2' := Lib.hid hf2
  clear CP1 hM2 hM12 hlo2 hf2
  go_wp2_with fail
  refine CP2.mono ?_
  rintro e w3 ⟨p3, rfl, F3, hM3, hlo3, hf3⟩
  have hM3' := Lib.hid hM3
  have hlo3' := Lib.hid hlo3
  have hf3' := Lib.hid hf3
  clear CP2 hM3 hlo3 hf3
  go_wp2_with fail
  go_ret2
  have ha : Far (fun _ => False) w3 (w3.alloc (.cells #[.pointer (some ⟨p0, 0, none⟩), .pointer (some ⟨p2, 0, none⟩), .pointer (some ⟨p3, 0, none⟩)] 113)) := (Far.refl _ w3).alloc _
  have hz1 := hf1'.out.size
  have hz2 := hf2'.out.size
  have hz3 := hf3'.out.size
  refine ⟨w3.heap.size, p0, p2, p3, F1, F2, F3, rfl, ⟨Bk.new rfl, (hM12'.out.still hf3'.out).still ha, ((hM2'.out.still hf3'.out).still ha).congr tnM_zero, hM3'.out.still ha, clo_zero, fun k hk h => ?_, fun k hk h => ?_, fun k hk h => ?_⟩, fun k hk => ?_, (hf1'.out.then (hf2'.out.then hf3'.out)).then ha⟩
  · have := hM1'.out.lt k hk
    have := hlo2'.out k h
    omega
  · have := hM1'.out.lt k hk
    have := hlo3'.out k h
    omega
  · have := hM2'.out.lt k hk
    have := hlo3'.out k h
    omega
  · rcases hk with rfl | hk | hk | hk
    · omega
    · exact hF1'.out k hk
    · have := hlo2'.out k hk; omega
    · have := hlo3'.out k hk; omega
def a5M1 : Nat → Nat → Bool := moreC zeroM 0 1
def a5M2 : Nat → Nat → Bool := moreC a5M1 1 2
theorem a5_l1 : cellsL (lsM a5M1 zeroM) 3 = [(0, 1)] := by decide
theorem a5_l2 : cellsL (lsM a5M2 a5M1) 3 = [(0, 2), (1, 2)] := by decide
theorem a5_l3 : (cellsL a5M2 3).length = 3 := by decide
theorem putM_iff {M : Nat → Nat → Bool} {i j r c : Nat} : putM M i j r c = true ↔ M r c = true ∨ (r = i ∧ c = j) := by
  unfold putM
  simp only [Bool.or_eq_true, Bool.and_eq_true, decide_eq_true_eq]
theorem clo_fun {M C D : Nat → Nat → Bool} (h : IsClo M C) (h2 : IsClo M D) : C = D := funext fun r => funext fun c => h.same h2 r c
theorem awake05_any (w : World) (hT : Tab w) : Calls Tryd.prog 25 #[] w fun e w' => e = .returned (.bool true) ∧ Far (fun _ => False) w w' := by
  have NW := knew_yes 3 (by decide) (by decide) w
  have hT' := Lib.hid hT
  clear hT
  go_enter Tryd.func25, Tryd.ntmps25
  go_wp2_with fail
  refine NW.mono ?_
  rintro e w1 ⟨B, ps, pb, pc, Fs, Fb, Fc, rfl, hK, hlo, hf1⟩
  have KA := kAdd_yes hK (hT'.out.still hf1) (fun k hk e => by have := hlo k hk; have := hT'.out.lt; omega) 0 1 (by decide) (by decide)
  have hK' := Lib.hid hK
  have hlo' := Lib.hid hlo
  have hf1' := Lib.hid hf1
  clear NW hK hlo hf1
  go_wp2_with fail
  refine KA.mono ?_
  rintro e w2 ⟨v2, Fs2, Fb2, Fc2, C2, rfl, hK2, hs2, ho2, ha2, hv2⟩
  have hC2 : C2 = a5M1 := clo_fun hK2.clo (moreC_clo clo_zero fun r c => putM_iff)
  rw [hC2] at hK2 ho2
  rw [a5_l1] at ho2
  obtain ⟨ao2, cp2, rfl⟩ := q_form ho2
  have hlo2 : ∀ k, KF B Fs2 Fb2 Fc2 k → w.heap.size ≤ k := fun k hk => (hv2.more k hk).elim (hlo'.out k) fun h => Nat.le_trans hf1'.out.size h
  have hf2 : Far (fun _ => False) w w2 := hf1'.out.trans hv2.far fun k hk h => by have := hlo'.out k h; omega
  have KB := kAdd_yes hK2 (hT'.out.still hf2) (fun k hk e => by have := hlo2 k hk; have := hT'.out.lt; omega) 1 2 (by decide) (by decide)
  have hK2' := Lib.hid hK2
  have hlo2' := Lib.hid hlo2
  have hf2' := Lib.hid hf2
  clear KA hK' hlo' hf1' hC2 hK2 hs2 ho2 ha2 hv2 hlo2 hf2
  go_wp2_with fail
  refine KB.mono ?_
  rintro e w3 ⟨v3, Fs3, Fb3, Fc3, C3, rfl, hK3, hs3, ho3, ha3, hv3⟩
  have hC3 : C3 = a5M2 := clo_fun hK3.clo (moreC_clo hK2'.out.clo fun r c => putM_iff)
  rw [hC3] at hK3 ho3
  rw [a5_l2] at ho3
  obtain ⟨ao3, cp3, rfl⟩ := q_form ho3
  have hf3 : Far (fun _ => False) w w3 := hf2'.out.trans hv3.far fun k hk h => by have := hlo2'.out k h; omega
  have KN := kAdd_no hK3 0 3 (by decide)
  obtain ⟨g3, c3, e3, _⟩ := ho3.form (by decide)
  cases e3
  have hK3' := Lib.hid hK3
  have ho3' := Lib.hid ho3
  have hf3' := Lib.hid hf3
  clear KB hK2' hlo2' hf2' hC3 hK3 hs3 ho3 ha3 hv3 hf3
  go_wp2_with fail
  refine KN.mono ?_
  rintro e w4 ⟨rfl, hf4⟩
  have KH := khas_any (hK3'.out.still hf4) 0 2
  rw [wrE_in (by decide) (by decide), if_pos rfl] at KH
  have hf4' := Lib.hid hf4
  clear KN hf4
  go_wp2_with fail
  refine KH.mono ?_
  rintro e w5 ⟨rfl, hf5⟩
  have hf35 := hf4'.out.then hf5
  have KL := klen_any (hK3'.out.still hf35)
  have hnm : numM a5M2 = 3 := by
    have h := cellsL_len hK3'.out.cl.sides.2 hK3'.out.cl.within
    rw [a5_l3] at h
    exact h.symm
  rw [hnm] at KL
  have ho5 := row_same ho3'.out fun k hk hl => hf35.block k hl id
  have d0 : w5.cell? ⟨g3, 0, none⟩ = some (.int .i64 0) := (ho5.cellAt 0 (by decide)).trans rfl
  have d1 : w5.cell? ⟨g3, 1, none⟩ = some (.int .i64 2) := (ho5.cellAt 1 (by decide)).trans rfl
  have hf5' := Lib.hid (hf3'.out.then hf35)
  clear KH hf5 hf35 hnm ho5
  have hat : a5M2 (Int.toNat 0) (Int.toNat 2) = true := by decide
  rw [hat]
  go_wp2_with fail
  refine KL.mono ?_
  rintro e w6 ⟨rfl, hf6⟩
  have hf6' := Lib.hid (hf5'.out.then hf6)
  clear KL hf6 hf5' d0 d1
  go_wp2_with fail
  go_ret
  exact ⟨rfl, hf6'.out⟩
end
end Go.Proofs.YtjolkhiggcmoiaaDoor
