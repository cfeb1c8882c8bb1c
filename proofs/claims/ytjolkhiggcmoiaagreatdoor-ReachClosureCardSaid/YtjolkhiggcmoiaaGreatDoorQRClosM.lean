/-
  QRClosM: QRClosed, QRAbs.
-/
import Derived.Test.YtjolkhiggcmoiaaGreatDoorQPInto
import Derived.Test.YtjolkhiggcmoiaaGreatDoorQRMath
import Derived.Deep.LoopGhost
/-! ## QRClosed: A closure by products, till nothing is new. -/
namespace Go.Proofs.YtjolkhiggcmoiaaGreatDoor
open Go.RowKit Go.Shelf
set_option linter.unusedVariables false
set_option linter.unusedSimpArgs false
theorem pin_same {s : Nat} (h : s ≠ 0) : pinE s s s = 0 := by
  unfold pinE
  have e : (fun k : Nat => if k = 0 then s else if k = 1 then s else s) = fun _ => s := funext fun k => by
    split
    · rfl
    · split <;> rfl
  rw [e]
  exact fitE_ok (fun _ _ => h) fun _ _ => rfl
section
set_option maxHeartbeats 8000000
set_option maxRecDepth 100000
theorem closed_any {w : World} {B s : Nat} {F0 : Nat → Prop} {M : Nat → Nat → Bool} (h : Mx w B F0 s M) (hT : Tab w) :
    Calls Tryz.prog 36 #[.pointer (some ⟨B, 0, none⟩)] w fun e w' => ∃ B', e = .returned (.pointer (some ⟨B', 0, none⟩)) ∧ ∃ F' C, IsClo M C ∧ Mx w' B' F' s C ∧ (∀ k, F' k → w.heap.size ≤ k) ∧ Far (fun _ => False) w w' := by
  have CP := qcopy_any h
  obtain ⟨hs1, hs2⟩ := h.sides
  have hT' := Lib.hid hT
  clear h hT
  go_enter Tryz.func36, Tryz.ntmps36
  go_wp2_with fail
  refine CP.mono ?_
  rintro e w1 ⟨Bc, rfl, F1, hX1, hlo1, hf1⟩
  have hX1' := Lib.hid hX1
  have hlo1' := Lib.hid hlo1
  have hf1' := Lib.hid hf1
  clear CP hX1 hlo1 hf1
  go_wp2_with fail
  go_loopg [4] (1 + (1048576 - numM M)) (fun gk v wr => ∃ (mo : Bool) (C : Nat → Nat → Bool) (F : Nat → Prop), v = .bool mo ∧ Mx wr Bc F s C ∧ (∀ a b, M a b = true → C a b = true) ∧ (∀ a b, C a b = true → TC M a b) ∧ (mo = false → ∀ a b, mulM C C a b = true → C a b = true) ∧ (∀ k, F k → w.heap.size ≤ k) ∧ Far (fun _ => False) w wr ∧ gk = (if mo then 1 else 0) + (1048576 - numM C))
  case atStart => exact ⟨true, M, F1, rfl, hX1'.out, fun _ _ h => h, fun _ _ h => .one h, fun h => (by cases h), hlo1'.out, hf1'.out, rfl⟩
  case round =>
    obtain ⟨mo, C, F, rfl, hX, h1, h2, h3, hlo, hf, hgk⟩ := hrel
    obtain ⟨wo, hwo⟩ : ∃ wo, wo = wr := ⟨_, rfl⟩
    rw [← hwo] at hX hf ⊢
    clear hwo hX1' hlo1' hf1'
    have hmm := fun (r c : Nat) => mulM_iff (A := C) (B := C) hs2 hX.within (r := r) (c := c)
    have hmm' := Lib.hid hmm
    have hX' := Lib.hid hX
    have h1' := Lib.hid h1
    have h2' := Lib.hid h2
    have h3' := Lib.hid h3
    have hlo' := Lib.hid hlo
    have hf' := Lib.hid hf
    have hgk' := Lib.hid hgk
    cases mo with
    | false =>
      clear hmm hX h1 h2 h3 hlo hf hgk
      go_wp2_with fail
      go_ret
      exact ⟨_, rfl, F, C, clo_done h1'.out h2'.out fun i k j a b => h3'.out trivial i j ((hmm'.out i j).2 ⟨k, a, b⟩), hX'.out, hlo'.out, hf'.out⟩
    | true =>
      have PI := pInto_any (.inr ⟨Bc, rfl, hX⟩) (.inr ⟨Bc, rfl, hX⟩) (.inr ⟨Bc, rfl, hX⟩) (hT'.out.still hf)
      rw [pin_same (by omega), if_pos rfl] at PI
      clear hmm hX h1 h2 h3 hlo hf hgk
      go_wp2_with fail
      refine PI.mono ?_
      rintro e w2 ⟨mo, rfl, hmo, F2, hX2, hm2⟩
      obtain ⟨B2, e2, hX2⟩ := hX2.mx (by omega)
      obtain rfl : Bc = B2 := by injection e2 with e2; injection e2 with e2; injection e2
      have hX2' := Lib.hid hX2
      have hm2' := Lib.hid hm2
      have hmo' := Lib.hid hmo
      clear PI hX2 hm2 hmo e2
      go_wp2_with fail
      have hwm := mulM_within hs2 hX'.out.within hX'.out.within
      have hf2 : Far (fun _ => False) w w2 := hf'.out.trans hm2'.out.far fun k hk e => by have := hlo'.out k e; omega
      have hlo2 : ∀ k, F2 k → w.heap.size ≤ k := fun k hk => (hm2'.out.more k hk).elim (hlo'.out k) fun h => Nat.le_trans hf'.out.size h
      have hup : ∀ a b, C a b = true → joinM C (mulM C C) a b = true := fun a b h => by unfold joinM; rw [h]; rfl
      have hin : ∀ a b, joinM C (mulM C C) a b = true → TC M a b := fun a b h => by
        unfold joinM at h
        rw [Bool.or_eq_true] at h
        rcases h with h | h
        · exact h2'.out a b h
        · obtain ⟨k, e1, e2⟩ := (hmm'.out a b).1 h
          exact (h2'.out _ _ e1).trans (h2'.out _ _ e2)
      have hle := numM_le (joinM C (mulM C C))
      have hgk := hgk'.out
      simp only [if_true] at hgk
      cases mo with
      | true =>
        have hnew := (num_join hs2 hwm).1 (hmo'.out.1 rfl).2
        go_roundg (1 + (1048576 - numM (joinM C (mulM C C))))
        case rel => exact ⟨true, _, F2, rfl, hX2'.out, fun a b h => hup a b (h1'.out a b h), hin, fun h => (by cases h), hlo2, hf2, rfl⟩
        case measure => omega
      | false =>
        have hno : ∀ r c, mulM C C r c = true → C r c = true := fun r c h => by
          cases hc : C r c
          · exact absurd (hmo'.out.2 ⟨trivial, r, c, h, hc⟩) (by simp)
          · rfl
        have hsame : joinM C (mulM C C) = C := funext fun r => funext fun c => by
          unfold joinM
          cases hm : mulM C C r c
          · rw [Bool.or_false]
          · rw [hno r c hm]; rfl
        have hX3 := hX2'.out
        rw [hsame] at hX3
        go_roundg (0 + (1048576 - numM C))
        case rel => exact ⟨false, C, F2, rfl, hX3, h1'.out, h2'.out, fun _ => hno, hlo2, hf2, rfl⟩
        case measure => omega
end
end Go.Proofs.YtjolkhiggcmoiaaGreatDoor
/-! ## QRAbs: Closure of a matrix that there is. -/
namespace Go.Proofs.YtjolkhiggcmoiaaGreatDoor
open Go.RowKit Go.Shelf
set_option linter.unusedVariables false
set_option linter.unusedSimpArgs false
section
set_option maxHeartbeats 8000000
set_option maxRecDepth 100000
theorem absent_no {w : World} {B s : Nat} {F : Nat → Prop} {M : Nat → Nat → Bool} (h : Mx w B F s M) : Calls Tryz.prog 29 #[.pointer (some ⟨B, 0, none⟩)] w fun e w' => e = .returned (.bool false) ∧ Far (fun _ => False) w w' := by
  have SD := h.side
  have hs := h.sides.1
  have ne : ((s : Int) == 0) = false := by simp; omega
  clear h
  go_enter Tryz.func29, Tryz.ntmps29
  go_wp2_with fail
  refine SD.mono ?_
  rintro e w' ⟨rfl, rfl⟩
  go_wp2_with fail
  go_ret
  exact ⟨rfl, Far.refl _ _⟩
theorem rclosure_yes {w : World} {B s : Nat} {F : Nat → Prop} {M : Nat → Nat → Bool} (h : Mx w B F s M) (hT : Tab w) : Calls Tryz.prog 10 #[.pointer (some ⟨B, 0, none⟩)] w fun e w' => ∃ B', e = .returned (.tuple #[.pointer (some ⟨B', 0, none⟩), .int .i64 0]) ∧ ∃ F' C, IsClo M C ∧ Mx w' B' F' s C ∧ (∀ k, F' k → w.heap.size ≤ k) ∧ Far (fun _ => False) w w' := by
  have AB := absent_no h
  have h' := Lib.hid h
  have hT' := Lib.hid hT
  clear h hT
  go_enter Tryz.func10, Tryz.ntmps10
  go_wp2_with fail
  refine AB.mono ?_
  rintro e w1 ⟨rfl, hf1⟩
  have CL := closed_any (h'.out.still hf1) (hT'.out.still hf1)
  have hf1' := Lib.hid hf1
  clear AB hf1
  go_wp2_with fail
  refine CL.mono ?_
  rintro e w2 ⟨B', rfl, F', C, hc, hX, hlo, hf2⟩
  have hc' := Lib.hid hc
  have hX' := Lib.hid hX
  have hlo' := Lib.hid hlo
  have hf2' := Lib.hid hf2
  clear CL hc hX hlo hf2
  go_wp2_with fail
  go_ret2
  exact ⟨_, rfl, F', C, hc'.out, hX'.out, fun k hk => Nat.le_trans hf1'.out.size (hlo'.out k hk), hf1'.out.then hf2'.out⟩
end
end Go.Proofs.YtjolkhiggcmoiaaGreatDoor
