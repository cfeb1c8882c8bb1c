/-
  product.Into whatever it is handed.
-/
import Derived.Test.YtjolkhiggcmoiaaGreatDoorQPMulA
import Derived.Test.YtjolkhiggcmoiaaGreatDoorQHas
import Derived.Test.YtjolkhiggcmoiaaGreatDoorQJoinD
namespace Go.Proofs.YtjolkhiggcmoiaaGreatDoor
open Go.RowKit Go.Shelf
set_option linter.unusedVariables false
set_option linter.unusedSimpArgs false
def pinE (sc p q : Nat) : Nat := fitE (fun k => if k = 0 then sc else if k = 1 then p else q) 3
theorem pinE_ok {sc p q : Nat} (h : pinE sc p q = 0) : sc ≠ 0 ∧ sc = p ∧ p = q := by
  unfold pinE at h
  have h0 : ∀ k, k < 3 → (fun k => if k = 0 then sc else if k = 1 then p else q) k ≠ 0 := fun k hk hz => by
    rw [fitE_nil hk hz] at h; cases h
  have h1 : ∀ k, k < 3 → (fun k => if k = 0 then sc else if k = 1 then p else q) k = (fun k => if k = 0 then sc else if k = 1 then p else q) 0 := fun k hk => by
    by_cases e : (fun k => if k = 0 then sc else if k = 1 then p else q) k = (fun k => if k = 0 then sc else if k = 1 then p else q) 0
    · exact e
    · rw [fitE_side h0 hk e] at h; cases h
  have a0 := h0 0 (by decide)
  have a1 := h1 1 (by decide)
  have a2 := h1 2 (by decide)
  simp at a0 a1 a2
  exact ⟨a0, a1.symm, a1.trans a2.symm⟩
section
set_option maxHeartbeats 4000000
set_option maxRecDepth 100000
theorem pInto_any {w : World} {vc va vb : Value} {Fc Fa Fb : Nat → Prop} {sc p q : Nat} {C A B : Nat → Nat → Bool} (hc : HasF w vc Fc sc C) (ha : HasF w va Fa p A) (hb : HasF w vb Fb q B) (hT : Tab w) :
    Calls Tryz.prog 70 #[vc, va, vb] w fun e w' => ∃ mo : Bool, e = .returned (.tuple #[.bool mo, .int .i64 (pinE sc p q : Nat)]) ∧ (mo = true ↔ pinE sc p q = 0 ∧ ∃ r c, mulM A B r c = true ∧ C r c = false) ∧ ∃ F', HasF w' vc F' sc (if pinE sc p q = 0 then joinM C (mulM A B) else C) ∧ Mv w w' Fc F' := by
  obtain ⟨W1, hW1⟩ : ∃ V, V = w.alloc (.cells #[vc, va, vb] 26) := ⟨_, rfl⟩
  have hf1 : Far (fun _ => False) w W1 := hW1 ▸ (Far.refl _ w).alloc _
  have hB1 : Bk W1 w.heap.size 26 #[vc, va, vb] := hW1 ▸ Bk.new rfl
  have FT := fit_any W1 w.heap.size 0 3 3 (by omega) (fun k => if k = 0 then vc else if k = 1 then va else vb) (fun k => if k = 0 then sc else if k = 1 then p else q) hB1.lt (fun k hk => by
    rw [Nat.zero_add, hB1.cell k]
    rcases (show k = 0 ∨ k = 1 ∨ k = 2 by omega) with rfl | rfl | rfl <;> rfl) (fun k hk => by
    rcases (show k = 0 ∨ k = 1 ∨ k = 2 by omega) with rfl | rfl | rfl
    · exact hc.has.still hf1
    · exact ha.has.still hf1
    · exact hb.has.still hf1)
  change Calls _ _ _ _ fun e w' => e = .returned (.int .i64 (pinE sc p q : Nat)) ∧ _ at FT
  have hW1' := Lib.hid hW1
  have hf1' := Lib.hid hf1
  by_cases hE : pinE sc p q = 0
  · obtain ⟨h0, rfl, rfl⟩ := pinE_ok hE
    obtain ⟨Bc, rfl, hXc⟩ := hc.mx h0
    obtain ⟨Ba, rfl, hXa⟩ := ha.mx h0
    obtain ⟨Bb, rfl, hXb⟩ := hb.mx h0
    rw [hE] at FT ⊢
    rw [if_pos rfl]
    have hXc' := Lib.hid hXc
    have hXa' := Lib.hid hXa
    have hXb' := Lib.hid hXb
    have hT' := Lib.hid hT
    clear hW1 hf1 hB1 hc ha hb hE hXc hXa hXb hT
    go_enter Tryz.func70, Tryz.ntmps70
    go_wp2_with fail
    rw [← hW1'.out]
    refine FT.mono ?_
    rintro e w2 ⟨rfl, hf2⟩
    have hf2' := Lib.hid (hf1'.out.then hf2)
    have ML := pmul_any (hXa'.out.still hf2'.out) (hXb'.out.still hf2'.out) (hT'.out.still hf2'.out)
    clear FT hf2
    go_wp2_with fail
    refine ML.mono ?_
    rintro e w3 ⟨B', rfl, F', hX3, hlo, hf3⟩
    have hf3' := Lib.hid (hf2'.out.then hf3)
    have JN := qjoin_any (hXc'.out.still hf3'.out) hX3
    clear ML hX3 hlo hf3
    go_wp2_with fail
    refine JN.mono ?_
    rintro e w4 ⟨mo, rfl, hmo, F4, hX4, hm4⟩
    have hmo' := Lib.hid hmo
    have hX4' := Lib.hid hX4
    have hm4' := Lib.hid ((Mv.still hf3'.out).trans hm4)
    clear JN hmo hX4 hm4
    go_wp2_with fail
    (try rw [Exit.noGoto_ret])
    (try simp only [Exit.inBlock, Exit.then])
    refine bodyPost_ret (v := .tuple #[.bool mo, .int .i64 0]) (by simp [results, Tryz.f70, go_sem]) rfl ?_
    exact ⟨_, rfl, ⟨fun h => ⟨trivial, hmo'.out.1 h⟩, fun h => hmo'.out.2 h.2⟩, F4, .inr ⟨Bc, rfl, hX4'.out⟩, hm4'.out⟩
  · rw [if_neg hE]
    have hE' := Lib.hid hE
    obtain ⟨E, hEE⟩ : ∃ E, pinE sc p q = E := ⟨_, rfl⟩
    rw [hEE] at FT hE hE' ⊢
    have E0 := nat_beq0 hE
    have E1 : ((E : Int) != 0) = true := by simp; omega
    have E2 : ¬ (E : Int) = 0 := by omega
    have hc' := Lib.hid hc
    obtain ⟨a, rfl⟩ := hc.ptr
    obtain ⟨b, rfl⟩ := ha.ptr
    obtain ⟨c, rfl⟩ := hb.ptr
    clear hW1 hf1 hB1 hc ha hb hE hEE hT
    go_enter Tryz.func70, Tryz.ntmps70
    go_wp2_with fail
    rw [← hW1'.out]
    refine FT.mono ?_
    rintro e w2 ⟨rfl, hf2⟩
    have hf2' := Lib.hid (hf1'.out.then hf2)
    clear FT hf2
    go_wp2_with fail
    (try rw [Exit.noGoto_ret])
    (try simp only [Exit.inBlock, Exit.then])
    refine bodyPost_ret (v := .tuple #[.bool false, .int .i64 (E : Nat)]) (by simp [results, Tryz.f70, go_sem]) rfl ?_
    exact ⟨_, rfl, ⟨fun h => (by cases h), fun h => absurd h.1 hE'.out⟩, Fc, hc'.out.still hf2'.out, Mv.still hf2'.out⟩
end
end Go.Proofs.YtjolkhiggcmoiaaGreatDoor
