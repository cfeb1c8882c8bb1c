/-
  Same: have two matrices the same side and cells?
-/
import Derived.Test.YtjolkhiggcmoiaaGreatDoorQNums
namespace Go.Proofs.YtjolkhiggcmoiaaGreatDoor
open Go.RowKit
set_option linter.unusedVariables false
set_option linter.unusedSimpArgs false
theorem nodup_sub_len {α : Type} [BEq α] [LawfulBEq α] : ∀ {l l' : List α}, l.Nodup → (∀ x ∈ l, x ∈ l') → l.length ≤ l'.length
  | [], _, _, _ => Nat.zero_le _
  | x :: l, l', hn, h => by
    rw [List.nodup_cons] at hn
    have hx := h x (List.mem_cons_self ..)
    have := nodup_sub_len (l := l) (l' := l'.erase x) hn.2 fun y hy => (List.mem_erase_of_ne (by rintro rfl; exact hn.1 hy)).2 (h y (List.mem_cons_of_mem _ hy))
    rw [List.length_erase_of_mem hx] at this
    have := List.length_pos_of_mem hx
    simp only [List.length_cons]
    omega
theorem places_congr {M O : Nat → Nat → Bool} (h : ∀ r c, M r c = O r c) (side : Nat) : placesL M side = placesL O side := by
  have : M = O := funext fun r => funext fun c => h r c
  rw [this]
theorem sameB_self (f : Nat → Nat) : sameB f f = true := by
  unfold sameB
  exact List.all_eq_true.2 fun i _ => by simp
/-- Where all of one's leaves stand in the other one, and there are as many, the cells are the same. -/
theorem same_of {M O : Nat → Nat → Bool} {side : Nat} (hm : ∀ r c, M r c = true → r < side ∧ c < side) (ho : ∀ r c, O r c = true → r < side ∧ c < side) (hlen : (placesL M side).length = (placesL O side).length)
    (h : ∀ p ∈ placesL M side, sameB (blk (sub O p.1 p.2)) (blk (sub M p.1 p.2)) = true) : ∀ r c, M r c = O r c := by
  have hb : ∀ p ∈ placesL M side, ∀ r c, r < 64 → c < 64 → sub O p.1 p.2 r c = sub M p.1 p.2 r c := fun p hp r c hr hc => by
    have := same_true (h p hp) r hr
    rw [← blk_bit (sub O p.1 p.2) r c hc, ← blk_bit (sub M p.1 p.2) r c hc, this]
  have hsub : ∀ p ∈ placesL M side, p ∈ placesL O side := fun p hp => by
    obtain ⟨h1, h2, h3⟩ := mem_placesL.1 hp
    obtain ⟨r, c, hr, hc, e⟩ := nzB_iff.1 h3
    exact mem_placesL.2 ⟨h1, h2, nzB_iff.2 ⟨r, c, hr, hc, by rw [hb p hp r c hr hc]; exact e⟩⟩
  have hall : ∀ p ∈ placesL O side, p ∈ placesL M side := fun p hp => Classical.byContradiction fun hno => by
    have := nodup_sub_len (l := p :: placesL M side) (l' := placesL O side) (List.nodup_cons.2 ⟨hno, placesL_nodup M side⟩) (fun x hx => by
      rcases List.mem_cons.1 hx with rfl | hx
      · exact hp
      · exact hsub x hx)
    simp only [List.length_cons] at this
    omega
  intro r c
  have hs : ∀ p ∈ placesL M side, p = (r / 64, c / 64) → O r c = M r c := fun p hp e => by
    have := hb p hp (r % 64) (c % 64) (Nat.mod_lt _ (by decide)) (Nat.mod_lt _ (by decide))
    rw [e] at this
    rwa [cell_sub, cell_sub] at this
  cases h1 : M r c
  · cases h2 : O r c
    · rfl
    · have := hs _ (hall _ (place_of ho h2)) rfl
      rw [h1, h2] at this; cases this
  · have := hs _ (place_of hm h1) rfl
    rw [this, h1]
section
variable {w w' : World} {B Bo side so : Nat} {F Fo : Nat → Prop} {M O : Nat → Nat → Bool}
section
set_option maxHeartbeats 8000000
set_option maxRecDepth 100000
end
end
end Go.Proofs.YtjolkhiggcmoiaaGreatDoor
