/-
  The program's Close.
-/
import Derived.Test.YtbcklcikmhpclaaDoorClosure
import Derived.Test.YtbcklcikmhpclaaDoorHeld
import Derived.Deep.LoopGhost
namespace Go.Proofs.YtbcklcikmhpclaaDoor
open Go.RowKit
set_option linter.unusedVariables false
set_option linter.unusedSimpArgs false
/-- What a round keeps: g has f, and nothing but what f reaches. -/
structure Mid (f g : Nat → Nat) : Prop where
  wf : Wf g
  has : ∀ r c, r < 64 → c < 64 → bt f r c = true → bt g r c = true
  only : ∀ r c, r < 64 → c < 64 → bt g r c = true → Plus f r c
theorem Mid.start {f : Nat → Nat} (hf : Wf f) : Mid f f := ⟨hf, fun _ _ _ _ h => h, fun _ _ hr hc h => .one hr hc h⟩
theorem Mid.next {f g : Nat → Nat} (h : Mid f g) : Mid f (uni g (prod g g)) := by
  refine ⟨uni_wf h.wf (blk_wf _), fun r c hr hc hb => by rw [bt_uni, h.has r c hr hc hb]; rfl, fun r c hr hc hb => ?_⟩
  rw [bt_uni, Bool.or_eq_true, bt_prod _ _ _ _ hc, mulS_iff] at hb
  rcases hb with hb | ⟨k, hk, h1, h2⟩
  · exact h.only r c hr hc hb
  · exact (h.only r k hr hk h1).trans (h.only k c hk hc h2)
theorem Mid.done {f g : Nat → Nat} (h : Mid f g) (e : sameB (uni g (prod g g)) g = true) : Rw g = Rw (blk (closS f)) := by
  have hs := same_true e
  refine Rw_blk h.wf fun r c hr hc => ?_
  show bt g r c = closS f r c
  rw [Bool.eq_iff_iff, closS_iff]
  refine ⟨h.only r c hr hc, fun hp => Plus.least h.has (fun r c hr hc hm => ?_) hp⟩
  have : bt (uni g (prod g g)) r c = true := by rw [bt_uni, bt_prod _ _ _ _ hc, hm, Bool.or_true]
  unfold bt at this ⊢
  rwa [hs r hr] at this
theorem Mid.grows {f g : Nat → Nat} (h : Mid f g) (e : sameB (uni g (prod g g)) g = false) : cnt g < cnt (uni g (prod g g)) := by
  obtain ⟨i, hi, hne⟩ := same_false e
  obtain ⟨c, hc, h1, h0⟩ := new_bit (h.wf i hi) (blk_wf (mulS g g) i hi) hne
  exact cnt_lt (fun r c hr hc hb => by rw [bt_uni, hb]; rfl) hi hc h1 h0
section
set_option maxHeartbeats 1600000
set_option maxRecDepth 100000
theorem close_any (f : Nat → Nat) (w : World) (hf : Wf f) (hT : Tab w) :
    Calls Tryd.prog 17 #[.agg (Rw f)] w fun e w' => e = .returned (.agg (Rw (blk (closS f)))) ∧ Below w.heap.size w w' := by
  have hz : ∀ w, (zeroValue 25).run Tryd.prog w = .ok (.agg (Rw fun _ => 0)) w := (zero_of_info blockZero).1
  have HT := Lib.hid hT
  clear hT
  go_enter Tryd.func17, Tryd.ntmps17
  go_wp2_with fail
  go_loopg [3] (4096 - cnt f) (fun k _v wr => ∃ g : Nat → Nat, k = 4096 - cnt g ∧ Mid f g ∧ Hold wr w.heap.size (Rw g) ∧ Hold wr (w.heap.size + 1) (Rw fun _ => 0) ∧ Below w.heap.size w wr)
  case atStart => exact ⟨f, rfl, Mid.start hf, (Hold.new rfl).alloc _, Hold.new (by simp), ((Below.refl _ _).alloc (Nat.le_refl _) _).alloc (by simp) _⟩
  case round =>
    obtain ⟨g, hgk, hM, d, d1, db⟩ := hrel
    have HM := Lib.hid hM
    have HK := Lib.hid hgk
    have hg := hM.wf
    clear hM hgk
    go_wp2_with fail
    have MU := fun w' (h : Below w.heap.size w w') => mul_any g g w' hg hg (HT.out.stays h)
    have OR := fun w' => or_any g (prod g g) w' hg (blk_wf _)
    refine Code.wp_mono (Q := fun e a' w' => e = Exit.normal ∧ ∃ p, a' = { tmps := #[.agg (Rw f), .pointer (some ⟨w.heap.size, 0, none⟩), .pointer (some ⟨w.heap.size + 1, 0, none⟩), .pointer (some ⟨p, 0, none⟩), .agg (Rw g), .agg (Rw g), .agg (Rw g), .agg (Rw (prod g g)), .agg (Rw (uni g (prod g g))), u9, u10, u11, u12, u13], defers := [] } ∧
      w.heap.size + 1 < p ∧ Hold w' p (Rw (uni g (prod g g))) ∧ Hold w' w.heap.size (Rw g) ∧ Hold w' (w.heap.size + 1) (Rw fun _ => 0) ∧ Below w.heap.size w w') ?_ ?_
    · rintro e a' w' ⟨rfl, p, rfl, hp, hn, h0, h1, hb⟩
      have E := fun w' => eq_run (uni g (prod g g)) g w'
      cases hs : sameB (uni g (prod g g)) g
      · have HG := Lib.hid (HM.out.grows hs)
        rw [hs] at E
        go_wp2_with (first | (apply wpList_ld rfl _ rfl _ rfl; focus ((repeat' (first | (with_reducible assumption) | ((with_reducible refine Hold.new ?_); first | (with_reducible rfl) | (simp; done)) | (with_reducible apply Hold.alloc) | (with_reducible apply Hold.row) | ((with_reducible apply Hold.other); rotate_left; focus (first | omega | (simp; omega))))); done)) | (apply wpList_st rfl _ _ rfl _ rfl _ rfl; focus ((repeat' (first | (with_reducible assumption) | ((with_reducible refine Hold.new ?_); first | (with_reducible rfl) | (simp; done)) | (with_reducible apply Hold.alloc) | (with_reducible apply Hold.row) | ((with_reducible apply Hold.other); rotate_left; focus (first | omega | (simp; omega))))); done)) | (refine wpList_bd rfl rfl ?_))
        go_roundg (4096 - cnt (uni g (prod g g)))
        case measure => have := HG.out; have := HK.out; have := cnt_le (uni g (prod g g)); omega
        case rel => exact ⟨_, rfl, HM.out.next, h0.row _, h1.other (by omega) _, Below.row hb (Nat.le_refl _) _⟩
      · have HE := Lib.hid (HM.out.done hs)
        rw [hs] at E
        go_wp2_with (first | (apply wpList_ld rfl _ rfl _ rfl; focus ((repeat' (first | (with_reducible assumption) | ((with_reducible refine Hold.new ?_); first | (with_reducible rfl) | (simp; done)) | (with_reducible apply Hold.alloc) | (with_reducible apply Hold.row) | ((with_reducible apply Hold.other); rotate_left; focus (first | omega | (simp; omega))))); done)) | (apply wpList_st rfl _ _ rfl _ rfl _ rfl; focus ((repeat' (first | (with_reducible assumption) | ((with_reducible refine Hold.new ?_); first | (with_reducible rfl) | (simp; done)) | (with_reducible apply Hold.alloc) | (with_reducible apply Hold.row) | ((with_reducible apply Hold.other); rotate_left; focus (first | omega | (simp; omega))))); done)) | (refine wpList_bd rfl rfl ?_))
        rw [← HE.out]
        exact ret_blk rfl (w.heap.size + 1) rfl (Hold.row h1 _) rfl ⟨rfl, Below.row hb (by omega) _⟩
    · refine wp_region_held_drew (S := fun w' => Hold w' w.heap.size (Rw g) ∧ Hold w' (w.heap.size + 1) (Rw fun _ => 0) ∧ Below w.heap.size w w') (by kernel_rfl) ⟨d, d1, db.drew⟩ fun hS => ?_
      generalize wr.drew = wd at *
      clear d d1 db
      refine wpAnyH_take (i := 0) rfl (by kernel_rfl) (by kernel_rfl) (by kernel_rfl) (fun _ _ _ h => by cases h.1) (yl rfl _ rfl _ rfl fun w' h => h.1) hS ?_
      refine wpAnyH_take (i := 1) rfl (by kernel_rfl) (by kernel_rfl) (by kernel_rfl) (fun _ _ _ h => by cases h.1) (yl rfl _ rfl _ rfl fun w' h => h.1) hS ?_
      refine wpAnyH_take (i := 2) rfl (by kernel_rfl) (by kernel_rfl) (by kernel_rfl) (fun _ _ _ h => by cases h.1) (yl rfl _ rfl _ rfl fun w' h => h.1) hS ?_
      go_simp
      refine wpAnyH_ready (rs := [3, 5]) (by kernel_rfl) (by decide) (AllReadyH.cons rfl (fun K' hK => ?_) (AllReadyH.cons rfl (fun K' hK => ?_) AllReadyH.nil))
      · skip
        refine hw_call _ _ _ _ rfl (by go_simp) (MU wd hS.2.2) fun w1 hb => ?_
        refine hK.out _ _ ⟨hS.1.below hb hS.1.lt, hS.2.1.below hb hS.2.1.lt, hS.2.2.trans (hb.mono hS.2.2.size)⟩ fun hS1 => ?_
        go_simp
        clear hK hb 
        refine wpAnyH_ready (rs := [4, 5]) (by kernel_rfl) (by decide) (AllReadyH.cons rfl (fun K' hK => ?_) (AllReadyH.cons rfl (fun K' hK => ?_) AllReadyH.nil))
        · skip
          refine hw_call _ _ _ _ rfl (by go_simp) (OR w1) fun w2 hb => ?_
          refine hK.out _ _ ⟨hS1.1.below hb hS1.1.lt, hS1.2.1.below hb hS1.2.1.lt, hS1.2.2.trans (hb.mono hS1.2.2.size)⟩ fun hS2 => ?_
          go_simp
          clear hK hb 
          refine wpAnyH_ready (rs := [5]) (by kernel_rfl) (by decide) (AllReadyH.cons rfl (fun K' hK => ?_) AllReadyH.nil)
          refine hw_run _ _ rfl (run_mk w2 rfl) ?_
          refine hK.out _ _ ⟨hS2.1.alloc _, hS2.2.1.alloc _, hS2.2.2.alloc hS2.2.2.size _⟩ fun hS3 => ?_
          go_simp
          have hlt := hS2.2.1.lt
          have hp : Hold (w2.alloc (.cells (Rw fun _ => 0) 25)) w2.heap.size (Rw fun _ => 0) := Hold.new rfl
          clear hK
          refine wpAnyH_ready (rs := [6]) (by kernel_rfl) (by decide) (AllReadyH.cons rfl (fun K' hK => ?_) AllReadyH.nil)
          refine hw_st rfl _ _ rfl _ rfl _ rfl hp ?_
          refine hK.out _ _ ⟨hS3.1.other (by omega) _, hS3.2.1.other (by omega) _, Below.row hS3.2.2 (by omega) _⟩ fun hE => ?_
          exact wpAnyH_done (by kernel_rfl) ⟨rfl, _, rfl, hlt, hp.row _, hE.1, hE.2.1, hE.2.2⟩ _
        · skip
          refine hw_run _ _ rfl (run_mk w1 rfl) ?_
          refine hK.out _ _ ⟨hS1.1.alloc _, hS1.2.1.alloc _, hS1.2.2.alloc hS1.2.2.size _⟩ fun hS2 => ?_
          go_simp
          have hlt := hS1.2.1.lt
          have hp : Hold (w1.alloc (.cells (Rw fun _ => 0) 25)) w1.heap.size (Rw fun _ => 0) := Hold.new rfl
          clear hK
          refine wpAnyH_ready (rs := [4]) (by kernel_rfl) (by decide) (AllReadyH.cons rfl (fun K' hK => ?_) AllReadyH.nil)
          refine hw_call _ _ _ _ rfl (by go_simp) (OR _) fun w3 hb => ?_
          refine hK.out _ _ ⟨hS2.1.below hb hS2.1.lt, hS2.2.1.below hb hS2.2.1.lt, hS2.2.2.trans (hb.mono hS2.2.2.size)⟩ fun hS3 => ?_
          go_simp
          have hp2 := hp.below hb hp.lt
          clear hK hb hp
          refine wpAnyH_ready (rs := [6]) (by kernel_rfl) (by decide) (AllReadyH.cons rfl (fun K' hK => ?_) AllReadyH.nil)
          refine hw_st rfl _ _ rfl _ rfl _ rfl hp2 ?_
          refine hK.out _ _ ⟨hS3.1.other (by omega) _, hS3.2.1.other (by omega) _, Below.row hS3.2.2 (by omega) _⟩ fun hE => ?_
          exact wpAnyH_done (by kernel_rfl) ⟨rfl, _, rfl, hlt, hp2.row _, hE.1, hE.2.1, hE.2.2⟩ _
      · skip
        refine hw_run _ _ rfl (run_mk wd rfl) ?_
        refine hK.out _ _ ⟨hS.1.alloc _, hS.2.1.alloc _, hS.2.2.alloc hS.2.2.size _⟩ fun hS1 => ?_
        go_simp
        have hlt := hS.2.1.lt
        have hp : Hold (wd.alloc (.cells (Rw fun _ => 0) 25)) wd.heap.size (Rw fun _ => 0) := Hold.new rfl
        clear hK
        refine wpAnyH_ready (rs := [3]) (by kernel_rfl) (by decide) (AllReadyH.cons rfl (fun K' hK => ?_) AllReadyH.nil)
        refine hw_call _ _ _ _ rfl (by go_simp) (MU _ hS1.2.2) fun w2 hb => ?_
        refine hK.out _ _ ⟨hS1.1.below hb hS1.1.lt, hS1.2.1.below hb hS1.2.1.lt, hS1.2.2.trans (hb.mono hS1.2.2.size)⟩ fun hS2 => ?_
        go_simp
        have hp2 := hp.below hb hp.lt
        clear hK hb hp
        refine wpAnyH_ready (rs := [4]) (by kernel_rfl) (by decide) (AllReadyH.cons rfl (fun K' hK => ?_) AllReadyH.nil)
        refine hw_call _ _ _ _ rfl (by go_simp) (OR _) fun w3 hb => ?_
        refine hK.out _ _ ⟨hS2.1.below hb hS2.1.lt, hS2.2.1.below hb hS2.2.1.lt, hS2.2.2.trans (hb.mono hS2.2.2.size)⟩ fun hS3 => ?_
        go_simp
        have hp3 := hp2.below hb hp2.lt
        clear hK hb hp2
        refine wpAnyH_ready (rs := [6]) (by kernel_rfl) (by decide) (AllReadyH.cons rfl (fun K' hK => ?_) AllReadyH.nil)
        refine hw_st rfl _ _ rfl _ rfl _ rfl hp3 ?_
        refine hK.out _ _ ⟨hS3.1.other (by omega) _, hS3.2.1.other (by omega) _, Below.row hS3.2.2 (by omega) _⟩ fun hE => ?_
        exact wpAnyH_done (by kernel_rfl) ⟨rfl, _, rfl, hlt, hp3.row _, hE.1, hE.2.1, hE.2.2⟩ _
end
end Go.Proofs.YtbcklcikmhpclaaDoor
