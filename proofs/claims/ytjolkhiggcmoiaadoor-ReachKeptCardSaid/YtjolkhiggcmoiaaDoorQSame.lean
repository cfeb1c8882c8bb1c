/-
  Same: have two matrices the same side and cells?
-/
import Derived.Test.YtjolkhiggcmoiaaDoorQNums
namespace Go.Proofs.YtjolkhiggcmoiaaDoor
open Go.RowKit
set_option linter.unusedVariables false
set_option linter.unusedSimpArgs false
theorem nodup_sub_len {α : Type} [BEq α] [LawfulBEq α] : ∀ {l l' : List α}, l.Nodup → (∀ x ∈ l, x ∈ l') → l.length ≤ l'.length
  | [], _, _, _ => Nat.zero_le _
  | x :: l, l', hn, h => by
    rw [List.nodup_cons] at hn
    have hx := h x (List.mem_cons_self ..)
    have := nodup_sub_len (l := l) (l' := l'.erase x) hn.2 fun y hy => (List.mem_erase_of_ne (by rintro rfl; exact hn.1 hy)).2 (h y (List.mem_cons_of_mem _ hy))
    rw [List.length_erase_of_mem hx] at this
    have := List.length_pos_of_mem hx
    simp only [List.length_cons]
    omega
theorem places_congr {M O : Nat → Nat → Bool} (h : ∀ r c, M r c = O r c) (side : Nat) : placesL M side = placesL O side := by
  have : M = O := funext fun r => funext fun c => h r c
  rw [this]
theorem sameB_self (f : Nat → Nat) : sameB f f = true := by
  unfold sameB
  exact List.all_eq_true.2 fun i _ => by simp
/-- Where all of one's leaves stand in the other one, and there are as many, the cells are the same. -/
theorem same_of {M O : Nat → Nat → Bool} {side : Nat} (hm : ∀ r c, M r c = true → r < side ∧ c < side) (ho : ∀ r c, O r c = true → r < side ∧ c < side) (hlen : (placesL M side).length = (placesL O side).length)
    (h : ∀ p ∈ placesL M side, sameB (blk (sub O p.1 p.2)) (blk (sub M p.1 p.2)) = true) : ∀ r c, M r c = O r c := by
  have hb : ∀ p ∈ placesL M side, ∀ r c, r < 64 → c < 64 → sub O p.1 p.2 r c = sub M p.1 p.2 r c := fun p hp r c hr hc => by
    have := same_true (h p hp) r hr
    rw [← blk_bit (sub O p.1 p.2) r c hc, ← blk_bit (sub M p.1 p.2) r c hc, this]
  have hsub : ∀ p ∈ placesL M side, p ∈ placesL O side := fun p hp => by
    obtain ⟨h1, h2, h3⟩ := mem_placesL.1 hp
    obtain ⟨r, c, hr, hc, e⟩ := nzB_iff.1 h3
    exact mem_placesL.2 ⟨h1, h2, nzB_iff.2 ⟨r, c, hr, hc, by rw [hb p hp r c hr hc]; exact e⟩⟩
  have hall : ∀ p ∈ placesL O side, p ∈ placesL M side := fun p hp => Classical.byContradiction fun hno => by
    have := nodup_sub_len (l := p :: placesL M side) (l' := placesL O side) (List.nodup_cons.2 ⟨hno, placesL_nodup M side⟩) (fun x hx => by
      rcases List.mem_cons.1 hx with rfl | hx
      · exact hp
      · exact hsub x hx)
    simp only [List.length_cons] at this
    omega
  intro r c
  have hs : ∀ p ∈ placesL M side, p = (r / 64, c / 64) → O r c = M r c := fun p hp e => by
    have := hb p hp (r % 64) (c % 64) (Nat.mod_lt _ (by decide)) (Nat.mod_lt _ (by decide))
    rw [e] at this
    rwa [cell_sub, cell_sub] at this
  cases h1 : M r c
  · cases h2 : O r c
    · rfl
    · have := hs _ (hall _ (place_of ho h2)) rfl
      rw [h1, h2] at this; cases this
  · have := hs _ (place_of hm h1) rfl
    rw [this, h1]
section
variable {w w' : World} {B Bo side so : Nat} {F Fo : Nat → Prop} {M O : Nat → Nat → Bool}
section
set_option maxHeartbeats 8000000
set_option maxRecDepth 100000
theorem qsame_any (h : Mx w B F side M) (ho : Mx w Bo Fo so O) : Calls Tryd.prog 16 #[.pointer (some ⟨B, 0, none⟩), .pointer (some ⟨Bo, 0, none⟩)] w fun e w' => ∃ v : Bool, e = .returned (.bool v) ∧ (v = true ↔ side = so ∧ ∀ r c, M r c = O r c) ∧ Far (fun _ => False) w w' := by
  have hzs : ∀ w, (zeroValue 72).run Tryd.prog w = .ok (.agg (spt 0 0 fun _ => 0)) w := (zero_of_info spotZero).1
  have N1 := h.none_no
  have N2 := ho.none_no
  have hm := h.within
  have hmo := ho.within
  have S1 := h.sides
  have S2 := ho.sides
  have hA := Lib.hid h
  have hB := Lib.hid ho
  obtain ⟨lv, root, nv, lvv, ns, A, ps, hq, hfu, _⟩ := h
  obtain ⟨lv2, root2, nv2, lvv2, ns2, A2, ps2, hq2, hfu2, _⟩ := ho
  have L1 := (hq.count hfu).length_eq
  have L2 := (hq2.count hfu2).length_eq
  have m1 := hq.many
  have m2 := hq2.many
  obtain ⟨ao, cap, hsl⟩ := q_form hq.leaves
  obtain ⟨ao2, cap2, hsl2⟩ := q_form hq2.leaves
  subst hsl hsl2
  have p0 : w.cell? ⟨B, 0, none⟩ = some (.int .i64 (side : Nat)) := hq.box.cell 0
  have p4 : w.cell? ⟨B, 4, none⟩ = some (.slice ao ps.length cap) := hq.box.cell 4
  have q0 : w.cell? ⟨Bo, 0, none⟩ = some (.int .i64 (so : Nat)) := hq2.box.cell 0
  have q4 : w.cell? ⟨Bo, 4, none⟩ = some (.slice ao2 ps2.length cap2) := hq2.box.cell 4
  clear hq hq2 hfu hfu2
  obtain ⟨n1, hn1⟩ : ∃ n, ps.length = n := ⟨_, rfl⟩
  obtain ⟨n2, hn2⟩ : ∃ n, ps2.length = n := ⟨_, rfl⟩
  rw [hn1] at L1 p4 m1
  rw [hn2] at L2 q4 m2
  clear hn1 hn2
  have L1' := Lib.hid L1
  have L2' := Lib.hid L2
  clear L1 L2
  by_cases hs : side = so
  · have e0 : ((side : Int) != (so : Int)) = false := by simp [hs]
    by_cases hn : n1 = n2
    · have e1 : ((n1 : Int) != (n2 : Int)) = false := by simp [hn]
      have hn' := Lib.hid hn
      have hs' := Lib.hid hs
      clear hn hs
      have d0 : ¬ (side ≠ so) := fun h => h hs'.out
      go_enter Tryd.func16, Tryd.ntmps16
      go_wp2_with fail
      refine N1.mono ?_
      rintro e w' ⟨rfl, rfl⟩
      go_wp2_with fail
      refine N2.mono ?_
      rintro e w' ⟨rfl, rfl⟩
      go_wp2_with fail
      go_quiet (fail)
      clear p0 p4 q0 q4
      obtain ⟨wd, hwd⟩ : ∃ wd, wd = w.drewN nq := ⟨_, rfl⟩
      have hfd : Far (fun _ => False) w wd := hwd ▸ (Far.refl _ w).drewN nq
      rw [← hwd]
      have SP := qspots_any (hA.out.still hfd)
      have hfd' := Lib.hid hfd
      clear hwd hfd
      go_wp2_with fail
      refine SP.mono ?_
      rintro e w2 ⟨v, rfl, hown, hf2⟩
      obtain ⟨ao, cap, rfl⟩ := q_form hown
      have hown' := Lib.hid hown
      have hlo := Lib.hid hown.lt
      have hfw := Lib.hid (hfd'.out.then hf2)
      have hpl := placesL_few M S1.2
      clear hown hf2 SP
      go_wp2_with fail
      go_loopw [44] (fun iv wr => ∃ k : Nat, k ≤ (placesL M side).length ∧ iv = .int .i64 (k : Nat) ∧ (∀ p ∈ (placesL M side).take k, sameB (blk (sub O p.1 p.2)) (blk (sub M p.1 p.2)) = true) ∧ Far (fun _ => False) w2 wr) (fun iv _ => (placesL M side).length - (intOf iv).toNat)
      case atStart => exact ⟨0, Nat.zero_le _, rfl, by simp, Far.refl _ _⟩
      case round =>
        obtain ⟨k, hk, rfl, hall, hf⟩ := hrel
        by_cases hlt : k < (placesL M side).length
        · have hp := List.getElem?_eq_getElem hlt
          obtain ⟨p, hpe⟩ : ∃ p, (placesL M side)[k] = p := ⟨_, rfl⟩
          rw [hpe] at hp
          have hmem := List.mem_of_getElem? hp
          obtain ⟨t1, t2, _⟩ := mem_placesL.1 hmem
          have hoR := row_same hown'.out fun q hq hl2 => hf.block q hl2 id
          obtain ⟨g, c2, hsv, _⟩ := hoR.form (by omega)
          cases hsv
          have hr : wr.rangeAt g (k * 66) (spt p.1 p.2 (blk (sub M p.1 p.2))).toList := own_range hoR (srows_even M _) (srows_get hp)
          have dk : (k : Int) < ((placesL M side).length : Int) := by omega
          have hk256 : k < 256 := by omega
          have BL : ∀ W, Far (fun _ => False) w2 W → Calls Tryd.prog 47 #[.pointer (some ⟨Bo, 0, none⟩), .int .i64 (p.1 : Nat), .int .i64 (p.2 : Nat)] W fun e w' => e = .returned (.agg (Rw (blk (sub O p.1 p.2)))) ∧ Far (fun _ => False) W w' := fun W h9 => by
            obtain ⟨lv, root, nv, lvv, ns, A, ps, hq, _, _⟩ := (hB.out.still hfw.out).still h9
            exact qblock_any hq p.1 p.2 (lns_lt hq.wide (hs'.out ▸ t1)) (lns_lt hq.wide (hs'.out ▸ t2))
          have hf' := Lib.hid hf
          have hall' := Lib.hid hall
          obtain ⟨n, hn⟩ : ∃ n, (placesL M side).length = n := ⟨_, rfl⟩
          have hn2 := Lib.hid hn
          rw [hn] at dk hlt hk ⊢
          clear hoR hf hall hpe hn
          go_upto_region 8 with (first | (refine wpList_sp rfl _ rfl _ _ rfl hr ?_) | (refine wpList_spst rfl _ _ rfl _ rfl rfl (Bk.new rfl) (spt_size _ _ _) ?_))
          have hb3 : SpB ((wr.alloc (.cells (spt 0 0 fun _ => 0) 72)).setRow wr.heap.size (spt p.1 p.2 (blk (sub M p.1 p.2)))) wr.heap.size (spt p.1 p.2 (blk (sub M p.1 p.2))) := SpB.row (Bk.new rfl) _
          have hf3 : Far (fun _ => False) w2 ((wr.alloc (.cells (spt 0 0 fun _ => 0) 72)).setRow wr.heap.size (spt p.1 p.2 (blk (sub M p.1 p.2)))) := far_row (hf'.out.alloc _) (fun h => absurd h (by have := hf'.out.size; omega)) _
          obtain ⟨w3, hw3⟩ : ∃ w3, w3 = (wr.alloc (.cells (spt 0 0 fun _ => 0) 72)).setRow wr.heap.size (spt p.1 p.2 (blk (sub M p.1 p.2))) := ⟨_, rfl⟩
          obtain ⟨kr, hkr⟩ : ∃ kr, kr = wr.heap.size := ⟨_, rfl⟩
          rw [← hw3] at hb3 hf3 ⊢
          rw [← hkr] at hb3 ⊢
          clear hw3 hkr hr
          have E := fun w' => eq_run (blk (sub O p.1 p.2)) (blk (sub M p.1 p.2)) w'
          obtain ⟨eb, heb⟩ : ∃ eb, sameB (blk (sub O p.1 p.2)) (blk (sub M p.1 p.2)) = eb := ⟨_, rfl⟩
          rw [heb] at E
          have heb' := Lib.hid heb
          clear heb
          refine wp_region_held_drew (S := fun w' => w'.cell? ⟨kr, 0, none⟩ = some (.int .i64 (p.1 : Nat)) ∧ w'.cell? ⟨kr, 1, none⟩ = some (.int .i64 (p.2 : Nat)) ∧ w'.rangeAt kr 2 (Rw (blk (sub M p.1 p.2))).toList ∧ Far (fun _ => False) w2 w') (by kernel_rfl) ⟨(SpB.at hb3).1, (SpB.at hb3).2, SpB.leaf hb3, hf3.drew⟩ fun hS => ?_
          generalize w3.drew = w4 at *
          refine wpAnyH_take (i := 0) (v := ?v0t1) rfl (by kernel_rfl) (by kernel_rfl) (by kernel_rfl) (fun _ _ _ h => h) (Or.inl ⟨by rfl, ?y0t1⟩) (by assumption) ?r0t1
          case y0t1 => (intro w hSw; (try dsimp only at hSw); go_simp; (try with_reducible rfl))
          simp only [Act.put, List.setIfInBounds_toArray, List.set_cons_zero, List.set_cons_succ]
          refine wpAnyH_take (i := 1) (v := ?v1t2) rfl (by kernel_rfl) (by kernel_rfl) (by kernel_rfl) (fun _ _ _ h => h) (Or.inl ⟨by rfl, ?y1t2⟩) (by assumption) ?r1t2
          case y1t2 => (intro w hSw; (try dsimp only at hSw); go_simp; (try with_reducible rfl))
          simp only [Act.put, List.setIfInBounds_toArray, List.set_cons_zero, List.set_cons_succ]
          refine wpAnyH_take (i := 2) (v := ?v2t3) rfl (by kernel_rfl) (by kernel_rfl) (by kernel_rfl) (fun _ _ _ h => h) (Or.inl ⟨by rfl, ?y2t3⟩) (by assumption) ?r2t3
          case y2t3 => (intro w hSw; (try dsimp only at hSw); go_simp; (try with_reducible rfl))
          simp only [Act.put, List.setIfInBounds_toArray, List.set_cons_zero, List.set_cons_succ]
          refine wpAnyH_take (i := 3) (v := ?v3t4) rfl (by kernel_rfl) (by kernel_rfl) (by kernel_rfl) (fun _ _ _ h => h) (Or.inl ⟨by rfl, ?y3t4⟩) (by assumption) ?r3t4
          case y3t4 => (intro w hSw; (try dsimp only at hSw); go_simp; (try with_reducible rfl))
          simp only [Act.put, List.setIfInBounds_toArray, List.set_cons_zero, List.set_cons_succ]
          refine wpAnyH_take (i := 4) (v := ?v4t5) rfl (by kernel_rfl) (by kernel_rfl) (by kernel_rfl) (fun _ _ _ h => h) (Or.inl ⟨by rfl, ?y4t5⟩) (by assumption) ?r4t5
          case y4t5 => (intro w hSw; (try dsimp only at hSw); go_simp; (try with_reducible rfl))
          simp only [Act.put, List.setIfInBounds_toArray, List.set_cons_zero, List.set_cons_succ]
          refine wpAnyH_take (i := 5) (v := ?v5t6) rfl (by kernel_rfl) (by kernel_rfl) (by kernel_rfl) (fun _ _ _ h => h) (Or.inl ⟨by rfl, ?y5t6⟩) (by assumption) ?r5t6
          case y5t6 => (intro w hSw; (try dsimp only at hSw); go_simp; (try with_reducible rfl))
          simp only [Act.put, List.setIfInBounds_toArray, List.set_cons_zero, List.set_cons_succ]
          refine wpAnyH_take (i := 6) (v := ?v6t7) rfl (by kernel_rfl) (by kernel_rfl) (by kernel_rfl) (fun _ _ _ h => h) (Or.inl ⟨by rfl, ?y6t7⟩) (by assumption) ?r6t7
          case y6t7 => (intro w hSw; (try dsimp only at hSw); go_simp; (try with_reducible rfl))
          simp only [Act.put, List.setIfInBounds_toArray, List.set_cons_zero, List.set_cons_succ]
          refine wpAnyH_take (i := 8) (v := ?v8t8) rfl (by kernel_rfl) (by kernel_rfl) (by kernel_rfl) (fun _ _ _ h => h) (Or.inl ⟨by rfl, ?y8t8⟩) (by assumption) ?r8t8
          case y8t8 => (intro w hSw; (try dsimp only at hSw); go_simp; (try with_reducible rfl))
          simp only [Act.put, List.setIfInBounds_toArray, List.set_cons_zero, List.set_cons_succ]
          refine wpAnyH_take (i := 9) rfl (by kernel_rfl) (by kernel_rfl) (by kernel_rfl) (fun _ _ _ h => h) (ylf rfl _ rfl _ _ rfl fun w h => h.2.2.1) (by assumption) ?_
          simp only [Act.put, List.setIfInBounds_toArray, List.set_cons_zero, List.set_cons_succ]
          refine wpAnyH_ready (rs := [7]) (by kernel_rfl) (by decide) (AllReadyH.cons rfl (fun K' hK => ?_) AllReadyH.nil)
          refine hw_call _ _ _ _ rfl (by go_simp) (BL w4 hS.2.2.2) fun w5 hb' => ?_
          refine hK.out _ _ ⟨(hb'.cell (block_lt_of_cell hS.1)).trans hS.1, (hb'.cell (block_lt_of_cell hS.2.1)).trans hS.2.1, range_far hS.2.2.1 hb', hS.2.2.2.then hb'⟩ fun hS1 => ?_
          go_simp
          clear hK
          refine wpAnyH_take (i := 10) (v := ?v10u1) rfl (by kernel_rfl) (by kernel_rfl) (by kernel_rfl) (fun _ _ _ h => h) (Or.inl ⟨by rfl, ?y10u1⟩) hS1 ?r10u1
          case y10u1 => (intro w hSw; (try dsimp only at hSw); go_simp; (try with_reducible rfl))
          simp only [Act.put, List.setIfInBounds_toArray, List.set_cons_zero, List.set_cons_succ]
          refine wpAnyH_done (by kernel_rfl) ?_ _
          clear BL
          cases eb
          · have hno : ¬ (side = so ∧ ∀ r c, M r c = O r c) := fun ⟨_, h2⟩ => by
              have e : O = M := funext fun r => funext fun c => (h2 r c).symm
              have := heb'.out
              rw [e, sameB_self] at this
              cases this
            have hno' := Lib.hid hno
            have hff := Lib.hid (hfw.out.then hS1.2.2.2)
            clear hno
            go_simp
            go_wp2_with fail
            go_ret
            exact ⟨false, rfl, by simp only [Bool.false_eq_true, false_iff]; exact hno'.out, hff.out⟩
          · go_simp
            go_wp2_with fail
            go_roundw
            case rel =>
              refine ⟨k + 1, by omega, by simp, fun q hq => ?_, hS1.2.2.2⟩
              rw [List.take_add_one, hp] at hq
              rcases List.mem_append.1 hq with hq | hq
              · exact hall'.out q hq
              · simp at hq; subst hq; exact heb'.out
            case measure => simp only [intOf]; omega
        · have e : k = (placesL M side).length := by omega
          subst e
          rw [List.take_length] at hall
          have hn3 := hn'.out
          rw [L1'.out, L2'.out] at hn3
          go_wp2_with fail
          go_ret
          exact ⟨true, rfl, by simp only [true_iff]; exact ⟨hs'.out, same_of hm (hs'.out ▸ hmo) (by rw [hn3, hs'.out]) hall⟩, hfw.out.then hf⟩
    · have e1 : ((n1 : Int) != (n2 : Int)) = true := by simp; omega
      have hfin : ¬ (side = so ∧ ∀ r c, M r c = O r c) := fun ⟨h1, h2⟩ => hn (by rw [L1'.out, L2'.out, places_congr h2, h1])
      have hfin' := Lib.hid hfin
      clear hs hn hfin
      go_enter Tryd.func16, Tryd.ntmps16
      go_wp2_with fail
      refine N1.mono ?_
      rintro e w' ⟨rfl, rfl⟩
      go_wp2_with fail
      refine N2.mono ?_
      rintro e w' ⟨rfl, rfl⟩
      go_wp2_with fail
      go_quiet (fail)
      go_wp2_with fail
      go_ret
      exact ⟨false, rfl, by simp only [Bool.false_eq_true, false_iff]; exact hfin'.out, (Far.refl _ w).drewN _⟩
  · have e0 : ((side : Int) != (so : Int)) = true := by simp; omega
    go_enter Tryd.func16, Tryd.ntmps16
    go_wp2_with fail
    refine N1.mono ?_
    rintro e w' ⟨rfl, rfl⟩
    go_wp2_with fail
    refine N2.mono ?_
    rintro e w' ⟨rfl, rfl⟩
    go_wp2_with fail
    go_quiet (fail)
    go_wp2_with fail
    go_ret
    exact ⟨false, rfl, by simp [hs], (Far.refl _ w).drewN _⟩
end
end
end Go.Proofs.YtjolkhiggcmoiaaDoor
