/-
  The program's matrices, or none, asked whatever: Get, Set, Copy, Turn, Join, Less, Same, New.
-/
import Derived.Test.YtjolkhiggcmoiaaGreatDoorQDocU
namespace Go.Proofs.YtjolkhiggcmoiaaGreatDoor
open Go.RowKit Go.Shelf
set_option linter.unusedVariables false
set_option linter.unusedSimpArgs false
theorem wrE_nil (i j : Int) : wrE 0 i j = 1 := by unfold wrE; rw [if_pos rfl]
theorem wrE_in {s : Nat} {i j : Int} (h0 : s ≠ 0) (h : (0 ≤ i ∧ i < (s : Int)) ∧ 0 ≤ j ∧ j < (s : Int)) : wrE s i j = 0 := by
  unfold wrE inS
  rw [if_neg h0, if_pos]
  simp only [Bool.and_eq_true, decide_eq_true_eq]
  exact ⟨h.1, h.2⟩
theorem wrE_out {s : Nat} {i j : Int} (h0 : s ≠ 0) (h : ¬ ((0 ≤ i ∧ i < (s : Int)) ∧ 0 ≤ j ∧ j < (s : Int))) : wrE s i j = 2 := by
  unfold wrE inS
  rw [if_neg h0, if_neg]
  simp only [Bool.and_eq_true, decide_eq_true_eq]
  exact fun h2 => h ⟨h2.1, h2.2⟩
theorem pairE_ok {a b : Nat} (h : pairE a b = 0) : a ≠ 0 ∧ a = b := by
  unfold pairE at h
  split at h
  · cases h
  · split at h
    · omega
    · cases h
section
set_option maxHeartbeats 4000000
set_option maxRecDepth 100000
theorem HasF.none_any {w : World} {v : Value} {F : Nat → Prop} {s : Nat} {M : Nat → Nat → Bool} (h : HasF w v F s M) : Calls Tryz.prog 53 #[v] w fun e w' => e = .returned (.bool (decide (s = 0))) ∧ w = w' := by
  rcases h with ⟨rfl, rfl, _⟩ | ⟨B, rfl, hX⟩
  · exact qnone_nil w
  · rw [decide_eq_false (show ¬ s = 0 by have := hX.sides; omega)]
    exact hX.none_no
theorem HasF.get_any {w : World} {v : Value} {F : Nat → Prop} {s : Nat} {M : Nat → Nat → Bool} (h : HasF w v F s M) (i j : Int) : Calls Tryz.prog 65 #[v, .int .i64 i, .int .i64 j] w fun e w' => e = .returned (.tuple #[.bool (if wrE s i j = 0 then M i.toNat j.toNat else false), .int .i64 (wrE s i j : Nat)]) ∧ Far (fun _ => False) w w' := by
  rcases h with ⟨rfl, rfl, _⟩ | ⟨B, rfl, hX⟩
  · rw [wrE_nil, if_neg (by decide)]
    refine (qget_nil w i j).mono ?_
    rintro e w' ⟨rfl, rfl⟩
    exact ⟨rfl, Far.refl _ _⟩
  · have h0 : s ≠ 0 := by have := hX.sides; omega
    by_cases hin : (0 ≤ i ∧ i < (s : Int)) ∧ 0 ≤ j ∧ j < (s : Int)
    · rw [wrE_in h0 hin, if_pos rfl]
      obtain ⟨i, rfl⟩ : ∃ k : Nat, i = (k : Int) := ⟨i.toNat, by omega⟩
      obtain ⟨j, rfl⟩ : ∃ k : Nat, j = (k : Int) := ⟨j.toNat, by omega⟩
      rw [Int.toNat_natCast, Int.toNat_natCast]
      exact hX.get i j (by omega) (by omega)
    · rw [wrE_out h0 hin, if_neg (by decide)]
      obtain ⟨_, _, _, _, _, _, _, hq, _, _⟩ := hX
      refine (qget_no hq i j (by omega)).mono ?_
      rintro e w' ⟨rfl, rfl⟩
      exact ⟨rfl, Far.refl _ _⟩
theorem HasF.set_any {w : World} {v : Value} {F : Nat → Prop} {s : Nat} {M : Nat → Nat → Bool} (h : HasF w v F s M) (i j : Int) : Calls Tryz.prog 48 #[v, .int .i64 i, .int .i64 j] w fun e w' => ∃ mo : Bool, e = .returned (.tuple #[.bool mo, .int .i64 (wrE s i j : Nat)]) ∧ (mo = true ↔ wrE s i j = 0 ∧ M i.toNat j.toNat = false) ∧ ∃ F', HasF w' v F' s (if wrE s i j = 0 then putM M i.toNat j.toNat else M) ∧ Mv w w' F F' := by
  have hh := h
  rcases h with ⟨rfl, rfl, _⟩ | ⟨B, rfl, hX⟩
  · rw [wrE_nil, if_neg (by decide)]
    refine (qset_nil w i j).mono ?_
    rintro e w' ⟨rfl, rfl⟩
    exact ⟨false, rfl, ⟨fun h => (by cases h), fun h => absurd h.1 (by decide)⟩, _, hh, Mv.still (Far.refl _ _)⟩
  · have h0 : s ≠ 0 := by have := hX.sides; omega
    by_cases hin : (0 ≤ i ∧ i < (s : Int)) ∧ 0 ≤ j ∧ j < (s : Int)
    · rw [wrE_in h0 hin, if_pos rfl]
      obtain ⟨i, rfl⟩ : ∃ k : Nat, i = (k : Int) := ⟨i.toNat, by omega⟩
      obtain ⟨j, rfl⟩ : ∃ k : Nat, j = (k : Int) := ⟨j.toNat, by omega⟩
      rw [Int.toNat_natCast, Int.toNat_natCast]
      refine (qset_yes hX i j (by omega) (by omega)).mono ?_
      rintro e w' ⟨rfl, F', hX', hm⟩
      exact ⟨_, rfl, by cases M i j <;> simp, F', .inr ⟨B, rfl, hX'⟩, hm⟩
    · rw [wrE_out h0 hin, if_neg (by decide)]
      refine (hX.set_no i j (by omega)).mono ?_
      rintro e w' ⟨rfl, rfl⟩
      exact ⟨false, rfl, ⟨fun h => (by cases h), fun h => absurd h.1 (by decide)⟩, _, hh, Mv.still (Far.refl _ _)⟩
theorem HasF.copy_any {w : World} {v : Value} {F : Nat → Prop} {s : Nat} {M : Nat → Nat → Bool} (h : HasF w v F s M) : Calls Tryz.prog 41 #[v] w fun e w' => ∃ v', e = .returned v' ∧ ∃ F', HasF w' v' F' s M ∧ (∀ k, F' k → w.heap.size ≤ k) ∧ Far (fun _ => False) w w' := by
  have N := h.none_any
  rcases h with ⟨rfl, rfl, rfl, _⟩ | ⟨B, rfl, hX⟩
  · rw [decide_eq_true rfl] at N
    go_enter Tryz.func41, Tryz.ntmps41
    go_wp2_with fail
    refine N.mono ?_
    rintro e w' ⟨rfl, rfl⟩
    clear N
    go_wp2_with fail
    go_ret
    exact ⟨_, rfl, _, HasF.none _, fun _ h => h.elim, Far.refl _ _⟩
  · refine (qcopy_any hX).mono ?_
    rintro e w' ⟨B', rfl, F', hX', hlo, hf⟩
    exact ⟨_, rfl, F', .inr ⟨B', rfl, hX'⟩, hlo, hf⟩
theorem HasF.turn_any {w : World} {v : Value} {F : Nat → Prop} {s : Nat} {M : Nat → Nat → Bool} (h : HasF w v F s M) : Calls Tryz.prog 43 #[v] w fun e w' => ∃ v', e = .returned v' ∧ ∃ F', HasF w' v' F' s (tnM M) ∧ (∀ k, F' k → w.heap.size ≤ k) ∧ Far (fun _ => False) w w' := by
  have N := h.none_any
  rcases h with ⟨rfl, rfl, rfl, _⟩ | ⟨B, rfl, hX⟩
  · rw [decide_eq_true rfl] at N
    go_enter Tryz.func43, Tryz.ntmps43
    go_wp2_with fail
    refine N.mono ?_
    rintro e w' ⟨rfl, rfl⟩
    clear N
    go_wp2_with fail
    go_ret
    exact ⟨_, rfl, _, HasF.none _, fun _ h => h.elim, Far.refl _ _⟩
  · refine (qturn_any hX).mono ?_
    rintro e w' ⟨B', rfl, F', hX', hlo, hf⟩
    exact ⟨_, rfl, F', .inr ⟨B', rfl, hX'⟩, hlo, hf⟩
theorem HasF.pair_any {w : World} {va vb : Value} {Fa Fb : Nat → Prop} {sa sb : Nat} {A B : Nat → Nat → Bool} (ha : HasF w va Fa sa A) (hb : HasF w vb Fb sb B) : Calls Tryz.prog 112 #[va, vb] w fun e w' => e = .returned (.int .i64 (pairE sa sb : Nat)) ∧ Far (fun _ => False) w w' := by
  have NA := ha.none_any
  have NB := hb.none_any
  obtain ⟨pa, hpa⟩ := ha.ptr
  obtain ⟨pb, hpb⟩ := hb.ptr
  by_cases h0 : sa = 0
  · have e : pairE sa sb = 1 := by unfold pairE; rw [if_pos (.inl h0)]
    rw [e]
    rw [decide_eq_true h0] at NA
    subst hpa hpb
    clear ha hb NB h0 e
    go_enter Tryz.func112, Tryz.ntmps112
    go_wp2_with fail
    refine NA.mono ?_
    rintro e w' ⟨rfl, rfl⟩
    clear NA
    go_wp2_with fail
    go_ret
    exact ⟨rfl, Far.refl _ _⟩
  · rw [decide_eq_false h0] at NA
    by_cases h1 : sb = 0
    · have e : pairE sa sb = 1 := by unfold pairE; rw [if_pos (.inr h1)]
      rw [e]
      rw [decide_eq_true h1] at NB
      subst hpa hpb
      clear ha hb h0 h1 e
      go_enter Tryz.func112, Tryz.ntmps112
      go_wp2_with fail
      refine NA.mono ?_
      rintro e w' ⟨rfl, rfl⟩
      clear NA
      go_wp2_with fail
      refine NB.mono ?_
      rintro e w' ⟨rfl, rfl⟩
      clear NB
      go_wp2_with fail
      go_ret
      exact ⟨rfl, Far.refl _ _⟩
    · rw [decide_eq_false h1] at NB
      obtain ⟨Ba, rfl, hXa⟩ := ha.mx h0
      obtain ⟨Bb, rfl, hXb⟩ := hb.mx h1
      by_cases hs : sa = sb
      · subst hs
        have e : pairE sa sa = 0 := by unfold pairE; rw [if_neg (by omega), if_pos rfl]
        rw [e]
        exact qpair_yes hXa hXb
      · have e : pairE sa sb = 5 := by unfold pairE; rw [if_neg (by omega), if_neg hs]
        rw [e]
        obtain ⟨_, _, _, _, _, _, _, hq, _, _⟩ := hXa
        obtain ⟨_, _, _, _, _, _, _, hq2, _, _⟩ := hXb
        have p0 : w.cell? ⟨Ba, 0, Option.none⟩ = some (.int .i64 (sa : Nat)) := hq.box.cell 0
        have p1 : w.cell? ⟨Bb, 0, Option.none⟩ = some (.int .i64 (sb : Nat)) := hq2.box.cell 0
        obtain ⟨n1, n2, n3⟩ := nat_bne hs
        clear hq hq2 ha hb hpa hpb h0 h1 hs e
        go_enter Tryz.func112, Tryz.ntmps112
        go_wp2_with fail
        refine NA.mono ?_
        rintro e w' ⟨rfl, rfl⟩
        clear NA
        go_wp2_with fail
        refine NB.mono ?_
        rintro e w' ⟨rfl, rfl⟩
        clear NB
        go_wp2_with fail
        go_quiet (fail)
        go_wp2_with fail
        go_ret
        exact ⟨rfl, (Far.refl _ w).drewN _⟩
theorem HasF.join_any {w : World} {va vb : Value} {Fa Fb : Nat → Prop} {sa sb : Nat} {A B : Nat → Nat → Bool} (ha : HasF w va Fa sa A) (hb : HasF w vb Fb sb B) : Calls Tryz.prog 108 #[va, vb] w fun e w' => ∃ mo : Bool, e = .returned (.tuple #[.bool mo, .int .i64 (pairE sa sb : Nat)]) ∧ (mo = true ↔ pairE sa sb = 0 ∧ ∃ r c, B r c = true ∧ A r c = false) ∧ ∃ F', HasF w' va F' sa (if pairE sa sb = 0 then joinM A B else A) ∧ Mv w w' Fa F' := by
  by_cases hE : pairE sa sb = 0
  · obtain ⟨h0, rfl⟩ := pairE_ok hE
    obtain ⟨Ba, rfl, hXa⟩ := ha.mx h0
    obtain ⟨Bb, rfl, hXb⟩ := hb.mx h0
    rw [hE, if_pos rfl]
    refine (qjoin_any hXa hXb).mono ?_
    rintro e w' ⟨mo, rfl, hmo, F', hX', hm⟩
    exact ⟨mo, rfl, ⟨fun h => ⟨rfl, hmo.1 h⟩, fun h => hmo.2 h.2⟩, F', .inr ⟨Ba, rfl, hX'⟩, hm⟩
  · rw [if_neg hE]
    have PR := ha.pair_any hb
    have ha' := Lib.hid ha
    have hE' := Lib.hid hE
    obtain ⟨E, hEE⟩ : ∃ E, pairE sa sb = E := ⟨_, rfl⟩
    rw [hEE] at PR hE hE' ⊢
    obtain ⟨pa, rfl⟩ := ha.ptr
    obtain ⟨pb, rfl⟩ := hb.ptr
    have E0 := nat_beq0 hE
    have E1 : ((E : Int) != 0) = true := by simp; omega
    have E2 : ¬ (E : Int) = 0 := by omega
    clear ha hb hE hEE
    go_enter Tryz.func108, Tryz.ntmps108
    go_wp2_with fail
    refine PR.mono ?_
    rintro e w1 ⟨rfl, hf1⟩
    have hf1' := Lib.hid hf1
    clear PR hf1
    go_wp2_with fail
    (try rw [Exit.noGoto_ret])
    (try simp only [Exit.inBlock, Exit.then])
    refine bodyPost_ret (v := .tuple #[.bool false, .int .i64 (E : Nat)]) (by simp [results, Tryz.f108, go_sem]) rfl ?_
    exact ⟨false, rfl, ⟨fun h => (by cases h), fun h => absurd h.1 hE'.out⟩, Fa, ha'.out.still hf1'.out, Mv.still hf1'.out⟩
theorem HasF.less_any {w : World} {va vb : Value} {Fa Fb : Nat → Prop} {sa sb : Nat} {A B : Nat → Nat → Bool} (ha : HasF w va Fa sa A) (hb : HasF w vb Fb sb B) : Calls Tryz.prog 81 #[va, vb] w fun e w' => ∃ v, e = .returned (.tuple #[v, .int .i64 (pairE sa sb : Nat)]) ∧ ∃ F', HasF w' v F' (if pairE sa sb = 0 then sa else 0) (if pairE sa sb = 0 then lsM A B else zeroM) ∧ (∀ k, F' k → w.heap.size ≤ k) ∧ Far (fun _ => False) w w' := by
  by_cases hE : pairE sa sb = 0
  · obtain ⟨h0, rfl⟩ := pairE_ok hE
    obtain ⟨Ba, rfl, hXa⟩ := ha.mx h0
    obtain ⟨Bb, rfl, hXb⟩ := hb.mx h0
    rw [hE, if_pos rfl, if_pos rfl]
    refine (qless_yes hXa hXb).mono ?_
    rintro e w' ⟨B', rfl, F', hX', hlo, hf⟩
    exact ⟨_, rfl, F', .inr ⟨B', rfl, hX'⟩, hlo, hf⟩
  · rw [if_neg hE, if_neg hE]
    obtain ⟨pa, hpa⟩ := ha.ptr
    obtain ⟨pb, hpb⟩ := hb.ptr
    subst hpa hpb
    obtain ⟨hk, hhk⟩ : ∃ h, h = w.heap.size := ⟨_, rfl⟩
    obtain ⟨W0, hW0⟩ : ∃ V, V = w.alloc (.cells #[.pointer pb] 26) := ⟨_, rfl⟩
    have hf0 : Far (fun _ => False) w W0 := hW0 ▸ (Far.refl _ w).alloc _
    have hBk : Bk W0 hk 26 #[.pointer pb] := hW0 ▸ Bk.new hhk
    have c0 : W0.cell? ⟨hk, 0, Option.none⟩ = some (.pointer pb) := hBk.cell 0
    have PR := (ha.still hf0).pair_any (hb.still hf0)
    obtain ⟨E, hEE⟩ : ∃ E, pairE sa sb = E := ⟨_, rfl⟩
    rw [hEE] at PR hE ⊢
    have E0 := nat_beq0 hE
    have E1 : ((E : Int) != 0) = true := by simp; omega
    have E2 : ¬ (E : Int) = 0 := by omega
    have hhk' := Lib.hid hhk
    have hW0' := Lib.hid hW0
    have hf0' := Lib.hid hf0
    clear ha hb hE hEE hhk hW0 hf0 hBk
    go_enter Tryz.func81, Tryz.ntmps81
    go_upto_region 1 with fail
    rw [← hhk'.out, ← hW0'.out]
    go_wp2_with fail
    refine PR.mono ?_
    rintro e w1 ⟨rfl, hf1⟩
    have hf1' := Lib.hid hf1
    clear PR hf1 c0
    go_wp2_with fail
    (try rw [Exit.noGoto_ret])
    (try simp only [Exit.inBlock, Exit.then])
    refine bodyPost_ret (v := .tuple #[.pointer Option.none, .int .i64 (E : Nat)]) (by simp [results, Tryz.f81, go_sem]) rfl ?_
    exact ⟨_, rfl, _, HasF.none _, fun _ h => h.elim, hf0'.out.then hf1'.out⟩
end
end Go.Proofs.YtjolkhiggcmoiaaGreatDoor
