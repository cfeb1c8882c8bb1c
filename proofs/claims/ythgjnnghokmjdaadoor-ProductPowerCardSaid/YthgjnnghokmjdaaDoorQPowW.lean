/-
  Power and Walk, the program's and the document's, whatever they are handed.
-/
import Derived.Test.YthgjnnghokmjdaaDoorQRefW
import Derived.Test.YthgjnnghokmjdaaDoorQRefWalk
import Derived.Test.YthgjnnghokmjdaaDoorQHas
namespace Go.Proofs.YthgjnnghokmjdaaDoor
open Go.RowKit Go.Shelf
set_option linter.unusedVariables false
set_option linter.unusedSimpArgs false
def errP (s : Nat) (n : Int) : Nat := if s = 0 then 1 else if n < 0 then 2 else 0
def powSd (s : Nat) (n : Int) : Nat := if errP s n = 0 then s else 0
def powMM (s : Nat) (n : Int) (M : Nat → Nat → Bool) : Nat → Nat → Bool := if errP s n = 0 then powM M s n.toNat else zeroM
def errW (s : Nat) (i n : Int) : Nat := if s = 0 then 1 else if 0 ≤ i ∧ i < (s : Int) ∧ 0 ≤ n ∧ n ≤ 1024 then 0 else 2
def walkL (s : Nat) (i n : Int) (M : Nat → Nat → Bool) : List Nat := if errW s i n = 0 then setL (walkS M s i.toNat n.toNat) s else []
section
set_option maxHeartbeats 4000000
set_option maxRecDepth 100000
theorem pPower_any {w : World} {v : Value} {F : Nat → Prop} {s : Nat} {M : Nat → Nat → Bool} (h : HasF w v F s M) (hT : Tab w) (x : Int) (hx : x ≤ 9223372036854775807) : Calls Tryd.prog 44 #[v, .int .i64 x] w fun e w' => ∃ v', e = .returned (.tuple #[v', .int .i64 (errP s x : Nat)]) ∧ ∃ F', HasF w' v' F' (powSd s x) (powMM s x M) ∧ (∀ k, F' k → w.heap.size ≤ k) ∧ Far (fun _ => False) w w' := by
  unfold powSd powMM
  have NO := pnone_any h.has
  by_cases h0 : s = 0
  · have e : errP s x = 1 := by unfold errP; rw [if_pos h0]
    rw [e, if_neg (by decide), if_neg (by decide)]
    rw [decide_eq_true h0] at NO
    clear h hT e h0
    go_enter Tryd.func44, Tryd.ntmps44
    go_wp2_with fail
    refine NO.mono ?_
    rintro e w' ⟨rfl, rfl⟩
    clear NO
    go_wp2_with fail
    (try rw [Exit.noGoto_ret])
    (try simp only [Exit.inBlock, Exit.then])
    refine bodyPost_ret (v := .tuple #[.pointer none, .int .i64 1]) (by simp [results, Tryd.f44, go_sem]) rfl ?_
    exact ⟨_, rfl, _, HasF.none _, fun _ h => h.elim, Far.refl _ _⟩
  · rw [decide_eq_false h0] at NO
    by_cases hn : x < 0
    · have e : errP s x = 2 := by unfold errP; rw [if_neg h0, if_pos hn]
      rw [e, if_neg (by decide), if_neg (by decide)]
      clear h hT e h0
      go_enter Tryd.func44, Tryd.ntmps44
      go_wp2_with fail
      refine NO.mono ?_
      rintro e w' ⟨rfl, rfl⟩
      clear NO
      go_wp2_with fail
      (try rw [Exit.noGoto_ret])
      (try simp only [Exit.inBlock, Exit.then])
      refine bodyPost_ret (v := .tuple #[.pointer none, .int .i64 2]) (by simp [results, Tryd.f44, go_sem]) rfl ?_
      exact ⟨_, rfl, _, HasF.none _, fun _ h => h.elim, Far.refl _ _⟩
    · have e : errP s x = 0 := by unfold errP; rw [if_neg h0, if_neg hn]
      rw [e, if_pos rfl, if_pos rfl]
      obtain ⟨B, rfl, hM⟩ := h.mx h0
      obtain ⟨n, rfl⟩ : ∃ n : Nat, x = (n : Int) := ⟨x.toNat, by omega⟩
      refine (power_yes hM hT n (by omega)).mono ?_
      rintro e w' ⟨B', rfl, F', hX, hlo, hf⟩
      exact ⟨_, rfl, F', .inr ⟨B', rfl, hX⟩, hlo, hf⟩
theorem pWalk_any {w : World} {v : Value} {F : Nat → Prop} {s : Nat} {M : Nat → Nat → Bool} (h : HasF w v F s M) (hT : Tab w) (i n : Int) : Calls Tryd.prog 42 #[v, .int .i64 i, .int .i64 n] w fun e w' => ∃ v', e = .returned (.tuple #[v', .int .i64 (errW s i n : Nat)]) ∧ w'.ownsRow w.heap.size 3 1 v' (walkL s i n M).length (ncells (walkL s i n M)) ∧ Far (fun _ => False) w w' := by
  unfold walkL
  have NO := pnone_any h.has
  have SD := h.side_any
  by_cases h0 : s = 0
  · have e : errW s i n = 1 := by unfold errW; rw [if_pos h0]
    rw [e, if_neg (by decide)]
    rw [decide_eq_true h0] at NO
    clear h hT e h0 SD
    go_enter Tryd.func42, Tryd.ntmps42
    go_wp2_with fail
    go_step3
    go_wp2_with fail
    refine NO.mono ?_
    rintro e w' ⟨rfl, rfl⟩
    clear NO
    go_wp2_with fail
    (try rw [Exit.noGoto_ret])
    (try simp only [Exit.inBlock, Exit.then])
    refine bodyPost_ret (v := .tuple #[.slice none 0 0, .int .i64 1]) (by simp [results, Tryd.f42, go_sem]) rfl ?_
    exact ⟨_, rfl, World.ownsRow_nil _ _ _ _, Far.refl _ _⟩
  · rw [decide_eq_false h0] at NO
    by_cases hok : 0 ≤ i ∧ i < (s : Int) ∧ 0 ≤ n ∧ n ≤ 1024
    · have e : errW s i n = 0 := by unfold errW; rw [if_neg h0, if_pos hok]
      rw [e, if_pos rfl]
      obtain ⟨B, rfl, hM⟩ := h.mx h0
      obtain ⟨j, rfl⟩ : ∃ j : Nat, i = (j : Int) := ⟨i.toNat, by omega⟩
      obtain ⟨m, rfl⟩ : ∃ m : Nat, n = (m : Int) := ⟨n.toNat, by omega⟩
      exact walk_yes hM hT j m (by omega) (by omega)
    · have e : errW s i n = 2 := by unfold errW; rw [if_neg h0, if_neg hok]
      rw [e, if_neg (by decide)]
      clear h hT e h0
      by_cases h1 : i < 0
      · clear hok SD
        go_enter Tryd.func42, Tryd.ntmps42
        go_wp2_with fail
        go_step3
        go_wp2_with fail
        refine NO.mono ?_
        rintro e w' ⟨rfl, rfl⟩
        clear NO
        go_wp2_with fail
        (try rw [Exit.noGoto_ret])
        (try simp only [Exit.inBlock, Exit.then])
        refine bodyPost_ret (v := .tuple #[.slice none 0 0, .int .i64 2]) (by simp [results, Tryd.f42, go_sem]) rfl ?_
        exact ⟨_, rfl, World.ownsRow_nil _ _ _ _, Far.refl _ _⟩
      · by_cases h2 : (s : Int) ≤ i
        · clear hok
          go_enter Tryd.func42, Tryd.ntmps42
          go_wp2_with fail
          go_step3
          go_wp2_with fail
          refine NO.mono ?_
          rintro e w' ⟨rfl, rfl⟩
          clear NO
          go_wp2_with fail
          refine SD.mono ?_
          rintro e w' ⟨rfl, rfl⟩
          clear SD
          go_wp2_with fail
          (try rw [Exit.noGoto_ret])
          (try simp only [Exit.inBlock, Exit.then])
          refine bodyPost_ret (v := .tuple #[.slice none 0 0, .int .i64 2]) (by simp [results, Tryd.f42, go_sem]) rfl ?_
          exact ⟨_, rfl, World.ownsRow_nil _ _ _ _, Far.refl _ _⟩
        · by_cases h3 : n < 0
          · clear hok
            go_enter Tryd.func42, Tryd.ntmps42
            go_wp2_with fail
            go_step3
            go_wp2_with fail
            refine NO.mono ?_
            rintro e w' ⟨rfl, rfl⟩
            clear NO
            go_wp2_with fail
            refine SD.mono ?_
            rintro e w' ⟨rfl, rfl⟩
            clear SD
            go_wp2_with fail
            (try rw [Exit.noGoto_ret])
            (try simp only [Exit.inBlock, Exit.then])
            refine bodyPost_ret (v := .tuple #[.slice none 0 0, .int .i64 2]) (by simp [results, Tryd.f42, go_sem]) rfl ?_
            exact ⟨_, rfl, World.ownsRow_nil _ _ _ _, Far.refl _ _⟩
          · have h4 : 1024 < n := by omega
            clear hok
            go_enter Tryd.func42, Tryd.ntmps42
            go_wp2_with fail
            go_step3
            go_wp2_with fail
            refine NO.mono ?_
            rintro e w' ⟨rfl, rfl⟩
            clear NO
            go_wp2_with fail
            refine SD.mono ?_
            rintro e w' ⟨rfl, rfl⟩
            clear SD
            go_wp2_with fail
            (try rw [Exit.noGoto_ret])
            (try simp only [Exit.inBlock, Exit.then])
            refine bodyPost_ret (v := .tuple #[.slice none 0 0, .int .i64 2]) (by simp [results, Tryd.f42, go_sem]) rfl ?_
            exact ⟨_, rfl, World.ownsRow_nil _ _ _ _, Far.refl _ _⟩
theorem rWalk_any {w : World} {va : Value} {s : Nat} {M : Nat → Nat → Bool} (ha : Dm w va s M) (i n : Int) : Calls Tryd.prog 43 #[va, .int .i64 i, .int .i64 n] w fun e w' => ∃ v', e = .returned (.tuple #[v', .int .i64 (errW s i n : Nat)]) ∧ w'.ownsRow w.heap.size 3 1 v' (walkL s i n M).length (ncells (walkL s i n M)) ∧ Far (fun _ => False) w w' := by
  unfold walkL
  have hh := ha
  obtain ⟨ao, cap, rfl, _, _, hs, _⟩ := ha
  obtain ⟨na, hna⟩ : ∃ n, (cellsL M s).length = n := ⟨_, rfl⟩
  rw [hna] at hh ⊢
  clear hna
  obtain ⟨h3, hh3⟩ : ∃ h, h = w.heap.size := ⟨_, rfl⟩
  obtain ⟨W0, hW0⟩ : ∃ V, V = w.alloc (.cells #[.int .i64 (s : Nat), .slice ao na cap] 28) := ⟨_, rfl⟩
  have hF0 := Lib.hid (show Far (fun _ => False) w W0 from hW0 ▸ (Far.refl _ w).alloc _)
  have hB3 : Bk W0 h3 28 #[.int .i64 (s : Nat), .slice ao na cap] := hW0 ▸ Bk.new hh3
  have b0 : W0.cell? ⟨h3, 0, none⟩ = some (.int .i64 (s : Nat)) := hB3.cell 0
  have b1 : W0.cell? ⟨h3, 1, none⟩ = some (.slice ao na cap) := hB3.cell 1
  have hh3' := Lib.hid hh3
  have hW0' := Lib.hid hW0
  clear hB3 hh3 hW0
  by_cases h0 : s = 0
  · have e : errW s i n = 1 := by unfold errW; rw [if_pos h0]
    rw [e, if_neg (by decide)]
    have hs0 : ((s : Int) == 0) = true := by simp; omega
    clear hh e h0
    go_enter Tryd.func43, Tryd.ntmps43
    go_upto_region 1 with fail
    rw [← hh3'.out, ← hW0'.out]
    go_wp2_with fail
    (try rw [Exit.noGoto_ret])
    (try simp only [Exit.inBlock, Exit.then])
    refine bodyPost_ret (v := .tuple #[.slice none 0 0, .int .i64 1]) (by simp [results, Tryd.f43, go_sem]) rfl ?_
    exact ⟨_, rfl, World.ownsRow_nil _ _ _ _, hF0.out⟩
  · by_cases hok : 0 ≤ i ∧ i < (s : Int) ∧ 0 ≤ n ∧ n ≤ 1024
    · have e : errW s i n = 0 := by unfold errW; rw [if_neg h0, if_pos hok]
      rw [e, if_pos rfl]
      obtain ⟨j, rfl⟩ : ∃ j : Nat, i = (j : Int) := ⟨i.toNat, by omega⟩
      obtain ⟨m, rfl⟩ : ∃ m : Nat, n = (m : Int) := ⟨n.toNat, by omega⟩
      exact rwalk_yes hh j m (by omega) (by omega)
    · have e : errW s i n = 2 := by unfold errW; rw [if_neg h0, if_neg hok]
      rw [e, if_neg (by decide)]
      have hs0 : ((s : Int) == 0) = false := by simp; omega
      have RI := rin_any s (.slice ao na cap) i W0
      clear hh e h0
      by_cases hi : 0 ≤ i ∧ i < (s : Int)
      · rw [decide_eq_true hi.1, decide_eq_true hi.2] at RI
        by_cases h3 : n < 0
        · clear hok
          go_enter Tryd.func43, Tryd.ntmps43
          go_upto_region 1 with fail
          rw [← hh3'.out, ← hW0'.out]
          go_wp2_with fail
          refine RI.mono ?_
          rintro e w1 ⟨rfl, hf1⟩
          clear RI
          have hf1' := Lib.hid hf1
          clear hf1
          go_wp2_with fail
          (try rw [Exit.noGoto_ret])
          (try simp only [Exit.inBlock, Exit.then])
          refine bodyPost_ret (v := .tuple #[.slice none 0 0, .int .i64 2]) (by simp [results, Tryd.f43, go_sem]) rfl ?_
          exact ⟨_, rfl, World.ownsRow_nil _ _ _ _, hF0.out.then hf1'.out⟩
        · have h4 : 1024 < n := by omega
          clear hok
          go_enter Tryd.func43, Tryd.ntmps43
          go_upto_region 1 with fail
          rw [← hh3'.out, ← hW0'.out]
          go_wp2_with fail
          refine RI.mono ?_
          rintro e w1 ⟨rfl, hf1⟩
          clear RI
          have hf1' := Lib.hid hf1
          clear hf1
          go_wp2_with fail
          (try rw [Exit.noGoto_ret])
          (try simp only [Exit.inBlock, Exit.then])
          refine bodyPost_ret (v := .tuple #[.slice none 0 0, .int .i64 2]) (by simp [results, Tryd.f43, go_sem]) rfl ?_
          exact ⟨_, rfl, World.ownsRow_nil _ _ _ _, hF0.out.then hf1'.out⟩
      · have hb : (decide (0 ≤ i) && decide (i < (s : Int))) = false := by
          rw [← Bool.decide_and]; exact decide_eq_false hi
        rw [hb] at RI
        clear hok hi hb
        go_enter Tryd.func43, Tryd.ntmps43
        go_upto_region 1 with fail
        rw [← hh3'.out, ← hW0'.out]
        go_wp2_with fail
        refine RI.mono ?_
        rintro e w1 ⟨rfl, hf1⟩
        clear RI
        have hf1' := Lib.hid hf1
        clear hf1
        go_wp2_with fail
        (try rw [Exit.noGoto_ret])
        (try simp only [Exit.inBlock, Exit.then])
        refine bodyPost_ret (v := .tuple #[.slice none 0 0, .int .i64 2]) (by simp [results, Tryd.f43, go_sem]) rfl ?_
        exact ⟨_, rfl, World.ownsRow_nil _ _ _ _, hF0.out.then hf1'.out⟩
theorem rPower_any {w : World} {va : Value} {s : Nat} {M : Nat → Nat → Bool} (ha : Dm w va s M) (x : Int) (hx : x ≤ 9223372036854775807) : Calls Tryd.prog 45 #[va, .int .i64 x] w fun e w' => ∃ v', e = .returned (.tuple #[v', .int .i64 (errP s x : Nat)]) ∧ Dm w' v' (powSd s x) (powMM s x M) ∧ Dn v' w.heap.size ∧ Far (fun _ => False) w w' := by
  unfold powSd powMM
  by_cases hy : s ≠ 0 ∧ ¬ x < 0
  · have e : errP s x = 0 := by unfold errP; rw [if_neg hy.1, if_neg hy.2]
    rw [e, if_pos rfl, if_pos rfl]
    obtain ⟨n, rfl⟩ : ∃ n : Nat, x = (n : Int) := ⟨x.toNat, by omega⟩
    exact rpower_any (by omega) n n (Nat.le_refl _) (by omega) w va ha
  · obtain ⟨ao, cap, rfl, _, _, hs, _⟩ := ha
    obtain ⟨na, hna⟩ : ∃ n, (cellsL M s).length = n := ⟨_, rfl⟩
    rw [hna]
    clear hna
    obtain ⟨h2, hh2⟩ : ∃ h, h = w.heap.size := ⟨_, rfl⟩
    obtain ⟨h4, hh4⟩ : ∃ h, h = h2 + 1 := ⟨_, rfl⟩
    obtain ⟨W0, hW0⟩ : ∃ V, V = (w.alloc (.cells #[.int .i64 (s : Nat), .slice ao na cap] 28)).alloc (.cells #[.int .i64 0, .slice none 0 0] 28) := ⟨_, rfl⟩
    have hF0 : Far (fun _ => False) w W0 := hW0 ▸ ((Far.refl _ w).alloc _).alloc _
    have hB2 : Bk W0 h2 28 #[.int .i64 (s : Nat), .slice ao na cap] := hW0 ▸ (Bk.new hh2).alloc _
    have hB4 : Bk W0 h4 28 #[.int .i64 0, .slice none 0 0] := hW0 ▸ Bk.new (by simp [hh4, hh2])
    have b20 : W0.cell? ⟨h2, 0, none⟩ = some (.int .i64 (s : Nat)) := hB2.cell 0
    have d0 : W0.cell? ⟨h4, 0, none⟩ = some (.int .i64 0) := hB4.cell 0
    have d1 : W0.cell? ⟨h4, 1, none⟩ = some (.slice none 0 0) := hB4.cell 1
    have f0 := hB4.free 0
    have f1 := hB4.free 1
    have hh2' := Lib.hid hh2
    have hh4' := Lib.hid hh4
    have hW0' := Lib.hid hW0
    obtain ⟨w7, hw7⟩ : ∃ V, V = (W0.setCell ⟨h4, 0, none⟩ (.int .i64 0)).setCell ⟨h4, 1, none⟩ (.slice none 0 0) := ⟨_, rfl⟩
    have hB7 : Bk w7 h4 28 #[.int .i64 0, .slice none 0 0] := hw7 ▸ (hB4.set 0 _).set 1 _
    have hf67 : Far (fun q => q = h4) W0 w7 := hw7 ▸ ((Far.refl (fun q => q = h4) W0).set ⟨h4, 0, none⟩ _ fun _ => rfl).set ⟨h4, 1, none⟩ _ fun _ => rfl
    have hf7 := Lib.hid (show Far (fun _ => False) w w7 from hF0.trans hf67 fun q hq e => by omega)
    have c0 : w7.cell? ⟨h4, 0, none⟩ = some (.int .i64 0) := hB7.cell 0
    have c1 : w7.cell? ⟨h4, 1, none⟩ = some (.slice none 0 0) := hB7.cell 1
    have hw7' := Lib.hid hw7
    clear hh2 hh4 hW0 hF0 hB2 hB4 hw7 hB7 hf67
    by_cases h0 : s = 0
    · have e : errP s x = 1 := by unfold errP; rw [if_pos h0]
      rw [e, if_neg (by decide), if_neg (by decide)]
      have hs0 : ((s : Int) == 0) = true := by simp; omega
      clear e h0 hy
      go_enter Tryd.func45, Tryd.ntmps45
      go_upto_region 1 with fail
      rw [← hh2'.out, ← hh4'.out, ← hW0'.out]
      go_wp2_with fail
      (try simp only [Exit.inBlock, Exit.then])
      rw [← hw7'.out]
      exact bodyPost_ret (v := .tuple #[.agg #[.int .i64 0, .slice none 0 0], .int .i64 1]) (by simp [results, Tryd.f45, go_sem, c0, c1]) rfl ⟨_, rfl, Dm.none _, Dn.none _, hf7.out⟩
    · have hn : x < 0 := by omega
      have e : errP s x = 2 := by unfold errP; rw [if_neg h0, if_pos hn]
      rw [e, if_neg (by decide), if_neg (by decide)]
      have hs0 : ((s : Int) == 0) = false := by simp; omega
      clear e h0 hy
      go_enter Tryd.func45, Tryd.ntmps45
      go_upto_region 1 with fail
      rw [← hh2'.out, ← hh4'.out, ← hW0'.out]
      go_wp2_with fail
      (try simp only [Exit.inBlock, Exit.then])
      rw [← hw7'.out]
      exact bodyPost_ret (v := .tuple #[.agg #[.int .i64 0, .slice none 0 0], .int .i64 2]) (by simp [results, Tryd.f45, go_sem, c0, c1]) rfl ⟨_, rfl, Dm.none _, Dn.none _, hf7.out⟩
end
end Go.Proofs.YthgjnnghokmjdaaDoor
