/-
  The document's Chain.
-/
import Derived.Test.YtkobbcmndneajaaDoorQPChA
import Derived.Test.YtkobbcmndneajaaDoorQTimes2
import Derived.Test.YtkobbcmndneajaaDoorQRefP1
namespace Go.Proofs.YtkobbcmndneajaaDoor
open Go.RowKit Go.Shelf
set_option linter.unusedVariables false
set_option linter.unusedSimpArgs false
section
set_option maxHeartbeats 8000000
set_option maxRecDepth 100000
theorem rChain_any (w : World) (ao : Option Addr) (n cap : Nat) (hn : n ≤ 1000000) (ss : Nat → Nat) (Ms : Nat → Nat → Nat → Bool) (av : Nat → Option Addr) (lv cv : Nat → Nat) (hA : 0 < n → ∃ g off, ao = some ⟨g, off, none⟩ ∧ g < w.heap.size ∧ ∀ k, k < n → w.cell? ⟨g, off + k * 2, none⟩ = some (.int .i64 (ss k : Nat)) ∧ w.cell? ⟨g, off + k * 2 + 1, none⟩ = some (.slice (av k) (lv k) (cv k))) (hs : ∀ k, k < n → Dm w (.agg #[.int .i64 (ss k : Nat), .slice (av k) (lv k) (cv k)]) (ss k) (Ms k)) :
    Calls Tryd.prog 31 #[.slice ao n cap] w fun e w' => ∃ v, e = .returned (.tuple #[v, .int .i64 (chE ss n : Nat)]) ∧ Dm w' v (chS ss n) (chMM ss Ms n) ∧ Far (fun _ => False) w w' := by
  unfold chS chMM
  obtain ⟨h2, hh2⟩ : ∃ h, h = w.heap.size := ⟨_, rfl⟩
  obtain ⟨W0, hW0⟩ : ∃ V, V = w.alloc (.cells #[.int .i64 0, .slice none 0 0] 28) := ⟨_, rfl⟩
  have hF0 : Far (fun _ => False) w W0 := hW0 ▸ (Far.refl _ w).alloc _
  have hB2 : Bk W0 h2 28 #[.int .i64 0, .slice none 0 0] := hW0 ▸ Bk.new hh2
  have HC := Lib.hid (show ∀ V, Far (fun _ => False) W0 V → 0 < n → ∃ g off, ao = some ⟨g, off, none⟩ ∧ g < W0.heap.size ∧ ∀ k, k < n → V.cell? ⟨g, off + k * 2, none⟩ = some (.int .i64 (ss k : Nat)) ∧ V.cell? ⟨g, off + k * 2 + 1, none⟩ = some (.slice (av k) (lv k) (cv k)) from fun V hV h0 => by
    obtain ⟨g, off, e, hg, hc⟩ := hA h0
    exact ⟨g, off, e, Nat.lt_of_lt_of_le hg hF0.size, fun k hk => ⟨((hF0.then hV).cell hg).trans (hc k hk).1, ((hF0.then hV).cell hg).trans (hc k hk).2⟩⟩)
  have FT := rfit_any W0 ao n cap hn ss (fun h0 => by
    obtain ⟨g, off, e, hg, hc⟩ := HC.out W0 (Far.refl _ _) h0
    exact ⟨g, off, e, hg, fun k hk => (hc k hk).1⟩)
  have HD := Lib.hid (show ∀ V, Far (fun _ => False) W0 V → ∀ k, k < n → Dm V (.agg #[.int .i64 (ss k : Nat), .slice (av k) (lv k) (cv k)]) (ss k) (Ms k) from fun V hV k hk => (hs k hk).move (hF0.then hV))
  have HB := Lib.hid (show ∀ V, Far (fun _ => False) W0 V → Bk V h2 28 #[.int .i64 0, .slice none 0 0] from fun V hV => hB2.far' hV id)
  have hh2' := Lib.hid hh2
  have hW0' := Lib.hid hW0
  have hF0' := Lib.hid hF0
  clear hA hs hW0 hF0 hB2 hh2
  by_cases hE : chE ss n = 0
  · obtain ⟨h1, h0, hsd⟩ := chE_ok hE
    have e : fitE ss n = 0 := by unfold chE at hE; rw [if_neg (by omega)] at hE; exact hE
    rw [hE, if_pos rfl, if_pos rfl]
    rw [e] at FT
    obtain ⟨s, hs⟩ : ∃ s, ss 0 = s := ⟨_, rfl⟩
    rw [hs] at hsd ⊢
    obtain ⟨g, off, rfl, hg, hc0⟩ := HC.out W0 (Far.refl _ _) h1
    have HC2 := Lib.hid (show ∀ V, Far (fun _ => False) W0 V → ∀ k, k < n → V.cell? ⟨g, off + k * 2, none⟩ = some (.int .i64 (s : Nat)) ∧ V.cell? ⟨g, off + k * 2 + 1, none⟩ = some (.slice (av k) (lv k) (cv k)) from fun V hV k hk => by
      obtain ⟨g', off', e', _, hc⟩ := HC.out V hV h1
      cases e'
      have := hc k hk
      rw [hsd k hk] at this
      exact this)
    have HD2 := Lib.hid (show ∀ V, Far (fun _ => False) W0 V → ∀ k, k < n → Dm V (.agg #[.int .i64 (s : Nat), .slice (av k) (lv k) (cv k)]) s (Ms k) from fun V hV k hk => by
      have := HD.out V hV k hk
      rw [hsd k hk] at this
      exact this)
    have hn0 := nat_beq0 (show n ≠ 0 by omega)
    have h1i : (0 : Int) < (n : Int) := by omega
    have hnb : (n : Int) ≤ 1000000 := by omega
    have hg' := Lib.hid hg
    clear hE h0 hsd e hs hc0 HC HD hg
    go_enter Tryd.func31, Tryd.ntmps31
    go_upto_region 1 with fail
    rw [← hh2'.out, ← hW0'.out]
    go_wp2_with fail
    refine FT.mono ?_
    rintro e w1 ⟨rfl, hf1⟩
    have hf1' := Lib.hid hf1
    obtain ⟨c0, c1⟩ := HC2.out w1 hf1 0 (by omega)
    rw [Nat.zero_mul, Nat.add_zero] at c0 c1
    obtain ⟨a0, ha0⟩ : ∃ a, av 0 = a := ⟨_, rfl⟩
    obtain ⟨l0, hl0⟩ : ∃ a, lv 0 = a := ⟨_, rfl⟩
    obtain ⟨q0, hq0⟩ : ∃ a, cv 0 = a := ⟨_, rfl⟩
    have hD0 := HD2.out w1 hf1 0 (by omega)
    rw [ha0, hl0, hq0] at c1 hD0
    obtain ⟨h5, hh5⟩ : ∃ h, h = w1.heap.size := ⟨_, rfl⟩
    obtain ⟨W1, hW1⟩ : ∃ V, V = w1.alloc (.cells #[.int .i64 (s : Nat), .slice a0 l0 q0] 28) := ⟨_, rfl⟩
    have hfw : Far (fun _ => False) w1 W1 := hW1 ▸ (Far.refl _ w1).alloc _
    have hB5 : Bk W1 h5 28 #[.int .i64 (s : Nat), .slice a0 l0 q0] := hW1 ▸ Bk.new hh5
    have hD1 := Lib.hid (hD0.move hfw)
    have hB5' := Lib.hid hB5
    have hf01 := Lib.hid (hf1.then hfw)
    have hW1' := Lib.hid hW1
    have hh5' := Lib.hid hh5
    have hg5 := Lib.hid (show g < h5 by have := hg'.out; have := hf1.size; omega)
    have hlo5 := Lib.hid (show W0.heap.size ≤ h5 by rw [hh5]; exact hf1.size)
    clear FT hf1 ha0 hl0 hq0 hD0 hfw hB5 hW1 hh5
    go_upto_region 7 with fail
    rw [← hh5'.out, ← hW1'.out]
    clear c0 c1
    go_wp2_with fail
    go_loopw [6] (fun iv wr => ∃ (i : Nat) (ao5 : Option Addr) (l5 c5 : Nat), 1 ≤ i ∧ i ≤ n ∧ iv = .int .i64 (i : Nat) ∧ Bk wr h5 28 #[.int .i64 (s : Nat), .slice ao5 l5 c5] ∧ Dm wr (.agg #[.int .i64 (s : Nat), .slice ao5 l5 c5]) s (chainM Ms (i - 1)) ∧ Far (fun k => k = h5) W1 wr) (fun iv _ => n - (intOf iv).toNat)
    case atStart => exact ⟨1, a0, l0, q0, Nat.le_refl _, h1, rfl, hB5'.out, hD1.out, Far.refl _ _⟩
    case round =>
      obtain ⟨i, ao5, l5, c5, hi1, hi, rfl, hB, hD, hf⟩ := hrel
      obtain ⟨wd, hwd⟩ : ∃ wd, wd = wr := ⟨_, rfl⟩
      rw [← hwd] at hB hD hf ⊢
      clear hwd
      by_cases hlt : i < n
      · have hii : (i : Int) < (n : Int) := by omega
        have hib : (i : Int) + 1 ≤ 9223372036854775807 := by omega
        have hi0 : (0 : Int) ≤ (i : Int) := by omega
        have hgl : g < W1.heap.size := by have := hg5.out; have := hB5'.out.lt; omega
        have hg5n : ¬ g = h5 := by have := hg5.out; omega
        obtain ⟨d0, d1⟩ := HC2.out W1 hf01.out i hlt
        have x0 : wd.cell? ⟨g, off + i * 2, none⟩ = some (.int .i64 (s : Nat)) := (cell_eq (p := ⟨g, off + i * 2, none⟩) (hf.block g hgl hg5n)).trans d0
        have x1 : wd.cell? ⟨g, off + i * 2 + 1, none⟩ = some (.slice (av i) (lv i) (cv i)) := (cell_eq (p := ⟨g, off + i * 2 + 1, none⟩) (hf.block g hgl hg5n)).trans d1
        have hDi : Dm wd (.agg #[.int .i64 (s : Nat), .slice (av i) (lv i) (cv i)]) s (Ms i) := (HD2.out W1 hf01.out i hlt).box hB5'.out hf
        have TM := rtimes_any (hD.move ((Far.refl (fun _ => False) wd).drew)) (hDi.move ((Far.refl (fun _ => False) wd).drew))
        have y0 : wd.cell? ⟨h5, 0, none⟩ = some (.int .i64 (s : Nat)) := hB.cell 0
        have y1 : wd.cell? ⟨h5, 1, none⟩ = some (.slice ao5 l5 c5) := hB.cell 1
        obtain ⟨ai, hai⟩ : ∃ a, av i = a := ⟨_, rfl⟩
        obtain ⟨li, hli⟩ : ∃ a, lv i = a := ⟨_, rfl⟩
        obtain ⟨ci, hci⟩ : ∃ a, cv i = a := ⟨_, rfl⟩
        rw [hai, hli, hci] at x1 TM
        have hst : mulM (chainM Ms (i - 1)) (Ms i) = chainM Ms i := by
          obtain ⟨j, rfl⟩ : ∃ j, i = j + 1 := ⟨i - 1, by omega⟩
          rfl
        rw [hst] at TM
        have hB' := Lib.hid hB
        have hf' := Lib.hid hf
        clear hB hD hf hai hli hci d0 d1 hDi hst
        go_upto_region 10 with fail
        go_region_with
          (first
            | (go_at_call 86; (with_reducible refine TM.mono ?_); rintro e w9 ⟨v, rfl, hD9, hDn, hf9⟩; have hD9' := Lib.hid hD9; obtain ⟨ao9, cap9, rfl, _⟩ := hD9; obtain ⟨m, hm⟩ : ∃ m, (cellsL (chainM Ms i) s).length = m := ⟨_, rfl⟩; rw [hm] at hD9' hDn ⊢; have hDn' := Lib.hid hDn; have hf9' := Lib.hid (((Far.refl (fun _ => False) wd).drew).then hf9); have hB9 := Lib.hid (hB'.out.far' hf9'.out id); have d0 : w9.cell? ⟨h5, 0, none⟩ = some (.int .i64 (s : Nat)) := hB9.out.cell 0; have d1 : w9.cell? ⟨h5, 1, none⟩ = some (.slice ao5 l5 c5) := hB9.out.cell 1; have f0 := hB9.out.free 0; have f1 := hB9.out.free 1; clear hDn hf9 hm))
        all_goals
          go_wp2_with fail
          obtain ⟨w7, hw7⟩ : ∃ V, V = (w9.setCell ⟨h5, 0, none⟩ (.int .i64 (s : Nat))).setCell ⟨h5, 1, none⟩ (.slice ao9 m cap9) := ⟨_, rfl⟩
          have hB7 := Lib.hid (show Bk w7 h5 28 #[.int .i64 (s : Nat), .slice ao9 m cap9] from hw7 ▸ (hB9.out.set 0 _).set 1 _)
          have hf67 := Lib.hid (show Far (fun q => q = h5) w9 w7 from hw7 ▸ ((Far.refl (fun q => q = h5) w9).set ⟨h5, 0, none⟩ _ fun _ => rfl).set ⟨h5, 1, none⟩ _ fun _ => rfl)
          have hfin := Lib.hid (show Far (fun k => k = h5) W1 w7 from (hf'.out.trans hf9'.out fun _ _ h => h.elim).trans hf67.out fun _ _ h => h)
          have hDf := Lib.hid (hD9'.out.box hB9.out hf67.out)
          rw [← hw7]
          clear hw7
          go_roundw
          case rel => exact ⟨i + 1, ao9, m, cap9, by omega, by omega, by go_num, hB7.out, hDf.out, hfin.out⟩
          case measure => simp only [intOf]; omega
      · have e : i = n := by omega
        subst e
        have hB2 := (HB.out W1 hf01.out).far' hf (fun h => by have h1 := hlo5.out; have h2 := (HB.out W0 (Far.refl _ _)).lt; omega)
        have x20 : wd.cell? ⟨h2, 0, none⟩ = some (.int .i64 0) := hB2.cell 0
        have x21 : wd.cell? ⟨h2, 1, none⟩ = some (.slice none 0 0) := hB2.cell 1
        have fr0 := hB2.free 0
        have fr1 := hB2.free 1
        have y0 : wd.cell? ⟨h5, 0, none⟩ = some (.int .i64 (s : Nat)) := hB.cell 0
        have y1 : wd.cell? ⟨h5, 1, none⟩ = some (.slice ao5 l5 c5) := hB.cell 1
        have n25 : h2 ≠ h5 := by have h1 := hlo5.out; have h2 := (HB.out W0 (Far.refl _ _)).lt; omega
        have n52 : h5 ≠ h2 := fun e => n25 e.symm
        have hD' := Lib.hid hD
        have hf' := Lib.hid hf
        have hB2' := Lib.hid hB2
        clear hB hD hf hB2
        go_wp2_with fail
        (try simp only [Exit.inBlock, Exit.then])
        obtain ⟨w7, hw7⟩ : ∃ V, V = (wd.setCell ⟨h2, 0, none⟩ (.int .i64 (s : Nat))).setCell ⟨h2, 1, none⟩ (.slice ao5 l5 c5) := ⟨_, rfl⟩
        have hB7 : Bk w7 h2 28 #[.int .i64 (s : Nat), .slice ao5 l5 c5] := hw7 ▸ (hB2'.out.set 0 _).set 1 _
        have hf67 : Far (fun q => q = h2) wd w7 := hw7 ▸ ((Far.refl (fun q => q = h2) wd).set ⟨h2, 0, none⟩ _ fun _ => rfl).set ⟨h2, 1, none⟩ _ fun _ => rfl
        have hf17 : Far (fun q => q = h2 ∨ q = h5) W1 w7 := (hf'.out.mono fun _ _ e => .inr e).trans hf67 fun _ _ e => .inl e
        have hf7 : Far (fun _ => False) w w7 := (hF0'.out.then hf01.out).trans hf17 fun q hq e => by
          have h1 := hh2'.out
          have h2 := hlo5.out
          have h3 := hF0'.out.size
          rcases e with rfl | rfl <;> omega
        have c0 : w7.cell? ⟨h2, 0, none⟩ = some (.int .i64 (s : Nat)) := hB7.cell 0
        have c1 : w7.cell? ⟨h2, 1, none⟩ = some (.slice ao5 l5 c5) := hB7.cell 1
        rw [← hw7]
        exact bodyPost_ret (v := .tuple #[.agg #[.int .i64 (s : Nat), .slice ao5 l5 c5], .int .i64 0]) (by simp [results, Tryd.f31, go_sem, c0, c1]) rfl ⟨_, rfl, hD'.out.box hB2'.out hf67, hf7⟩
  · rw [if_neg hE, if_neg hE]
    by_cases h0 : n = 0
    · have e : chE ss n = 2 := by unfold chE; rw [if_pos h0]
      have e2 : fitE ss n = 0 := by rw [h0]; exact fitE_ok (fun k hk => absurd hk (Nat.not_lt_zero _)) (fun k hk => absurd hk (Nat.not_lt_zero _))
      rw [e]
      rw [e2] at FT
      subst h0
      clear e e2 hE HC HD
      go_enter Tryd.func31, Tryd.ntmps31
      go_upto_region 1 with fail
      rw [← hh2'.out, ← hW0'.out]
      go_wp2_with fail
      refine FT.mono ?_
      rintro e w1 ⟨rfl, hf1⟩
      have hB2 := HB.out w1 hf1
      have x20 : w1.cell? ⟨h2, 0, none⟩ = some (.int .i64 0) := hB2.cell 0
      have x21 : w1.cell? ⟨h2, 1, none⟩ = some (.slice none 0 0) := hB2.cell 1
      have fr0 := hB2.free 0
      have fr1 := hB2.free 1
      have hf1' := Lib.hid hf1
      have hB2' := Lib.hid hB2
      clear FT hf1 hB2
      go_wp2_with fail
      (try simp only [Exit.inBlock, Exit.then])
      obtain ⟨w7, hw7⟩ : ∃ V, V = (w1.setCell ⟨h2, 0, none⟩ (.int .i64 0)).setCell ⟨h2, 1, none⟩ (.slice none 0 0) := ⟨_, rfl⟩
      have hB7 : Bk w7 h2 28 #[.int .i64 0, .slice none 0 0] := hw7 ▸ (hB2'.out.set 0 _).set 1 _
      have hf67 : Far (fun q => q = h2) w1 w7 := hw7 ▸ ((Far.refl (fun q => q = h2) w1).set ⟨h2, 0, none⟩ _ fun _ => rfl).set ⟨h2, 1, none⟩ _ fun _ => rfl
      have hf7 : Far (fun _ => False) w w7 := (hF0'.out.then hf1'.out).trans hf67 fun q hq e => by have := hh2'.out; omega
      have c0 : w7.cell? ⟨h2, 0, none⟩ = some (.int .i64 0) := hB7.cell 0
      have c1 : w7.cell? ⟨h2, 1, none⟩ = some (.slice none 0 0) := hB7.cell 1
      rw [← hw7]
      exact bodyPost_ret (v := .tuple #[.agg #[.int .i64 0, .slice none 0 0], .int .i64 2]) (by simp [results, Tryd.f31, go_sem, c0, c1]) rfl ⟨_, rfl, Dm.none _, hf7⟩
    · have e : chE ss n = fitE ss n := by unfold chE; rw [if_neg h0]
      rw [e] at hE ⊢
      obtain ⟨E, hEE⟩ : ∃ E, fitE ss n = E := ⟨_, rfl⟩
      rw [hEE] at FT hE ⊢
      have n0 := nat_beq0 h0
      have E0 := nat_beq0 hE
      have E1 : ((E : Int) != 0) = true := by simp; omega
      have E2 : ¬ (E : Int) = 0 := by omega
      clear HC HD e hEE
      by_cases h1 : E = 1
      · have E3 : ((E : Int) != 1) = false := by rw [h1]; rfl
        clear h1 hE
        go_enter Tryd.func31, Tryd.ntmps31
        go_upto_region 1 with fail
        rw [← hh2'.out, ← hW0'.out]
        go_wp2_with fail
        refine FT.mono ?_
        rintro e w1 ⟨rfl, hf1⟩
        have hB2 := HB.out w1 hf1
        have x20 : w1.cell? ⟨h2, 0, none⟩ = some (.int .i64 0) := hB2.cell 0
        have x21 : w1.cell? ⟨h2, 1, none⟩ = some (.slice none 0 0) := hB2.cell 1
        have fr0 := hB2.free 0
        have fr1 := hB2.free 1
        have hf1' := Lib.hid hf1
        have hB2' := Lib.hid hB2
        clear FT hf1 hB2
        go_wp2_with fail
        (try simp only [Exit.inBlock, Exit.then])
        obtain ⟨w7, hw7⟩ : ∃ V, V = (w1.setCell ⟨h2, 0, none⟩ (.int .i64 0)).setCell ⟨h2, 1, none⟩ (.slice none 0 0) := ⟨_, rfl⟩
        have hB7 : Bk w7 h2 28 #[.int .i64 0, .slice none 0 0] := hw7 ▸ (hB2'.out.set 0 _).set 1 _
        have hf67 : Far (fun q => q = h2) w1 w7 := hw7 ▸ ((Far.refl (fun q => q = h2) w1).set ⟨h2, 0, none⟩ _ fun _ => rfl).set ⟨h2, 1, none⟩ _ fun _ => rfl
        have hf7 : Far (fun _ => False) w w7 := (hF0'.out.then hf1'.out).trans hf67 fun q hq e => by have := hh2'.out; omega
        have c0 : w7.cell? ⟨h2, 0, none⟩ = some (.int .i64 0) := hB7.cell 0
        have c1 : w7.cell? ⟨h2, 1, none⟩ = some (.slice none 0 0) := hB7.cell 1
        rw [← hw7]
        exact bodyPost_ret (v := .tuple #[.agg #[.int .i64 0, .slice none 0 0], .int .i64 (E : Nat)]) (by simp [results, Tryd.f31, go_sem, c0, c1]) rfl ⟨_, rfl, Dm.none _, hf7⟩
      · have E3 : ((E : Int) != 1) = true := by simp; omega
        have E4 : ¬ (E : Int) = 1 := by omega
        clear h1 hE
        go_enter Tryd.func31, Tryd.ntmps31
        go_upto_region 1 with fail
        rw [← hh2'.out, ← hW0'.out]
        go_wp2_with fail
        refine FT.mono ?_
        rintro e w1 ⟨rfl, hf1⟩
        have hB2 := HB.out w1 hf1
        have x20 : w1.cell? ⟨h2, 0, none⟩ = some (.int .i64 0) := hB2.cell 0
        have x21 : w1.cell? ⟨h2, 1, none⟩ = some (.slice none 0 0) := hB2.cell 1
        have fr0 := hB2.free 0
        have fr1 := hB2.free 1
        have hf1' := Lib.hid hf1
        have hB2' := Lib.hid hB2
        clear FT hf1 hB2
        go_wp2_with fail
        (try simp only [Exit.inBlock, Exit.then])
        obtain ⟨w7, hw7⟩ : ∃ V, V = (w1.setCell ⟨h2, 0, none⟩ (.int .i64 0)).setCell ⟨h2, 1, none⟩ (.slice none 0 0) := ⟨_, rfl⟩
        have hB7 : Bk w7 h2 28 #[.int .i64 0, .slice none 0 0] := hw7 ▸ (hB2'.out.set 0 _).set 1 _
        have hf67 : Far (fun q => q = h2) w1 w7 := hw7 ▸ ((Far.refl (fun q => q = h2) w1).set ⟨h2, 0, none⟩ _ fun _ => rfl).set ⟨h2, 1, none⟩ _ fun _ => rfl
        have hf7 : Far (fun _ => False) w w7 := (hF0'.out.then hf1'.out).trans hf67 fun q hq e => by have := hh2'.out; omega
        have c0 : w7.cell? ⟨h2, 0, none⟩ = some (.int .i64 0) := hB7.cell 0
        have c1 : w7.cell? ⟨h2, 1, none⟩ = some (.slice none 0 0) := hB7.cell 1
        rw [← hw7]
        exact bodyPost_ret (v := .tuple #[.agg #[.int .i64 0, .slice none 0 0], .int .i64 (E : Nat)]) (by simp [results, Tryd.f31, go_sem, c0, c1]) rfl ⟨_, rfl, Dm.none _, hf7⟩
end
end Go.Proofs.YtkobbcmndneajaaDoor
