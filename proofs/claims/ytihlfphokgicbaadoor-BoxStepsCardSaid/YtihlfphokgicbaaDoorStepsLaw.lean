/-
  BoxSteps walked.
-/
import Derived.Test.YtihlfphokgicbaaDoorSameInts
import Derived.Test.YtihlfphokgicbaaDoorChecksLaw
namespace Go.Proofs.YtihlfphokgicbaaDoor
open Go.RowKit
set_option linter.unusedVariables false
set_option linter.unusedSimpArgs false
theorem sorted_ext : ∀ {l l' : List Nat}, l.Pairwise (· < ·) → l'.Pairwise (· < ·) → (∀ p, p ∈ l ↔ p ∈ l') → l = l'
  | [], [], _, _, _ => rfl
  | [], b :: l', _, _, h => by have := (h b).2 (by simp); cases this
  | a :: l, [], _, _, h => by have := (h a).1 (by simp); cases this
  | a :: l, b :: l', h1, h2, h => by
    rw [List.pairwise_cons] at h1 h2
    have hab : a = b := by
      rcases List.mem_cons.1 ((h a).1 (by simp)) with e | e
      · exact e
      · rcases List.mem_cons.1 ((h b).2 (by simp)) with e' | e'
        · exact e'.symm
        · have := h1.1 b e'; have := h2.1 a e; omega
    subst hab
    rw [sorted_ext h1.2 h2.2 fun p => ?_]
    constructor
    · intro hp
      rcases List.mem_cons.1 ((h p).1 (by simp [hp])) with e | e
      · have := h1.1 p hp; omega
      · exact e
    · intro hp
      rcases List.mem_cons.1 ((h p).2 (by simp [hp])) with e | e
      · have := h2.1 p hp; omega
      · exact e
theorem same_list {sn m n : Nat} {f : Nat → Int} {g : Nat → Ar} {q : Nat → Int} {nq : Nat} {s1 : Bool} {s2 : Int} {Y0 Y1 : Nat} {l : List Nat} {fB f' : Nat → Bool} (hM : MayBe (sn : Int) n f m g) (hU : Upto Y0 Y1 128 l)
    (hY : ∀ p : Nat, memS Y0 Y1 p = true ↔ ∃ k, k < m ∧ leadsQ g q nq s1 s2 k p) (hB : ∀ p : Nat, fB p = true ↔ ∃ j, j < nq ∧ q j = (p : Int)) (hf : ∀ p : Nat, f' p = true ↔ ∃ k, k < m ∧ leadsB g fB s1 s2 k p) : l = (List.range sn).filter f' := by
  refine sorted_ext hU.1 (List.Pairwise.filter _ List.pairwise_lt_range) fun p => ?_
  rw [hU.2.1 p, hY p, List.mem_filter, List.mem_range, hf p]
  have hs := hM.2.1
  have key : ∀ k, k < m → (leadsQ g q nq s1 s2 k p ↔ leadsB g fB s1 s2 k p) := fun k hk => by
    unfold leadsQ leadsB
    have h0 := (hM.2.2.2 k hk).1
    have e : (((g k).1.toNat : Nat) : Int) = (g k).1 := Int.toNat_of_nonneg h0
    refine and_congr_right fun _ => and_congr_left fun _ => ?_
    rw [hB, e]
  constructor
  · rintro ⟨_, k, hk, h⟩
    have h4 := (hM.2.2.2 k hk).2.2.2.1
    have := h.2.2
    exact ⟨by omega, k, hk, (key k hk).1 h⟩
  · rintro ⟨hp, k, hk, h⟩
    exact ⟨by omega, k, hk, (key k hk).2 h⟩
theorem range_filter (f : Nat → Bool) (k : Nat) : (List.range (k + 1)).filter f = (List.range k).filter f ++ if f k then [k] else [] := by
  rw [List.range_succ, List.filter_append]
  cases h : f k <;> simp [h]
section
set_option maxHeartbeats 2000000
set_option maxRecDepth 100000
theorem steps_no (S : Int) (fo : Option Addr) (n fc : Nat) (f : Nat → Int) (ao : Option Addr) (m ac : Nat) (g : Nat → Ar) (qo : Option Addr) (nq qc : Nat) (s1 : Bool) (s2 : Int) (w : World) (hI : Ints w fo n f) (hA : Arcs w ao m g) (hn : n ≤ maxLen) (hm : m ≤ maxLen) (hno : ¬ MayBe S n f m g) :
    Calls Tryd.prog 5 #[.agg #[.int .i64 S, .slice fo n fc, .slice ao m ac], .slice qo nq qc, .agg #[.bool s1, .int .i64 s2]] w fun e w' => e = .returned (.bool true) ∧ Far (fun _ => False) w w' := by
  obtain ⟨h, hh⟩ : ∃ h, h = w.heap.size := ⟨_, rfl⟩
  obtain ⟨kY, hkY⟩ : ∃ k, k = h + 1 := ⟨_, rfl⟩
  obtain ⟨w1, hw1⟩ : ∃ w1, w1 = (w.alloc (.cells #[.int .i64 S, .slice fo n fc, .slice ao m ac] 25)).alloc (.cells #[.bool s1, .int .i64 s2] 38) := ⟨_, rfl⟩
  have hB : Bk w1 h 25 #[.int .i64 S, .slice fo n fc, .slice ao m ac] := hw1 ▸ (Bk.new hh).alloc _
  have hY : Bk w1 kY 38 #[.bool s1, .int .i64 s2] := hw1 ▸ Bk.new (by simp [hkY, hh])
  have hF : Far (fun _ => False) w w1 := hw1 ▸ ((Far.refl _ w).alloc _).alloc _
  have b0 : w1.cell? ⟨h, 0, none⟩ = some (.int .i64 S) := hB.cell 0
  have b1 : w1.cell? ⟨h, 1, none⟩ = some (.slice fo n fc) := hB.cell 1
  have b2 : w1.cell? ⟨h, 2, none⟩ = some (.slice ao m ac) := hB.cell 2
  have y0 : w1.cell? ⟨kY, 0, none⟩ = some (.bool s1) := hY.cell 0
  have y1 : w1.cell? ⟨kY, 1, none⟩ = some (.int .i64 s2) := hY.cell 1
  have BN := bstep_no S fo n fc f ao m ac g qo nq qc s1 s2 w1 (hI.move hF) (hA.move hF) hn hm hno
  have RC := fun w' (hf : Far (fun _ => False) w1 w') => rcheck_any S fo n fc f ao m ac g w' ((hI.move hF).move hf) ((hA.move hF).move hf) hn hm
  rw [code_no hno] at RC
  have RC' := Lib.hid RC
  have hh' := Lib.hid hh
  have hkY' := Lib.hid hkY
  have hw1' := Lib.hid hw1
  have hF' := Lib.hid hF
  have hB' := Lib.hid hB
  clear hI hA hn hm hno hh hw1 hB hF hkY hY RC
  go_enter Tryd.func5, Tryd.ntmps5
  go_upto_region 1 with fail
  rw [← hh'.out, ← hkY'.out, ← hw1'.out]
  go_wp2_with fail
  refine BN.mono ?_
  rintro e w2 ⟨rfl, hf2⟩
  have hf2' := Lib.hid hf2
  clear hf2 BN b0 b1 b2 y0 y1
  go_wp2_with fail
  refine (head_any _).mono ?_
  rintro e w3 ⟨rfl, hf3⟩
  have hf3' := Lib.hid (hf2'.out.then hf3)
  clear hf3
  have b0 : w3.cell? ⟨h, 0, none⟩ = some (.int .i64 S) := (hB'.out.far' hf3'.out id).cell 0
  have b1 : w3.cell? ⟨h, 1, none⟩ = some (.slice fo n fc) := (hB'.out.far' hf3'.out id).cell 1
  have b2 : w3.cell? ⟨h, 2, none⟩ = some (.slice ao m ac) := (hB'.out.far' hf3'.out id).cell 2
  have RC3 := RC'.out w3 hf3'.out
  go_wp2_with fail
  refine RC3.mono ?_
  rintro e w4 ⟨rfl, hf4⟩
  have hf4' := Lib.hid (hf3'.out.then hf4)
  clear hf4 RC3
  go_wp2_with fail
  go_ret
  exact ⟨rfl, hF'.out.then hf4'.out⟩
theorem steps_yes (sn : Nat) (fo : Option Addr) (n fc : Nat) (f : Nat → Int) (ao : Option Addr) (m ac : Nat) (g : Nat → Ar) (qo : Option Addr) (nq qc : Nat) (q : Nat → Int) (s1 : Bool) (s2 : Int) (w : World) (hI : Ints w fo n f) (hA : Arcs w ao m g) (hQ : Ints w qo nq q) (hn : n ≤ maxLen) (hm : m ≤ maxLen) (hnq : nq ≤ maxLen) (hM : MayBe (sn : Int) n f m g) (hT : Tab w) :
    Calls Tryd.prog 5 #[.agg #[.int .i64 (sn : Int), .slice fo n fc, .slice ao m ac], .slice qo nq qc, .agg #[.bool s1, .int .i64 s2]] w fun e w' => e = .returned (.bool true) ∧ Far (fun _ => False) w w' := by
  obtain ⟨h, hh⟩ : ∃ h, h = w.heap.size := ⟨_, rfl⟩
  obtain ⟨kY, hkY⟩ : ∃ k, k = h + 1 := ⟨_, rfl⟩
  obtain ⟨w1, hw1⟩ : ∃ w1, w1 = (w.alloc (.cells #[.int .i64 (sn : Int), .slice fo n fc, .slice ao m ac] 25)).alloc (.cells #[.bool s1, .int .i64 s2] 38) := ⟨_, rfl⟩
  have hB : Bk w1 h 25 #[.int .i64 (sn : Int), .slice fo n fc, .slice ao m ac] := hw1 ▸ (Bk.new hh).alloc _
  have hY : Bk w1 kY 38 #[.bool s1, .int .i64 s2] := hw1 ▸ Bk.new (by simp [hkY, hh])
  have hF : Far (fun _ => False) w w1 := hw1 ▸ ((Far.refl _ w).alloc _).alloc _
  have b0 : w1.cell? ⟨h, 0, none⟩ = some (.int .i64 (sn : Int)) := hB.cell 0
  have b1 : w1.cell? ⟨h, 1, none⟩ = some (.slice fo n fc) := hB.cell 1
  have b2 : w1.cell? ⟨h, 2, none⟩ = some (.slice ao m ac) := hB.cell 2
  have y0 : w1.cell? ⟨kY, 0, none⟩ = some (.bool s1) := hY.cell 0
  have y1 : w1.cell? ⟨kY, 1, none⟩ = some (.int .i64 s2) := hY.cell 1
  have hT1 : Tab w1 := hT.stays (hF.below (Nat.le_refl _) fun _ _ h => h)
  have hQ1 := hQ.move hF
  have hA1 := hA.move hF
  have BY0 := bstep_yes (sn : Int) fo n fc f ao m ac g qo nq qc q s1 s2 w1 (hI.move hF) hA1 hQ1 hn hm hnq hM hT1
  have BY := BY0.mono (R' := fun e w' => ∃ so ln cap c, e = .returned (.tuple #[.slice so ln cap, .int .i64 c]) ∧ ((¬ allSt (sn : Int) q nq ∧ c = 2) ∨ (allSt (sn : Int) q nq ∧ c = 0 ∧ ∃ l B Y0 Y1, ln = l.length ∧ w1.heap.size ≤ B ∧ w'.ownsRow B 3 1 (.slice so l.length cap) l.length (icells l) ∧ Upto Y0 Y1 128 l ∧ ∀ p, memS Y0 Y1 p = true ↔ ∃ k, k < m ∧ leadsQ g q nq s1 s2 k p)) ∧ Far (fun _ => False) w1 w') (by
    rintro e w' ⟨h1 | h1, h2⟩
    · obtain ⟨hna, rfl⟩ := h1
      exact ⟨none, 0, 0, 2, rfl, .inl ⟨hna, rfl⟩, h2⟩
    · obtain ⟨ha, l, so, cap, B, Y0, Y1, rfl, hb, ho, hu, hy⟩ := h1
      exact ⟨so, l.length, cap, 0, rfl, .inr ⟨ha, rfl, l, B, Y0, Y1, rfl, hb, ho, hu, hy⟩, h2⟩)
  have RC := fun w' (hf : Far (fun _ => False) w1 w') => rcheck_any (sn : Int) fo n fc f ao m ac g w' ((hI.move hF).move hf) ((hA.move hF).move hf) hn hm
  rw [code_yes hM] at RC
  have hS65 : sn ≤ 65 := by have := hM.2.1; omega
  have hgb : ∀ k, k < m → (0 ≤ (g k).1 ∧ (g k).1 < sn) ∧ 0 ≤ (g k).2.2.2 ∧ (g k).2.2.2 < sn := fun k hk => by
    obtain ⟨a1, a2, a3, a4, _⟩ := hM.2.2.2 k hk
    omega
  have RS := Lib.hid (fun gF fB w' (hb : BRow w' gF sn fB) (hf : Far (fun _ => False) w1 w') => rstep_any sn fo n fc ao m ac g gF fB s1 s2 w' hS65 hm (hA1.move hf) hb hgb)
  have RC' := Lib.hid RC
  have hh' := Lib.hid hh
  have hkY' := Lib.hid hkY
  have hw1' := Lib.hid hw1
  have hF' := Lib.hid hF
  have hB' := Lib.hid hB
  have hY' := Lib.hid hY
  have hQ' := Lib.hid hQ1
  have hM' := Lib.hid hM
  have hMK := Lib.hid (make_bools sn hS65)
  unfold maxLen at hnq
  clear hI hA hn hm hh hw1 hB hF hkY hY RC BY0 hQ hQ1 hA1 hT hT1 hM hgb
  go_enter Tryd.func5, Tryd.ntmps5
  go_upto_region 1 with fail
  rw [← hh'.out, ← hkY'.out, ← hw1'.out]
  go_wp2_with fail
  refine BY.mono ?_
  rintro e w2 ⟨so, ln, cap, c, rfl, hc, hf2⟩
  have hf2' := Lib.hid hf2
  have hc' := Lib.hid hc
  clear hf2 BY b0 b1 b2 y0 y1 hc
  go_wp2_with fail
  refine (head_any _).mono ?_
  rintro e w3 ⟨rfl, hf3⟩
  have hf3' := Lib.hid (hf2'.out.then hf3)
  have hf23 := Lib.hid hf3
  clear hf3
  have b0 : w3.cell? ⟨h, 0, none⟩ = some (.int .i64 (sn : Int)) := (hB'.out.far' hf3'.out id).cell 0
  have b1 : w3.cell? ⟨h, 1, none⟩ = some (.slice fo n fc) := (hB'.out.far' hf3'.out id).cell 1
  have b2 : w3.cell? ⟨h, 2, none⟩ = some (.slice ao m ac) := (hB'.out.far' hf3'.out id).cell 2
  have RC3 := RC'.out w3 hf3'.out
  go_wp2_with fail
  refine RC3.mono ?_
  rintro e w4 ⟨rfl, hf4⟩
  have hf4' := Lib.hid (hf3'.out.then hf4)
  have hf24 := Lib.hid (hf23.out.then hf4)
  clear hf4 RC3 b0 b1 b2
  have b0 : w4.cell? ⟨h, 0, none⟩ = some (.int .i64 (sn : Int)) := (hB'.out.far' hf4'.out id).cell 0
  have mk := hMK.out
  obtain ⟨gS, hgS⟩ : ∃ k, k = w4.heap.size := ⟨_, rfl⟩
  obtain ⟨w5, hw5⟩ : ∃ w5, w5 = w4.alloc (.cells (bcells sn (fun _ => false)) 4) := ⟨_, rfl⟩
  have hR5 := Lib.hid (show BRow w5 gS sn (fun _ => false) from hw5 ▸ Bk.new hgS)
  have hf5' := Lib.hid (show Far (fun _ => False) w1 w5 from hw5 ▸ hf4'.out.alloc _)
  have hf25 := Lib.hid (show Far (fun _ => False) w2 w5 from hw5 ▸ hf24.out.alloc _)
  have hgS1 := Lib.hid (show w1.heap.size ≤ gS ∧ w2.heap.size ≤ gS from hgS ▸ ⟨hf4'.out.size, hf24.out.size⟩)
  have hgS' := Lib.hid hgS
  have hw5' := Lib.hid hw5
  clear hgS hw5
  go_upto_region 7 with fail
  rw [← hgS'.out, ← hw5'.out]
  clear mk b0
  go_wp2_with fail
  go_loopw [10] (fun iv wr => ∃ (i : Nat) (fB : Nat → Bool), iv = .int .i64 i ∧ i ≤ nq ∧ (∀ j, j < i → 0 ≤ q j ∧ q j < (sn : Int)) ∧ BRow wr gS sn fB ∧ (∀ p : Nat, fB p = true ↔ ∃ j, j < i ∧ q j = (p : Int)) ∧ Far (fun k => k = gS) w5 wr) (fun iv _ => nq - (intOf iv).toNat)
  case atStart => exact ⟨0, fun _ => false, rfl, Nat.zero_le _, fun j h => absurd h (Nat.not_lt_zero _), hR5.out, fun p => by simp, Far.refl _ _⟩
  case round =>
    obtain ⟨i, fB, rfl, hi, hgood, hRr, hmem, hfw⟩ := hrel
    have hfx : Far (fun _ => False) w1 wr := hf5'.out.out hfw (fun i hi e => by have := hgS1.out; omega)
    have hBr := hB'.out.far' hfx id
    have b0 : wr.cell? ⟨h, 0, none⟩ = some (.int .i64 (sn : Int)) := hBr.cell 0
    have hfx' := Lib.hid hfx
    have hfw' := Lib.hid hfw
    by_cases hlt : i < nq
    · have e1 : decide ((i : Int) < (nq : Int)) = true := by rw [decide_eq_true_eq]; omega
      have hii : (i : Int) < (nq : Int) := by omega
      obtain ⟨gb, off, rfl, hgb, hcs⟩ := (hQ'.out.move hfx) (by omega)
      have ci : wr.cell? ⟨gb, off + i, none⟩ = some (.int .i64 (q i)) := hcs i hlt
      by_cases h0 : q i < 0
      · have e0 : decide (q i < 0) = true := decide_eq_true h0
        have hc2 : c = 2 := by
          rcases hc'.out with hx | hx
          · exact hx.2
          · have := hx.1 i hlt; omega
        have ec : (c == 2) = true := by simp [hc2]
        clear hcs hgood hRr hmem hfw hfx hBr h0 hc2
        go_wp2_with fail
        go_quiet (fail)
        go_wp2_with fail
        go_ret
        exact ⟨rfl, (hF'.out.then hfx'.out).drewN _⟩
      · have e0 : decide (q i < 0) = false := decide_eq_false h0
        by_cases h2 : (sn : Int) ≤ q i
        · have e2 : decide ((sn : Int) ≤ q i) = true := decide_eq_true h2
          have hc2 : c = 2 := by
            rcases hc'.out with hx | hx
            · exact hx.2
            · have := hx.1 i hlt; omega
          have ec : (c == 2) = true := by simp [hc2]
          clear hcs hgood hRr hmem hfw hfx hBr h0 hc2 h2
          go_wp2_with fail
          go_quiet (fail)
          go_wp2_with fail
          go_ret
          exact ⟨rfl, (hF'.out.then hfx'.out).drewN _⟩
        · have e2 : decide ((sn : Int) ≤ q i) = false := decide_eq_false h2
          obtain ⟨p, hp⟩ : ∃ p : Nat, q i = (p : Int) := ⟨(q i).toNat, by omega⟩
          have hps : p < sn := by omega
          have hpi : (p : Int) < (sn : Int) := by omega
          rw [hp] at ci e0 e2
          have cs := hRr.get p hps
          have fs : wr.frozen? ⟨gS, p, none⟩ = false := Bk.free hRr p
          have hgood' := Lib.hid (show ∀ j, j < i + 1 → 0 ≤ q j ∧ q j < (sn : Int) from fun j hj => by
            rcases Nat.lt_or_ge j i with h | h
            · exact hgood j h
            · have : j = i := by omega
              subst this; omega)
          have hRr' := Lib.hid hRr
          have hmem' := Lib.hid hmem
          have hp' := Lib.hid hp
          clear hcs hgood hRr hmem hfw hfx hBr h0 h2 hp
          go_wp2_with fail
          go_quiet (fail)
          go_wp2_with fail
          go_roundw
          case rel => exact ⟨i + 1, setB fB p, by go_num, by omega, hgood'.out, BRow.put hRr'.out p, fun r => by
            unfold setB
            by_cases hr : r = p
            · subst hr; simp; exact ⟨i, by omega, hp'.out⟩
            · rw [if_neg hr, hmem'.out r]
              constructor
              · rintro ⟨j, hj, e⟩; exact ⟨j, by omega, e⟩
              · rintro ⟨j, hj, e⟩
                by_cases hji : j = i
                · subst hji; have := hp'.out; omega
                · exact ⟨j, by omega, e⟩, (hfw'.out.set _ _ (fun _ => rfl)).drewN _⟩
          case measure => simp [intOf]; omega
    · have e1 : decide ((i : Int) < (nq : Int)) = false := by rw [decide_eq_false_iff_not]; omega
      have hin : i = nq := by omega
      subst hin
      obtain ⟨c0, l, B, Y0, Y1, rfl, hb, ho, hu, hy⟩ : c = 0 ∧ ∃ l B Y0 Y1, ln = l.length ∧ w1.heap.size ≤ B ∧ w2.ownsRow B 3 1 (.slice so l.length cap) l.length (icells l) ∧ Upto Y0 Y1 128 l ∧ ∀ p, memS Y0 Y1 p = true ↔ ∃ k, k < m ∧ leadsQ g q i s1 s2 k p := by
        rcases hc'.out with hx | hx
        · exact absurd (fun j hj => hgood j hj) hx.1
        · exact hx.2
      subst c0
      have hown : wr.ownsRow B 3 1 (.slice so l.length cap) l.length (icells l) := row_same ho fun k hk hk2 => by
        have h5 := hf25.out
        have hl2 := (ho.lt k hk).2
        have := hgS1.out.2
        exact (hfw.block k (Nat.lt_of_lt_of_le hk2 h5.size) (by omega)).trans (h5.block k hk2 id)
      have b1 : wr.cell? ⟨h, 1, none⟩ = some (.slice fo n fc) := hBr.cell 1
      have b2 : wr.cell? ⟨h, 2, none⟩ = some (.slice ao m ac) := hBr.cell 2
      have hYr := hY'.out.far' hfx id
      have y0 : wr.cell? ⟨kY, 0, none⟩ = some (.bool s1) := hYr.cell 0
      have y1 : wr.cell? ⟨kY, 1, none⟩ = some (.int .i64 s2) := hYr.cell 1
      have RS1 := RS.out gS fB wr hRr hfx
      have hown' := Lib.hid hown
      have hmem' := Lib.hid hmem
      have hu' := Lib.hid hu
      have hy' := Lib.hid hy
      have hll : l.length ≤ 128 := hu.2.2
      clear hgood hRr hmem hfw hfx hBr hc' hown hu hy ho hb hYr
      go_upto_region 13 with fail
      go_wp2_with fail
      refine RS1.mono ?_
      rintro e w6 ⟨gT, f', rfl, hgT, hRT, hf', hf6⟩
      have hown6 := Lib.hid (show w6.ownsRow B 3 1 (.slice so l.length cap) l.length (icells l) from row_same hown'.out fun k hk hk2 => hf6.block k hk2 id)
      have hl : l = (List.range sn).filter f' := same_list hM'.out hu'.out hy'.out hmem'.out hf'
      have hl' := Lib.hid hl
      have hRT' := Lib.hid hRT
      have hf6' := Lib.hid ((hF'.out.then hfx'.out).then hf6)
      clear RS1 b0 b1 b2 y0 y1 hf' hf6 hl hRT hgT hown' hmem' hu' hy'
      go_wp2_with fail
      go_loopw [11, 12] (fun lv iv wr => ∃ (k : Nat) (l' : List Nat) (so' : Option Addr) (cap' : Nat), lv = .slice so' l'.length cap' ∧ iv = .int .i64 k ∧ k ≤ sn ∧ l' = (List.range k).filter f' ∧ l'.length ≤ k ∧ wr.ownsRow w6.heap.size 3 1 (.slice so' l'.length cap') l'.length (icells l') ∧ Far (fun _ => False) w6 wr) (fun _ iv _ => sn - (intOf iv).toNat)
      case atStart => exact ⟨0, [], none, 0, rfl, rfl, Nat.zero_le _, rfl, Nat.le_refl _, World.ownsRow_nil _ _ _ _, Far.refl _ _⟩
      case round =>
        obtain ⟨k, l', so', cap', rfl, rfl, hk, hl2, hlk, hOw, hfw⟩ := hrel
        have hRr : BRow wr gT sn f' := Bk.far' hRT'.out hfw id
        by_cases hlt2 : k < sn
        · have e2 : decide ((k : Int) < (sn : Int)) = true := by rw [decide_eq_true_eq]; omega
          have hki : (k : Int) < (sn : Int) := by omega
          have ck := hRr.get k hlt2
          have hl2' := Lib.hid hl2
          have hOw' := Lib.hid hOw
          have hfw2 := Lib.hid hfw
          have hRF := range_filter f' k
          cases hb : f' k with
          | false =>
            rw [hb] at ck hRF
            have hRF' := Lib.hid hRF
            clear hRr hl2 hOw hfw hb hRF
            go_wp2_with fail
            go_roundw
            case rel => exact ⟨k + 1, l', so', cap', rfl, by go_num, by omega, by rw [hRF'.out, hl2'.out]; simp, by omega, hOw'.out, hfw2.out⟩
            case measure => simp [intOf]; omega
          | true =>
            rw [hb] at ck hRF
            have hRF' := Lib.hid hRF
            clear hRr hl2 hOw hfw hb hRF
            obtain ⟨inf, hinf, hz0, hz1, hz2⟩ := info_parts info_int
            have A1 := Lib.hid (hOw'.out.alloc (.cells #[.int .i64 (k : Int)] 3))
            have A2 := Lib.hid (World.news_of_block (w := wr.alloc (.cells #[.int .i64 (k : Int)] 3)) (cs := #[.int .i64 (k : Int)]) (t := 3) (fr := (0, 0)) (heap_alloc_new wr _))
            have A3 : ∀ u ∈ [Value.int .i64 (k : Int)], u.oneCell' = true := by simp [Value.oneCell']
            have A4 : l'.length + 1 ≤ maxLen := by unfold maxLen; omega
            have A5 : (l'.length + 1) * 8 ≤ 140737488355328 := by omega
            have A6 : w6.heap.size ≤ (wr.alloc (.cells #[.int .i64 (k : Int)] 3)).heap.size := by have := hfw2.out.size; simp; omega
            go_wp2_with (at_builtin; refine wpList_append_lies _ rfl _ _ 22 rfl w6.heap.size 3 inf _ 1 8 Tryd.underlying22 hinf hz0 hz1 hz2 rfl (by decide) (.slice so' l'.length cap') l'.length _ rfl A1.out ⟨wr.heap.size, 0, none⟩ 1 1 _ rfl rfl A2.out A3 (by decide) A4 A5 A6 _ rfl ?_; intro fg fcap w7 ho7 hg7 hat7 hl7)
            have hR7 : Far (fun k => (Value.slice so' l'.length cap').ownBlock = some k) wr w7 := ((Far.refl _ wr).alloc _).grown hg7 fun k _ e => e
            have hW7 := Lib.hid (hfw2.out.trans hR7 fun k hk e => by have := (hOw'.out.lt k e).1; omega)
            have ho7' := Lib.hid ho7
            clear hR7 ho7 hg7 hat7 A1 A2 A3 A4 A5 A6
            go_wp2_with fail
            go_roundw
            case rel => exact ⟨k + 1, l' ++ [k], some ⟨fg, 0, none⟩, fcap, by simp, by go_num, by omega, by rw [hRF'.out, hl2'.out]; simp, by simp; omega, by rw [List.length_append, icells_app]; exact ho7'.out, hW7.out⟩
            case measure => simp [intOf]; omega
        · have e2 : decide ((k : Int) < (sn : Int)) = false := by rw [decide_eq_false_iff_not]; omega
          have hks : k = sn := by omega
          have hll' : l' = l := by rw [hl2, hks, ← hl'.out]
          have SI := sameInts_yes so so' l.length cap cap' (fun k => ((l.getD k 0 : Nat) : Int)) wr (by unfold maxLen; omega) (own_ints (row_same hown6.out fun k hk hk2 => hfw.block k hk2 id)) (by have := own_ints hOw; rw [hll'] at this; exact this)
          have hfw2 := Lib.hid hfw
          have hle := Lib.hid (congrArg List.length hll')
          rw [hle.out]
          clear hl2 hOw hfw hRr hks hll'
          go_wp2_with fail
          refine SI.mono ?_
          rintro e w8 ⟨rfl, hf8⟩
          have hf8' := Lib.hid hf8
          clear SI hf8
          go_wp2_with fail
          go_ret
          exact ⟨rfl, (hf6'.out.then hfw2.out).then hf8'.out⟩
end
end Go.Proofs.YtihlfphokgicbaaDoor
