/-
  Step: where a symbol leads from some states.
-/
import Derived.Test.YtihlfphokgicbaaDoorMembers
import Derived.Test.YtihlfphokgicbaaDoorBoxCheckAll
namespace Go.Proofs.YtihlfphokgicbaaDoor
open Go.RowKit
set_option linter.unusedVariables false
set_option linter.unusedSimpArgs false
/-- An arc leads from one of the states to p by the symbol. -/
def leadsQ (g : Nat → Ar) (q : Nat → Int) (nq : Nat) (s1 : Bool) (s2 : Int) (k p : Nat) : Prop := ((g k).2.1 = s1 ∧ (g k).2.2.1 = s2) ∧ (∃ j, j < nq ∧ q j = (g k).1) ∧ (g k).2.2.2 = (p : Int)
def allSt (S : Int) (q : Nat → Int) (nq : Nat) : Prop := ∀ j, j < nq → 0 ≤ q j ∧ q j < S
theorem leads_same {S : Int} {n : Nat} {f : Nat → Int} {m : Nat} {g : Nat → Ar} {q : Nat → Int} {nq : Nat} {s1 : Bool} {s2 : Int} {U V p : Nat} (ha : allSt S q nq) (hM : MayBe S n f m g) (hU : ∀ p : Nat, memS U V p = true ↔ ∃ k, k < nq ∧ q k = (p : Int)) : (∃ k, k < m ∧ leads g U V s1 s2 k p) ↔ ∃ k, k < m ∧ leadsQ g q nq s1 s2 k p := by
  refine exists_congr fun k => and_congr_right fun hk => ?_
  unfold leads leadsQ
  have h0 := (hM.2.2.2 k hk).1
  have e : (((g k).1.toNat : Nat) : Int) = (g k).1 := Int.toNat_of_nonneg h0
  refine and_congr_right fun _ => and_congr_left fun _ => ?_
  rw [hU, e]
theorem far_cells {W w1 : World} (hb : Far (fun _ => False) W w1) : (∀ b o, b < W.heap.size → w1.cell? ⟨b, o, none⟩ = W.cell? ⟨b, o, none⟩) ∧ (∀ b o, b < W.heap.size → w1.frozen? ⟨b, o, none⟩ = W.frozen? ⟨b, o, none⟩) :=
  ⟨fun b o h => hb.cell (p := ⟨b, o, none⟩) h, fun b o h => (hb.below (Nat.le_refl _) fun _ _ h => h).frozen (p := ⟨b, o, none⟩) h⟩
theorem far_new {W w2 : World} {o : Obj} (h : Far (fun _ => False) (W.alloc o).drew w2) : W.heap.size < w2.heap.size := by have := h.size; simp [World.drew] at this; omega
theorem far_new1 {W w2 : World} {o : Obj} (h : Far (fun _ => False) (W.alloc o) w2) : W.heap.size < w2.heap.size := by have := h.size; simp at this; omega
theorem bk_two {w : World} {g : Nat} {t : TypeId} {a b : Value} {u v : Value} (h : Bk w g t #[a, b]) : Bk ((w.setCell ⟨g, 0, none⟩ u).setCell ⟨g, 1, none⟩ v) g t #[u, v] := (h.set 0 u).set 1 v
theorem far_two {W w : World} {g : Nat} {u v : Value} (h : Far (fun _ => False) W w) (hg : W.heap.size ≤ g) : Far (fun _ => False) W ((w.setCell ⟨g, 0, none⟩ u).setCell ⟨g, 1, none⟩ v) := (h.set _ _ (fun h => absurd h (Nat.not_lt.2 hg))).set _ _ (fun h => absurd h (Nat.not_lt.2 hg))
theorem new_two {h k : Nat} {W w1 : World} (hl : h < W.heap.size ∧ k < W.heap.size) (hb : Far (fun _ => False) W w1) : (h ≠ w1.heap.size ∧ k ≠ w1.heap.size) ∧ (w1.heap.size ≠ h ∧ w1.heap.size ≠ k) ∧ (h < w1.heap.size ∧ k < w1.heap.size) := by have := hb.size; omega
section
set_option maxHeartbeats 2000000
set_option maxRecDepth 100000
/-- No automaton: the code, no list. -/
theorem bstep_no (S : Int) (fo : Option Addr) (n fc : Nat) (f : Nat → Int) (ao : Option Addr) (m ac : Nat) (g : Nat → Ar) (qo : Option Addr) (nq qc : Nat) (s1 : Bool) (s2 : Int) (w : World) (hI : Ints w fo n f) (hA : Arcs w ao m g) (hn : n ≤ maxLen) (hm : m ≤ maxLen) (hno : ¬ MayBe S n f m g) :
    Calls Tryd.prog 11 #[.agg #[.int .i64 S, .slice fo n fc, .slice ao m ac], .slice qo nq qc, .agg #[.bool s1, .int .i64 s2]] w fun e w' => e = .returned (.tuple #[.slice none 0 0, .int .i64 200]) ∧ Far (fun _ => False) w w' := by
  obtain ⟨h, hh⟩ : ∃ h, h = w.heap.size := ⟨_, rfl⟩
  obtain ⟨w1, hw1⟩ : ∃ w1, w1 = (w.alloc (.cells #[.int .i64 S, .slice fo n fc, .slice ao m ac] 25)).alloc (.cells #[.bool s1, .int .i64 s2] 38) := ⟨_, rfl⟩
  have hB : Bk w1 h 25 #[.int .i64 S, .slice fo n fc, .slice ao m ac] := hw1 ▸ (Bk.new hh).alloc _
  have hF : Far (fun _ => False) w w1 := hw1 ▸ ((Far.refl _ w).alloc _).alloc _
  have b0 : w1.cell? ⟨h, 0, none⟩ = some (.int .i64 S) := hB.cell 0
  have b1 : w1.cell? ⟨h, 1, none⟩ = some (.slice fo n fc) := hB.cell 1
  have b2 : w1.cell? ⟨h, 2, none⟩ = some (.slice ao m ac) := hB.cell 2
  have CK := check_any S fo n fc f ao m ac g w1 (hI.move hF) (hA.move hF) hn hm
  rw [code_no hno] at CK
  have hh' := Lib.hid hh
  have hw1' := Lib.hid hw1
  have hF' := Lib.hid hF
  clear hI hA hn hm hno hh hw1 hB hF
  go_enter Tryd.func11, Tryd.ntmps11
  go_upto_region 1 with fail
  rw [← hh'.out, ← hw1'.out]
  go_wp2_with fail
  refine CK.mono ?_
  rintro e w2 ⟨rfl, hf2⟩
  have hf2' := Lib.hid hf2
  clear hf2 CK
  go_wp2_with fail
  exact bodyPost_ret (v := .tuple #[.slice none 0 0, .int .i64 200]) (by simp [results, Tryd.f11, go_sem]) rfl ⟨rfl, hF'.out.then hf2'.out⟩
/-- An automaton: a bad state's code, or the list. -/
theorem bstep_yes (S : Int) (fo : Option Addr) (n fc : Nat) (f : Nat → Int) (ao : Option Addr) (m ac : Nat) (g : Nat → Ar) (qo : Option Addr) (nq qc : Nat) (q : Nat → Int) (s1 : Bool) (s2 : Int) (w : World) (hI : Ints w fo n f) (hA : Arcs w ao m g) (hQ : Ints w qo nq q) (hn : n ≤ maxLen) (hm : m ≤ maxLen) (hnq : nq ≤ maxLen) (hM : MayBe S n f m g) (hT : Tab w) :
    Calls Tryd.prog 11 #[.agg #[.int .i64 S, .slice fo n fc, .slice ao m ac], .slice qo nq qc, .agg #[.bool s1, .int .i64 s2]] w fun e w' => ((¬ allSt S q nq ∧ e = .returned (.tuple #[.slice none 0 0, .int .i64 2])) ∨ (allSt S q nq ∧ ∃ l so cap B Y0 Y1, e = .returned (.tuple #[.slice so l.length cap, .int .i64 0]) ∧ w.heap.size ≤ B ∧ w'.ownsRow B 3 1 (.slice so l.length cap) l.length (icells l) ∧ Upto Y0 Y1 128 l ∧ ∀ p, memS Y0 Y1 p = true ↔ ∃ k, k < m ∧ leadsQ g q nq s1 s2 k p)) ∧ Far (fun _ => False) w w' := by
  obtain ⟨h, hh⟩ : ∃ h, h = w.heap.size := ⟨_, rfl⟩
  obtain ⟨kY, hkY⟩ : ∃ k, k = h + 1 := ⟨_, rfl⟩
  obtain ⟨w1, hw1⟩ : ∃ w1, w1 = (w.alloc (.cells #[.int .i64 S, .slice fo n fc, .slice ao m ac] 25)).alloc (.cells #[.bool s1, .int .i64 s2] 38) := ⟨_, rfl⟩
  have hB : Bk w1 h 25 #[.int .i64 S, .slice fo n fc, .slice ao m ac] := hw1 ▸ (Bk.new hh).alloc _
  have hY : Bk w1 kY 38 #[.bool s1, .int .i64 s2] := hw1 ▸ Bk.new (by simp [hkY, hh])
  have hF : Far (fun _ => False) w w1 := hw1 ▸ ((Far.refl _ w).alloc _).alloc _
  have b0 : w1.cell? ⟨h, 0, none⟩ = some (.int .i64 S) := hB.cell 0
  have b1 : w1.cell? ⟨h, 1, none⟩ = some (.slice fo n fc) := hB.cell 1
  have b2 : w1.cell? ⟨h, 2, none⟩ = some (.slice ao m ac) := hB.cell 2
  have CK := check_any S fo n fc f ao m ac g w1 (hI.move hF) (hA.move hF) hn hm
  rw [code_yes hM] at CK
  have hh' := Lib.hid hh
  have hkY' := Lib.hid hkY
  have hw1' := Lib.hid hw1
  have hF' := Lib.hid hF
  have hB' := Lib.hid hB
  have hY' := Lib.hid hY
  have hA' := Lib.hid hA
  have hQ' := Lib.hid hQ
  have hM' := Lib.hid hM
  have hT' := Lib.hid hT
  have hm' := Lib.hid hm
  have hnq' := Lib.hid hnq
  unfold maxLen at hnq
  clear hI hA hQ hn hh hkY hw1 hB hF hY hM hT hm
  go_enter Tryd.func11, Tryd.ntmps11
  go_upto_region 1 with fail
  rw [← hh'.out, ← hkY'.out, ← hw1'.out]
  go_wp2_with fail
  refine CK.mono ?_
  rintro e w2 ⟨rfl, hf2⟩
  have hf2' := Lib.hid hf2
  clear hf2 CK b0 b1 b2
  go_wp2_with fail
  go_loopw [19] (fun iv wr => ∃ i : Nat, iv = .int .i64 i ∧ i ≤ nq ∧ (∀ j, j < i → 0 ≤ q j ∧ q j < S) ∧ Far (fun _ => False) w1 wr) (fun iv _ => nq - (intOf iv).toNat)
  case atStart => exact ⟨0, rfl, Nat.zero_le _, fun j h => absurd h (Nat.not_lt_zero _), hf2'.out⟩
  case round =>
    obtain ⟨i, rfl, hi, hgood, hfw⟩ := hrel
    have hBr := hB'.out.far' hfw id
    have b0 : wr.cell? ⟨h, 0, none⟩ = some (.int .i64 S) := hBr.cell 0
    have b1 : wr.cell? ⟨h, 1, none⟩ = some (.slice fo n fc) := hBr.cell 1
    have b2 : wr.cell? ⟨h, 2, none⟩ = some (.slice ao m ac) := hBr.cell 2
    by_cases hlt : i < nq
    · have e1 : decide ((i : Int) < (nq : Int)) = true := by rw [decide_eq_true_eq]; omega
      have hii : (i : Int) < (nq : Int) := by omega
      obtain ⟨gb, off, rfl, hgb, hcs⟩ := hQ'.out (by omega)
      have ci : wr.cell? ⟨gb, off + i, none⟩ = some (.int .i64 (q i)) := ((hF'.out.then hfw).cell hgb).trans (hcs i hlt)
      have IS := isState_any S (.slice fo n fc) (.slice ao m ac) (q i) wr
      have hfw' := Lib.hid hfw
      by_cases hin : 0 ≤ q i ∧ q i < S
      · rw [decide_eq_true hin] at IS
        have hgood2 := Lib.hid (show ∀ j, j < i + 1 → 0 ≤ q j ∧ q j < S from fun j hj => by
          rcases Nat.lt_or_ge j i with h | h
          · exact hgood j h
          · have : j = i := by omega
            subst this; exact hin)
        clear hcs hgood hfw hin hBr
        go_wp2_with fail
        refine IS.mono ?_
        rintro e w3 ⟨rfl, hf3⟩
        have hf3' := Lib.hid hf3
        clear hf3 IS
        go_wp2_with fail
        go_roundw
        case rel => exact ⟨i + 1, by go_num, by omega, hgood2.out, hfw'.out.then hf3'.out⟩
        case measure => simp [intOf]; omega
      · rw [decide_eq_false hin] at IS
        have hbad := Lib.hid (show ¬ allSt S q nq from fun h => hin (h i hlt))
        clear hcs hgood hfw hin hBr
        go_wp2_with fail
        refine IS.mono ?_
        rintro e w3 ⟨rfl, hf3⟩
        have hf3' := Lib.hid hf3
        clear hf3 IS
        go_wp2_with fail
        exact bodyPost_ret (v := .tuple #[.slice none 0 0, .int .i64 2]) (by simp [results, Tryd.f11, go_sem]) rfl ⟨.inl ⟨hbad.out, rfl⟩, (hF'.out.then hfw'.out).then hf3'.out⟩
    · have e1 : decide ((i : Int) < (nq : Int)) = false := by rw [decide_eq_false_iff_not]; omega
      have hall : allSt S q nq := fun j hj => hgood j (by omega)
      have hall' := Lib.hid hall
      have hfw' := Lib.hid hfw
      have hYr := hY'.out.far' hfw id
      have y0 : wr.cell? ⟨kY, 0, none⟩ = some (.bool s1) := hYr.cell 0
      have y1 : wr.cell? ⟨kY, 1, none⟩ = some (.int .i64 s2) := hYr.cell 1
      clear hgood hfw hall hBr hYr
      have hBr := hB'.out.far' hfw'.out id
      have b0 : wr.cell? ⟨h, 0, none⟩ = some (.int .i64 S) := hBr.cell 0
      have b1 : wr.cell? ⟨h, 1, none⟩ = some (.slice fo n fc) := hBr.cell 1
      have b2 : wr.cell? ⟨h, 2, none⟩ = some (.slice ao m ac) := hBr.cell 2
      have HK := Lib.hid (show ∀ w2, Far (fun _ => False) w1 w2 → w2.cell? ⟨h, 0, none⟩ = some (.int .i64 S) ∧ w2.cell? ⟨h, 1, none⟩ = some (.slice fo n fc) ∧ w2.cell? ⟨h, 2, none⟩ = some (.slice ao m ac) ∧ w2.cell? ⟨kY, 0, none⟩ = some (.bool s1) ∧ w2.cell? ⟨kY, 1, none⟩ = some (.int .i64 s2) from fun w2 hf => ⟨(hB'.out.far' hf id).cell 0, (hB'.out.far' hf id).cell 1, (hB'.out.far' hf id).cell 2, (hY'.out.far' hf id).cell 0, (hY'.out.far' hf id).cell 1⟩)
      have hM := hM'.out
      have hqb : ∀ k, k < nq → 0 ≤ q k ∧ q k < 128 := fun k hk => by have := hall'.out k hk; have := hM.2.1; omega
      have hgb : ∀ k, k < m → (0 ≤ (g k).1 ∧ (g k).1 < 128) ∧ 0 ≤ (g k).2.2.2 ∧ (g k).2.2.2 < 128 := fun k hk => by
        obtain ⟨a1, a2, a3, a4, _⟩ := hM.2.2.2 k hk
        have := hM.2.1
        omega
      have hqb' := Lib.hid hqb
      have HSO := Lib.hid (fun w' (hf : Far (fun _ => False) w1 w') => setOf_any qo nq qc q w' hnq'.out ((hQ'.out.move hF'.out).move hf) hqb)
      have HST := Lib.hid (fun u0 v0 hu hv w' (hf : Far (fun _ => False) w1 w') => step_any S fo n fc ao m ac g u0 v0 s1 s2 w' hm'.out ((hA'.out.move hF'.out).move hf) hgb hu hv)
      have hl2 : h < w1.heap.size ∧ kY < w1.heap.size := ⟨hB'.out.lt, hY'.out.lt⟩
      have nr := new_two hl2 hfw'.out
      clear hM hqb hgb hBr
      go_upto_region 10 with fail
      go_cut [11] (fun tv wc => ∃ kT U0 V0 Y0 Y1 : Nat, tv = .pointer (some ⟨kT, 0, none⟩) ∧ Bk wc kT 54 #[.int .u64 (Y0 : Int), .int .u64 (Y1 : Int)] ∧ (Y0 < 18446744073709551616 ∧ Y1 < 18446744073709551616) ∧ (∀ p : Nat, memS U0 V0 p = true ↔ ∃ k, k < nq ∧ q k = (p : Int)) ∧ (∀ p : Nat, memS Y0 Y1 p = true ↔ ∃ k, k < m ∧ leads g U0 V0 s1 s2 k p) ∧ Far (fun _ => False) w1 wc)
      case first =>
        go_region_held3 (fun w' => w'.cell? ⟨h, 0, none⟩ = some (.int .i64 S) ∧ w'.cell? ⟨h, 1, none⟩ = some (.slice fo n fc) ∧ w'.cell? ⟨h, 2, none⟩ = some (.slice ao m ac) ∧ w'.cell? ⟨kY, 0, none⟩ = some (.bool s1) ∧ w'.cell? ⟨kY, 1, none⟩ = some (.int .i64 s2)) (go_keep)
          (first
            | (go_at_call 18; refine (HSO.out _ ?_).mono ?_; (first | exact hfw'.out.drew | exact (hfw'.out.alloc _).drew); rintro e w2 ⟨U0, V0, rfl, hu, hv, hmem, hf2⟩; have FW2 := Lib.hid ((by first | exact hfw'.out.drew | exact (hfw'.out.alloc _).drew : Far (fun _ => False) w1 _).then hf2); obtain ⟨r0, r1, r2, r3, r4⟩ := HK.out w2 FW2.out; obtain ⟨hc2, hz2⟩ := far_cells hf2; (first | have ns2 := far_new hf2 | skip); have hs2 := hf2.size; have n2 := new_two hl2 FW2.out; have hf2K := Lib.hid hf2; have hu' := Lib.hid hu; have hv' := Lib.hid hv; have hmem' := Lib.hid hmem; clear hu hv hmem hf2)
            | (go_at_call 19; refine (HST.out _ _ hu'.out hv'.out _ ?_).mono ?_; (first | exact FW2.out | exact FW2.out.alloc _); rintro e w3 ⟨Y0, Y1, rfl, hu, hv, hmem3, hf3⟩; have FW3 := Lib.hid ((by first | exact FW2.out | exact FW2.out.alloc _ : Far (fun _ => False) w1 _).then hf3); obtain ⟨t0, t1, t2, t3, t4⟩ := HK.out w3 FW3.out; obtain ⟨hc3, hz3⟩ := far_cells hf3; (first | have ns3 := far_new1 hf3 | have ns3 := Nat.lt_of_lt_of_le ns2 hf3.size | skip); have hs3 := hf3.size; have n3 := new_two hl2 FW3.out; have hf3K := Lib.hid hf3; have hu3 := Lib.hid hu; have hv3 := Lib.hid hv; have hmem3' := Lib.hid hmem3; clear hu hv hmem3 hf3))
        all_goals
          have hz1 := Lib.hid hfw'.out.size
          have hz2' := Lib.hid FW2.out.size
          clear hc2 hz2 hc3 hz3 hs2 hs3 n2 n3
          go_wp2_with fail
          go_meet
          first
            | exact ⟨_, U0, V0, Y0, Y1, rfl, Bk.new rfl, ⟨hu3.out, hv3.out⟩, hmem'.out, hmem3'.out, FW3.out.alloc _⟩
            | exact ⟨_, U0, V0, Y0, Y1, rfl, bk_two ((Bk.new rfl).far' hf3K.out id), ⟨hu3.out, hv3.out⟩, hmem'.out, hmem3'.out, far_two FW3.out hz2'.out⟩
            | exact ⟨_, U0, V0, Y0, Y1, rfl, bk_two (((Bk.new (w := wr) rfl).far' (drew_far _) id).far' (hf2K.out.then hf3K.out) id), ⟨hu3.out, hv3.out⟩, hmem'.out, hmem3'.out, far_two FW3.out hz1.out⟩
      case rest =>
        obtain ⟨kT, U0, V0, Y0, Y1, rfl, hbT, ⟨hy0, hy1⟩, hmemU, hmemY, hfc⟩ := hcut
        have c0 : wc.cell? ⟨kT, 0, none⟩ = some (.int .u64 (Y0 : Int)) := hbT.cell 0
        have c1 : wc.cell? ⟨kT, 1, none⟩ = some (.int .u64 (Y1 : Int)) := hbT.cell 1
        have hFc := hF'.out.then hfc
        have MA := members_any Y0 Y1 Y0 Y1 wc hy0 hy1 hy0 hy1 (hT'.out.stays (hFc.below (Nat.le_refl _) fun _ _ h => h))
        rw [Nat.and_self, Nat.and_self] at MA
        have hmemY' := Lib.hid hmemY
        have hmemU' := Lib.hid hmemU
        have hFc' := Lib.hid hFc
        have hsz := Lib.hid hFc.size
        clear hbT hy0 hy1 hmemU hmemY hfc hFc
        go_wp2_with fail
        refine MA.mono ?_
        rintro e w4 ⟨l, so, cap, B, rfl, hB4, hOw, hU4, hf4⟩
        have hB4' := Lib.hid hB4
        have hOw' := Lib.hid hOw
        have hU4' := Lib.hid hU4
        have hf4' := Lib.hid hf4
        clear hB4 hOw hU4 hf4 MA
        go_wp2_with fail
        refine bodyPost_ret (v := .tuple #[.slice so l.length cap, .int .i64 0]) (by simp [results, Tryd.f11, go_sem]) rfl ⟨.inr ⟨hall'.out, l, so, cap, B, Y0, Y1, rfl, Nat.le_trans hsz.out hB4'.out, hOw'.out, hU4'.out, fun p => ?_⟩, hFc'.out.then hf4'.out⟩
        rw [hmemY'.out p]
        exact leads_same hall'.out hM'.out hmemU'.out
end
end Go.Proofs.YtihlfphokgicbaaDoor
