/-
  The program's Check of an automaton.
-/
import Derived.Test.YtihlfphokgicbaaDoorArcOrder
import Derived.Test.YtihlfphokgicbaaDoorQuietFar
namespace Go.Proofs.YtihlfphokgicbaaDoor
open Go.RowKit
set_option linter.unusedVariables false
set_option linter.unusedSimpArgs false
theorem isState_yes (W0 : World) (S : Int) (f a : Value) (q : Int) (w : World) (h : 0 ≤ q ∧ q < S) (hf : Far (fun _ => False) W0 w) : Calls Tryd.prog 15 #[.agg #[.int .i64 S, f, a], .int .i64 q] w fun e w' => e = .returned (.bool true) ∧ Far (fun _ => False) W0 w' := by
  have := isState_any S f a q w
  rw [decide_eq_true h] at this
  exact this.mono fun e w' ⟨he, hw⟩ => ⟨he, hf.then hw⟩
theorem isState_no (W0 : World) (S : Int) (f a : Value) (q : Int) (w : World) (h : ¬ (0 ≤ q ∧ q < S)) (hf : Far (fun _ => False) W0 w) : Calls Tryd.prog 15 #[.agg #[.int .i64 S, f, a], .int .i64 q] w fun e w' => e = .returned (.bool false) ∧ Far (fun _ => False) W0 w' := by
  have := isState_any S f a q w
  rw [decide_eq_false h] at this
  exact this.mono fun e w' ⟨he, hw⟩ => ⟨he, hf.then hw⟩
theorem order_cls (W0 : World) (x0 : Int) (x1 : Bool) (x2 x3 y0 : Int) (y1 : Bool) (y2 y3 : Int) (w : World) (hf : Far (fun _ => False) W0 w) : Calls Tryd.prog 16 #[.agg #[.int .i64 x0, .bool x1, .int .i64 x2, .int .i64 x3], .agg #[.int .i64 y0, .bool y1, .int .i64 y2, .int .i64 y3]] w fun e w' => e = .returned (.int .i64 (ordO (x0, x1, x2, x3) (y0, y1, y2, y3))) ∧ Far (fun _ => False) W0 w' :=
  (order_any (x0, x1, x2, x3) (y0, y1, y2, y3) w).mono fun e w' ⟨he, hw⟩ => ⟨he, hf.then hw⟩
section
set_option maxHeartbeats 4000000
set_option maxRecDepth 100000
theorem check_any (S : Int) (fo : Option Addr) (n fc : Nat) (f : Nat → Int) (ao : Option Addr) (m ac : Nat) (g : Nat → Ar) (w : World) (hI : Ints w fo n f) (hA : Arcs w ao m g) (hn : n ≤ maxLen) (hm : m ≤ maxLen) :
    Calls Tryd.prog 7 #[.agg #[.int .i64 S, .slice fo n fc, .slice ao m ac]] w fun e w' => e = .returned (.int .i64 (code (MayBe S n f m g))) ∧ Far (fun _ => False) w w' := by
  unfold maxLen at hn hm
  obtain ⟨bx, hbx⟩ : ∃ bx, bx = w.heap.size := ⟨_, rfl⟩
  obtain ⟨w1, hw1⟩ : ∃ w1, w1 = w.alloc (.cells #[.int .i64 S, .slice fo n fc, .slice ao m ac] 25) := ⟨_, rfl⟩
  have hB1 : Bk w1 bx 25 #[.int .i64 S, .slice fo n fc, .slice ao m ac] := by rw [hbx, hw1]; exact Bk.new rfl
  have hF1 : Far (fun _ => False) w w1 := hw1 ▸ alloc_far _ _
  have hI1 := Lib.hid (hI.move hF1)
  have hA1 := Lib.hid (hA.move hF1)
  have hw1' := Lib.hid hw1
  have hbx' := Lib.hid hbx
  have b0 : w1.cell? ⟨bx, 0, none⟩ = some (.int .i64 S) := hB1.cell 0
  have b1 : w1.cell? ⟨bx, 1, none⟩ = some (.slice fo n fc) := hB1.cell 1
  have b2 : w1.cell? ⟨bx, 2, none⟩ = some (.slice ao m ac) := hB1.cell 2
  have hB1' := Lib.hid hB1
  clear hI hA hw1 hbx hB1
  by_cases hS : 1 ≤ S ∧ S ≤ 65
  · obtain ⟨hS1, hS2⟩ := hS
    have d1 : decide (S < 1) = false := decide_eq_false (by omega)
    have d2 : decide (65 < S) = false := decide_eq_false (by omega)
    go_enter Tryd.func7, Tryd.ntmps7
    go_upto_region 1 with fail
    rw [← hbx'.out, ← hw1'.out]
    go_wp2_with fail
    clear b0 b1 b2
    go_loopw [18] (fun iv wr => ∃ i : Nat, iv = .int .i64 i ∧ i ≤ n ∧ (∀ j, j < i → finAt S f j) ∧ Far (fun _ => False) w1 wr) (fun iv _ => n - (intOf iv).toNat)
    case atStart => exact ⟨0, rfl, Nat.zero_le _, fun j h => absurd h (Nat.not_lt_zero _), Far.refl _ _⟩
    case round =>
      obtain ⟨i, rfl, hi, hgood, hfw⟩ := hrel
      have hBr := hB1'.out.far' hfw id
      have b0 : wr.cell? ⟨bx, 0, none⟩ = some (.int .i64 S) := hBr.cell 0
      have b1 : wr.cell? ⟨bx, 1, none⟩ = some (.slice fo n fc) := hBr.cell 1
      have b2 : wr.cell? ⟨bx, 2, none⟩ = some (.slice ao m ac) := hBr.cell 2
      have hgood' := Lib.hid hgood
      have hfw' := Lib.hid hfw
      by_cases hlt : i < n
      · have e1 : decide ((i : Int) < (n : Int)) = true := by rw [decide_eq_true_eq]; omega
        have hii : (i : Int) < (n : Int) := by omega
        obtain ⟨gb, off, rfl, hgb, hcs⟩ := (hI1.out.move hfw) (by omega)
        have ci : wr.cell? ⟨gb, off + i, none⟩ = some (.int .i64 (f i)) := hcs i hlt
        have IS := isState_any S (.slice (some ⟨gb, off, none⟩) n fc) (.slice ao m ac) (f i) wr
        have hlb := hBr.lt
        clear hgood hfw
        by_cases hin : 0 ≤ f i ∧ f i < S
        · rw [decide_eq_true hin] at IS
          by_cases hi0 : i = 0
          · have e2 : decide ((0 : Int) < (i : Int)) = false := by rw [decide_eq_false_iff_not]; omega
            have e2' : decide (0 < i) = false := by rw [decide_eq_false_iff_not]; omega
            have hi0' := Lib.hid hi0
            clear hcs hi0 hBr
            go_wp2_with fail
            refine IS.mono ?_
            rintro e w2 ⟨rfl, hf2⟩
            have hf2' := Lib.hid hf2
            clear IS hf2
            go_wp2_with fail
            go_roundw
            case rel => exact ⟨i + 1, by go_num, by omega, fun j hj => by
              rcases Nat.lt_or_ge j i with h | h
              · exact hgood'.out j h
              · have : j = i := by omega
                subst this
                exact ⟨hin.1, hin.2, fun h => by have := hi0'.out; omega⟩, hfw'.out.then hf2'.out⟩
            case measure => simp [intOf]; omega
          · obtain ⟨j, hj⟩ : ∃ j, i = j + 1 := ⟨i - 1, by omega⟩
            have e2 : decide ((0 : Int) < (i : Int)) = true := by rw [decide_eq_true_eq]; omega
            have e2' : decide (0 < i) = true := by rw [decide_eq_true_eq]; omega
            have hj1 : (i : Int) - 1 = (j : Int) := by omega
            have hjn : (j : Int) < (n : Int) := by omega
            have cj := hcs j (by omega)
            have hfi : f (i - 1) = f j := by rw [hj]; rfl
            by_cases hle : f i ≤ f j
            · have e3 : decide (f i ≤ f j) = true := decide_eq_true hle
              have hno : ¬ MayBe S n f m g := fun hM => by
                have := (hM.2.2.1 i hlt).2.2 (by omega)
                rw [hfi] at this; omega
              have hno' := Lib.hid (code_no hno)
              have hgl : gb < wr.heap.size := hgb
              clear hcs hi0 hBr hj hfi hno hgb
              go_wp2_with fail
              refine IS.mono ?_
              rintro e w2 ⟨rfl, hf2⟩
              have cj : w2.cell? ⟨gb, off + j, none⟩ = some (.int .i64 (f j)) := (hf2.cell hgl).trans cj
              have b1 : w2.cell? ⟨bx, 1, none⟩ = some (.slice (some ⟨gb, off, none⟩) n fc) := (hf2.cell hlb).trans b1
              have hf2' := Lib.hid hf2
              clear IS hf2
              go_wp2_with fail
              go_ret
              exact ⟨by rw [hno'.out]; rfl, (hF1.then hfw'.out).then hf2'.out⟩
            · have e3 : decide (f i ≤ f j) = false := decide_eq_false hle
              have hgl : gb < wr.heap.size := hgb
              have hfi' := Lib.hid hfi
              clear hcs hi0 hBr hj hfi hgb
              go_wp2_with fail
              refine IS.mono ?_
              rintro e w2 ⟨rfl, hf2⟩
              have cj : w2.cell? ⟨gb, off + j, none⟩ = some (.int .i64 (f j)) := (hf2.cell hgl).trans cj
              have b1 : w2.cell? ⟨bx, 1, none⟩ = some (.slice (some ⟨gb, off, none⟩) n fc) := (hf2.cell hlb).trans b1
              have hf2' := Lib.hid hf2
              clear IS hf2
              go_wp2_with fail
              go_roundw
              case rel => exact ⟨i + 1, by go_num, by omega, fun q hq => by
                rcases Nat.lt_or_ge q i with h | h
                · exact hgood'.out q h
                · have : q = i := by omega
                  subst this
                  exact ⟨hin.1, hin.2, fun h => by rw [hfi'.out]; omega⟩, hfw'.out.then hf2'.out⟩
              case measure => simp [intOf]; omega
        · rw [decide_eq_false hin] at IS
          have hno : ¬ MayBe S n f m g := fun hM => by
            have := hM.2.2.1 i hlt
            exact hin ⟨this.1, this.2.1⟩
          have hno' := Lib.hid (code_no hno)
          clear hcs hBr hno hin
          go_wp2_with fail
          refine IS.mono ?_
          rintro e w2 ⟨rfl, hf2⟩
          have hf2' := Lib.hid hf2
          clear IS hf2
          go_wp2_with fail
          go_ret
          exact ⟨by rw [hno'.out]; rfl, (hF1.then hfw'.out).then hf2'.out⟩
      · have e1 : decide ((i : Int) < (n : Int)) = false := by rw [decide_eq_false_iff_not]; omega
        have hfin : ∀ j, j < n → finAt S f j := fun j hj => hgood j (by omega)
        have hfin' := Lib.hid hfin
        have hBr' := Lib.hid hBr
        obtain ⟨w3, hw3⟩ : ∃ w3, w3 = wr := ⟨_, rfl⟩
        rw [← hw3] at hfw' b0 b1 b2 hBr' ⊢
        clear hgood hfw hfin hBr hgood' hw3 b0 b1
        go_wp2_with fail
        go_loopw [45] (fun iv wr => ∃ i : Nat, iv = .int .i64 i ∧ i ≤ m ∧ (∀ j, j < i → arcAt S g j) ∧ Far (fun _ => False) w3 wr) (fun iv _ => m - (intOf iv).toNat)
        case atStart => exact ⟨0, rfl, Nat.zero_le _, fun j h => absurd h (Nat.not_lt_zero _), Far.refl _ _⟩
        case round =>
          obtain ⟨i, rfl, hi, hgood, hfr⟩ := hrel
          by_cases hlt : i < m
          · have e1 : decide ((i : Int) < (m : Int)) = true := by rw [decide_eq_true_eq]; omega
            have hii : (i : Int) < (m : Int) := by omega
            have hBr := hBr'.out.far' hfr id
            obtain ⟨gb, off, rfl, hgb, hcs⟩ := (hA1.out.move (hfw'.out.then hfr)) (by omega)
            obtain ⟨c0, c1, c2, c3⟩ := hcs i hlt
            obtain ⟨bb, hbb⟩ : ∃ bb : Bool, bb = true ↔ ¬ arcAt S g i := by
              by_cases h : arcAt S g i
              · exact ⟨false, by simp [h]⟩
              · exact ⟨true, by simp [h]⟩
            have hat : arcAt S g i ↔ (0 ≤ (g i).1 ∧ (g i).1 < S) ∧ (0 ≤ (g i).2.2.2 ∧ (g i).2.2.2 < S) ∧ 0 ≤ (g i).2.2.1 ∧ (0 < i → lessA (g (i - 1)) (g i) = true) := by
              unfold arcAt
              constructor
              · rintro ⟨a, b, c, d, e, f⟩; exact ⟨⟨a, b⟩, ⟨c, d⟩, e, f⟩
              · rintro ⟨⟨a, b⟩, ⟨c, d⟩, e, f⟩; exact ⟨a, b, c, d, e, f⟩
            rw [hat] at hbb
            have hgood' := Lib.hid hgood
            have hfr' := Lib.hid hfr
            have hat' := Lib.hid hat
            obtain ⟨ax, hax⟩ : ∃ ax, ax = wr.heap.size := ⟨_, rfl⟩
            generalize hgi : g i = x at *
            obtain ⟨x0, x1, x2, x3⟩ := x
            simp only [] at c0 c1 c2 c3 hbb
            obtain ⟨wa, hwa⟩ : ∃ wa, wa = wr.alloc (.cells #[.int .i64 x0, .bool x1, .int .i64 x2, .int .i64 x3] 49) := ⟨_, rfl⟩
            have hfa : Far (fun _ => False) wr wa := hwa ▸ alloc_far _ _
            have hX : Bk wa ax 49 #[.int .i64 x0, .bool x1, .int .i64 x2, .int .i64 x3] := by rw [hax, hwa]; exact Bk.new rfl
            have hBa := hBr.far' hfa id
            have hlb := hBa.lt
            have hlx := hX.lt
            have hlg : gb < wa.heap.size := Nat.lt_of_lt_of_le hgb hfa.size
            have a0 : wa.cell? ⟨bx, 0, none⟩ = some (.int .i64 S) := hBa.cell 0
            have a1 : wa.cell? ⟨bx, 1, none⟩ = some (.slice fo n fc) := hBa.cell 1
            have a2 : wa.cell? ⟨bx, 2, none⟩ = some (.slice (some ⟨gb, off, none⟩) m ac) := hBa.cell 2
            have r0 : wa.cell? ⟨ax, 0, none⟩ = some (.int .i64 x0) := hX.cell 0
            have r1 : wa.cell? ⟨ax, 1, none⟩ = some (.bool x1) := hX.cell 1
            have r2 : wa.cell? ⟨ax, 2, none⟩ = some (.int .i64 x2) := hX.cell 2
            have r3 : wa.cell? ⟨ax, 3, none⟩ = some (.int .i64 x3) := hX.cell 3
            have hcs' := Lib.hid hcs
            have hfa' := Lib.hid hfa
            have hgi' := Lib.hid hgi
            have hbb' := Lib.hid hbb
            have hwa' := Lib.hid hwa
            have hax' := Lib.hid hax
            clear hgood hfr hat hcs hgi hbb hwa hax hfa hX hBa hBr
            go_upto_region 12 with fail
            rw [← hax'.out, ← hwa'.out]
            go_cut [82] (fun bv wc => bv = .bool bb ∧ Far (fun _ => False) wa wc)
            case first =>
              by_cases h1 : 0 ≤ x0 ∧ x0 < S
              · by_cases h2 : 0 ≤ x3 ∧ x3 < S
                · by_cases h3 : x2 < 0
                  · have HBB := Lib.hid (show bb = true from hbb'.out.2 fun h => by have := h.2.2.1; omega)
                    have e3 : decide (x2 < 0) = true := decide_eq_true h3
                    clear c0 c1 c2 c3 hgb
                    have HK := Lib.hid (show ∀ w2, Far (fun _ => False) wa w2 → w2.cell? ⟨bx, 0, none⟩ = some (.int .i64 S) ∧ w2.cell? ⟨bx, 1, none⟩ = some (.slice fo n fc) ∧ w2.cell? ⟨bx, 2, none⟩ = some (.slice (some ⟨gb, off, none⟩) m ac) ∧ w2.cell? ⟨ax, 0, none⟩ = some (.int .i64 x0) ∧ w2.cell? ⟨ax, 1, none⟩ = some (.bool x1) ∧ w2.cell? ⟨ax, 2, none⟩ = some (.int .i64 x2) ∧ w2.cell? ⟨ax, 3, none⟩ = some (.int .i64 x3) from fun w2 h => ⟨(h.cell hlb).trans a0, (h.cell hlb).trans a1, (h.cell hlb).trans a2, (h.cell hlx).trans r0, (h.cell hlx).trans r1, (h.cell hlx).trans r2, (h.cell hlx).trans r3⟩)
                    refine quiet_far (by kernel_rfl) (by kernel_rfl) ?_
                    go_big_quiet_want; refine l_val (.agg #[.int .i64 S, .slice fo n fc, .slice (some ⟨gb, off, none⟩) m ac]) (fun w' hw' => by obtain ⟨q0, q1, q2, q3, q4, q5, q6⟩ := HK.out w' hw'; go_simp) ?_; go_simp; go_big_quiet_on
                    go_big_quiet_want; refine l_val (.pointer (some ⟨ax, 0, none⟩)) (fun w' hw' => by go_simp) ?_; go_simp; go_big_quiet_on
                    go_big_quiet_want; refine l_val (.int .i64 x0) (fun w' hw' => by obtain ⟨q0, q1, q2, q3, q4, q5, q6⟩ := HK.out w' hw'; go_simp) ?_; go_simp; go_big_quiet_on
                    go_big_quiet_want; refine l_call (.bool true) _ #[.agg #[.int .i64 S, .slice fo n fc, .slice (some ⟨gb, off, none⟩) m ac], .int .i64 x0] (fun w' => by go_simp) (fun w' hw' => isState_yes wa S (.slice fo n fc) (.slice (some ⟨gb, off, none⟩) m ac) x0 w' h1 hw') ?_; go_simp; go_big_quiet_on
                    go_big_quiet_want; refine l_val (.bool false) (fun w' hw' => by go_simp) ?_; go_simp; go_big_quiet_on
                    go_big_quiet_want; refine l_val (.bool false) (fun w' hw' => by go_simp) ?_; go_simp; go_big_quiet_on
                    go_big_quiet_want; refine l_val (.agg #[.int .i64 S, .slice fo n fc, .slice (some ⟨gb, off, none⟩) m ac]) (fun w' hw' => by obtain ⟨q0, q1, q2, q3, q4, q5, q6⟩ := HK.out w' hw'; go_simp) ?_; go_simp; go_big_quiet_on
                    go_big_quiet_want; refine l_val (.pointer (some ⟨ax, 3, none⟩)) (fun w' hw' => by go_simp) ?_; go_simp; go_big_quiet_on
                    go_big_quiet_want; refine l_val (.int .i64 x3) (fun w' hw' => by obtain ⟨q0, q1, q2, q3, q4, q5, q6⟩ := HK.out w' hw'; go_simp) ?_; go_simp; go_big_quiet_on
                    go_big_quiet_want; refine l_call (.bool true) _ #[.agg #[.int .i64 S, .slice fo n fc, .slice (some ⟨gb, off, none⟩) m ac], .int .i64 x3] (fun w' => by go_simp) (fun w' hw' => isState_yes wa S (.slice fo n fc) (.slice (some ⟨gb, off, none⟩) m ac) x3 w' h2 hw') ?_; go_simp; go_big_quiet_on
                    go_big_quiet_want; refine l_val (.bool false) (fun w' hw' => by go_simp) ?_; go_simp; go_big_quiet_on
                    go_big_quiet_want; refine l_val (.bool false) (fun w' hw' => by go_simp) ?_; go_simp; go_big_quiet_on
                    go_big_quiet_want; refine l_val (.bool false) (fun w' hw' => by go_simp) ?_; go_simp; go_big_quiet_on
                    go_big_quiet_want; refine l_val (.pointer (some ⟨ax, 1, none⟩)) (fun w' hw' => by go_simp) ?_; go_simp; go_big_quiet_on
                    go_big_quiet_want; refine l_val (.pointer (some ⟨ax, 2, none⟩)) (fun w' hw' => by go_simp) ?_; go_simp; go_big_quiet_on
                    go_big_quiet_want; refine l_val (.int .i64 x2) (fun w' hw' => by obtain ⟨q0, q1, q2, q3, q4, q5, q6⟩ := HK.out w' hw'; go_simp) ?_; go_simp; go_big_quiet_on
                    go_big_quiet_want; refine l_val (.bool true) (fun w' hw' => by go_simp) ?_; go_simp; go_big_quiet_on
                    go_big_quiet_want; refine l_val (.bool true) (fun w' hw' => by go_simp) ?_; go_simp; go_big_quiet_on
                    go_big_quiet_want; refine l_val (.bool true) (fun w' hw' => by go_simp) ?_; go_simp; go_big_quiet_on
                    go_big_quiet_skip
                    go_big_quiet_skip
                    go_big_quiet_skip
                    go_big_quiet_skip
                    go_big_quiet_skip
                    go_big_quiet_skip
                    go_big_quiet_skip
                    go_big_quiet_skip
                    go_big_quiet_skip
                    go_big_quiet_skip
                    go_big_quiet_skip
                    go_big_quiet_skip
                    go_big_quiet_skip
                    go_big_quiet_want; refine l_val (.bool true) (fun w' hw' => by go_simp) ?_; go_simp; go_big_quiet_on
                    refine wpQuiet_nil ?_
                    intro w' hw'
                    go_wp2_with fail
                    go_meet
                    exact ⟨by rw [HBB.out], hw'⟩
                  · have e3 : decide (x2 < 0) = false := decide_eq_false h3
                    by_cases hi0 : i = 0
                    · have HBB := Lib.hid (show bb = false by
                        cases hb : bb with
                        | false => rfl
                        | true => exact absurd ⟨h1, h2, by omega, fun h => by omega⟩ (hbb'.out.1 hb))
                      have e2 : decide ((0 : Int) < (i : Int)) = false := by rw [decide_eq_false_iff_not]; omega
                      have e2' : decide (0 < i) = false := by rw [decide_eq_false_iff_not]; omega
                      clear c0 c1 c2 c3 hgb hi0
                      have HK := Lib.hid (show ∀ w2, Far (fun _ => False) wa w2 → w2.cell? ⟨bx, 0, none⟩ = some (.int .i64 S) ∧ w2.cell? ⟨bx, 1, none⟩ = some (.slice fo n fc) ∧ w2.cell? ⟨bx, 2, none⟩ = some (.slice (some ⟨gb, off, none⟩) m ac) ∧ w2.cell? ⟨ax, 0, none⟩ = some (.int .i64 x0) ∧ w2.cell? ⟨ax, 1, none⟩ = some (.bool x1) ∧ w2.cell? ⟨ax, 2, none⟩ = some (.int .i64 x2) ∧ w2.cell? ⟨ax, 3, none⟩ = some (.int .i64 x3) from fun w2 h => ⟨(h.cell hlb).trans a0, (h.cell hlb).trans a1, (h.cell hlb).trans a2, (h.cell hlx).trans r0, (h.cell hlx).trans r1, (h.cell hlx).trans r2, (h.cell hlx).trans r3⟩)
                      refine quiet_far (by kernel_rfl) (by kernel_rfl) ?_
                      go_big_quiet_want; refine l_val (.agg #[.int .i64 S, .slice fo n fc, .slice (some ⟨gb, off, none⟩) m ac]) (fun w' hw' => by obtain ⟨q0, q1, q2, q3, q4, q5, q6⟩ := HK.out w' hw'; go_simp) ?_; go_simp; go_big_quiet_on
                      go_big_quiet_want; refine l_val (.pointer (some ⟨ax, 0, none⟩)) (fun w' hw' => by go_simp) ?_; go_simp; go_big_quiet_on
                      go_big_quiet_want; refine l_val (.int .i64 x0) (fun w' hw' => by obtain ⟨q0, q1, q2, q3, q4, q5, q6⟩ := HK.out w' hw'; go_simp) ?_; go_simp; go_big_quiet_on
                      go_big_quiet_want; refine l_call (.bool true) _ #[.agg #[.int .i64 S, .slice fo n fc, .slice (some ⟨gb, off, none⟩) m ac], .int .i64 x0] (fun w' => by go_simp) (fun w' hw' => isState_yes wa S (.slice fo n fc) (.slice (some ⟨gb, off, none⟩) m ac) x0 w' h1 hw') ?_; go_simp; go_big_quiet_on
                      go_big_quiet_want; refine l_val (.bool false) (fun w' hw' => by go_simp) ?_; go_simp; go_big_quiet_on
                      go_big_quiet_want; refine l_val (.bool false) (fun w' hw' => by go_simp) ?_; go_simp; go_big_quiet_on
                      go_big_quiet_want; refine l_val (.agg #[.int .i64 S, .slice fo n fc, .slice (some ⟨gb, off, none⟩) m ac]) (fun w' hw' => by obtain ⟨q0, q1, q2, q3, q4, q5, q6⟩ := HK.out w' hw'; go_simp) ?_; go_simp; go_big_quiet_on
                      go_big_quiet_want; refine l_val (.pointer (some ⟨ax, 3, none⟩)) (fun w' hw' => by go_simp) ?_; go_simp; go_big_quiet_on
                      go_big_quiet_want; refine l_val (.int .i64 x3) (fun w' hw' => by obtain ⟨q0, q1, q2, q3, q4, q5, q6⟩ := HK.out w' hw'; go_simp) ?_; go_simp; go_big_quiet_on
                      go_big_quiet_want; refine l_call (.bool true) _ #[.agg #[.int .i64 S, .slice fo n fc, .slice (some ⟨gb, off, none⟩) m ac], .int .i64 x3] (fun w' => by go_simp) (fun w' hw' => isState_yes wa S (.slice fo n fc) (.slice (some ⟨gb, off, none⟩) m ac) x3 w' h2 hw') ?_; go_simp; go_big_quiet_on
                      go_big_quiet_want; refine l_val (.bool false) (fun w' hw' => by go_simp) ?_; go_simp; go_big_quiet_on
                      go_big_quiet_want; refine l_val (.bool false) (fun w' hw' => by go_simp) ?_; go_simp; go_big_quiet_on
                      go_big_quiet_want; refine l_val (.bool false) (fun w' hw' => by go_simp) ?_; go_simp; go_big_quiet_on
                      go_big_quiet_want; refine l_val (.pointer (some ⟨ax, 1, none⟩)) (fun w' hw' => by go_simp) ?_; go_simp; go_big_quiet_on
                      go_big_quiet_want; refine l_val (.pointer (some ⟨ax, 2, none⟩)) (fun w' hw' => by go_simp) ?_; go_simp; go_big_quiet_on
                      go_big_quiet_want; refine l_val (.int .i64 x2) (fun w' hw' => by obtain ⟨q0, q1, q2, q3, q4, q5, q6⟩ := HK.out w' hw'; go_simp) ?_; go_simp; go_big_quiet_on
                      go_big_quiet_want; refine l_val (.bool false) (fun w' hw' => by go_simp) ?_; go_simp; go_big_quiet_on
                      go_big_quiet_want; refine l_val (.bool false) (fun w' hw' => by go_simp) ?_; go_simp; go_big_quiet_on
                      go_big_quiet_want; refine l_val (.bool false) (fun w' hw' => by go_simp) ?_; go_simp; go_big_quiet_on
                      go_big_quiet_want; refine l_val (.int .i64 i) (fun w' hw' => by go_simp) ?_; go_simp; go_big_quiet_on
                      go_big_quiet_want; refine l_val (.bool false) (fun w' hw' => by go_simp) ?_; go_simp; go_big_quiet_on
                      go_big_quiet_want; refine l_val (.bool false) (fun w' hw' => by go_simp) ?_; go_simp; go_big_quiet_on
                      go_big_quiet_skip
                      go_big_quiet_skip
                      go_big_quiet_skip
                      go_big_quiet_skip
                      go_big_quiet_skip
                      go_big_quiet_skip
                      go_big_quiet_skip
                      go_big_quiet_skip
                      go_big_quiet_skip
                      go_big_quiet_want; refine l_val (.bool false) (fun w' hw' => by go_simp) ?_; go_simp; go_big_quiet_on
                      go_big_quiet_want; refine l_val (.bool false) (fun w' hw' => by go_simp) ?_; go_simp; go_big_quiet_on
                      refine wpQuiet_nil ?_
                      intro w' hw'
                      go_wp2_with fail
                      go_meet
                      exact ⟨by rw [HBB.out], hw'⟩
                    · obtain ⟨j, hj⟩ : ∃ j, i = j + 1 := ⟨i - 1, by omega⟩
                      have e2 : decide ((0 : Int) < (i : Int)) = true := by rw [decide_eq_true_eq]; omega
                      have e2' : decide (0 < i) = true := by rw [decide_eq_true_eq]; omega
                      have hj1 : (i : Int) - 1 = (j : Int) := by omega
                      have hw1j : IntKind.i64.wrap (j : Int) = (j : Int) := IntWalk.i64_in _ (by omega)
                      have hj0 : (0 : Int) ≤ (j : Int) := by omega
                      have hjm : j < m := by omega
                      have hjn : (j : Int) < (m : Int) := by omega
                      have hgj : g (i - 1) = g j := by rw [hj]; rfl
                      obtain ⟨p0, p1, p2, p3⟩ := hcs'.out j (by omega)
                      rw [← hfa'.out.cell hgb] at p0 p1 p2 p3
                      rw [hgj] at hbb'
                      generalize g j = y at *
                      obtain ⟨y0, y1, y2, y3⟩ := y
                      simp only [] at p0 p1 p2 p3
                      have hle := ordO_less (y0, y1, y2, y3) (x0, x1, x2, x3)
                      by_cases hor : 0 ≤ ordO (y0, y1, y2, y3) (x0, x1, x2, x3)
                      · have HBB := Lib.hid (show bb = true from hbb'.out.2 fun h => by have h4 := h.2.2.2 (by omega); rw [hle.1 hor] at h4; cases h4)
                        have e4 : decide (0 ≤ ordO (y0, y1, y2, y3) (x0, x1, x2, x3)) = true := decide_eq_true hor
                        clear c0 c1 c2 c3 hgb hi0 hj hle hgj
                        have HK := Lib.hid (show ∀ w2, Far (fun _ => False) wa w2 → w2.cell? ⟨bx, 0, none⟩ = some (.int .i64 S) ∧ w2.cell? ⟨bx, 1, none⟩ = some (.slice fo n fc) ∧ w2.cell? ⟨bx, 2, none⟩ = some (.slice (some ⟨gb, off, none⟩) m ac) ∧ w2.cell? ⟨ax, 0, none⟩ = some (.int .i64 x0) ∧ w2.cell? ⟨ax, 1, none⟩ = some (.bool x1) ∧ w2.cell? ⟨ax, 2, none⟩ = some (.int .i64 x2) ∧ w2.cell? ⟨ax, 3, none⟩ = some (.int .i64 x3) ∧ w2.cell? ⟨gb, off + j * 4, none⟩ = some (.int .i64 y0) ∧ w2.cell? ⟨gb, off + j * 4 + 1, none⟩ = some (.bool y1) ∧ w2.cell? ⟨gb, off + j * 4 + 2, none⟩ = some (.int .i64 y2) ∧ w2.cell? ⟨gb, off + j * 4 + 3, none⟩ = some (.int .i64 y3) from fun w2 h => ⟨(h.cell hlb).trans a0, (h.cell hlb).trans a1, (h.cell hlb).trans a2, (h.cell hlx).trans r0, (h.cell hlx).trans r1, (h.cell hlx).trans r2, (h.cell hlx).trans r3, (h.cell hlg).trans p0, (h.cell hlg).trans p1, (h.cell hlg).trans p2, (h.cell hlg).trans p3⟩)
                        refine quiet_far (by kernel_rfl) (by kernel_rfl) ?_
                        go_big_quiet_want; refine l_val (.agg #[.int .i64 S, .slice fo n fc, .slice (some ⟨gb, off, none⟩) m ac]) (fun w' hw' => by obtain ⟨q0, q1, q2, q3, q4, q5, q6, q7, q8, q9, q10⟩ := HK.out w' hw'; go_simp) ?_; go_simp; go_big_quiet_on
                        go_big_quiet_want; refine l_val (.pointer (some ⟨ax, 0, none⟩)) (fun w' hw' => by go_simp) ?_; go_simp; go_big_quiet_on
                        go_big_quiet_want; refine l_val (.int .i64 x0) (fun w' hw' => by obtain ⟨q0, q1, q2, q3, q4, q5, q6, q7, q8, q9, q10⟩ := HK.out w' hw'; go_simp) ?_; go_simp; go_big_quiet_on
                        go_big_quiet_want; refine l_call (.bool true) _ #[.agg #[.int .i64 S, .slice fo n fc, .slice (some ⟨gb, off, none⟩) m ac], .int .i64 x0] (fun w' => by go_simp) (fun w' hw' => isState_yes wa S (.slice fo n fc) (.slice (some ⟨gb, off, none⟩) m ac) x0 w' h1 hw') ?_; go_simp; go_big_quiet_on
                        go_big_quiet_want; refine l_val (.bool false) (fun w' hw' => by go_simp) ?_; go_simp; go_big_quiet_on
                        go_big_quiet_want; refine l_val (.bool false) (fun w' hw' => by go_simp) ?_; go_simp; go_big_quiet_on
                        go_big_quiet_want; refine l_val (.agg #[.int .i64 S, .slice fo n fc, .slice (some ⟨gb, off, none⟩) m ac]) (fun w' hw' => by obtain ⟨q0, q1, q2, q3, q4, q5, q6, q7, q8, q9, q10⟩ := HK.out w' hw'; go_simp) ?_; go_simp; go_big_quiet_on
                        go_big_quiet_want; refine l_val (.pointer (some ⟨ax, 3, none⟩)) (fun w' hw' => by go_simp) ?_; go_simp; go_big_quiet_on
                        go_big_quiet_want; refine l_val (.int .i64 x3) (fun w' hw' => by obtain ⟨q0, q1, q2, q3, q4, q5, q6, q7, q8, q9, q10⟩ := HK.out w' hw'; go_simp) ?_; go_simp; go_big_quiet_on
                        go_big_quiet_want; refine l_call (.bool true) _ #[.agg #[.int .i64 S, .slice fo n fc, .slice (some ⟨gb, off, none⟩) m ac], .int .i64 x3] (fun w' => by go_simp) (fun w' hw' => isState_yes wa S (.slice fo n fc) (.slice (some ⟨gb, off, none⟩) m ac) x3 w' h2 hw') ?_; go_simp; go_big_quiet_on
                        go_big_quiet_want; refine l_val (.bool false) (fun w' hw' => by go_simp) ?_; go_simp; go_big_quiet_on
                        go_big_quiet_want; refine l_val (.bool false) (fun w' hw' => by go_simp) ?_; go_simp; go_big_quiet_on
                        go_big_quiet_want; refine l_val (.bool false) (fun w' hw' => by go_simp) ?_; go_simp; go_big_quiet_on
                        go_big_quiet_want; refine l_val (.pointer (some ⟨ax, 1, none⟩)) (fun w' hw' => by go_simp) ?_; go_simp; go_big_quiet_on
                        go_big_quiet_want; refine l_val (.pointer (some ⟨ax, 2, none⟩)) (fun w' hw' => by go_simp) ?_; go_simp; go_big_quiet_on
                        go_big_quiet_want; refine l_val (.int .i64 x2) (fun w' hw' => by obtain ⟨q0, q1, q2, q3, q4, q5, q6, q7, q8, q9, q10⟩ := HK.out w' hw'; go_simp) ?_; go_simp; go_big_quiet_on
                        go_big_quiet_want; refine l_val (.bool false) (fun w' hw' => by go_simp) ?_; go_simp; go_big_quiet_on
                        go_big_quiet_want; refine l_val (.bool false) (fun w' hw' => by go_simp) ?_; go_simp; go_big_quiet_on
                        go_big_quiet_want; refine l_val (.bool false) (fun w' hw' => by go_simp) ?_; go_simp; go_big_quiet_on
                        go_big_quiet_want; refine l_val (.int .i64 i) (fun w' hw' => by go_simp) ?_; go_simp; go_big_quiet_on
                        go_big_quiet_want; refine l_val (.bool true) (fun w' hw' => by go_simp) ?_; go_simp; go_big_quiet_on
                        go_big_quiet_want; refine l_val (.bool true) (fun w' hw' => by go_simp) ?_; go_simp; go_big_quiet_on
                        go_big_quiet_want; refine l_val (.pointer (some ⟨bx, 2, none⟩)) (fun w' hw' => by go_simp) ?_; go_simp; go_big_quiet_on
                        go_big_quiet_want; refine l_val (.slice (some ⟨gb, off, none⟩) m ac) (fun w' hw' => by obtain ⟨q0, q1, q2, q3, q4, q5, q6, q7, q8, q9, q10⟩ := HK.out w' hw'; go_simp) ?_; go_simp; go_big_quiet_on
                        go_big_quiet_want; refine l_val (.int .i64 i) (fun w' hw' => by go_simp) ?_; go_simp; go_big_quiet_on
                        go_big_quiet_want; refine l_val (.int .i64 j) (fun w' hw' => by go_simp) ?_; go_simp; go_big_quiet_on
                        go_big_quiet_want; refine l_val (.pointer (some ⟨gb, off + j * 4, none⟩)) (fun w' hw' => by go_simp) ?_; go_simp; go_big_quiet_on
                        go_big_quiet_want; refine l_val (.agg #[.int .i64 y0, .bool y1, .int .i64 y2, .int .i64 y3]) (fun w' hw' => by obtain ⟨q0, q1, q2, q3, q4, q5, q6, q7, q8, q9, q10⟩ := HK.out w' hw'; go_simp) ?_; go_simp; go_big_quiet_on
                        go_big_quiet_want; refine l_val (.agg #[.int .i64 x0, .bool x1, .int .i64 x2, .int .i64 x3]) (fun w' hw' => by obtain ⟨q0, q1, q2, q3, q4, q5, q6, q7, q8, q9, q10⟩ := HK.out w' hw'; go_simp) ?_; go_simp; go_big_quiet_on
                        go_big_quiet_want; refine l_call (.int .i64 (ordO (y0, y1, y2, y3) (x0, x1, x2, x3))) _ #[.agg #[.int .i64 y0, .bool y1, .int .i64 y2, .int .i64 y3], .agg #[.int .i64 x0, .bool x1, .int .i64 x2, .int .i64 x3]] (fun w' => by go_simp) (fun w' hw' => order_cls wa y0 y1 y2 y3 x0 x1 x2 x3 w' hw') ?_; go_simp; go_big_quiet_on
                        go_big_quiet_want; refine l_val (.bool true) (fun w' hw' => by go_simp) ?_; go_simp; go_big_quiet_on
                        go_big_quiet_want; refine l_val (.bool true) (fun w' hw' => by go_simp) ?_; go_simp; go_big_quiet_on
                        go_big_quiet_want; refine l_val (.bool true) (fun w' hw' => by go_simp) ?_; go_simp; go_big_quiet_on
                        refine wpQuiet_nil ?_
                        intro w' hw'
                        go_wp2_with fail
                        go_meet
                        exact ⟨by rw [HBB.out], hw'⟩
                      · have HBB := Lib.hid (show bb = false by
                          cases hb : bb with
                          | false => rfl
                          | true =>
                            refine absurd ⟨h1, h2, by omega, fun _ => ?_⟩ (hbb'.out.1 hb)
                            cases hl : lessA (y0, y1, y2, y3) (x0, x1, x2, x3) with
                            | true => rfl
                            | false => exact absurd (hle.2 hl) hor)
                        have e4 : decide (0 ≤ ordO (y0, y1, y2, y3) (x0, x1, x2, x3)) = false := decide_eq_false hor
                        clear c0 c1 c2 c3 hgb hi0 hj hle hgj
                        have HK := Lib.hid (show ∀ w2, Far (fun _ => False) wa w2 → w2.cell? ⟨bx, 0, none⟩ = some (.int .i64 S) ∧ w2.cell? ⟨bx, 1, none⟩ = some (.slice fo n fc) ∧ w2.cell? ⟨bx, 2, none⟩ = some (.slice (some ⟨gb, off, none⟩) m ac) ∧ w2.cell? ⟨ax, 0, none⟩ = some (.int .i64 x0) ∧ w2.cell? ⟨ax, 1, none⟩ = some (.bool x1) ∧ w2.cell? ⟨ax, 2, none⟩ = some (.int .i64 x2) ∧ w2.cell? ⟨ax, 3, none⟩ = some (.int .i64 x3) ∧ w2.cell? ⟨gb, off + j * 4, none⟩ = some (.int .i64 y0) ∧ w2.cell? ⟨gb, off + j * 4 + 1, none⟩ = some (.bool y1) ∧ w2.cell? ⟨gb, off + j * 4 + 2, none⟩ = some (.int .i64 y2) ∧ w2.cell? ⟨gb, off + j * 4 + 3, none⟩ = some (.int .i64 y3) from fun w2 h => ⟨(h.cell hlb).trans a0, (h.cell hlb).trans a1, (h.cell hlb).trans a2, (h.cell hlx).trans r0, (h.cell hlx).trans r1, (h.cell hlx).trans r2, (h.cell hlx).trans r3, (h.cell hlg).trans p0, (h.cell hlg).trans p1, (h.cell hlg).trans p2, (h.cell hlg).trans p3⟩)
                        refine quiet_far (by kernel_rfl) (by kernel_rfl) ?_
                        go_big_quiet_want; refine l_val (.agg #[.int .i64 S, .slice fo n fc, .slice (some ⟨gb, off, none⟩) m ac]) (fun w' hw' => by obtain ⟨q0, q1, q2, q3, q4, q5, q6, q7, q8, q9, q10⟩ := HK.out w' hw'; go_simp) ?_; go_simp; go_big_quiet_on
                        go_big_quiet_want; refine l_val (.pointer (some ⟨ax, 0, none⟩)) (fun w' hw' => by go_simp) ?_; go_simp; go_big_quiet_on
                        go_big_quiet_want; refine l_val (.int .i64 x0) (fun w' hw' => by obtain ⟨q0, q1, q2, q3, q4, q5, q6, q7, q8, q9, q10⟩ := HK.out w' hw'; go_simp) ?_; go_simp; go_big_quiet_on
                        go_big_quiet_want; refine l_call (.bool true) _ #[.agg #[.int .i64 S, .slice fo n fc, .slice (some ⟨gb, off, none⟩) m ac], .int .i64 x0] (fun w' => by go_simp) (fun w' hw' => isState_yes wa S (.slice fo n fc) (.slice (some ⟨gb, off, none⟩) m ac) x0 w' h1 hw') ?_; go_simp; go_big_quiet_on
                        go_big_quiet_want; refine l_val (.bool false) (fun w' hw' => by go_simp) ?_; go_simp; go_big_quiet_on
                        go_big_quiet_want; refine l_val (.bool false) (fun w' hw' => by go_simp) ?_; go_simp; go_big_quiet_on
                        go_big_quiet_want; refine l_val (.agg #[.int .i64 S, .slice fo n fc, .slice (some ⟨gb, off, none⟩) m ac]) (fun w' hw' => by obtain ⟨q0, q1, q2, q3, q4, q5, q6, q7, q8, q9, q10⟩ := HK.out w' hw'; go_simp) ?_; go_simp; go_big_quiet_on
                        go_big_quiet_want; refine l_val (.pointer (some ⟨ax, 3, none⟩)) (fun w' hw' => by go_simp) ?_; go_simp; go_big_quiet_on
                        go_big_quiet_want; refine l_val (.int .i64 x3) (fun w' hw' => by obtain ⟨q0, q1, q2, q3, q4, q5, q6, q7, q8, q9, q10⟩ := HK.out w' hw'; go_simp) ?_; go_simp; go_big_quiet_on
                        go_big_quiet_want; refine l_call (.bool true) _ #[.agg #[.int .i64 S, .slice fo n fc, .slice (some ⟨gb, off, none⟩) m ac], .int .i64 x3] (fun w' => by go_simp) (fun w' hw' => isState_yes wa S (.slice fo n fc) (.slice (some ⟨gb, off, none⟩) m ac) x3 w' h2 hw') ?_; go_simp; go_big_quiet_on
                        go_big_quiet_want; refine l_val (.bool false) (fun w' hw' => by go_simp) ?_; go_simp; go_big_quiet_on
                        go_big_quiet_want; refine l_val (.bool false) (fun w' hw' => by go_simp) ?_; go_simp; go_big_quiet_on
                        go_big_quiet_want; refine l_val (.bool false) (fun w' hw' => by go_simp) ?_; go_simp; go_big_quiet_on
                        go_big_quiet_want; refine l_val (.pointer (some ⟨ax, 1, none⟩)) (fun w' hw' => by go_simp) ?_; go_simp; go_big_quiet_on
                        go_big_quiet_want; refine l_val (.pointer (some ⟨ax, 2, none⟩)) (fun w' hw' => by go_simp) ?_; go_simp; go_big_quiet_on
                        go_big_quiet_want; refine l_val (.int .i64 x2) (fun w' hw' => by obtain ⟨q0, q1, q2, q3, q4, q5, q6, q7, q8, q9, q10⟩ := HK.out w' hw'; go_simp) ?_; go_simp; go_big_quiet_on
                        go_big_quiet_want; refine l_val (.bool false) (fun w' hw' => by go_simp) ?_; go_simp; go_big_quiet_on
                        go_big_quiet_want; refine l_val (.bool false) (fun w' hw' => by go_simp) ?_; go_simp; go_big_quiet_on
                        go_big_quiet_want; refine l_val (.bool false) (fun w' hw' => by go_simp) ?_; go_simp; go_big_quiet_on
                        go_big_quiet_want; refine l_val (.int .i64 i) (fun w' hw' => by go_simp) ?_; go_simp; go_big_quiet_on
                        go_big_quiet_want; refine l_val (.bool true) (fun w' hw' => by go_simp) ?_; go_simp; go_big_quiet_on
                        go_big_quiet_want; refine l_val (.bool true) (fun w' hw' => by go_simp) ?_; go_simp; go_big_quiet_on
                        go_big_quiet_want; refine l_val (.pointer (some ⟨bx, 2, none⟩)) (fun w' hw' => by go_simp) ?_; go_simp; go_big_quiet_on
                        go_big_quiet_want; refine l_val (.slice (some ⟨gb, off, none⟩) m ac) (fun w' hw' => by obtain ⟨q0, q1, q2, q3, q4, q5, q6, q7, q8, q9, q10⟩ := HK.out w' hw'; go_simp) ?_; go_simp; go_big_quiet_on
                        go_big_quiet_want; refine l_val (.int .i64 i) (fun w' hw' => by go_simp) ?_; go_simp; go_big_quiet_on
                        go_big_quiet_want; refine l_val (.int .i64 j) (fun w' hw' => by go_simp) ?_; go_simp; go_big_quiet_on
                        go_big_quiet_want; refine l_val (.pointer (some ⟨gb, off + j * 4, none⟩)) (fun w' hw' => by go_simp) ?_; go_simp; go_big_quiet_on
                        go_big_quiet_want; refine l_val (.agg #[.int .i64 y0, .bool y1, .int .i64 y2, .int .i64 y3]) (fun w' hw' => by obtain ⟨q0, q1, q2, q3, q4, q5, q6, q7, q8, q9, q10⟩ := HK.out w' hw'; go_simp) ?_; go_simp; go_big_quiet_on
                        go_big_quiet_want; refine l_val (.agg #[.int .i64 x0, .bool x1, .int .i64 x2, .int .i64 x3]) (fun w' hw' => by obtain ⟨q0, q1, q2, q3, q4, q5, q6, q7, q8, q9, q10⟩ := HK.out w' hw'; go_simp) ?_; go_simp; go_big_quiet_on
                        go_big_quiet_want; refine l_call (.int .i64 (ordO (y0, y1, y2, y3) (x0, x1, x2, x3))) _ #[.agg #[.int .i64 y0, .bool y1, .int .i64 y2, .int .i64 y3], .agg #[.int .i64 x0, .bool x1, .int .i64 x2, .int .i64 x3]] (fun w' => by go_simp) (fun w' hw' => order_cls wa y0 y1 y2 y3 x0 x1 x2 x3 w' hw') ?_; go_simp; go_big_quiet_on
                        go_big_quiet_want; refine l_val (.bool false) (fun w' hw' => by go_simp) ?_; go_simp; go_big_quiet_on
                        go_big_quiet_want; refine l_val (.bool false) (fun w' hw' => by go_simp) ?_; go_simp; go_big_quiet_on
                        go_big_quiet_want; refine l_val (.bool false) (fun w' hw' => by go_simp) ?_; go_simp; go_big_quiet_on
                        refine wpQuiet_nil ?_
                        intro w' hw'
                        go_wp2_with fail
                        go_meet
                        exact ⟨by rw [HBB.out], hw'⟩
                · have HBB := Lib.hid (show bb = true from hbb'.out.2 fun h => h2 h.2.1)
                  clear c0 c1 c2 c3 hgb
                  have HK := Lib.hid (show ∀ w2, Far (fun _ => False) wa w2 → w2.cell? ⟨bx, 0, none⟩ = some (.int .i64 S) ∧ w2.cell? ⟨bx, 1, none⟩ = some (.slice fo n fc) ∧ w2.cell? ⟨bx, 2, none⟩ = some (.slice (some ⟨gb, off, none⟩) m ac) ∧ w2.cell? ⟨ax, 0, none⟩ = some (.int .i64 x0) ∧ w2.cell? ⟨ax, 1, none⟩ = some (.bool x1) ∧ w2.cell? ⟨ax, 2, none⟩ = some (.int .i64 x2) ∧ w2.cell? ⟨ax, 3, none⟩ = some (.int .i64 x3) from fun w2 h => ⟨(h.cell hlb).trans a0, (h.cell hlb).trans a1, (h.cell hlb).trans a2, (h.cell hlx).trans r0, (h.cell hlx).trans r1, (h.cell hlx).trans r2, (h.cell hlx).trans r3⟩)
                  refine quiet_far (by kernel_rfl) (by kernel_rfl) ?_
                  go_big_quiet_want; refine l_val (.agg #[.int .i64 S, .slice fo n fc, .slice (some ⟨gb, off, none⟩) m ac]) (fun w' hw' => by obtain ⟨q0, q1, q2, q3, q4, q5, q6⟩ := HK.out w' hw'; go_simp) ?_; go_simp; go_big_quiet_on
                  go_big_quiet_want; refine l_val (.pointer (some ⟨ax, 0, none⟩)) (fun w' hw' => by go_simp) ?_; go_simp; go_big_quiet_on
                  go_big_quiet_want; refine l_val (.int .i64 x0) (fun w' hw' => by obtain ⟨q0, q1, q2, q3, q4, q5, q6⟩ := HK.out w' hw'; go_simp) ?_; go_simp; go_big_quiet_on
                  go_big_quiet_want; refine l_call (.bool true) _ #[.agg #[.int .i64 S, .slice fo n fc, .slice (some ⟨gb, off, none⟩) m ac], .int .i64 x0] (fun w' => by go_simp) (fun w' hw' => isState_yes wa S (.slice fo n fc) (.slice (some ⟨gb, off, none⟩) m ac) x0 w' h1 hw') ?_; go_simp; go_big_quiet_on
                  go_big_quiet_want; refine l_val (.bool false) (fun w' hw' => by go_simp) ?_; go_simp; go_big_quiet_on
                  go_big_quiet_want; refine l_val (.bool false) (fun w' hw' => by go_simp) ?_; go_simp; go_big_quiet_on
                  go_big_quiet_want; refine l_val (.agg #[.int .i64 S, .slice fo n fc, .slice (some ⟨gb, off, none⟩) m ac]) (fun w' hw' => by obtain ⟨q0, q1, q2, q3, q4, q5, q6⟩ := HK.out w' hw'; go_simp) ?_; go_simp; go_big_quiet_on
                  go_big_quiet_want; refine l_val (.pointer (some ⟨ax, 3, none⟩)) (fun w' hw' => by go_simp) ?_; go_simp; go_big_quiet_on
                  go_big_quiet_want; refine l_val (.int .i64 x3) (fun w' hw' => by obtain ⟨q0, q1, q2, q3, q4, q5, q6⟩ := HK.out w' hw'; go_simp) ?_; go_simp; go_big_quiet_on
                  go_big_quiet_want; refine l_call (.bool false) _ #[.agg #[.int .i64 S, .slice fo n fc, .slice (some ⟨gb, off, none⟩) m ac], .int .i64 x3] (fun w' => by go_simp) (fun w' hw' => isState_no wa S (.slice fo n fc) (.slice (some ⟨gb, off, none⟩) m ac) x3 w' h2 hw') ?_; go_simp; go_big_quiet_on
                  go_big_quiet_want; refine l_val (.bool true) (fun w' hw' => by go_simp) ?_; go_simp; go_big_quiet_on
                  go_big_quiet_want; refine l_val (.bool true) (fun w' hw' => by go_simp) ?_; go_simp; go_big_quiet_on
                  go_big_quiet_want; refine l_val (.bool true) (fun w' hw' => by go_simp) ?_; go_simp; go_big_quiet_on
                  go_big_quiet_skip
                  go_big_quiet_skip
                  go_big_quiet_skip
                  go_big_quiet_skip
                  go_big_quiet_want; refine l_val (.bool true) (fun w' hw' => by go_simp) ?_; go_simp; go_big_quiet_on
                  go_big_quiet_want; refine l_val (.bool true) (fun w' hw' => by go_simp) ?_; go_simp; go_big_quiet_on
                  go_big_quiet_skip
                  go_big_quiet_skip
                  go_big_quiet_skip
                  go_big_quiet_skip
                  go_big_quiet_skip
                  go_big_quiet_skip
                  go_big_quiet_skip
                  go_big_quiet_skip
                  go_big_quiet_skip
                  go_big_quiet_skip
                  go_big_quiet_skip
                  go_big_quiet_skip
                  go_big_quiet_skip
                  go_big_quiet_want; refine l_val (.bool true) (fun w' hw' => by go_simp) ?_; go_simp; go_big_quiet_on
                  refine wpQuiet_nil ?_
                  intro w' hw'
                  go_wp2_with fail
                  go_meet
                  exact ⟨by rw [HBB.out], hw'⟩
              · have HBB := Lib.hid (show bb = true from hbb'.out.2 fun h => h1 h.1)
                clear c0 c1 c2 c3 hgb
                have HK := Lib.hid (show ∀ w2, Far (fun _ => False) wa w2 → w2.cell? ⟨bx, 0, none⟩ = some (.int .i64 S) ∧ w2.cell? ⟨bx, 1, none⟩ = some (.slice fo n fc) ∧ w2.cell? ⟨bx, 2, none⟩ = some (.slice (some ⟨gb, off, none⟩) m ac) ∧ w2.cell? ⟨ax, 0, none⟩ = some (.int .i64 x0) ∧ w2.cell? ⟨ax, 1, none⟩ = some (.bool x1) ∧ w2.cell? ⟨ax, 2, none⟩ = some (.int .i64 x2) ∧ w2.cell? ⟨ax, 3, none⟩ = some (.int .i64 x3) from fun w2 h => ⟨(h.cell hlb).trans a0, (h.cell hlb).trans a1, (h.cell hlb).trans a2, (h.cell hlx).trans r0, (h.cell hlx).trans r1, (h.cell hlx).trans r2, (h.cell hlx).trans r3⟩)
                refine quiet_far (by kernel_rfl) (by kernel_rfl) ?_
                go_big_quiet_want; refine l_val (.agg #[.int .i64 S, .slice fo n fc, .slice (some ⟨gb, off, none⟩) m ac]) (fun w' hw' => by obtain ⟨q0, q1, q2, q3, q4, q5, q6⟩ := HK.out w' hw'; go_simp) ?_; go_simp; go_big_quiet_on
                go_big_quiet_want; refine l_val (.pointer (some ⟨ax, 0, none⟩)) (fun w' hw' => by go_simp) ?_; go_simp; go_big_quiet_on
                go_big_quiet_want; refine l_val (.int .i64 x0) (fun w' hw' => by obtain ⟨q0, q1, q2, q3, q4, q5, q6⟩ := HK.out w' hw'; go_simp) ?_; go_simp; go_big_quiet_on
                go_big_quiet_want; refine l_call (.bool false) _ #[.agg #[.int .i64 S, .slice fo n fc, .slice (some ⟨gb, off, none⟩) m ac], .int .i64 x0] (fun w' => by go_simp) (fun w' hw' => isState_no wa S (.slice fo n fc) (.slice (some ⟨gb, off, none⟩) m ac) x0 w' h1 hw') ?_; go_simp; go_big_quiet_on
                go_big_quiet_want; refine l_val (.bool true) (fun w' hw' => by go_simp) ?_; go_simp; go_big_quiet_on
                go_big_quiet_want; refine l_val (.bool true) (fun w' hw' => by go_simp) ?_; go_simp; go_big_quiet_on
                go_big_quiet_skip
                go_big_quiet_skip
                go_big_quiet_skip
                go_big_quiet_skip
                go_big_quiet_skip
                go_big_quiet_want; refine l_val (.bool true) (fun w' hw' => by go_simp) ?_; go_simp; go_big_quiet_on
                go_big_quiet_want; refine l_val (.bool true) (fun w' hw' => by go_simp) ?_; go_simp; go_big_quiet_on
                go_big_quiet_skip
                go_big_quiet_skip
                go_big_quiet_skip
                go_big_quiet_skip
                go_big_quiet_want; refine l_val (.bool true) (fun w' hw' => by go_simp) ?_; go_simp; go_big_quiet_on
                go_big_quiet_want; refine l_val (.bool true) (fun w' hw' => by go_simp) ?_; go_simp; go_big_quiet_on
                go_big_quiet_skip
                go_big_quiet_skip
                go_big_quiet_skip
                go_big_quiet_skip
                go_big_quiet_skip
                go_big_quiet_skip
                go_big_quiet_skip
                go_big_quiet_skip
                go_big_quiet_skip
                go_big_quiet_skip
                go_big_quiet_skip
                go_big_quiet_skip
                go_big_quiet_skip
                go_big_quiet_want; refine l_val (.bool true) (fun w' hw' => by go_simp) ?_; go_simp; go_big_quiet_on
                refine wpQuiet_nil ?_
                intro w' hw'
                go_wp2_with fail
                go_meet
                exact ⟨by rw [HBB.out], hw'⟩
            case rest =>
              obtain ⟨rfl, hfc⟩ := hcut
              have hfc' := Lib.hid hfc
              clear hfc a0 a1 a2 r0 r1 r2 r3 c0 c1 c2 c3
              have hbq := hbb'.out
              cases bb
              · have hok := Lib.hid (show arcAt S g i from hat'.out.2 (Classical.not_not.1 fun h => by have := hbq.2 h; cases this))
                clear hbq
                go_wp2_with fail
                go_roundw
                case rel => exact ⟨i + 1, by go_num, by omega, fun j hj => by
                  rcases Nat.lt_or_ge j i with h | h
                  · exact hgood'.out j h
                  · have : j = i := by omega
                    subst this
                    exact hok.out, (hfr'.out.then hfa'.out).then hfc'.out⟩
                case measure => simp [intOf]; omega
              · have hno := Lib.hid (code_no (show ¬ MayBe S n f m g from fun hM => (hbq.1 rfl) (by have := hat'.out.1 (by have := hM.2.2.2 i hlt; exact this); exact this)))
                clear hbq
                go_wp2_with fail
                go_ret
                exact ⟨by rw [hno.out]; rfl, (((hF1.then hfw'.out).then hfr'.out).then hfa'.out).then hfc'.out⟩
          · have e1 : decide ((i : Int) < (m : Int)) = false := by rw [decide_eq_false_iff_not]; omega
            have hyes := Lib.hid (code_yes (show MayBe S n f m g from ⟨hS1, hS2, hfin'.out, fun j hj => hgood j (by omega)⟩))
            have hfr' := Lib.hid hfr
            clear hgood hfr
            go_wp2_with fail
            go_ret
            exact ⟨by rw [hyes.out]; rfl, (hF1.then hfw'.out).then hfr'.out⟩
  · have hno : ¬ MayBe S n f m g := fun hM => hS ⟨hM.1, hM.2.1⟩
    have hno' := Lib.hid (code_no hno)
    by_cases h1 : S < 1
    · have d1 : decide (S < 1) = true := decide_eq_true h1
      clear hno hS
      go_enter Tryd.func7, Tryd.ntmps7
      go_upto_region 1 with fail
      rw [← hbx'.out, ← hw1'.out]
      go_wp2_with fail
      go_ret
      exact ⟨by rw [hno'.out]; rfl, hF1⟩
    · have d1 : decide (S < 1) = false := decide_eq_false h1
      have d2 : decide (65 < S) = true := decide_eq_true (by omega)
      clear hno hS
      go_enter Tryd.func7, Tryd.ntmps7
      go_upto_region 1 with fail
      rw [← hbx'.out, ← hw1'.out]
      go_wp2_with fail
      go_ret
      exact ⟨by rw [hno'.out]; rfl, hF1⟩
end
end Go.Proofs.YtihlfphokgicbaaDoor
