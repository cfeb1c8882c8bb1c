/-
  MarksPieces walked.
-/
import Derived.Test.YtogobjokjpddbaaPiecesL
import Derived.LoopN
namespace Go.Proofs.Ytogobjokjpddbaa
open Go.RowKit Go.Shelf
set_option linter.unusedVariables false
set_option linter.unusedSimpArgs false
section
set_option maxHeartbeats 4000000
set_option maxRecDepth 100000
theorem lblank_any (c : Nat) (w : World) : Calls Try.prog 21 #[.int .u8 c] w fun e w' => e = .returned (.bool (blankN c)) ∧ w = w' := by
  go_enter Try.func21, Try.ntmps21
  go_wp2
  all_goals go_ret
  all_goals (refine ⟨ret_b ?_, rfl⟩; go_light; (try simp only [beq_iff_eq, beq_eq_false_iff_ne] at *); rw [Bool.eq_iff_iff]; simp [blankN]; omega)
theorem lword_any (c : Nat) (w : World) : Calls Try.prog 22 #[.int .u8 c] w fun e w' => e = .returned (.bool (innerN c)) ∧ w = w' := by
  go_enter Try.func22, Try.ntmps22
  go_wp2
  all_goals go_ret
  all_goals (refine ⟨ret_b ?_, rfl⟩; go_light; (try simp only [beq_iff_eq, beq_eq_false_iff_ne] at *); rw [Bool.eq_iff_iff]; simp [innerN]; omega)
theorem pieces_law (s : ByteArray) (w : World) (hs : s.size ≤ 1073741824) :
    Calls Try.prog 6 #[.string s] w fun e w' => e = .returned (.bool true) ∧ Below w.heap.size w w' := by
  have hle := stopAt_le s
  have hml := ml_all s
  by_cases hlt : stopAt s < s.size
  · go_enter Try.func6, Try.ntmps6
    go_wp2_with fail
    refine (scan_any s _ hs).mono ?_
    rintro e w1 ⟨he, hb⟩
    rw [if_pos hlt] at he
    subst he
    have HB := Lib.hid hb
    clear hb hlt
    go_wp2_with fail
    refine (awake_any _).mono ?_
    rintro e w2 ⟨rfl, hb2⟩
    go_wp2_with fail
    go_ret
    exact ⟨rfl, HB.out.trans (hb2.mono HB.out.size)⟩
  · have DN := Lib.hid (fun a (h : Pc s (ml s).length a) => h.done hlt)
    go_enter Try.func6, Try.ntmps6
    go_wp2_with fail
    refine (scan_any s _ hs).mono ?_
    rintro e w1 ⟨he, hb⟩
    rw [if_neg hlt] at he
    obtain ⟨v, rfl, hO⟩ := he
    have HB := Lib.hid hb
    have HO := Lib.hid hO
    obtain ⟨A, cap, rfl⟩ : ∃ A cap, v = .slice A (ml s).length cap := by
      rcases hO.row.2 with ⟨rfl, h1⟩ | ⟨g, cap, cur, rfl, _⟩
      · exact ⟨none, 0, by rw [txt_length] at h1; rw [h1]⟩
      · exact ⟨_, cap, by rw [txt_length]⟩
    have HC : Hid (∀ k x, (ml s)[k]? = some x → ∃ g, A = some ⟨g, 0, none⟩ ∧ g < w1.heap.size ∧ w1.cell? ⟨g, k * 3, none⟩ = some (.int .i64 (x.1 : Int)) ∧ w1.cell? ⟨g, k * 3 + 1, none⟩ = some (.int .i64 (x.2.1 : Int)) ∧ w1.cell? ⟨g, k * 3 + 2, none⟩ = some (.string (s.extract x.2.1 x.2.2))) := Lib.hid (by
      intro k x hx
      have hk := (List.getElem?_eq_some_iff.1 hx).1
      obtain ⟨g, cap', he, _, hg⟩ := World.ownsRow.form HO.out.row (by rw [txt_length]; omega)
      injection he with e1 e2 e3
      subst e1 e3
      have hx' : (txt s (ml s))[k]? = some (x.1, x.2.1, s.extract x.2.1 x.2.2) := by unfold txt; rw [List.getElem?_map, hx]; rfl
      have hrow := HO.out.row
      rw [txt_length] at hrow
      obtain ⟨a, b, c⟩ := flatM_at _ k _ hx'
      exact ⟨g, rfl, hg, (hrow.cellAt _ (by omega)).trans a, (hrow.cellAt _ (by omega)).trans b, (hrow.cellAt _ (by omega)).trans c⟩)
    clear hb hO HO hlt
    go_wp2_with fail
    go_loopw [6, 7] (fun av iv wr => ∃ k a : Nat, k ≤ (ml s).length ∧ iv = .int .i64 k ∧ av = .int .i64 a ∧ a ≤ s.size ∧ Hid (Pc s k a) ∧ Below w1.heap.size w1 wr) (fun _ iv _ => (ml s).length - (intOf iv).toNat)
    case atStart => exact ⟨0, 0, Nat.zero_le _, rfl, rfl, Nat.zero_le _, Lib.hid (Pc.zero s), Below.refl _ _⟩
    case round =>
      obtain ⟨k, a, hk, rfl, rfl, ha, HP, hbl⟩ := hrel
      by_cases hkl : k < (ml s).length
      · have hdk : decide ((k : Int) < ((ml s).length : Int)) = true := by rw [decide_eq_true_eq]; omega
        obtain ⟨x, hx⟩ : ∃ x, (ml s)[k]? = some x := ⟨_, List.getElem?_eq_getElem hkl⟩
        obtain ⟨m1, m2, m3, m4, m5, m6⟩ := HP.out.mark hx
        obtain ⟨g, hA, hg, c0, c1, c2⟩ := HC.out k x hx
        subst hA
        obtain ⟨q, i, e⟩ := x
        dsimp only at m1 m2 m3 m4 m5 m6 c0 c1 c2
        replace c0 := (hbl.cell (p := ⟨g, k * 3, none⟩) hg).trans c0
        replace c1 := (hbl.cell (p := ⟨g, k * 3 + 1, none⟩) hg).trans c1
        replace c2 := (hbl.cell (p := ⟨g, k * 3 + 2, none⟩) hg).trans c2
        have hge := run_ge (byt s) s.size blankN a
        rw [← m1] at hge
        have hgt := mend_gt (byt s) s.size i
        have hme := mend_le (byt s) s.size m2
        rw [← m5] at hgt hme
        have hsz : (s.extract i e).size = e - i := by rw [ByteArray.size_extract]; omega
        have hkd : kd (s.extract i e) = q := by rw [m5, kd_ext m2 (by rw [← m3]; exact m4), m3]
        have HBL := Lib.hid (fun m (h1 : a ≤ m) (h2 : m < i) => run_in (byt s) s.size blankN (i := a) (m := m) h1 (by rw [← m1]; exact h2))
        have HBY := Lib.hid (fun j (h : j < e - i) => byt_ext (s := s) (i := i) (e := e) (j := j) hme h)
        have HIN := Lib.hid (fun j (hq : q ≤ 3) (h : j < e - i) => inner_in (s := s) (i := i) (j := i + j) m2 (by rw [← m3]; omega) (by omega) (by rw [← m5]; omega))
        have hsg : ¬ q ≤ 3 → e = i + 1 := fun h => by rw [m5]; unfold mend; rw [if_neg (by rw [← m3]; exact h)]
        have HGAP := Lib.hid HP.out.gap
        have hq12 : q ≤ 12 := by rw [m3]; exact kindN_le _
        have hsl := slice_at s i e (by omega) hme
        have HM6 := Lib.hid m6
        have M3 := Lib.hid m3
        clear hx m1 m3 m5 m6 HP
        have hes : ((s.extract i e).size : Int) = (e : Int) - (i : Int) := by omega
        generalize s.extract i e = y at *
        have hie : (i : Int) + (y.size : Int) = (e : Int) := by omega
        rw [← hie] at hsl
        have d1 : decide ((i : Int) < (a : Int)) = false := by rw [decide_eq_false_iff_not]; omega
        have d1n : decide (i < a) = false := by rw [decide_eq_false_iff_not]; omega
        have d3n : decide (s.size < i + y.size) = false := by rw [decide_eq_false_iff_not]; omega
        have d3 : decide ((s.size : Int) < (i : Int) + (y.size : Int)) = false := by rw [decide_eq_false_iff_not]; omega
        have hyz : y.size ≤ 1073741824 := by omega
        have hz0 : 0 < y.size := by omega
        have d2 : y.toList.isEmpty = false := by
          rw [bl_data]
          cases hl : y.data.toList with
          | nil =>
            have h0 : y.size = y.data.toList.length := by simp
            have h1 : y.data.toList.length = 0 := by rw [hl]; rfl
            omega
          | cons _ _ => rfl
        have d4 : (y.toList == y.toList) = true := by simp
        have HSZ := Lib.hid hsz
        have HIE := Lib.hid hie
        clear hsz hes hie
        go_wp2_with fail
        go_quiet (fail)
        go_wp2_with fail
        have hD2 : Below w1.heap.size w1 ((wr.alloc (.cells #[.int .i64 (q : Int), .int .i64 (i : Int), .string y] 29)).drewN nq) := (hbl.alloc hbl.size _).trans ⟨rfl, rfl, rfl, Nat.le_refl _, fun _ _ => rfl⟩
        have b0 : ((wr.alloc (.cells #[.int .i64 (q : Int), .int .i64 (i : Int), .string y] 29)).drewN nq).cell? ⟨wr.heap.size, 0, none⟩ = some (.int .i64 (q : Int)) := (new_cell wr _ _ wr.heap.size 0 rfl).trans rfl
        have b1 : ((wr.alloc (.cells #[.int .i64 (q : Int), .int .i64 (i : Int), .string y] 29)).drewN nq).cell? ⟨wr.heap.size, 1, none⟩ = some (.int .i64 (i : Int)) := (new_cell wr _ _ wr.heap.size 1 rfl).trans rfl
        have b2 : ((wr.alloc (.cells #[.int .i64 (q : Int), .int .i64 (i : Int), .string y] 29)).drewN nq).cell? ⟨wr.heap.size, 2, none⟩ = some (.string y) := (new_cell wr _ _ wr.heap.size 2 rfl).trans rfl
        have hB : wr.heap.size < ((wr.alloc (.cells #[.int .i64 (q : Int), .int .i64 (i : Int), .string y] 29)).drewN nq).heap.size := by have := World.size_alloc wr (.cells #[.int .i64 (q : Int), .int .i64 (i : Int), .string y] 29); show _ < (wr.alloc _).heap.size; omega
        clear hbl c0 c1 c2
        generalize (wr.alloc (.cells #[.int .i64 (q : Int), .int .i64 (i : Int), .string y] 29)).drewN nq = W2 at *
        generalize wr.heap.size = B at *
        clear d1 d1n d3 d3n d2 d4 hsl
        go_loop [9] (fun v => ∃ m : Nat, v = .int .i64 m ∧ a ≤ m ∧ m ≤ i) (fun v => i - (intOf v).toNat)
        case atStart => exact ⟨a, rfl, Nat.le_refl _, hge⟩
        case round =>
          obtain ⟨m, rfl, hm1, hm2⟩ := hrel
          by_cases hmi : m < i
          · have hdm : decide ((m : Int) < (i : Int)) = true := by rw [decide_eq_true_eq]; omega
            have hms : m < s.size := by omega
            have hbm : blankN s[m].toNat = true := by rw [byt_eq hms]; exact HBL.out m hm1 hmi
            go_wp2_with fail
            refine (lblank_any _ _).mono ?_
            rintro e' w' ⟨rfl, rfl⟩
            rw [hbm]
            go_wp2_with fail
            go_round
            case rel => exact ⟨m + 1, by go_num, by omega, by omega⟩
            case measure => simp [intOf]; omega
          · have hdm : decide ((m : Int) < (i : Int)) = false := by rw [decide_eq_false_iff_not]; omega
            have hiez : (i : Int) + (y.size : Int) ≤ 1073741824 := by have := HIE.out; omega
            by_cases hk0 : 0 < k
            · have hk0d : decide ((k : Int) > 0) = true := by rw [decide_eq_true_eq]; omega
              by_cases hia : i = a
              · have hq1 : ((i : Int) == (a : Int)) = true := by simp [hia]
                have hy0 : innerN y[0].toNat = innerN (byt s a) := by
                  have h1 := HSZ.out
                  rw [byt_eq hz0, HBY.out 0 (by omega), Nat.add_zero, hia]
                have hgap := HGAP.out hk0
                have hA1 : (a : Int) - 1 = ((a - 1 : Nat) : Int) := by omega
                have has : a - 1 < s.size := by omega
                cases hin : innerN (byt s a)
                · rw [hin] at hy0
                  clear hia hgap hA1 hin
                  go_wp2_with fail
                  refine (lword_any _ _).mono ?_
                  rintro e' w' ⟨rfl, rfl⟩
                  rw [hy0]
                  go_wp2_with fail
                  refine (kindT_any y _ (by omega)).mono ?_
                  rintro e' w3 ⟨rfl, hb3⟩
                  rw [hkd]
                  replace b0 := (hb3.cell (p := ⟨B, 0, none⟩) hB).trans b0
                  replace b2 := (hb3.cell (p := ⟨B, 2, none⟩) hB).trans b2
                  have HD3 := Lib.hid (hD2.trans (hb3.mono hD2.size))
                  have hqne : (q != 0) = true := by simpa using m4
                  rw [hqne]
                  clear hb3 b1 hqne
                  obtain ⟨wo, rfl⟩ : ∃ wo : World, wo = w3 := ⟨_, rfl⟩
                  by_cases hq3 : q ≤ 3
                  · have HQ := Lib.hid hq3
                    have e1 : decide ((q : Int) < 1) = false := by rw [decide_eq_false_iff_not]; omega
                    have e2 : decide ((q : Int) > 3) = false := by rw [decide_eq_false_iff_not]; omega
                    have e3 : decide ((q : Int) ≤ 3) = true := by rw [decide_eq_true_eq]; omega
                    have e5 : 1 ≤ q := by omega
                    by_cases hy1 : 1 < y.size
                    · have e4 : decide ((y.size : Int) > 1) = true := by rw [decide_eq_true_eq]; omega
                      go_wp2_with fail
                      go_loopw [12] (fun v wr => ∃ j : Nat, v = .int .i64 j ∧ j ≤ y.size ∧ Below w1.heap.size w1 wr ∧ wr.cell? ⟨B, 2, none⟩ = some (.string y)) (fun v _ => y.size - (intOf v).toNat)
                      case atStart => exact ⟨0, rfl, Nat.zero_le _, HD3.out, b2⟩
                      case round =>
                        clear b2
                        obtain ⟨j, rfl, hj, hbj, b2⟩ := hrel
                        by_cases hjl : j < y.size
                        · have hdj : decide ((j : Int) < (y.size : Int)) = true := by rw [decide_eq_true_eq]; omega
                          have hin : innerN y[j].toNat = true := by
                            have h1 := HSZ.out
                            rw [byt_eq hjl, HBY.out j (by omega)]
                            exact HIN.out j HQ.out (by omega)
                          go_wp2_with fail
                          refine (lword_any _ _).mono ?_
                          rintro e' w' ⟨rfl, rfl⟩
                          rw [hin]
                          go_wp2_with fail
                          go_roundw
                          case rel => exact ⟨j + 1, by go_num, by omega, hbj, b2⟩
                          case measure => simp [intOf]; omega
                        · have hdj : decide ((j : Int) < (y.size : Int)) = false := by rw [decide_eq_false_iff_not]; omega
                          go_wp2_with fail
                          go_roundw
                          case rel => exact ⟨k + 1, e, by omega, by go_num, by rw [← HIE.out], by omega, HM6, hbj⟩
                          case measure => simp [intOf]; omega
                    · have e4 : decide ((y.size : Int) > 1) = false := by rw [decide_eq_false_iff_not]; omega
                      go_wp2_with fail
                      go_loopw [12] (fun v wr => ∃ j : Nat, v = .int .i64 j ∧ j ≤ y.size ∧ Below w1.heap.size w1 wr ∧ wr.cell? ⟨B, 2, none⟩ = some (.string y)) (fun v _ => y.size - (intOf v).toNat)
                      case atStart => exact ⟨0, rfl, Nat.zero_le _, HD3.out, b2⟩
                      case round =>
                        clear b2
                        obtain ⟨j, rfl, hj, hbj, b2⟩ := hrel
                        by_cases hjl : j < y.size
                        · have hdj : decide ((j : Int) < (y.size : Int)) = true := by rw [decide_eq_true_eq]; omega
                          have hin : innerN y[j].toNat = true := by
                            have h1 := HSZ.out
                            rw [byt_eq hjl, HBY.out j (by omega)]
                            exact HIN.out j HQ.out (by omega)
                          go_wp2_with fail
                          refine (lword_any _ _).mono ?_
                          rintro e' w' ⟨rfl, rfl⟩
                          rw [hin]
                          go_wp2_with fail
                          go_roundw
                          case rel => exact ⟨j + 1, by go_num, by omega, hbj, b2⟩
                          case measure => simp [intOf]; omega
                        · have hdj : decide ((j : Int) < (y.size : Int)) = false := by rw [decide_eq_false_iff_not]; omega
                          go_wp2_with fail
                          go_roundw
                          case rel => exact ⟨k + 1, e, by omega, by go_num, by rw [← HIE.out], by omega, HM6, hbj⟩
                          case measure => simp [intOf]; omega
                  · have hy1 : y.size = 1 := by have h1 := HSZ.out; have := hsg hq3; omega
                    have e1 : ¬ 1 < y.size := by omega
                    have e4 : decide ((y.size : Int) > 1) = false := by rw [decide_eq_false_iff_not]; omega
                    have e3 : decide ((q : Int) ≤ 3) = false := by rw [decide_eq_false_iff_not]; omega
                    have hjl : decide (0 < (y.size : Int)) = true := by rw [decide_eq_true_eq]; omega
                    clear hy1
                    go_wp2_with fail
                    refine wp_loop_rounds 1 ?_
                    rw [rounds_succ]
                    go_wp2_with fail
                    go_roundw
                    case rel => exact ⟨k + 1, e, by omega, by go_num, by rw [← HIE.out], by omega, HM6, HD3.out⟩
                    case measure => simp [intOf]; omega
                · rw [hin] at hy0
                  have hp : innerN (byt s (a - 1)) = false := by
                    cases h : innerN (byt s (a - 1))
                    · rfl
                    · rw [hgap.2 h (by omega)] at hin; cases hin
                  have hp' : innerN s[a - 1].toNat = false := by rw [byt_eq has]; exact hp
                  have ha0 : 1 ≤ a := hgap.1
                  clear hia hgap hin hp
                  go_wp2_with fail
                  refine (lword_any _ _).mono ?_
                  rintro e' w' ⟨rfl, rfl⟩
                  rw [hy0]
                  go_wp2_with fail
                  refine (lword_any _ _).mono ?_
                  rintro e' w' ⟨rfl, rfl⟩
                  rw [hp']
                  go_wp2_with fail
                  refine (kindT_any y _ (by omega)).mono ?_
                  rintro e' w3 ⟨rfl, hb3⟩
                  rw [hkd]
                  replace b0 := (hb3.cell (p := ⟨B, 0, none⟩) hB).trans b0
                  replace b2 := (hb3.cell (p := ⟨B, 2, none⟩) hB).trans b2
                  have HD3 := Lib.hid (hD2.trans (hb3.mono hD2.size))
                  have hqne : (q != 0) = true := by simpa using m4
                  rw [hqne]
                  clear hb3 b1 hqne
                  obtain ⟨wo, rfl⟩ : ∃ wo : World, wo = w3 := ⟨_, rfl⟩
                  by_cases hq3 : q ≤ 3
                  · have HQ := Lib.hid hq3
                    have e1 : decide ((q : Int) < 1) = false := by rw [decide_eq_false_iff_not]; omega
                    have e2 : decide ((q : Int) > 3) = false := by rw [decide_eq_false_iff_not]; omega
                    have e3 : decide ((q : Int) ≤ 3) = true := by rw [decide_eq_true_eq]; omega
                    have e5 : 1 ≤ q := by omega
                    by_cases hy1 : 1 < y.size
                    · have e4 : decide ((y.size : Int) > 1) = true := by rw [decide_eq_true_eq]; omega
                      go_wp2_with fail
                      go_loopw [12] (fun v wr => ∃ j : Nat, v = .int .i64 j ∧ j ≤ y.size ∧ Below w1.heap.size w1 wr ∧ wr.cell? ⟨B, 2, none⟩ = some (.string y)) (fun v _ => y.size - (intOf v).toNat)
                      case atStart => exact ⟨0, rfl, Nat.zero_le _, HD3.out, b2⟩
                      case round =>
                        clear b2
                        obtain ⟨j, rfl, hj, hbj, b2⟩ := hrel
                        by_cases hjl : j < y.size
                        · have hdj : decide ((j : Int) < (y.size : Int)) = true := by rw [decide_eq_true_eq]; omega
                          have hin : innerN y[j].toNat = true := by
                            have h1 := HSZ.out
                            rw [byt_eq hjl, HBY.out j (by omega)]
                            exact HIN.out j HQ.out (by omega)
                          go_wp2_with fail
                          refine (lword_any _ _).mono ?_
                          rintro e' w' ⟨rfl, rfl⟩
                          rw [hin]
                          go_wp2_with fail
                          go_roundw
                          case rel => exact ⟨j + 1, by go_num, by omega, hbj, b2⟩
                          case measure => simp [intOf]; omega
                        · have hdj : decide ((j : Int) < (y.size : Int)) = false := by rw [decide_eq_false_iff_not]; omega
                          go_wp2_with fail
                          go_roundw
                          case rel => exact ⟨k + 1, e, by omega, by go_num, by rw [← HIE.out], by omega, HM6, hbj⟩
                          case measure => simp [intOf]; omega
                    · have e4 : decide ((y.size : Int) > 1) = false := by rw [decide_eq_false_iff_not]; omega
                      go_wp2_with fail
                      go_loopw [12] (fun v wr => ∃ j : Nat, v = .int .i64 j ∧ j ≤ y.size ∧ Below w1.heap.size w1 wr ∧ wr.cell? ⟨B, 2, none⟩ = some (.string y)) (fun v _ => y.size - (intOf v).toNat)
                      case atStart => exact ⟨0, rfl, Nat.zero_le _, HD3.out, b2⟩
                      case round =>
                        clear b2
                        obtain ⟨j, rfl, hj, hbj, b2⟩ := hrel
                        by_cases hjl : j < y.size
                        · have hdj : decide ((j : Int) < (y.size : Int)) = true := by rw [decide_eq_true_eq]; omega
                          have hin : innerN y[j].toNat = true := by
                            have h1 := HSZ.out
                            rw [byt_eq hjl, HBY.out j (by omega)]
                            exact HIN.out j HQ.out (by omega)
                          go_wp2_with fail
                          refine (lword_any _ _).mono ?_
                          rintro e' w' ⟨rfl, rfl⟩
                          rw [hin]
                          go_wp2_with fail
                          go_roundw
                          case rel => exact ⟨j + 1, by go_num, by omega, hbj, b2⟩
                          case measure => simp [intOf]; omega
                        · have hdj : decide ((j : Int) < (y.size : Int)) = false := by rw [decide_eq_false_iff_not]; omega
                          go_wp2_with fail
                          go_roundw
                          case rel => exact ⟨k + 1, e, by omega, by go_num, by rw [← HIE.out], by omega, HM6, hbj⟩
                          case measure => simp [intOf]; omega
                  · have hy1 : y.size = 1 := by have h1 := HSZ.out; have := hsg hq3; omega
                    have e1 : ¬ 1 < y.size := by omega
                    have e4 : decide ((y.size : Int) > 1) = false := by rw [decide_eq_false_iff_not]; omega
                    have e3 : decide ((q : Int) ≤ 3) = false := by rw [decide_eq_false_iff_not]; omega
                    have hjl : decide (0 < (y.size : Int)) = true := by rw [decide_eq_true_eq]; omega
                    clear hy1
                    go_wp2_with fail
                    refine wp_loop_rounds 1 ?_
                    rw [rounds_succ]
                    go_wp2_with fail
                    go_roundw
                    case rel => exact ⟨k + 1, e, by omega, by go_num, by rw [← HIE.out], by omega, HM6, HD3.out⟩
                    case measure => simp [intOf]; omega
              · have hq1 : ((i : Int) == (a : Int)) = false := by simp; omega
                clear hia
                go_wp2_with fail
                refine (kindT_any y _ (by omega)).mono ?_
                rintro e' w3 ⟨rfl, hb3⟩
                rw [hkd]
                replace b0 := (hb3.cell (p := ⟨B, 0, none⟩) hB).trans b0
                replace b2 := (hb3.cell (p := ⟨B, 2, none⟩) hB).trans b2
                have HD3 := Lib.hid (hD2.trans (hb3.mono hD2.size))
                have hqne : (q != 0) = true := by simpa using m4
                rw [hqne]
                clear hb3 b1 hqne
                obtain ⟨wo, rfl⟩ : ∃ wo : World, wo = w3 := ⟨_, rfl⟩
                by_cases hq3 : q ≤ 3
                · have HQ := Lib.hid hq3
                  have e1 : decide ((q : Int) < 1) = false := by rw [decide_eq_false_iff_not]; omega
                  have e2 : decide ((q : Int) > 3) = false := by rw [decide_eq_false_iff_not]; omega
                  have e3 : decide ((q : Int) ≤ 3) = true := by rw [decide_eq_true_eq]; omega
                  have e5 : 1 ≤ q := by omega
                  by_cases hy1 : 1 < y.size
                  · have e4 : decide ((y.size : Int) > 1) = true := by rw [decide_eq_true_eq]; omega
                    go_wp2_with fail
                    go_loopw [12] (fun v wr => ∃ j : Nat, v = .int .i64 j ∧ j ≤ y.size ∧ Below w1.heap.size w1 wr ∧ wr.cell? ⟨B, 2, none⟩ = some (.string y)) (fun v _ => y.size - (intOf v).toNat)
                    case atStart => exact ⟨0, rfl, Nat.zero_le _, HD3.out, b2⟩
                    case round =>
                      clear b2
                      obtain ⟨j, rfl, hj, hbj, b2⟩ := hrel
                      by_cases hjl : j < y.size
                      · have hdj : decide ((j : Int) < (y.size : Int)) = true := by rw [decide_eq_true_eq]; omega
                        have hin : innerN y[j].toNat = true := by
                          have h1 := HSZ.out
                          rw [byt_eq hjl, HBY.out j (by omega)]
                          exact HIN.out j HQ.out (by omega)
                        go_wp2_with fail
                        refine (lword_any _ _).mono ?_
                        rintro e' w' ⟨rfl, rfl⟩
                        rw [hin]
                        go_wp2_with fail
                        go_roundw
                        case rel => exact ⟨j + 1, by go_num, by omega, hbj, b2⟩
                        case measure => simp [intOf]; omega
                      · have hdj : decide ((j : Int) < (y.size : Int)) = false := by rw [decide_eq_false_iff_not]; omega
                        go_wp2_with fail
                        go_roundw
                        case rel => exact ⟨k + 1, e, by omega, by go_num, by rw [← HIE.out], by omega, HM6, hbj⟩
                        case measure => simp [intOf]; omega
                  · have e4 : decide ((y.size : Int) > 1) = false := by rw [decide_eq_false_iff_not]; omega
                    go_wp2_with fail
                    go_loopw [12] (fun v wr => ∃ j : Nat, v = .int .i64 j ∧ j ≤ y.size ∧ Below w1.heap.size w1 wr ∧ wr.cell? ⟨B, 2, none⟩ = some (.string y)) (fun v _ => y.size - (intOf v).toNat)
                    case atStart => exact ⟨0, rfl, Nat.zero_le _, HD3.out, b2⟩
                    case round =>
                      clear b2
                      obtain ⟨j, rfl, hj, hbj, b2⟩ := hrel
                      by_cases hjl : j < y.size
                      · have hdj : decide ((j : Int) < (y.size : Int)) = true := by rw [decide_eq_true_eq]; omega
                        have hin : innerN y[j].toNat = true := by
                          have h1 := HSZ.out
                          rw [byt_eq hjl, HBY.out j (by omega)]
                          exact HIN.out j HQ.out (by omega)
                        go_wp2_with fail
                        refine (lword_any _ _).mono ?_
                        rintro e' w' ⟨rfl, rfl⟩
                        rw [hin]
                        go_wp2_with fail
                        go_roundw
                        case rel => exact ⟨j + 1, by go_num, by omega, hbj, b2⟩
                        case measure => simp [intOf]; omega
                      · have hdj : decide ((j : Int) < (y.size : Int)) = false := by rw [decide_eq_false_iff_not]; omega
                        go_wp2_with fail
                        go_roundw
                        case rel => exact ⟨k + 1, e, by omega, by go_num, by rw [← HIE.out], by omega, HM6, hbj⟩
                        case measure => simp [intOf]; omega
                · have hy1 : y.size = 1 := by have h1 := HSZ.out; have := hsg hq3; omega
                  have e1 : ¬ 1 < y.size := by omega
                  have e4 : decide ((y.size : Int) > 1) = false := by rw [decide_eq_false_iff_not]; omega
                  have e3 : decide ((q : Int) ≤ 3) = false := by rw [decide_eq_false_iff_not]; omega
                  have hjl : decide (0 < (y.size : Int)) = true := by rw [decide_eq_true_eq]; omega
                  clear hy1
                  go_wp2_with fail
                  refine wp_loop_rounds 1 ?_
                  rw [rounds_succ]
                  go_wp2_with fail
                  go_roundw
                  case rel => exact ⟨k + 1, e, by omega, by go_num, by rw [← HIE.out], by omega, HM6, HD3.out⟩
                  case measure => simp [intOf]; omega
            · have hk0d : decide ((k : Int) > 0) = false := by rw [decide_eq_false_iff_not]; omega
              go_wp2_with fail
              refine (kindT_any y _ (by omega)).mono ?_
              rintro e' w3 ⟨rfl, hb3⟩
              rw [hkd]
              replace b0 := (hb3.cell (p := ⟨B, 0, none⟩) hB).trans b0
              replace b2 := (hb3.cell (p := ⟨B, 2, none⟩) hB).trans b2
              have HD3 := Lib.hid (hD2.trans (hb3.mono hD2.size))
              have hqne : (q != 0) = true := by simpa using m4
              rw [hqne]
              clear hb3 b1 hqne
              obtain ⟨wo, rfl⟩ : ∃ wo : World, wo = w3 := ⟨_, rfl⟩
              by_cases hq3 : q ≤ 3
              · have HQ := Lib.hid hq3
                have e1 : decide ((q : Int) < 1) = false := by rw [decide_eq_false_iff_not]; omega
                have e2 : decide ((q : Int) > 3) = false := by rw [decide_eq_false_iff_not]; omega
                have e3 : decide ((q : Int) ≤ 3) = true := by rw [decide_eq_true_eq]; omega
                have e5 : 1 ≤ q := by omega
                by_cases hy1 : 1 < y.size
                · have e4 : decide ((y.size : Int) > 1) = true := by rw [decide_eq_true_eq]; omega
                  go_wp2_with fail
                  go_loopw [12] (fun v wr => ∃ j : Nat, v = .int .i64 j ∧ j ≤ y.size ∧ Below w1.heap.size w1 wr ∧ wr.cell? ⟨B, 2, none⟩ = some (.string y)) (fun v _ => y.size - (intOf v).toNat)
                  case atStart => exact ⟨0, rfl, Nat.zero_le _, HD3.out, b2⟩
                  case round =>
                    clear b2
                    obtain ⟨j, rfl, hj, hbj, b2⟩ := hrel
                    by_cases hjl : j < y.size
                    · have hdj : decide ((j : Int) < (y.size : Int)) = true := by rw [decide_eq_true_eq]; omega
                      have hin : innerN y[j].toNat = true := by
                        have h1 := HSZ.out
                        rw [byt_eq hjl, HBY.out j (by omega)]
                        exact HIN.out j HQ.out (by omega)
                      go_wp2_with fail
                      refine (lword_any _ _).mono ?_
                      rintro e' w' ⟨rfl, rfl⟩
                      rw [hin]
                      go_wp2_with fail
                      go_roundw
                      case rel => exact ⟨j + 1, by go_num, by omega, hbj, b2⟩
                      case measure => simp [intOf]; omega
                    · have hdj : decide ((j : Int) < (y.size : Int)) = false := by rw [decide_eq_false_iff_not]; omega
                      go_wp2_with fail
                      go_roundw
                      case rel => exact ⟨k + 1, e, by omega, by go_num, by rw [← HIE.out], by omega, HM6, hbj⟩
                      case measure => simp [intOf]; omega
                · have e4 : decide ((y.size : Int) > 1) = false := by rw [decide_eq_false_iff_not]; omega
                  go_wp2_with fail
                  go_loopw [12] (fun v wr => ∃ j : Nat, v = .int .i64 j ∧ j ≤ y.size ∧ Below w1.heap.size w1 wr ∧ wr.cell? ⟨B, 2, none⟩ = some (.string y)) (fun v _ => y.size - (intOf v).toNat)
                  case atStart => exact ⟨0, rfl, Nat.zero_le _, HD3.out, b2⟩
                  case round =>
                    clear b2
                    obtain ⟨j, rfl, hj, hbj, b2⟩ := hrel
                    by_cases hjl : j < y.size
                    · have hdj : decide ((j : Int) < (y.size : Int)) = true := by rw [decide_eq_true_eq]; omega
                      have hin : innerN y[j].toNat = true := by
                        have h1 := HSZ.out
                        rw [byt_eq hjl, HBY.out j (by omega)]
                        exact HIN.out j HQ.out (by omega)
                      go_wp2_with fail
                      refine (lword_any _ _).mono ?_
                      rintro e' w' ⟨rfl, rfl⟩
                      rw [hin]
                      go_wp2_with fail
                      go_roundw
                      case rel => exact ⟨j + 1, by go_num, by omega, hbj, b2⟩
                      case measure => simp [intOf]; omega
                    · have hdj : decide ((j : Int) < (y.size : Int)) = false := by rw [decide_eq_false_iff_not]; omega
                      go_wp2_with fail
                      go_roundw
                      case rel => exact ⟨k + 1, e, by omega, by go_num, by rw [← HIE.out], by omega, HM6, hbj⟩
                      case measure => simp [intOf]; omega
              · have hy1 : y.size = 1 := by have h1 := HSZ.out; have := hsg hq3; omega
                have e1 : ¬ 1 < y.size := by omega
                have e4 : decide ((y.size : Int) > 1) = false := by rw [decide_eq_false_iff_not]; omega
                have e3 : decide ((q : Int) ≤ 3) = false := by rw [decide_eq_false_iff_not]; omega
                have hjl : decide (0 < (y.size : Int)) = true := by rw [decide_eq_true_eq]; omega
                clear hy1
                go_wp2_with fail
                refine wp_loop_rounds 1 ?_
                rw [rounds_succ]
                go_wp2_with fail
                go_roundw
                case rel => exact ⟨k + 1, e, by omega, by go_num, by rw [← HIE.out], by omega, HM6, HD3.out⟩
                case measure => simp [intOf]; omega
      · have hdk : decide ((k : Int) < ((ml s).length : Int)) = false := by rw [decide_eq_false_iff_not]; omega
        have HBL := Lib.hid (DN.out a (by have := HP.out; rwa [show k = (ml s).length by omega] at this))
        have HD2 := Lib.hid hbl
        clear hbl
        go_wp2_with fail
        go_loop [13] (fun v => ∃ m : Nat, v = .int .i64 m ∧ a ≤ m ∧ m ≤ s.size) (fun v => s.size - (intOf v).toNat)
        case atStart => exact ⟨a, rfl, Nat.le_refl _, ha⟩
        case round =>
          obtain ⟨m, rfl, hm1, hm2⟩ := hrel
          by_cases hms : m < s.size
          · have hdm : decide ((m : Int) < (s.size : Int)) = true := by rw [decide_eq_true_eq]; omega
            have hbm : blankN s[m].toNat = true := by rw [byt_eq hms]; exact HBL.out m hm1 hms
            go_wp2_with fail
            refine (lblank_any _ _).mono ?_
            rintro e' w' ⟨rfl, rfl⟩
            rw [hbm]
            go_wp2_with fail
            go_round
            case rel => exact ⟨m + 1, by go_num, by omega, by omega⟩
            case measure => simp [intOf]; omega
          · have hdm : decide ((m : Int) < (s.size : Int)) = false := by rw [decide_eq_false_iff_not]; omega
            go_wp2_with fail
            refine (awake_any _).mono ?_
            rintro e' w4 ⟨rfl, hb4⟩
            go_wp2_with fail
            go_ret
            exact ⟨rfl, (HB.out.trans (HD2.out.mono HB.out.size)).trans (hb4.mono (Nat.le_trans HB.out.size HD2.out.size))⟩
end
end Go.Proofs.Ytogobjokjpddbaa
