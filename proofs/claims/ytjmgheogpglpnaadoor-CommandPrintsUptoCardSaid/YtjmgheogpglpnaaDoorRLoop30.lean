/-
  The document's Line of a verb that has a form. Made by gen/rloop30.py.
-/
import Derived.Test.YtjmgheogpglpnaaDoorRLine30
namespace Go.Proofs.YtjmgheogpglpnaaDoor
open Go.RowKit
set_option linter.unusedVariables false
set_option linter.unusedSimpArgs false
theorem cost_text (c : CI) : c.text.length ≤ costC c := by unfold costC; omega
theorem cost_name {c : CI} {u : Tx} (h : u ∈ c.names) : u.length ≤ costC c := by
  have : ∀ l : List Tx, u ∈ l → u.length ≤ txSum l := fun l => by
    induction l with
    | nil => intro h; cases h
    | cons x l ih =>
      intro h
      rcases List.mem_cons.1 h with rfl | h
      · simp only [txSum]; omega
      · have := ih h
        simp only [txSum]; omega
  have := this c.names h
  unfold costC; omega
theorem ub_isEmpty (u : Tx) : (⟨u.toArray⟩ : ByteArray).toList.isEmpty = u.isEmpty := by simp
theorem ub_size (u : Tx) : (⟨u.toArray⟩ : ByteArray).size = u.length := by simp [ByteArray.size]
theorem ub_add (s u : Tx) : (⟨s.toArray⟩ ++ ⟨#[32]⟩ ++ ⟨u.toArray⟩ : ByteArray) = ⟨(s ++ 32 :: u).toArray⟩ := by
  have := bytes_add (s ++ [32]) u
  rw [← bytes_add s [32], List.append_assoc] at this
  exact this
theorem form_len (v : Nat) : (formV v).length ≤ 5 := by unfold formV; (repeat' split) <;> simp
section
set_option maxHeartbeats 4000000
set_option maxRecDepth 100000
theorem rline_form (V : Value) (c : CI) (w : World) (h : CmI w V c) (v : Nat) (hv : c.v = (v : Int)) (h1 : 3 ≤ v) (h2 : v ≤ 10) (hcost : costC c ≤ 1048576) (hI : ∀ n ∈ c.nums, -9223372036854775808 ≤ n ∧ n ≤ 9223372036854775807) (hL : Lw w) : Calls Tryd.prog 28 #[V] w fun e w' => e = .returned (.tuple #[st (lineC c).1, .bool (lineC c).2]) ∧ Far (fun _ => False) w w' := by
  have WD := Lib.hid (fun w => rword_any c.v w)
  rw [if_pos (by omega), hv, Int.toNat_natCast] at WD
  have RF := Lib.hid (fun w => rform_at v h1 h2 w)
  have hwne : wordV v ≠ [] := (word_clean (v := v) (by omega) (by omega)).1
  have hw7 := verb_len v
  obtain ⟨z, hz⟩ : ∃ z, z = lineC c := ⟨_, rfl⟩
  rw [← hz]
  rw [lineC_form hv h1 h2] at hz
  obtain ⟨u0, hu0⟩ : ∃ u, u = wordV v := ⟨_, rfl⟩
  rw [← hu0] at WD hwne hw7 hz
  obtain ⟨vb, hvb⟩ : ∃ ub : ByteArray, ub = ⟨u0.toArray⟩ := ⟨_, rfl⟩
  have x5c : vb.toList.isEmpty = false := by
    rw [hvb, ub_isEmpty]
    cases u0 with
    | nil => exact absurd rfl hwne
    | cons _ _ => rfl
  rw [← hvb] at WD
  obtain ⟨fs, hfs⟩ : ∃ fs : ByteArray, fs = ⟨(formT v).toArray⟩ := ⟨_, rfl⟩
  have hfz : fs.size = (formV v).length := by rw [hfs]; simp [ByteArray.size, formT_map]
  have hfb : fs.size ≤ 5 := by rw [hfz]; exact form_len v
  rw [← hfs] at RF
  have x6 : decide ((v : Int) ≤ 2) = false := by rw [decide_eq_false_iff_not]; omega
  have IT := Lib.hid (fun (n : Int) (hn : n ∈ c.nums) (W : World) (hf : Far (fun _ => False) w W) => itoa_any n W (hI n hn).1 (hI n hn).2 (hL.far hf fun _ _ h => h))
  have HW := Lib.hid (fun w => rhow_any c.how w)
  obtain ⟨no, nc, mo, mc, rfl, hN, hM, hn1, hn2⟩ := h
  unfold cmdV
  obtain ⟨vv, hvv⟩ : ∃ x, x = c.v := ⟨_, rfl⟩
  obtain ⟨hh, hhh⟩ : ∃ x, x = c.how := ⟨_, rfl⟩
  obtain ⟨n1, hnn1⟩ : ∃ x, x = c.names.length := ⟨_, rfl⟩
  obtain ⟨n2, hnn2⟩ : ∃ x, x = c.nums.length := ⟨_, rfl⟩
  obtain ⟨tt, htt⟩ : ∃ x : ByteArray, x = ⟨c.text.toArray⟩ := ⟨_, rfl⟩
  rw [← hvv, ← hhh, ← hnn1, ← hnn2, ← htt]
  obtain ⟨kb, hkb⟩ : ∃ k, k = w.heap.size := ⟨_, rfl⟩
  obtain ⟨wb, hwb⟩ : ∃ W, W = w.alloc (.cells #[.int .i64 vv, .int .i64 hh, .slice no n1 nc, .slice mo n2 mc, .string tt] 27) := ⟨_, rfl⟩
  have hF := Lib.hid (show Far (fun _ => False) w wb from hwb ▸ (Far.refl _ w).alloc _)
  have hB := Lib.hid (hwb ▸ Bk.new hkb : Bk wb kb 27 #[.int .i64 vv, .int .i64 hh, .slice no n1 nc, .slice mo n2 mc, .string tt])
  have hN' := Lib.hid (hN.move hF.out)
  have hM' := Lib.hid (hM.move hF.out)
  have hkb' := Lib.hid hkb
  have hwb' := Lib.hid hwb
  have q0 : wb.cell? ⟨kb, 0, none⟩ = some (.int .i64 vv) := hB.out.cell 0
  have q1 : wb.cell? ⟨kb, 1, none⟩ = some (.int .i64 hh) := hB.out.cell 1
  have q2 : wb.cell? ⟨kb, 2, none⟩ = some (.slice no n1 nc) := hB.out.cell 2
  have q3 : wb.cell? ⟨kb, 3, none⟩ = some (.slice mo n2 mc) := hB.out.cell 3
  have q4 : wb.cell? ⟨kb, 4, none⟩ = some (.string tt) := hB.out.cell 4
  have hnn1' := Lib.hid hnn1
  have hnn2' := Lib.hid hnn2
  have htt' := Lib.hid htt
  have hhh' := Lib.hid hhh
  have hvv' := Lib.hid hvv
  clear hkb hwb hN hM hnn1 hnn2 htt hhh hvv
  have e1 := hvv'.out
  rw [hv] at e1
  subst e1
  have hcost' := Lib.hid hcost
  have hz' := Lib.hid hz
  have hfs' := Lib.hid hfs
  have hfz' := Lib.hid hfz
  have hvb' := Lib.hid hvb
  have hw7' := Lib.hid hw7
  rw [← hhh'.out] at HW
  have st0 : (tt.size : Nat) ≤ 1048576 := by rw [htt'.out, ub_size]; exact Nat.le_trans (cost_text c) hcost
  have st0' := Lib.hid st0
  clear hn1 hn2 hv hcost hz hfs hfz hvb hw7 hwne hu0 h1 h2 hI hL st0
  unfold st
  go_enter Tryd.func28, Tryd.ntmps28
  go_upto_region 1 with fail
  rw [← hkb'.out, ← hwb'.out]
  go_wp2_with (first | (go_at_call 19; refine (WD.out _).mono ?_; rintro e w9 ⟨rfl, e9⟩; replace e9 := e9.symm; subst e9) | (go_at_call 23; refine (RF.out _).mono ?_; rintro e w9 ⟨rfl, e9⟩; replace e9 := e9.symm; subst e9))
  clear q0 q1 q2 q3 q4
  go_loopw [5, 6, 7, 8, 10] (fun sv av bv hv iv wr => ∃ (i a b : Nat) (s : Tx) (hx : Int), sv = .string ⟨s.toArray⟩ ∧ av = .int .i64 a ∧ bv = .int .i64 b ∧ hv = .int .i64 hx ∧ iv = .int .i64 i ∧ i ≤ fs.size ∧ lineL ((formV v).take i) c ⟨u0, 0, 0, 0⟩ = some ⟨s, a, b, hx⟩ ∧ a ≤ i ∧ b ≤ i ∧ s.length ≤ 7 + i * 1048600 ∧ Far (fun _ => False) wb wr) (fun _ _ _ _ iv _ => 5 - (intOf iv).toNat)
  case atStart => exact ⟨0, 0, 0, u0, 0, by rw [hvb'.out], rfl, rfl, rfl, rfl, Nat.zero_le _, rfl, Nat.le_refl _, Nat.le_refl _, by have := hw7'.out; omega, Far.refl _ _⟩
  case round =>
    obtain ⟨i, a, b, s, hx, rfl, rfl, rfl, rfl, rfl, hi, hrun, hai, hbi, hsl, hfw⟩ := hrel
    have hrun' := Lib.hid hrun
    have hfw' := Lib.hid hfw
    have hsl' := Lib.hid hsl
    obtain ⟨sb, hsb⟩ : ∃ sb : ByteArray, sb = ⟨s.toArray⟩ := ⟨_, rfl⟩
    rw [← hsb]
    have hsb' := Lib.hid hsb
    have hbk := Lib.hid (hB.out.far' hfw id)
    have q0 : wr.cell? ⟨kb, 0, none⟩ = some (.int .i64 (v : Int)) := hbk.out.cell 0
    have q1 : wr.cell? ⟨kb, 1, none⟩ = some (.int .i64 hh) := hbk.out.cell 1
    have q2 : wr.cell? ⟨kb, 2, none⟩ = some (.slice no n1 nc) := hbk.out.cell 2
    have q3 : wr.cell? ⟨kb, 3, none⟩ = some (.slice mo n2 mc) := hbk.out.cell 3
    have q4 : wr.cell? ⟨kb, 4, none⟩ = some (.string tt) := hbk.out.cell 4
    clear hrun hfw hsl hsb
    by_cases hlt : i < fs.size
    rotate_left
    · have e1 : decide ((i : Int) < (fs.size : Int)) = false := by rw [decide_eq_false_iff_not]; omega
      have hzs := Lib.hid (show z = (s, fitL c ⟨s, a, b, hx⟩) by
        have e := hrun'.out
        rw [List.take_of_length_le (by have := hfz'.out; omega)] at e
        rw [hz'.out, e])
      have e1n : decide (i < fs.size) = false := by rw [decide_eq_false_iff_not]; exact hlt
      by_cases y0 : c.text = []
      rotate_left
      · have z0 : tt.toList.isEmpty = false := by
          rw [htt'.out, ub_isEmpty]
          cases hc : c.text with
          | nil => exact absurd hc y0
          | cons _ _ => rfl
        have hff := Lib.hid (show fitL c ⟨s, a, b, hx⟩ = false by unfold fitL; rw [decide_eq_false y0]; rfl)
        clear y0
        go_wp2_with fail
        go_quiet (fail)
        go_wp2_with fail
        go_ret2
        exact ⟨by rw [hzs.out, hsb'.out]; simp only [hff.out]; rfl, by first | exact (hF.out.then hfw'.out).drewN _ | exact hF.out.then hfw'.out⟩
      have z0 : tt.toList.isEmpty = true := by rw [htt'.out, ub_isEmpty, y0]; rfl
      have y0' := Lib.hid y0
      clear y0
      by_cases y1 : n1 = a
      rotate_left
      · have z1 : ((a : Int) == (n1 : Int)) = false := by rw [beq_eq_false_iff_ne]; omega
        have z1b : ¬ ((a : Int) = (n1 : Int)) := by omega
        have hff := Lib.hid (show fitL c ⟨s, a, b, hx⟩ = false by unfold fitL; rw [show decide (a = c.names.length) = false from decide_eq_false (by rw [← hnn1'.out]; omega)]; simp)
        clear y1
        go_wp2_with fail
        go_quiet (fail)
        go_wp2_with fail
        go_ret2
        exact ⟨by rw [hzs.out, hsb'.out]; simp only [hff.out]; rfl, by first | exact (hF.out.then hfw'.out).drewN _ | exact hF.out.then hfw'.out⟩
      subst y1
      by_cases y2 : n2 = b
      rotate_left
      · have z2 : ((b : Int) == (n2 : Int)) = false := by rw [beq_eq_false_iff_ne]; omega
        have z2b : ¬ ((b : Int) = (n2 : Int)) := by omega
        have hff := Lib.hid (show fitL c ⟨s, n1, b, hx⟩ = false by unfold fitL; rw [show decide (b = c.nums.length) = false from decide_eq_false (by rw [← hnn2'.out]; omega)]; simp)
        clear y2
        go_wp2_with fail
        go_quiet (fail)
        go_wp2_with fail
        go_ret2
        exact ⟨by rw [hzs.out, hsb'.out]; simp only [hff.out]; rfl, by first | exact (hF.out.then hfw'.out).drewN _ | exact hF.out.then hfw'.out⟩
      subst y2
      by_cases y3 : hh = hx
      rotate_left
      · have z3 : (hx == hh) = false := by rw [beq_eq_false_iff_ne]; omega
        have z3b : ¬ (hx = hh) := by omega
        have hff := Lib.hid (show fitL c ⟨s, n1, n2, hx⟩ = false by unfold fitL; rw [show decide (hx = c.how) = false from decide_eq_false (by rw [← hhh'.out]; omega)]; simp)
        clear y3
        go_wp2_with fail
        go_quiet (fail)
        go_wp2_with fail
        go_ret2
        exact ⟨by rw [hzs.out, hsb'.out]; simp only [hff.out]; rfl, by first | exact (hF.out.then hfw'.out).drewN _ | exact hF.out.then hfw'.out⟩
      · subst y3
        have hff := Lib.hid (show fitL c ⟨s, n1, n2, hh⟩ = true by unfold fitL; rw [decide_eq_true y0'.out, decide_eq_true hnn1'.out, decide_eq_true hnn2'.out, decide_eq_true hhh'.out]; rfl)
        go_wp2_with fail
        go_quiet (fail)
        go_wp2_with fail
        go_ret2
        exact ⟨by rw [hzs.out, hsb'.out]; simp only [hff.out]; rfl, by first | exact (hF.out.then hfw'.out).drewN _ | exact hF.out.then hfw'.out⟩
    have e1 : decide ((i : Int) < (fs.size : Int)) = true := by rw [decide_eq_true_eq]; omega
    have hii : (i : Int) < (fs.size : Int) := by omega
    obtain ⟨t, ht⟩ : ∃ t, (formV v)[i]? = some t := ⟨(formV v)[i]'(by have := hfz'.out; omega), List.getElem?_eq_getElem _⟩
    have hfi : fs[i] = ltB t := byte_at hfs'.out ht hlt
    have hzn := Lib.hid (show ¬ okW (wordL t c ⟨s, a, b, hx⟩) → z = ([], false) from fun hk => by rw [hz'.out, line_fail hrun'.out ht hk])
    have hzy := Lib.hid (show okW (wordL t c ⟨s, a, b, hx⟩) → lineL ((formV v).take (i + 1)) c ⟨u0, 0, 0, 0⟩ = some (nextL t c ⟨s, a, b, hx⟩) from fun hk => by rw [line_step hrun'.out ht, if_pos hk])
    have hss : sb.size ≤ 5243007 := by
      have e : sb.size = s.length := by rw [hsb'.out, ub_size]
      have := hsl'.out
      omega
    clear ht
    cases t with
    | n =>
      have b1 : ((fs[i].toNat : Int) == 110) = true := by rw [hfi]; rfl
      have b2 : ((fs[i].toNat : Int) == 107) = false := by rw [hfi]; rfl
      have b3 : ((fs[i].toNat : Int) == 104) = false := by rw [hfi]; rfl
      clear hfi
      by_cases ha : a < n1
      · have c1 : decide ((a : Int) < (n1 : Int)) = true := by rw [decide_eq_true_eq]; omega
        have c2 : (a : Int) < (n1 : Int) := by omega
        have hlen : a < c.names.length := by rw [← hnn1'.out]; exact ha
        obtain ⟨g, off, eo, hg, hk⟩ := hN'.out (by omega)
        subst eo
        obtain ⟨u, hu⟩ : ∃ u, c.names[a]? = some u := ⟨c.names[a], List.getElem?_eq_getElem hlen⟩
        have d0 : wr.cell? ⟨g, off + a, none⟩ = some (.string ⟨u.toArray⟩) := (hfw'.out.cell hg).trans (hk a u hu)
        have hmem := List.mem_of_getElem? hu
        clear hk hlen ha
        have hwl := Lib.hid (show wordL .n c ⟨s, a, b, hx⟩ = u from by show c.names[a]?.getD [] = u; rw [hu]; rfl)
        have hus : u.length ≤ 1048590 := Nat.le_trans (cost_name hmem) (by have := hcost'.out; omega)
        have RW := Lib.hid (fun W => rwords_big u W (by omega))
        unfold st at RW
        obtain ⟨ub, hub⟩ : ∃ ub : ByteArray, ub = ⟨u.toArray⟩ := ⟨_, rfl⟩
        rw [← hub] at RW d0
        by_cases hbl : (32 : UInt8) ∈ u
        · obtain ⟨m, hm⟩ : ∃ m, m = (splitW u).length := ⟨_, rfl⟩
          have hm0 : 0 < m := by rw [hm]; exact words_pos u
          have hm1 : m ≠ 1 := by rw [hm]; exact words_more hbl
          rw [← hm] at RW
          have q1 : ((m : Int) != 1) = true := by simp; omega
          have q1b : ¬ ((m : Int) = 1) := by omega
          have hzz := Lib.hid (hzn.out (by rw [hwl.out]; exact fun h => h.2 hbl))
          clear hm hm1 hbl hub
          go_wp2_with (first | (go_at_call 21; refine (RW.out _).mono ?_; rintro e w4 ⟨wv, rfl, ho, hf⟩; obtain ⟨g4, cap4, rfl, _, _⟩ := World.ownsRow.form ho hm0; have hf4' := Lib.hid hf; clear ho hf))
          go_ret2
          exact ⟨by rw [hzz.out]; rfl, by first | exact (hF.out.then hfw'.out).then (hf4'.out)⟩
        rw [words_one hbl] at RW
        have hm0 : 0 < 1 := by decide
        by_cases hue : u = []
        · have z5 : ub.toList.isEmpty = true := by rw [hub, ub_isEmpty, hue]; rfl
          have hzz := Lib.hid (hzn.out (by rw [hwl.out]; exact fun h => h.1 hue))
          clear hbl hue hub
          go_wp2_with (first | (go_at_call 21; refine (RW.out _).mono ?_; rintro e w4 ⟨wv, rfl, ho, hf⟩; obtain ⟨g4, cap4, rfl, _, _⟩ := World.ownsRow.form ho hm0; have hf4' := Lib.hid hf; clear ho hf))
          go_ret2
          exact ⟨by rw [hzz.out]; rfl, by first | exact (hF.out.then hfw'.out).then (hf4'.out)⟩
        have z5 : ub.toList.isEmpty = false := by
          rw [hub, ub_isEmpty]
          cases u with
          | nil => exact absurd rfl hue
          | cons _ _ => rfl
        have s0 : ub.size ≤ 1048590 := by rw [hub, ub_size]; exact hus
        have s1 : ¬ (9223372036854775807 < sb.size + 1) := by omega
        have s2 : ¬ (9223372036854775807 < sb.size + 1 + ub.size) := by omega
        have s3 : ¬ (9223372036854775807 ≤ sb.size) := by omega
        have hok := Lib.hid (hzy.out (by rw [hwl.out]; exact ⟨hue, hbl⟩))
        have hub' := Lib.hid hub
        have hus' := Lib.hid hus
        clear hbl hue hub s0 hus
        go_wp2_with (first | (go_at_call 21; refine (RW.out _).mono ?_; rintro e w4 ⟨wv, rfl, ho, hf⟩; obtain ⟨g4, cap4, rfl, _, _⟩ := World.ownsRow.form ho hm0; have hf4' := Lib.hid hf; clear ho hf))
        go_roundw
        case rel => exact ⟨i + 1, a + 1, b, s ++ 32 :: u, hx, by rw [hsb'.out, hub'.out, ub_add], by first | rfl | go_num, by first | rfl | go_num, by first | rfl | go_num, by go_num, by omega, by rw [hok.out]; unfold nextL; dsimp only; rw [hwl.out], by omega, by omega, by have := hsl'.out; have := hus'.out; simp; omega, hfw'.out.then (hf4'.out)⟩
        case measure => simp [intOf]; omega
      · have c1 : decide ((a : Int) < (n1 : Int)) = false := by rw [decide_eq_false_iff_not]; omega
        have hlen : c.names.length ≤ a := by rw [← hnn1'.out]; omega
        have c1n : decide (a < n1) = false := by rw [decide_eq_false_iff_not]; exact ha
        have hlen' := Lib.hid hlen
        clear hlen
        have hzz := Lib.hid (hzn.out (by rw [show wordL .n c ⟨s, a, b, hx⟩ = [] from by show c.names[a]?.getD [] = []; rw [List.getElem?_eq_none hlen'.out]; rfl]; exact fun h => h.1 rfl))
        have RW := Lib.hid (fun W => rwords_big [] W (by simp))
        unfold st at RW
        rw [words_one (by simp : (32 : UInt8) ∉ ([] : Tx))] at RW
        have hm0 : 0 < 1 := by decide
        have z5 : (⟨#[]⟩ : ByteArray).toList.isEmpty = true := by kernel_rfl
        go_wp2_with (first | (go_at_call 21; refine (RW.out _).mono ?_; rintro e w4 ⟨wv, rfl, ho, hf⟩; obtain ⟨g4, cap4, rfl, _, _⟩ := World.ownsRow.form ho hm0; have hf4' := Lib.hid hf; clear ho hf))
        go_ret2
        exact ⟨by rw [hzz.out]; rfl, (hF.out.then hfw'.out).then hf4'.out⟩
    | k =>
      have b1 : ((fs[i].toNat : Int) == 110) = false := by rw [hfi]; rfl
      have b2 : ((fs[i].toNat : Int) == 107) = true := by rw [hfi]; rfl
      have b3 : ((fs[i].toNat : Int) == 104) = false := by rw [hfi]; rfl
      clear hfi
      by_cases hb : b < n2
      rotate_left
      · have c1 : decide ((b : Int) < (n2 : Int)) = false := by rw [decide_eq_false_iff_not]; omega
        have hlen : c.nums.length ≤ b := by rw [← hnn2'.out]; omega
        have c1n : decide (b < n2) = false := by rw [decide_eq_false_iff_not]; exact hb
        have hlen' := Lib.hid hlen
        clear hlen
        have hzz := Lib.hid (hzn.out (by rw [show wordL .k c ⟨s, a, b, hx⟩ = [] from by show numW c b = []; unfold numW; rw [List.getElem?_eq_none hlen'.out]]; exact fun h => h.1 rfl))
        have RW := Lib.hid (fun W => rwords_big [] W (by simp))
        unfold st at RW
        rw [words_one (by simp : (32 : UInt8) ∉ ([] : Tx))] at RW
        have hm0 : 0 < 1 := by decide
        have z5 : (⟨#[]⟩ : ByteArray).toList.isEmpty = true := by kernel_rfl
        go_wp2_with (first | (go_at_call 21; refine (RW.out _).mono ?_; rintro e w4 ⟨wv, rfl, ho, hf⟩; obtain ⟨g4, cap4, rfl, _, _⟩ := World.ownsRow.form ho hm0; have hf4' := Lib.hid hf; clear ho hf))
        go_ret2
        exact ⟨by rw [hzz.out]; rfl, (hF.out.then hfw'.out).then hf4'.out⟩
      have c1 : decide ((b : Int) < (n2 : Int)) = true := by rw [decide_eq_true_eq]; omega
      have c2 : (b : Int) < (n2 : Int) := by omega
      have hlen : b < c.nums.length := by rw [← hnn2'.out]; exact hb
      obtain ⟨g, off, eo, hg, hk⟩ := hM'.out (by omega)
      subst eo
      obtain ⟨x, hx'⟩ : ∃ x, c.nums[b]? = some x := ⟨c.nums[b], List.getElem?_eq_getElem hlen⟩
      have d0 : wr.cell? ⟨g, off + b, none⟩ = some (.int .i64 x) := (hfw'.out.cell hg).trans (hk b x hx')
      have hmem := List.mem_of_getElem? hx'
      clear hk hlen hb
      by_cases r0 : 0 ≤ x
      rotate_left
      · have k0 : decide (0 ≤ x) = false := by rw [decide_eq_false_iff_not]; exact r0
        have k0b : decide (x < 0) = true := by rw [decide_eq_true_eq]; omega
        have hwe : numW c b = [] := by unfold numW; rw [hx']; dsimp only; rw [if_neg (by omega)]
        clear r0
        have hzz := Lib.hid (hzn.out (by rw [show wordL .k c ⟨s, a, b, hx⟩ = [] from hwe]; exact fun h => h.1 rfl))
        have RW := Lib.hid (fun W => rwords_big [] W (by simp))
        unfold st at RW
        rw [words_one (by simp : (32 : UInt8) ∉ ([] : Tx))] at RW
        have hm0 : 0 < 1 := by decide
        have z5 : (⟨#[]⟩ : ByteArray).toList.isEmpty = true := by kernel_rfl
        go_wp2_with (first | (go_at_call 21; refine (RW.out _).mono ?_; rintro e w4 ⟨wv, rfl, ho, hf⟩; obtain ⟨g4, cap4, rfl, _, _⟩ := World.ownsRow.form ho hm0; have hf4' := Lib.hid hf; clear ho hf))
        go_ret2
        exact ⟨by rw [hzz.out]; rfl, (hF.out.then hfw'.out).then hf4'.out⟩
      have k0 : decide (0 ≤ x) = true := by rw [decide_eq_true_eq]; exact r0
      have k0b : decide (x < 0) = false := by rw [decide_eq_false_iff_not]; omega
      by_cases r1 : x ≤ 999999999
      rotate_left
      · have k1 : decide (x ≤ 999999999) = false := by rw [decide_eq_false_iff_not]; exact r1
        have k1b : decide (999999999 < x) = true := by rw [decide_eq_true_eq]; omega
        have hwe : numW c b = [] := by unfold numW; rw [hx']; dsimp only; rw [if_neg (by omega)]
        clear r0 r1
        have hzz := Lib.hid (hzn.out (by rw [show wordL .k c ⟨s, a, b, hx⟩ = [] from hwe]; exact fun h => h.1 rfl))
        have RW := Lib.hid (fun W => rwords_big [] W (by simp))
        unfold st at RW
        rw [words_one (by simp : (32 : UInt8) ∉ ([] : Tx))] at RW
        have hm0 : 0 < 1 := by decide
        have z5 : (⟨#[]⟩ : ByteArray).toList.isEmpty = true := by kernel_rfl
        go_wp2_with (first | (go_at_call 21; refine (RW.out _).mono ?_; rintro e w4 ⟨wv, rfl, ho, hf⟩; obtain ⟨g4, cap4, rfl, _, _⟩ := World.ownsRow.form ho hm0; have hf4' := Lib.hid hf; clear ho hf))
        go_ret2
        exact ⟨by rw [hzz.out]; rfl, (hF.out.then hfw'.out).then hf4'.out⟩
      have k1 : decide (x ≤ 999999999) = true := by rw [decide_eq_true_eq]; exact r1
      have k1b : decide (999999999 < x) = false := by rw [decide_eq_false_iff_not]; omega
      obtain ⟨u, hu⟩ : ∃ u, u = Lib.itoa x := ⟨_, rfl⟩
      have hwe : numW c b = u := by unfold numW; rw [hx']; dsimp only; rw [if_pos ⟨r0, r1⟩, hu]
      have hul : u.length ≤ 1048590 := by rw [hu]; exact Nat.le_trans (Lib.itoa_length_le x (by omega) (by omega)) (by decide)
      have IT1 := Lib.hid (fun W hf => hu.symm ▸ IT.out x hmem W hf)
      clear r0 r1 hu
      have hwl := Lib.hid (show wordL .k c ⟨s, a, b, hx⟩ = u from hwe)
      have hus : u.length ≤ 1048590 := hul
      have RW := Lib.hid (fun W => rwords_big u W (by omega))
      unfold st at RW
      obtain ⟨ub, hub⟩ : ∃ ub : ByteArray, ub = ⟨u.toArray⟩ := ⟨_, rfl⟩
      rw [← hub] at RW IT1
      by_cases hbl : (32 : UInt8) ∈ u
      · obtain ⟨m, hm⟩ : ∃ m, m = (splitW u).length := ⟨_, rfl⟩
        have hm0 : 0 < m := by rw [hm]; exact words_pos u
        have hm1 : m ≠ 1 := by rw [hm]; exact words_more hbl
        rw [← hm] at RW
        have q1 : ((m : Int) != 1) = true := by simp; omega
        have q1b : ¬ ((m : Int) = 1) := by omega
        have hzz := Lib.hid (hzn.out (by rw [hwl.out]; exact fun h => h.2 hbl))
        clear hm hm1 hbl hub
        go_wp2_with (first | (go_at_call 38; refine (IT1.out _ (hF.out.then hfw'.out)).mono ?_; rintro e w3 ⟨rfl, hf⟩; have hf3' := Lib.hid hf; clear hf) | (go_at_call 21; refine (RW.out _).mono ?_; rintro e w4 ⟨wv, rfl, ho, hf⟩; obtain ⟨g4, cap4, rfl, _, _⟩ := World.ownsRow.form ho hm0; have hf4' := Lib.hid hf; clear ho hf))
        go_ret2
        exact ⟨by rw [hzz.out]; rfl, by first | exact (hF.out.then hfw'.out).then (hf3'.out.then hf4'.out)⟩
      rw [words_one hbl] at RW
      have hm0 : 0 < 1 := by decide
      by_cases hue : u = []
      · have z5 : ub.toList.isEmpty = true := by rw [hub, ub_isEmpty, hue]; rfl
        have hzz := Lib.hid (hzn.out (by rw [hwl.out]; exact fun h => h.1 hue))
        clear hbl hue hub
        go_wp2_with (first | (go_at_call 38; refine (IT1.out _ (hF.out.then hfw'.out)).mono ?_; rintro e w3 ⟨rfl, hf⟩; have hf3' := Lib.hid hf; clear hf) | (go_at_call 21; refine (RW.out _).mono ?_; rintro e w4 ⟨wv, rfl, ho, hf⟩; obtain ⟨g4, cap4, rfl, _, _⟩ := World.ownsRow.form ho hm0; have hf4' := Lib.hid hf; clear ho hf))
        go_ret2
        exact ⟨by rw [hzz.out]; rfl, by first | exact (hF.out.then hfw'.out).then (hf3'.out.then hf4'.out)⟩
      have z5 : ub.toList.isEmpty = false := by
        rw [hub, ub_isEmpty]
        cases u with
        | nil => exact absurd rfl hue
        | cons _ _ => rfl
      have s0 : ub.size ≤ 1048590 := by rw [hub, ub_size]; exact hus
      have s1 : ¬ (9223372036854775807 < sb.size + 1) := by omega
      have s2 : ¬ (9223372036854775807 < sb.size + 1 + ub.size) := by omega
      have s3 : ¬ (9223372036854775807 ≤ sb.size) := by omega
      have hok := Lib.hid (hzy.out (by rw [hwl.out]; exact ⟨hue, hbl⟩))
      have hub' := Lib.hid hub
      have hus' := Lib.hid hus
      clear hbl hue hub s0 hus
      go_wp2_with (first | (go_at_call 38; refine (IT1.out _ (hF.out.then hfw'.out)).mono ?_; rintro e w3 ⟨rfl, hf⟩; have hf3' := Lib.hid hf; clear hf) | (go_at_call 21; refine (RW.out _).mono ?_; rintro e w4 ⟨wv, rfl, ho, hf⟩; obtain ⟨g4, cap4, rfl, _, _⟩ := World.ownsRow.form ho hm0; have hf4' := Lib.hid hf; clear ho hf))
      go_roundw
      case rel => exact ⟨i + 1, a, b + 1, s ++ 32 :: u, hx, by rw [hsb'.out, hub'.out, ub_add], by first | rfl | go_num, by first | rfl | go_num, by first | rfl | go_num, by go_num, by omega, by rw [hok.out]; unfold nextL; dsimp only; rw [hwl.out], by omega, by omega, by have := hsl'.out; have := hus'.out; simp; omega, hfw'.out.then (hf3'.out.then hf4'.out)⟩
      case measure => simp [intOf]; omega
    | h =>
      have b1 : ((fs[i].toNat : Int) == 110) = false := by rw [hfi]; rfl
      have b2 : ((fs[i].toNat : Int) == 107) = false := by rw [hfi]; rfl
      have b3 : ((fs[i].toNat : Int) == 104) = true := by rw [hfi]; rfl
      clear hfi
      obtain ⟨u, hu⟩ : ∃ u, u = hwT hh := ⟨_, rfl⟩
      rw [← hu] at HW
      have hul : u.length ≤ 1048590 := by rw [hu]; exact Nat.le_trans (hwT_len hh) (by decide)
      have hwe : hwT c.how = u := by rw [hu, hhh'.out]
      clear hu
      have hwl := Lib.hid (show wordL .h c ⟨s, a, b, hx⟩ = u from hwe)
      have hus : u.length ≤ 1048590 := hul
      have RW := Lib.hid (fun W => rwords_big u W (by omega))
      unfold st at RW
      obtain ⟨ub, hub⟩ : ∃ ub : ByteArray, ub = ⟨u.toArray⟩ := ⟨_, rfl⟩
      rw [← hub] at RW HW
      by_cases hbl : (32 : UInt8) ∈ u
      · obtain ⟨m, hm⟩ : ∃ m, m = (splitW u).length := ⟨_, rfl⟩
        have hm0 : 0 < m := by rw [hm]; exact words_pos u
        have hm1 : m ≠ 1 := by rw [hm]; exact words_more hbl
        rw [← hm] at RW
        have q1 : ((m : Int) != 1) = true := by simp; omega
        have q1b : ¬ ((m : Int) = 1) := by omega
        have hzz := Lib.hid (hzn.out (by rw [hwl.out]; exact fun h => h.2 hbl))
        clear hm hm1 hbl hub
        go_wp2_with (first | (go_at_call 25; refine (HW.out _).mono ?_; rintro e w9 ⟨rfl, e9⟩; replace e9 := e9.symm; subst e9) | (go_at_call 21; refine (RW.out _).mono ?_; rintro e w4 ⟨wv, rfl, ho, hf⟩; obtain ⟨g4, cap4, rfl, _, _⟩ := World.ownsRow.form ho hm0; have hf4' := Lib.hid hf; clear ho hf))
        go_ret2
        exact ⟨by rw [hzz.out]; rfl, by first | exact (hF.out.then hfw'.out).then (hf4'.out)⟩
      rw [words_one hbl] at RW
      have hm0 : 0 < 1 := by decide
      by_cases hue : u = []
      · have z5 : ub.toList.isEmpty = true := by rw [hub, ub_isEmpty, hue]; rfl
        have hzz := Lib.hid (hzn.out (by rw [hwl.out]; exact fun h => h.1 hue))
        clear hbl hue hub
        go_wp2_with (first | (go_at_call 25; refine (HW.out _).mono ?_; rintro e w9 ⟨rfl, e9⟩; replace e9 := e9.symm; subst e9) | (go_at_call 21; refine (RW.out _).mono ?_; rintro e w4 ⟨wv, rfl, ho, hf⟩; obtain ⟨g4, cap4, rfl, _, _⟩ := World.ownsRow.form ho hm0; have hf4' := Lib.hid hf; clear ho hf))
        go_ret2
        exact ⟨by rw [hzz.out]; rfl, by first | exact (hF.out.then hfw'.out).then (hf4'.out)⟩
      have z5 : ub.toList.isEmpty = false := by
        rw [hub, ub_isEmpty]
        cases u with
        | nil => exact absurd rfl hue
        | cons _ _ => rfl
      have s0 : ub.size ≤ 1048590 := by rw [hub, ub_size]; exact hus
      have s1 : ¬ (9223372036854775807 < sb.size + 1) := by omega
      have s2 : ¬ (9223372036854775807 < sb.size + 1 + ub.size) := by omega
      have s3 : ¬ (9223372036854775807 ≤ sb.size) := by omega
      have hok := Lib.hid (hzy.out (by rw [hwl.out]; exact ⟨hue, hbl⟩))
      have hub' := Lib.hid hub
      have hus' := Lib.hid hus
      clear hbl hue hub s0 hus
      go_wp2_with (first | (go_at_call 25; refine (HW.out _).mono ?_; rintro e w9 ⟨rfl, e9⟩; replace e9 := e9.symm; subst e9) | (go_at_call 21; refine (RW.out _).mono ?_; rintro e w4 ⟨wv, rfl, ho, hf⟩; obtain ⟨g4, cap4, rfl, _, _⟩ := World.ownsRow.form ho hm0; have hf4' := Lib.hid hf; clear ho hf))
      go_roundw
      case rel => exact ⟨i + 1, a, b, s ++ 32 :: u, hh, by rw [hsb'.out, hub'.out, ub_add], by first | rfl | go_num, by first | rfl | go_num, by first | rfl | go_num, by go_num, by omega, by rw [hok.out]; unfold nextL; dsimp only; rw [hwl.out, hhh'.out], by omega, by omega, by have := hsl'.out; have := hus'.out; simp; omega, hfw'.out.then (hf4'.out)⟩
      case measure => simp [intOf]; omega
end
end Go.Proofs.YtjmgheogpglpnaaDoor
