/-
  The law CommandOne.
-/
import Derived.Test.YtjmgheogpglpnaaDoorRoundLaw30
namespace Go.Proofs.YtjmgheogpglpnaaDoor
open Go.RowKit
set_option linter.unusedVariables false
set_option linter.unusedSimpArgs false
section
set_option maxHeartbeats 4000000
set_option maxRecDepth 100000
theorem one_bad (Va Vb : Value) (a b : CI) (w : World) (ha : CmG w Va a) (hb : CmG w Vb b) (hL : Lw w) (ka kb' : Nat) (h1 : checkF a = ka) (h2 : checkF b = kb') (h23 : ka = 2 ∨ ka = 3 ∨ (ka = 0 ∧ (kb' = 2 ∨ kb' = 3))) :
    Calls Tryd.prog 9 #[Va, Vb] w fun e w' => e = .returned (.bool true) ∧ Far (fun _ => False) w w' := by
  have PR := Lib.hid (fun (W : World) (hf : Far (fun _ => False) w W) => print_any Va a W (ha.move hf) (hL.far hf fun _ _ h => h))
  have PR2 := Lib.hid (fun (W : World) (hf : Far (fun _ => False) w W) => print_any Vb b W (hb.move hf) (hL.far hf fun _ _ h => h))
  have SA := Lib.hid (fun (W : World) (hf : Far (fun _ => False) w W) => same_any Va Vb a b W (ha.i.move hf) (hb.i.move hf))
  rw [h1] at PR
  rw [h2] at PR2
  obtain ⟨s, hS⟩ : ∃ s : ByteArray, s = ⟨(if ka = 0 then writeF a else []).toArray⟩ := ⟨_, rfl⟩
  obtain ⟨t, hT⟩ : ∃ s : ByteArray, s = ⟨(if kb' = 0 then writeF b else []).toArray⟩ := ⟨_, rfl⟩
  have hst : st (if ka = 0 then writeF a else []) = .string s := by unfold st; rw [hS]
  have htt : st (if kb' = 0 then writeF b else []) = .string t := by unfold st; rw [hT]
  rw [hst] at PR
  rw [htt] at PR2
  clear hst htt hS hT
  obtain ⟨no, nc, mo, mc, rfl, hN, hM, hn1, hn2⟩ := ha.i
  obtain ⟨no2, nc2, mo2, mc2, rfl, hN2, hM2, hn3, hn4⟩ := hb.i
  unfold cmdV at *
  obtain ⟨kb, hkb⟩ : ∃ k, k = w.heap.size := ⟨_, rfl⟩
  obtain ⟨kc, hkc⟩ : ∃ k, k = kb + 1 := ⟨_, rfl⟩
  obtain ⟨wx, hwx⟩ : ∃ W, W = w.alloc (.cells #[.int .i64 a.v, .int .i64 a.how, .slice no a.names.length nc, .slice mo a.nums.length mc, .string ⟨a.text.toArray⟩] 27) := ⟨_, rfl⟩
  obtain ⟨wb, hwb⟩ : ∃ W, W = wx.alloc (.cells #[.int .i64 b.v, .int .i64 b.how, .slice no2 b.names.length nc2, .slice mo2 b.nums.length mc2, .string ⟨b.text.toArray⟩] 27) := ⟨_, rfl⟩
  have z1 : wx.heap.size = kc := by rw [hwx]; simp [hkc, hkb]
  have hF := Lib.hid (show Far (fun _ => False) w wb from hwb ▸ (hwx ▸ (Far.refl _ w).alloc _ : Far (fun _ => False) w wx).alloc _)
  have hB := Lib.hid (hwb ▸ (hwx ▸ Bk.new hkb : Bk wx kb 27 #[.int .i64 a.v, .int .i64 a.how, .slice no a.names.length nc, .slice mo a.nums.length mc, .string ⟨a.text.toArray⟩]).alloc _ : Bk wb kb 27 #[.int .i64 a.v, .int .i64 a.how, .slice no a.names.length nc, .slice mo a.nums.length mc, .string ⟨a.text.toArray⟩])
  have hC := Lib.hid (hwb ▸ Bk.new z1.symm : Bk wb kc 27 #[.int .i64 b.v, .int .i64 b.how, .slice no2 b.names.length nc2, .slice mo2 b.nums.length mc2, .string ⟨b.text.toArray⟩])
  have q0 : wb.cell? ⟨kb, 0, none⟩ = some (.int .i64 a.v) := hB.out.cell 0
  have q1 : wb.cell? ⟨kb, 1, none⟩ = some (.int .i64 a.how) := hB.out.cell 1
  have q2 : wb.cell? ⟨kb, 2, none⟩ = some (.slice no a.names.length nc) := hB.out.cell 2
  have q3 : wb.cell? ⟨kb, 3, none⟩ = some (.slice mo a.nums.length mc) := hB.out.cell 3
  have q4 : wb.cell? ⟨kb, 4, none⟩ = some (.string ⟨a.text.toArray⟩) := hB.out.cell 4
  clear hN hM hn1 hn2 hN2 hM2 hn3 hn4 h1 h2 ha hb hL SA
  rcases h23 with rfl | rfl | ⟨rfl, rfl | rfl⟩
  · go_enter Tryd.func9, Tryd.ntmps9
    go_upto_region 1 with fail
    rw [← hkb, ← hkc, ← hwx, ← hwb]
    clear hkb hkc hwx hwb z1
    go_wp2_with (first
      | (go_at_call 14; refine (PR2.out _ hf1'.out).mono ?_; rintro e w2 ⟨rfl, hf⟩; have hf2' := Lib.hid (hf1'.out.then hf); have hB2 := Lib.hid (hB1.out.far' hf id); have hC2 := Lib.hid (hC1.out.far' hf id); clear hf)
      | (go_at_call 14; refine (PR.out _ hF.out).mono ?_; rintro e w1 ⟨rfl, hf⟩; have hf1' := Lib.hid (hF.out.then hf); have hB1 := Lib.hid (hB.out.far' hf id); have hC1 := Lib.hid (hC.out.far' hf id); have c0 : w1.cell? ⟨kc, 0, none⟩ = some (.int .i64 b.v) := hC1.out.cell 0; have c1 : w1.cell? ⟨kc, 1, none⟩ = some (.int .i64 b.how) := hC1.out.cell 1; have c2 : w1.cell? ⟨kc, 2, none⟩ = some (.slice no2 b.names.length nc2) := hC1.out.cell 2; have c3 : w1.cell? ⟨kc, 3, none⟩ = some (.slice mo2 b.nums.length mc2) := hC1.out.cell 3; have c4 : w1.cell? ⟨kc, 4, none⟩ = some (.string ⟨b.text.toArray⟩) := hC1.out.cell 4; clear hf PR)
      | (go_at_call 12; refine (head_any _).mono ?_; rintro e w3 ⟨rfl, hf⟩; have hf3' := Lib.hid (hf2'.out.then hf); have hB3 := Lib.hid (hB2.out.far' hf id); have hC3 := Lib.hid (hC2.out.far' hf id); have b0 : w3.cell? ⟨kb, 0, none⟩ = some (.int .i64 a.v) := hB3.out.cell 0; have b1 : w3.cell? ⟨kb, 1, none⟩ = some (.int .i64 a.how) := hB3.out.cell 1; have b2 : w3.cell? ⟨kb, 2, none⟩ = some (.slice no a.names.length nc) := hB3.out.cell 2; have b3 : w3.cell? ⟨kb, 3, none⟩ = some (.slice mo a.nums.length mc) := hB3.out.cell 3; have b4 : w3.cell? ⟨kb, 4, none⟩ = some (.string ⟨a.text.toArray⟩) := hB3.out.cell 4; have d0 : w3.cell? ⟨kc, 0, none⟩ = some (.int .i64 b.v) := hC3.out.cell 0; have d1 : w3.cell? ⟨kc, 1, none⟩ = some (.int .i64 b.how) := hC3.out.cell 1; have d2 : w3.cell? ⟨kc, 2, none⟩ = some (.slice no2 b.names.length nc2) := hC3.out.cell 2; have d3 : w3.cell? ⟨kc, 3, none⟩ = some (.slice mo2 b.nums.length mc2) := hC3.out.cell 3; have d4 : w3.cell? ⟨kc, 4, none⟩ = some (.string ⟨b.text.toArray⟩) := hC3.out.cell 4; clear hf))
    go_ret
    exact ⟨rfl, hf3'.out⟩
  · go_enter Tryd.func9, Tryd.ntmps9
    go_upto_region 1 with fail
    rw [← hkb, ← hkc, ← hwx, ← hwb]
    clear hkb hkc hwx hwb z1
    go_wp2_with (first
      | (go_at_call 14; refine (PR2.out _ hf1'.out).mono ?_; rintro e w2 ⟨rfl, hf⟩; have hf2' := Lib.hid (hf1'.out.then hf); have hB2 := Lib.hid (hB1.out.far' hf id); have hC2 := Lib.hid (hC1.out.far' hf id); clear hf)
      | (go_at_call 14; refine (PR.out _ hF.out).mono ?_; rintro e w1 ⟨rfl, hf⟩; have hf1' := Lib.hid (hF.out.then hf); have hB1 := Lib.hid (hB.out.far' hf id); have hC1 := Lib.hid (hC.out.far' hf id); have c0 : w1.cell? ⟨kc, 0, none⟩ = some (.int .i64 b.v) := hC1.out.cell 0; have c1 : w1.cell? ⟨kc, 1, none⟩ = some (.int .i64 b.how) := hC1.out.cell 1; have c2 : w1.cell? ⟨kc, 2, none⟩ = some (.slice no2 b.names.length nc2) := hC1.out.cell 2; have c3 : w1.cell? ⟨kc, 3, none⟩ = some (.slice mo2 b.nums.length mc2) := hC1.out.cell 3; have c4 : w1.cell? ⟨kc, 4, none⟩ = some (.string ⟨b.text.toArray⟩) := hC1.out.cell 4; clear hf PR)
      | (go_at_call 12; refine (head_any _).mono ?_; rintro e w3 ⟨rfl, hf⟩; have hf3' := Lib.hid (hf2'.out.then hf); have hB3 := Lib.hid (hB2.out.far' hf id); have hC3 := Lib.hid (hC2.out.far' hf id); have b0 : w3.cell? ⟨kb, 0, none⟩ = some (.int .i64 a.v) := hB3.out.cell 0; have b1 : w3.cell? ⟨kb, 1, none⟩ = some (.int .i64 a.how) := hB3.out.cell 1; have b2 : w3.cell? ⟨kb, 2, none⟩ = some (.slice no a.names.length nc) := hB3.out.cell 2; have b3 : w3.cell? ⟨kb, 3, none⟩ = some (.slice mo a.nums.length mc) := hB3.out.cell 3; have b4 : w3.cell? ⟨kb, 4, none⟩ = some (.string ⟨a.text.toArray⟩) := hB3.out.cell 4; have d0 : w3.cell? ⟨kc, 0, none⟩ = some (.int .i64 b.v) := hC3.out.cell 0; have d1 : w3.cell? ⟨kc, 1, none⟩ = some (.int .i64 b.how) := hC3.out.cell 1; have d2 : w3.cell? ⟨kc, 2, none⟩ = some (.slice no2 b.names.length nc2) := hC3.out.cell 2; have d3 : w3.cell? ⟨kc, 3, none⟩ = some (.slice mo2 b.nums.length mc2) := hC3.out.cell 3; have d4 : w3.cell? ⟨kc, 4, none⟩ = some (.string ⟨b.text.toArray⟩) := hC3.out.cell 4; clear hf))
    go_ret
    exact ⟨rfl, hf3'.out⟩
  · go_enter Tryd.func9, Tryd.ntmps9
    go_upto_region 1 with fail
    rw [← hkb, ← hkc, ← hwx, ← hwb]
    clear hkb hkc hwx hwb z1
    go_wp2_with (first
      | (go_at_call 14; refine (PR2.out _ hf1'.out).mono ?_; rintro e w2 ⟨rfl, hf⟩; have hf2' := Lib.hid (hf1'.out.then hf); have hB2 := Lib.hid (hB1.out.far' hf id); have hC2 := Lib.hid (hC1.out.far' hf id); clear hf)
      | (go_at_call 14; refine (PR.out _ hF.out).mono ?_; rintro e w1 ⟨rfl, hf⟩; have hf1' := Lib.hid (hF.out.then hf); have hB1 := Lib.hid (hB.out.far' hf id); have hC1 := Lib.hid (hC.out.far' hf id); have c0 : w1.cell? ⟨kc, 0, none⟩ = some (.int .i64 b.v) := hC1.out.cell 0; have c1 : w1.cell? ⟨kc, 1, none⟩ = some (.int .i64 b.how) := hC1.out.cell 1; have c2 : w1.cell? ⟨kc, 2, none⟩ = some (.slice no2 b.names.length nc2) := hC1.out.cell 2; have c3 : w1.cell? ⟨kc, 3, none⟩ = some (.slice mo2 b.nums.length mc2) := hC1.out.cell 3; have c4 : w1.cell? ⟨kc, 4, none⟩ = some (.string ⟨b.text.toArray⟩) := hC1.out.cell 4; clear hf PR)
      | (go_at_call 12; refine (head_any _).mono ?_; rintro e w3 ⟨rfl, hf⟩; have hf3' := Lib.hid (hf2'.out.then hf); have hB3 := Lib.hid (hB2.out.far' hf id); have hC3 := Lib.hid (hC2.out.far' hf id); have b0 : w3.cell? ⟨kb, 0, none⟩ = some (.int .i64 a.v) := hB3.out.cell 0; have b1 : w3.cell? ⟨kb, 1, none⟩ = some (.int .i64 a.how) := hB3.out.cell 1; have b2 : w3.cell? ⟨kb, 2, none⟩ = some (.slice no a.names.length nc) := hB3.out.cell 2; have b3 : w3.cell? ⟨kb, 3, none⟩ = some (.slice mo a.nums.length mc) := hB3.out.cell 3; have b4 : w3.cell? ⟨kb, 4, none⟩ = some (.string ⟨a.text.toArray⟩) := hB3.out.cell 4; have d0 : w3.cell? ⟨kc, 0, none⟩ = some (.int .i64 b.v) := hC3.out.cell 0; have d1 : w3.cell? ⟨kc, 1, none⟩ = some (.int .i64 b.how) := hC3.out.cell 1; have d2 : w3.cell? ⟨kc, 2, none⟩ = some (.slice no2 b.names.length nc2) := hC3.out.cell 2; have d3 : w3.cell? ⟨kc, 3, none⟩ = some (.slice mo2 b.nums.length mc2) := hC3.out.cell 3; have d4 : w3.cell? ⟨kc, 4, none⟩ = some (.string ⟨b.text.toArray⟩) := hC3.out.cell 4; clear hf))
    go_ret
    exact ⟨rfl, hf3'.out⟩
  · go_enter Tryd.func9, Tryd.ntmps9
    go_upto_region 1 with fail
    rw [← hkb, ← hkc, ← hwx, ← hwb]
    clear hkb hkc hwx hwb z1
    go_wp2_with (first
      | (go_at_call 14; refine (PR2.out _ hf1'.out).mono ?_; rintro e w2 ⟨rfl, hf⟩; have hf2' := Lib.hid (hf1'.out.then hf); have hB2 := Lib.hid (hB1.out.far' hf id); have hC2 := Lib.hid (hC1.out.far' hf id); clear hf)
      | (go_at_call 14; refine (PR.out _ hF.out).mono ?_; rintro e w1 ⟨rfl, hf⟩; have hf1' := Lib.hid (hF.out.then hf); have hB1 := Lib.hid (hB.out.far' hf id); have hC1 := Lib.hid (hC.out.far' hf id); have c0 : w1.cell? ⟨kc, 0, none⟩ = some (.int .i64 b.v) := hC1.out.cell 0; have c1 : w1.cell? ⟨kc, 1, none⟩ = some (.int .i64 b.how) := hC1.out.cell 1; have c2 : w1.cell? ⟨kc, 2, none⟩ = some (.slice no2 b.names.length nc2) := hC1.out.cell 2; have c3 : w1.cell? ⟨kc, 3, none⟩ = some (.slice mo2 b.nums.length mc2) := hC1.out.cell 3; have c4 : w1.cell? ⟨kc, 4, none⟩ = some (.string ⟨b.text.toArray⟩) := hC1.out.cell 4; clear hf PR)
      | (go_at_call 12; refine (head_any _).mono ?_; rintro e w3 ⟨rfl, hf⟩; have hf3' := Lib.hid (hf2'.out.then hf); have hB3 := Lib.hid (hB2.out.far' hf id); have hC3 := Lib.hid (hC2.out.far' hf id); have b0 : w3.cell? ⟨kb, 0, none⟩ = some (.int .i64 a.v) := hB3.out.cell 0; have b1 : w3.cell? ⟨kb, 1, none⟩ = some (.int .i64 a.how) := hB3.out.cell 1; have b2 : w3.cell? ⟨kb, 2, none⟩ = some (.slice no a.names.length nc) := hB3.out.cell 2; have b3 : w3.cell? ⟨kb, 3, none⟩ = some (.slice mo a.nums.length mc) := hB3.out.cell 3; have b4 : w3.cell? ⟨kb, 4, none⟩ = some (.string ⟨a.text.toArray⟩) := hB3.out.cell 4; have d0 : w3.cell? ⟨kc, 0, none⟩ = some (.int .i64 b.v) := hC3.out.cell 0; have d1 : w3.cell? ⟨kc, 1, none⟩ = some (.int .i64 b.how) := hC3.out.cell 1; have d2 : w3.cell? ⟨kc, 2, none⟩ = some (.slice no2 b.names.length nc2) := hC3.out.cell 2; have d3 : w3.cell? ⟨kc, 3, none⟩ = some (.slice mo2 b.nums.length mc2) := hC3.out.cell 3; have d4 : w3.cell? ⟨kc, 4, none⟩ = some (.string ⟨b.text.toArray⟩) := hC3.out.cell 4; clear hf))
    go_ret
    exact ⟨rfl, hf3'.out⟩
theorem one_ok (Va Vb : Value) (a b : CI) (w : World) (ha : CmG w Va a) (hb : CmG w Vb b) (hL : Lw w) (h1 : checkF a = 0) (h2 : checkF b = 0) (hab : writeF a = writeF b ↔ a = b) :
    Calls Tryd.prog 9 #[Va, Vb] w fun e w' => e = .returned (.bool true) ∧ Far (fun _ => False) w w' := by
  have PR := Lib.hid (fun (W : World) (hf : Far (fun _ => False) w W) => print_any Va a W (ha.move hf) (hL.far hf fun _ _ h => h))
  have PR2 := Lib.hid (fun (W : World) (hf : Far (fun _ => False) w W) => print_any Vb b W (hb.move hf) (hL.far hf fun _ _ h => h))
  have SA := Lib.hid (fun (W : World) (hf : Far (fun _ => False) w W) => same_any Va Vb a b W (ha.i.move hf) (hb.i.move hf))
  rw [h1, if_pos rfl] at PR
  rw [h2, if_pos rfl] at PR2
  obtain ⟨s, hS⟩ : ∃ s : ByteArray, s = ⟨(writeF a).toArray⟩ := ⟨_, rfl⟩
  obtain ⟨t, hT⟩ : ∃ s : ByteArray, s = ⟨(writeF b).toArray⟩ := ⟨_, rfl⟩
  have hst : st (writeF a) = .string s := by unfold st; rw [hS]
  have htt : st (writeF b) = .string t := by unfold st; rw [hT]
  rw [hst] at PR
  rw [htt] at PR2
  have q5 : (s.toList == t.toList) = decide (a = b) := by
    rw [hS, hT, str_beq]
    by_cases h : a = b
    · rw [decide_eq_true h, decide_eq_true (hab.2 h)]
    · rw [decide_eq_false h, decide_eq_false (fun e => h (hab.1 e))]
  have SA' := Lib.hid SA.out
  clear SA
  obtain ⟨D, hD⟩ : ∃ D, D = decide (a = b) := ⟨_, rfl⟩
  rw [← hD] at SA' q5
  clear hst htt hS hT hD
  obtain ⟨no, nc, mo, mc, rfl, hN, hM, hn1, hn2⟩ := ha.i
  obtain ⟨no2, nc2, mo2, mc2, rfl, hN2, hM2, hn3, hn4⟩ := hb.i
  unfold cmdV at *
  obtain ⟨kb, hkb⟩ : ∃ k, k = w.heap.size := ⟨_, rfl⟩
  obtain ⟨kc, hkc⟩ : ∃ k, k = kb + 1 := ⟨_, rfl⟩
  obtain ⟨wx, hwx⟩ : ∃ W, W = w.alloc (.cells #[.int .i64 a.v, .int .i64 a.how, .slice no a.names.length nc, .slice mo a.nums.length mc, .string ⟨a.text.toArray⟩] 27) := ⟨_, rfl⟩
  obtain ⟨wb, hwb⟩ : ∃ W, W = wx.alloc (.cells #[.int .i64 b.v, .int .i64 b.how, .slice no2 b.names.length nc2, .slice mo2 b.nums.length mc2, .string ⟨b.text.toArray⟩] 27) := ⟨_, rfl⟩
  have z1 : wx.heap.size = kc := by rw [hwx]; simp [hkc, hkb]
  have hF := Lib.hid (show Far (fun _ => False) w wb from hwb ▸ (hwx ▸ (Far.refl _ w).alloc _ : Far (fun _ => False) w wx).alloc _)
  have hB := Lib.hid (hwb ▸ (hwx ▸ Bk.new hkb : Bk wx kb 27 #[.int .i64 a.v, .int .i64 a.how, .slice no a.names.length nc, .slice mo a.nums.length mc, .string ⟨a.text.toArray⟩]).alloc _ : Bk wb kb 27 #[.int .i64 a.v, .int .i64 a.how, .slice no a.names.length nc, .slice mo a.nums.length mc, .string ⟨a.text.toArray⟩])
  have hC := Lib.hid (hwb ▸ Bk.new z1.symm : Bk wb kc 27 #[.int .i64 b.v, .int .i64 b.how, .slice no2 b.names.length nc2, .slice mo2 b.nums.length mc2, .string ⟨b.text.toArray⟩])
  have q0 : wb.cell? ⟨kb, 0, none⟩ = some (.int .i64 a.v) := hB.out.cell 0
  have q1 : wb.cell? ⟨kb, 1, none⟩ = some (.int .i64 a.how) := hB.out.cell 1
  have q2 : wb.cell? ⟨kb, 2, none⟩ = some (.slice no a.names.length nc) := hB.out.cell 2
  have q3 : wb.cell? ⟨kb, 3, none⟩ = some (.slice mo a.nums.length mc) := hB.out.cell 3
  have q4 : wb.cell? ⟨kb, 4, none⟩ = some (.string ⟨a.text.toArray⟩) := hB.out.cell 4
  clear hN hM hn1 hn2 hN2 hM2 hn3 hn4 h1 h2 ha hb hL hab
  cases D
  · go_enter Tryd.func9, Tryd.ntmps9
    go_upto_region 1 with fail
    rw [← hkb, ← hkc, ← hwx, ← hwb]
    clear hkb hkc hwx hwb z1
    go_wp2_with (first
      | (go_at_call 14; refine (PR2.out _ hf1'.out).mono ?_; rintro e w2 ⟨rfl, hf⟩; have hf2' := Lib.hid (hf1'.out.then hf); have hB2 := Lib.hid (hB1.out.far' hf id); have hC2 := Lib.hid (hC1.out.far' hf id); clear hf)
      | (go_at_call 14; refine (PR.out _ hF.out).mono ?_; rintro e w1 ⟨rfl, hf⟩; have hf1' := Lib.hid (hF.out.then hf); have hB1 := Lib.hid (hB.out.far' hf id); have hC1 := Lib.hid (hC.out.far' hf id); have c0 : w1.cell? ⟨kc, 0, none⟩ = some (.int .i64 b.v) := hC1.out.cell 0; have c1 : w1.cell? ⟨kc, 1, none⟩ = some (.int .i64 b.how) := hC1.out.cell 1; have c2 : w1.cell? ⟨kc, 2, none⟩ = some (.slice no2 b.names.length nc2) := hC1.out.cell 2; have c3 : w1.cell? ⟨kc, 3, none⟩ = some (.slice mo2 b.nums.length mc2) := hC1.out.cell 3; have c4 : w1.cell? ⟨kc, 4, none⟩ = some (.string ⟨b.text.toArray⟩) := hC1.out.cell 4; clear hf PR)
      | (go_at_call 12; refine (head_any _).mono ?_; rintro e w3 ⟨rfl, hf⟩; have hf3' := Lib.hid (hf2'.out.then hf); have hB3 := Lib.hid (hB2.out.far' hf id); have hC3 := Lib.hid (hC2.out.far' hf id); have b0 : w3.cell? ⟨kb, 0, none⟩ = some (.int .i64 a.v) := hB3.out.cell 0; have b1 : w3.cell? ⟨kb, 1, none⟩ = some (.int .i64 a.how) := hB3.out.cell 1; have b2 : w3.cell? ⟨kb, 2, none⟩ = some (.slice no a.names.length nc) := hB3.out.cell 2; have b3 : w3.cell? ⟨kb, 3, none⟩ = some (.slice mo a.nums.length mc) := hB3.out.cell 3; have b4 : w3.cell? ⟨kb, 4, none⟩ = some (.string ⟨a.text.toArray⟩) := hB3.out.cell 4; have d0 : w3.cell? ⟨kc, 0, none⟩ = some (.int .i64 b.v) := hC3.out.cell 0; have d1 : w3.cell? ⟨kc, 1, none⟩ = some (.int .i64 b.how) := hC3.out.cell 1; have d2 : w3.cell? ⟨kc, 2, none⟩ = some (.slice no2 b.names.length nc2) := hC3.out.cell 2; have d3 : w3.cell? ⟨kc, 3, none⟩ = some (.slice mo2 b.nums.length mc2) := hC3.out.cell 3; have d4 : w3.cell? ⟨kc, 4, none⟩ = some (.string ⟨b.text.toArray⟩) := hC3.out.cell 4; clear hf)
      | (go_at_call 17; refine (SA'.out _ hf3'.out).mono ?_; rintro e w4 ⟨rfl, hf⟩; have hf4' := Lib.hid (hf3'.out.then hf); clear hf))
    go_ret
    exact ⟨rfl, hf4'.out⟩
  · go_enter Tryd.func9, Tryd.ntmps9
    go_upto_region 1 with fail
    rw [← hkb, ← hkc, ← hwx, ← hwb]
    clear hkb hkc hwx hwb z1
    go_wp2_with (first
      | (go_at_call 14; refine (PR2.out _ hf1'.out).mono ?_; rintro e w2 ⟨rfl, hf⟩; have hf2' := Lib.hid (hf1'.out.then hf); have hB2 := Lib.hid (hB1.out.far' hf id); have hC2 := Lib.hid (hC1.out.far' hf id); clear hf)
      | (go_at_call 14; refine (PR.out _ hF.out).mono ?_; rintro e w1 ⟨rfl, hf⟩; have hf1' := Lib.hid (hF.out.then hf); have hB1 := Lib.hid (hB.out.far' hf id); have hC1 := Lib.hid (hC.out.far' hf id); have c0 : w1.cell? ⟨kc, 0, none⟩ = some (.int .i64 b.v) := hC1.out.cell 0; have c1 : w1.cell? ⟨kc, 1, none⟩ = some (.int .i64 b.how) := hC1.out.cell 1; have c2 : w1.cell? ⟨kc, 2, none⟩ = some (.slice no2 b.names.length nc2) := hC1.out.cell 2; have c3 : w1.cell? ⟨kc, 3, none⟩ = some (.slice mo2 b.nums.length mc2) := hC1.out.cell 3; have c4 : w1.cell? ⟨kc, 4, none⟩ = some (.string ⟨b.text.toArray⟩) := hC1.out.cell 4; clear hf PR)
      | (go_at_call 12; refine (head_any _).mono ?_; rintro e w3 ⟨rfl, hf⟩; have hf3' := Lib.hid (hf2'.out.then hf); have hB3 := Lib.hid (hB2.out.far' hf id); have hC3 := Lib.hid (hC2.out.far' hf id); have b0 : w3.cell? ⟨kb, 0, none⟩ = some (.int .i64 a.v) := hB3.out.cell 0; have b1 : w3.cell? ⟨kb, 1, none⟩ = some (.int .i64 a.how) := hB3.out.cell 1; have b2 : w3.cell? ⟨kb, 2, none⟩ = some (.slice no a.names.length nc) := hB3.out.cell 2; have b3 : w3.cell? ⟨kb, 3, none⟩ = some (.slice mo a.nums.length mc) := hB3.out.cell 3; have b4 : w3.cell? ⟨kb, 4, none⟩ = some (.string ⟨a.text.toArray⟩) := hB3.out.cell 4; have d0 : w3.cell? ⟨kc, 0, none⟩ = some (.int .i64 b.v) := hC3.out.cell 0; have d1 : w3.cell? ⟨kc, 1, none⟩ = some (.int .i64 b.how) := hC3.out.cell 1; have d2 : w3.cell? ⟨kc, 2, none⟩ = some (.slice no2 b.names.length nc2) := hC3.out.cell 2; have d3 : w3.cell? ⟨kc, 3, none⟩ = some (.slice mo2 b.nums.length mc2) := hC3.out.cell 3; have d4 : w3.cell? ⟨kc, 4, none⟩ = some (.string ⟨b.text.toArray⟩) := hC3.out.cell 4; clear hf)
      | (go_at_call 17; refine (SA'.out _ hf3'.out).mono ?_; rintro e w4 ⟨rfl, hf⟩; have hf4' := Lib.hid (hf3'.out.then hf); clear hf))
    go_ret
    exact ⟨rfl, hf4'.out⟩
theorem one_law (Va Vb : Value) (a b : CI) (w : World) (ha : CmG w Va a) (hb : CmG w Vb b) (hL : Lw w) :
    Calls Tryd.prog 9 #[Va, Vb] w fun e w' => e = .returned (.bool true) ∧ Far (fun _ => False) w w' := by
  rcases checkF_cases a with hk | hk | ⟨hk, d, hd, hc, hl⟩
  · exact one_bad Va Vb a b w ha hb hL 2 _ hk rfl (.inl rfl)
  · exact one_bad Va Vb a b w ha hb hL 3 _ hk rfl (.inr (.inl rfl))
  · rcases checkF_cases b with hk2 | hk2 | ⟨hk2, d2, hd2, hc2, hl2⟩
    · exact one_bad Va Vb a b w ha hb hL 0 2 hk hk2 (.inr (.inr ⟨rfl, .inl rfl⟩))
    · exact one_bad Va Vb a b w ha hb hL 0 3 hk hk2 (.inr (.inr ⟨rfl, .inr rfl⟩))
    · refine one_ok Va Vb a b w ha hb hL hk hk2 ⟨fun e => ?_, fun e => by rw [e]⟩
      rw [e, hd2] at hd
      injection hd with hd
      rw [← hc, ← hc2, hd]
end
end Go.Proofs.YtjmgheogpglpnaaDoor
