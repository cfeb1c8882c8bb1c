/-
  The law CommandRound.
-/
import Derived.Test.YtjmgheogpglpnaaDoorAgainLaw30
namespace Go.Proofs.YtjmgheogpglpnaaDoor
open Go.RowKit
set_option linter.unusedVariables false
set_option linter.unusedSimpArgs false
theorem checkF_cases (c : CI) : checkF c = 2 ∨ checkF c = 3 ∨ (checkF c = 0 ∧ ∃ d, parseF (writeF c) = .inr d ∧ upC d = c ∧ ¬ 2064 < (writeF c).length) := by
  unfold checkF
  cases hp : parseF (writeF c) with
  | inl k => exact .inl rfl
  | inr d =>
    dsimp only
    by_cases hd : upC d = c
    · rw [if_pos hd]
      by_cases hl : 2064 < (writeF c).length
      · rw [if_pos hl]; exact .inr (.inl rfl)
      · rw [if_neg hl]; exact .inr (.inr ⟨rfl, d, rfl, hd, hl⟩)
    · rw [if_neg hd]; exact .inl rfl
section
set_option maxHeartbeats 4000000
set_option maxRecDepth 100000
theorem round_bad (V : Value) (c : CI) (w : World) (h : CmG w V c) (hL : Lw w) (k : Nat) (hk : checkF c = k) (h23 : k = 2 ∨ k = 3) :
    Calls Tryd.prog 7 #[V] w fun e w' => e = .returned (.bool true) ∧ Far (fun _ => False) w w' := by
  have PR := Lib.hid (fun (W : World) (hf : Far (fun _ => False) w W) => print_any V c W (h.move hf) (hL.far hf fun _ _ h => h))
  rw [hk] at PR
  obtain ⟨no, nc, mo, mc, rfl, hN, hM, hn1, hn2⟩ := h.i
  have HG := Lib.hid h
  unfold cmdV at *
  obtain ⟨kb, hkb⟩ : ∃ k, k = w.heap.size := ⟨_, rfl⟩
  obtain ⟨wb, hwb⟩ : ∃ W, W = w.alloc (.cells #[.int .i64 c.v, .int .i64 c.how, .slice no c.names.length nc, .slice mo c.nums.length mc, .string ⟨c.text.toArray⟩] 27) := ⟨_, rfl⟩
  have hF := Lib.hid (show Far (fun _ => False) w wb from hwb ▸ (Far.refl _ w).alloc _)
  have hB := Lib.hid (hwb ▸ Bk.new hkb : Bk wb kb 27 #[.int .i64 c.v, .int .i64 c.how, .slice no c.names.length nc, .slice mo c.nums.length mc, .string ⟨c.text.toArray⟩])
  have q0 : wb.cell? ⟨kb, 0, none⟩ = some (.int .i64 c.v) := hB.out.cell 0
  have q1 : wb.cell? ⟨kb, 1, none⟩ = some (.int .i64 c.how) := hB.out.cell 1
  have q2 : wb.cell? ⟨kb, 2, none⟩ = some (.slice no c.names.length nc) := hB.out.cell 2
  have q3 : wb.cell? ⟨kb, 3, none⟩ = some (.slice mo c.nums.length mc) := hB.out.cell 3
  have q4 : wb.cell? ⟨kb, 4, none⟩ = some (.string ⟨c.text.toArray⟩) := hB.out.cell 4
  clear hN hM hn1 hn2 hk h hL HG
  rcases h23 with rfl | rfl
  · rw [if_neg (by decide)] at PR
    go_enter Tryd.func7, Tryd.ntmps7
    go_upto_region 1 with fail
    rw [← hkb, ← hwb]
    clear hkb hwb
    go_wp2_with (first
      | (go_at_call 14; refine (PR.out _ hF.out).mono ?_; rintro e w1 ⟨rfl, hf⟩; have hf1' := Lib.hid (hF.out.then hf); have hB1 := Lib.hid (hB.out.far' hf id); clear hf)
      | (go_at_call 12; refine (head_any _).mono ?_; rintro e w2 ⟨rfl, hf⟩; have hf2' := Lib.hid (hf1'.out.then hf); clear hf))
    go_ret
    exact ⟨rfl, hf2'.out⟩
  · rw [if_neg (by decide)] at PR
    go_enter Tryd.func7, Tryd.ntmps7
    go_upto_region 1 with fail
    rw [← hkb, ← hwb]
    clear hkb hwb
    go_wp2_with (first
      | (go_at_call 14; refine (PR.out _ hF.out).mono ?_; rintro e w1 ⟨rfl, hf⟩; have hf1' := Lib.hid (hF.out.then hf); have hB1 := Lib.hid (hB.out.far' hf id); clear hf)
      | (go_at_call 12; refine (head_any _).mono ?_; rintro e w2 ⟨rfl, hf⟩; have hf2' := Lib.hid (hf1'.out.then hf); clear hf))
    go_ret
    exact ⟨rfl, hf2'.out⟩
theorem round_ok (V : Value) (c : CI) (w : World) (h : CmG w V c) (hL : Lw w) (hk : checkF c = 0) (d : Cm) (hd : parseF (writeF c) = .inr d) (hc : upC d = c) (hl : ¬ 2064 < (writeF c).length) :
    Calls Tryd.prog 7 #[V] w fun e w' => e = .returned (.bool true) ∧ Far (fun _ => False) w w' := by
  have PR := Lib.hid (fun (W : World) (hf : Far (fun _ => False) w W) => print_any V c W (h.move hf) (hL.far hf fun _ _ h => h))
  have PA := Lib.hid (fun (W : World) (hf : Far (fun _ => False) w W) => parse_all (writeF c) W h.l (hL.far hf fun _ _ h => h))
  have e0 : parseL (writeF c) = .inr d := by unfold parseL; rw [if_neg hl, hd]
  rw [hk, if_pos rfl] at PR
  rw [e0] at PA
  unfold PPost at PA
  dsimp only [codeR, cmdR] at PA
  have PS := Lib.hid (parseF_small (writeF c))
  rw [hd] at PS
  dsimp only [cmdR] at PS
  have SA := Lib.hid (fun (va vb : Value) (W : World) (ha : CmI W va c) (hb : CmI W vb (upC d)) => same_any va vb c (upC d) W ha hb)
  rw [show decide (c = upC d) = true by rw [hc]; simp] at SA
  obtain ⟨no, nc, mo, mc, rfl, hN, hM, hn1, hn2⟩ := h.i
  have HG := Lib.hid h
  unfold cmdV at *
  obtain ⟨kb, hkb⟩ : ∃ k, k = w.heap.size := ⟨_, rfl⟩
  obtain ⟨wb, hwb⟩ : ∃ W, W = w.alloc (.cells #[.int .i64 c.v, .int .i64 c.how, .slice no c.names.length nc, .slice mo c.nums.length mc, .string ⟨c.text.toArray⟩] 27) := ⟨_, rfl⟩
  have hF := Lib.hid (show Far (fun _ => False) w wb from hwb ▸ (Far.refl _ w).alloc _)
  have hB := Lib.hid (hwb ▸ Bk.new hkb : Bk wb kb 27 #[.int .i64 c.v, .int .i64 c.how, .slice no c.names.length nc, .slice mo c.nums.length mc, .string ⟨c.text.toArray⟩])
  have q0 : wb.cell? ⟨kb, 0, none⟩ = some (.int .i64 c.v) := hB.out.cell 0
  have q1 : wb.cell? ⟨kb, 1, none⟩ = some (.int .i64 c.how) := hB.out.cell 1
  have q2 : wb.cell? ⟨kb, 2, none⟩ = some (.slice no c.names.length nc) := hB.out.cell 2
  have q3 : wb.cell? ⟨kb, 3, none⟩ = some (.slice mo c.nums.length mc) := hB.out.cell 3
  have q4 : wb.cell? ⟨kb, 4, none⟩ = some (.string ⟨c.text.toArray⟩) := hB.out.cell 4
  obtain ⟨s, hS⟩ : ∃ s : ByteArray, s = ⟨(writeF c).toArray⟩ := ⟨_, rfl⟩
  have hst : st (writeF c) = .string s := by unfold st; rw [hS]
  rw [hst] at PR PA
  clear hN hM hn1 hn2 hk h hL hS hst hd hc hl e0
  go_enter Tryd.func7, Tryd.ntmps7
  go_upto_region 1 with fail
  rw [← hkb, ← hwb]
  clear hkb hwb
  go_upto_region 7 with (first
    | (go_at_call 14; refine (PR.out _ hF.out).mono ?_; rintro e w1 ⟨rfl, hf⟩; have hf1' := Lib.hid (hF.out.then hf); have hB1 := Lib.hid (hB.out.far' hf id); clear hf)
    | (go_at_call 12; refine (head_any _).mono ?_; rintro e w2 ⟨rfl, hf⟩; have hf2' := Lib.hid (hf1'.out.then hf); have hB2 := Lib.hid (hB1.out.far' hf id); clear hf)
    | (go_at_call 10; refine (PA.out _ hf2'.out).mono ?_; rintro e w3 ⟨hf, V, rfl, hV⟩; have hV3 := Lib.hid hV; obtain ⟨xo, xc, yo, yc, rfl, ho1, ho2⟩ := hV.form; have hf3' := Lib.hid (hf2'.out.then hf); have hB3 := Lib.hid (hB2.out.far' hf id); clear hf ho1 ho2 hV))
  obtain ⟨k4, hk4⟩ : ∃ k, k = w3.heap.size := ⟨_, rfl⟩
  obtain ⟨w4, hw4⟩ : ∃ W, W = w3.alloc (.cells #[.int .i64 (d.v : Int), .int .i64 (d.how : Int), .slice xo d.names.length xc, .slice yo d.nums.length yc, .string ⟨d.text.toArray⟩] 27) := ⟨_, rfl⟩
  rw [← hk4, ← hw4]
  have hF4 : Far (fun _ => False) w3 w4 := hw4 ▸ (Far.refl _ w3).alloc _
  have hf4' := Lib.hid (hf3'.out.then hF4)
  have C4 := (hw4 ▸ Bk.new hk4 : Bk w4 k4 27 #[.int .i64 (d.v : Int), .int .i64 (d.how : Int), .slice xo d.names.length xc, .slice yo d.nums.length yc, .string ⟨d.text.toArray⟩])
  have hB4 := hB3.out.far' hF4 id
  have a0 : w4.cell? ⟨k4, 0, none⟩ = some (.int .i64 (d.v : Int)) := C4.cell 0
  have a1 : w4.cell? ⟨k4, 1, none⟩ = some (.int .i64 (d.how : Int)) := C4.cell 1
  have a2 : w4.cell? ⟨k4, 2, none⟩ = some (.slice xo d.names.length xc) := C4.cell 2
  have a3 : w4.cell? ⟨k4, 3, none⟩ = some (.slice yo d.nums.length yc) := C4.cell 3
  have a4 : w4.cell? ⟨k4, 4, none⟩ = some (.string ⟨d.text.toArray⟩) := C4.cell 4
  have b0 : w4.cell? ⟨kb, 0, none⟩ = some (.int .i64 c.v) := hB4.cell 0
  have b1 : w4.cell? ⟨kb, 1, none⟩ = some (.int .i64 c.how) := hB4.cell 1
  have b2 : w4.cell? ⟨kb, 2, none⟩ = some (.slice no c.names.length nc) := hB4.cell 2
  have b3 : w4.cell? ⟨kb, 3, none⟩ = some (.slice mo c.nums.length mc) := hB4.cell 3
  have b4 : w4.cell? ⟨kb, 4, none⟩ = some (.string ⟨c.text.toArray⟩) := hB4.cell 4
  have V4 := Lib.hid ((hV3.out.far hF4 fun _ _ h => h).cmi (by have := PS.out; unfold maxLen; omega) (by have := PS.out; unfold maxLen; omega))
  have H4 := Lib.hid (HG.out.i.move hf4'.out)
  unfold cmdV at H4
  clear hk4 hw4 hF4 C4 hB4 q0 q1 q2 q3 q4
  go_wp2_with (go_at_call 17; refine (SA.out _ _ _ H4.out V4.out).mono ?_; rintro e w5 ⟨rfl, hf⟩; have hf5' := Lib.hid (hf4'.out.then hf); clear hf)
  go_ret
  exact ⟨rfl, hf5'.out⟩
theorem round_law (V : Value) (c : CI) (w : World) (h : CmG w V c) (hL : Lw w) :
    Calls Tryd.prog 7 #[V] w fun e w' => e = .returned (.bool true) ∧ Far (fun _ => False) w w' := by
  rcases checkF_cases c with hk | hk | ⟨hk, d, hd, hc, hl⟩
  · exact round_bad V c w h hL 2 hk (.inl rfl)
  · exact round_bad V c w h hL 3 hk (.inr rfl)
  · exact round_ok V c w h hL hk d hd hc hl
end
end Go.Proofs.YtjmgheogpglpnaaDoor
