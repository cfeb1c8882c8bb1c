/-
  The program writes a command.
-/
import Derived.Test.YtjmgheogpglpnaaDoorWriteF30
import Derived.Test.YtjmgheogpglpnaaDoorVSeq30
import Derived.Deep.RegionHeld3
namespace Go.Proofs.YtjmgheogpglpnaaDoor
open Go.RowKit
set_option linter.unusedVariables false
set_option linter.unusedSimpArgs false
theorem wrV_enter (v : Nat) : ∃ f, wrV v = fnV f ∧ ∀ args w, (callFunc f args).run Tryd.prog w = .ok (.enter f args) w := by
  unfold wrV
  (repeat' split)
  · exact ⟨_, rfl, enters_of Tryd.func40 (by kernel_rfl) rfl⟩
  · exact ⟨_, rfl, enters_of Tryd.func44 (by kernel_rfl) rfl⟩
  · exact ⟨_, rfl, enters_of Tryd.func46 (by kernel_rfl) rfl⟩
  · exact ⟨_, rfl, enters_of Tryd.func42 (by kernel_rfl) rfl⟩
theorem concat_two (W : World) (gb : Nat) (hgb : gb = W.heap.size) (V0 V1 : Value) (l0 l1 : List Tx) (h0 : TxS W V0 l0) (h1 : TxS W V1 l1) (hn : l0.length + l1.length ≤ 1099511627776) :
    Calls Tryd.prog 37 #[.slice (some ⟨gb, 0, none⟩) 2 2] (W.alloc (.cells #[V0, V1] 24)) fun e w' => ∃ v, e = .returned v ∧ ((∃ B, w'.ownsRow B 9 1 v (l0 ++ l1).length ((l0 ++ l1).map st)) ∧ Far (fun _ => False) W w') := by
  have f : Far (fun _ => False) W (W.alloc (.cells #[V0, V1] 24)) := (Far.refl _ W).alloc _
  have hb : Bk (W.alloc (.cells #[V0, V1] 24)) gb 24 #[V0, V1] := Bk.new hgb
  refine (concat_any gb V0 V1 l0 l1 _ (hb.cell 0) (hb.cell 1) (h0.move f) (h1.move f) hn).mono ?_
  rintro e w' ⟨v, rfl, ho, hf⟩
  exact ⟨v, rfl, ⟨_, ho⟩, f.then hf⟩
section
set_option maxHeartbeats 4000000
set_option maxRecDepth 100000
theorem write_any (V : Value) (c : CI) (w : World) (h : CmW w V c) (hn : 1 + (c.names.length + c.nums.length) ≤ 1099511627775) (hI : ∀ n ∈ c.nums, -9223372036854775808 ≤ n ∧ n ≤ 9223372036854775807) (hL : Lw w) (hlen : (writeF c).length ≤ 140737488351232) :
    Calls Tryd.prog 26 #[V] w fun e w' => e = .returned (st (writeF c)) ∧ Far (fun _ => False) w w' := by
  have HC := Lib.hid h
  obtain ⟨nv, mv, rfl, h1, h2⟩ := h
  obtain ⟨no, nc, rfl⟩ := h1.form
  obtain ⟨mo, mc, rfl⟩ := Src.form h2
  obtain ⟨kb, hkb⟩ : ∃ k, k = w.heap.size := ⟨_, rfl⟩
  obtain ⟨wb, hwb⟩ : ∃ W, W = w.alloc (.cells #[.int .i64 c.v, .int .i64 c.how, .slice no c.names.length nc, .slice mo c.nums.length mc, .string ⟨c.text.toArray⟩] 27) := ⟨_, rfl⟩
  have hF := Lib.hid (show Far (fun _ => False) w wb from hwb ▸ (Far.refl _ w).alloc _)
  have hB := Lib.hid (hwb ▸ Bk.new hkb : Bk wb kb 27 #[.int .i64 c.v, .int .i64 c.how, .slice no c.names.length nc, .slice mo c.nums.length mc, .string ⟨c.text.toArray⟩])
  have FM := forms_any wb
  have hn' := Lib.hid hn
  have hI' := Lib.hid hI
  have hL' := Lib.hid hL
  have hlen' := Lib.hid hlen
  clear h1 h2 hn hI hL hlen
  go_enter Tryd.func26, Tryd.ntmps26
  go_upto_region 1 with fail
  rw [← hkb, ← hwb]
  clear hkb hwb
  go_wp2_with (go_at_call 32; refine FM.mono ?_; rintro e w1 ⟨h, hh, rfl, hBf, -, hf⟩; have hBf' := Lib.hid hBf; have hf' := Lib.hid hf; clear hh hf hBf)
  clear FM
  go_loopw [7] (fun iv wr => ∃ i : Nat, iv = .int .i64 i ∧ i ≤ 10 ∧ (∀ j : Nat, j < i → c.v ≠ (j : Int) + 1) ∧ Far (fun _ => False) w1 wr) (fun iv _ => 10 - (intOf iv).toNat)
  case atStart => exact ⟨0, rfl, Nat.zero_le _, fun j h => absurd h (Nat.not_lt_zero _), Far.refl _ _⟩
  case round =>
    obtain ⟨i, rfl, hi, hno, hfw⟩ := hrel
    have hb := hBf'.out.far' hfw id
    have hbk := Lib.hid (hB.out.far' (hf'.out.then hfw) id)
    have b0 : wr.cell? ⟨kb, 0, none⟩ = some (.int .i64 c.v) := hbk.out.cell 0
    have hno' := Lib.hid hno
    have hfw' := Lib.hid hfw
    have hkl := hbk.out.lt
    clear hno hfw
    by_cases hlt : i < 10
    · have e1 : decide ((i : Int) < 10) = true := by rw [decide_eq_true_eq]; omega
      have hii : (i : Int) < 10 := by omega
      obtain ⟨q0, q1, q2, q3⟩ := form_at h i hlt
      obtain ⟨rf, rc, hr⟩ := rdV_form h (i + 1)
      obtain ⟨wf, hw, hent⟩ := wrV_enter (i + 1)
      unfold fnV at hw
      rw [hr] at q2
      rw [hw] at q3
      have c0 : wr.cell? ⟨h + 6, i * 4, none⟩ = some (.int .i64 ((i : Int) + 1)) := (hb.cell _).trans q0
      have c1 : wr.cell? ⟨h + 6, i * 4 + 1, none⟩ = some (.string ⟨(wordV (i + 1)).toArray⟩) := (hb.cell _).trans q1
      have c2 : wr.cell? ⟨h + 6, i * 4 + 2, none⟩ = some (.func (.func rf) #[] rc) := (hb.cell _).trans q2
      have c3 : wr.cell? ⟨h + 6, i * 4 + 3, none⟩ = some (.func (.func wf) #[] #[]) := (hb.cell _).trans q3
      have hw' := Lib.hid hw
      have hlk : kb ≠ wr.heap.size := by omega
      clear q0 q1 q2 q3 hr hw hb
      by_cases hv : c.v = (i : Int) + 1
      · have ev : ((i : Int) + 1 == c.v) = true := by rw [hv]; simp
        have hv' := Lib.hid hv
        clear hv
        go_upto_region 5 with fail
        obtain ⟨kf, hkf⟩ : ∃ k, k = wr.heap.size := ⟨_, rfl⟩
        obtain ⟨wa, hwa⟩ : ∃ W, W = wr.alloc (.cells #[.int .i64 ((i : Int) + 1), .string ⟨(wordV (i + 1)).toArray⟩, .func (.func rf) #[] rc, .func (.func wf) #[] #[]] 61) := ⟨_, rfl⟩
        rw [← hwa, ← hkf]
        have hX := Lib.hid (hwa ▸ Bk.new hkf : Bk wa kf 61 #[.int .i64 ((i : Int) + 1), .string ⟨(wordV (i + 1)).toArray⟩, .func (.func rf) #[] rc, .func (.func wf) #[] #[]])
        have hFa := Lib.hid (show Far (fun _ => False) wr wa from hwa ▸ (Far.refl _ wr).alloc _)
        have hFw := Lib.hid (hF.out.then ((hf'.out.then hfw'.out).then hFa.out))
        have KA := Lib.hid (show ∀ W', Far (fun _ => False) wa W' → W'.cell? ⟨kf, 1, none⟩ = some (.string ⟨(wordV (i + 1)).toArray⟩) ∧ W'.cell? ⟨kf, 3, none⟩ = some (.func (.func wf) #[] #[]) ∧ W'.cell? ⟨kb, 0, none⟩ = some (.int .i64 c.v) ∧ W'.cell? ⟨kb, 1, none⟩ = some (.int .i64 c.how) ∧ W'.cell? ⟨kb, 2, none⟩ = some (.slice no c.names.length nc) ∧ W'.cell? ⟨kb, 3, none⟩ = some (.slice mo c.nums.length mc) ∧ W'.cell? ⟨kb, 4, none⟩ = some (.string ⟨c.text.toArray⟩) ∧ kf < W'.heap.size ∧ kb < W'.heap.size from fun W' hw => by
          have a := hX.out.far' hw id
          have b := (hbk.out.far' hFa.out id).far' hw id
          exact ⟨a.cell 1, a.cell 3, b.cell 0, b.cell 1, b.cell 2, b.cell 3, b.cell 4, a.lt, b.lt⟩)
        obtain ⟨tl, htl⟩ : ∃ t, t = tailF (i + 1) c := ⟨_, rfl⟩
        have WR := Lib.hid (show ∀ W', Far (fun _ => False) wa W' → Calls Tryd.prog wf #[(.agg #[.int .i64 c.v, .int .i64 c.how, .slice no c.names.length nc, .slice mo c.nums.length mc, .string ⟨c.text.toArray⟩])] W' fun e w' => ∃ ov, e = .returned ov ∧ (TxS w' ov tl ∧ Far (fun _ => False) W' w') from fun W' hw => by
          rw [htl]
          exact writes_any (i + 1) wf hw'.out (.agg #[.int .i64 c.v, .int .i64 c.how, .slice no c.names.length nc, .slice mo c.nums.length mc, .string ⟨c.text.toArray⟩]) c W' (HC.out.move (hFw.out.then hw)) (by have := hn'.out; omega) hI'.out (hL'.out.far (hFw.out.then hw) fun _ _ h => h))
        have htn := Lib.hid (show tl.length + 1 ≤ 1099511627776 by
          rw [htl]; unfold tailF; have := hn'.out
          (repeat' split) <;> simp <;> omega)
        have htn2 := Lib.hid (show [wordV (i + 1)].length + tl.length ≤ 1099511627776 by have := htn.out; simp; omega)
        have hWF := Lib.hid (show writeF c = joinW (wordV (i + 1) :: tl) by
          unfold writeF
          rw [if_pos (by have := hv'.out; omega), htl, show c.v.toNat = i + 1 by have := hv'.out; omega])
        have FD := drew_far wa
        obtain ⟨y1, y2, y3, y4, y5, y6, y7, y8, y9⟩ := KA.out _ (Far.refl _ wa)
        have yn1 : kf ≠ wa.heap.size := by omega
        have yn2 : kb ≠ wa.heap.size := by omega
        have TW := Lib.hid (fun W => txs_one W (wordV (i + 1)))
        have CJ := Lib.hid (fun (B : Nat) (v : Value) (W : World) (ho : W.ownsRow B 9 1 v ([wordV (i + 1)] ++ tl).length (([wordV (i + 1)] ++ tl).map st)) => join_own B v ([wordV (i + 1)] ++ tl) W ho (by simp) (by have := htn.out; simp; omega) (by have := hlen'.out; rw [hWF.out] at this; exact this))
        have FD' := Lib.hid FD
        have HS := Lib.hid (show ∀ W', Far (fun _ => False) wa W' → (Far (fun _ => False) wa W' ∧ W'.cell? ⟨kf, 1, none⟩ = some (.string ⟨(wordV (i + 1)).toArray⟩) ∧ W'.cell? ⟨kf, 3, none⟩ = some (.func (.func wf) #[] #[]) ∧ W'.cell? ⟨kb, 0, none⟩ = some (.int .i64 c.v) ∧ W'.cell? ⟨kb, 1, none⟩ = some (.int .i64 c.how) ∧ W'.cell? ⟨kb, 2, none⟩ = some (.slice no c.names.length nc) ∧ W'.cell? ⟨kb, 3, none⟩ = some (.slice mo c.nums.length mc) ∧ W'.cell? ⟨kb, 4, none⟩ = some (.string ⟨c.text.toArray⟩)) from fun W' hw => by
          obtain ⟨x1, x2, x3, x4, x5, x6, x7, x8, x9⟩ := KA.out _ hw
          exact ⟨hw, x1, x2, x3, x4, x5, x6, x7⟩)
        clear hkf hwa htl c0 c1 c2 c3 b0 FD y1 y2 y3 y4 y5 y6 y7 y8 y9 KA
        go_region_held3 (fun W' => Far (fun _ => False) wa W' ∧ W'.cell? ⟨kf, 1, none⟩ = some (.string ⟨(wordV (i + 1)).toArray⟩) ∧ W'.cell? ⟨kf, 3, none⟩ = some (.func (.func wf) #[] #[]) ∧ W'.cell? ⟨kb, 0, none⟩ = some (.int .i64 c.v) ∧ W'.cell? ⟨kb, 1, none⟩ = some (.int .i64 c.how) ∧ W'.cell? ⟨kb, 2, none⟩ = some (.slice no c.names.length nc) ∧ W'.cell? ⟨kb, 3, none⟩ = some (.slice mo c.nums.length mc) ∧ W'.cell? ⟨kb, 4, none⟩ = some (.string ⟨c.text.toArray⟩)) ((refine HS.out _ ?_; first | exact hf8'.out | exact hf6'.out | exact hf5'.out | exact FD'.out | exact (‹Far (fun _ => False) wa _ ∧ _›).1.alloc _))
          (first
            | (go_at_call 36; refine (CJ.out _ _ _ ho6'.out).mono ?_; rintro e w9 ⟨rfl, hf8⟩; have hf8' : Hid (Far (fun _ => False) wa w9) := Lib.hid (hf6'.out.then hf8); clear hf8)
            | (go_at_call 37; have hTA := TxS.move (l := [wordV (i + 1)]) (V := .slice (some ⟨wa.heap.size, 0, none⟩) 1 1) (w := (wa.alloc (.cells #[.string ⟨(wordV (i + 1)).toArray⟩] 9)).drew) ((TW.out wa).move (drew_far _)) hfx'.out; refine (concat_two w4 w4.heap.size rfl (.slice (some ⟨wa.heap.size, 0, none⟩) 1 1) (.slice tq tl.length tc) [wordV (i + 1)] tl hTA hT'.out htn2.out).mono ?_; clear hTA; rintro e w6 ⟨v5, rfl, ⟨B6, ho6⟩, hf6⟩; have ho6' := Lib.hid ho6; have hf6' : Hid (Far (fun _ => False) wa w6) := Lib.hid (hf5'.out.then hf6); clear ho6 hf6)
            | (go_at_call 37; refine (concat_two (w4.alloc (.cells #[.string ⟨(wordV (i + 1)).toArray⟩] 9)) (w4.heap.size + 1) (by simp) _ _ [wordV (i + 1)] tl (TW.out w4) (hT'.out.move ((Far.refl _ w4).alloc _)) htn2.out).mono ?_; rintro e w6 ⟨v5, rfl, ⟨B6, ho6⟩, hf6⟩; have ho6' := Lib.hid ho6; have hf6' : Hid (Far (fun _ => False) wa w6) := Lib.hid (hf5'.out.then (((Far.refl _ w4).alloc _).then hf6)); clear ho6 hf6)
            | (refine (WR.out _ (‹Far (fun _ => False) wa _ ∧ _›).1).mono ?_; rintro e w4 ⟨v3, rfl, hT, hfx⟩; obtain ⟨tq, tc, rfl⟩ := hT.form; have hT' := Lib.hid hT; have hfx' := Lib.hid hfx; have hf5' : Hid (Far (fun _ => False) wa w4) := Lib.hid ((‹Far (fun _ => False) wa _ ∧ _›).1.then hfx); clear hT hfx))
        all_goals
          go_wp2_with fail
          go_ret
          exact ⟨by rw [hWF.out]; rfl, hFw.out.then hf8'.out⟩
      · have ev : ((i : Int) + 1 == c.v) = false := by simp; omega
        have ev2 : ¬ ((i : Int) + 1 = c.v) := by omega
        have hno2 := Lib.hid (show ∀ j : Nat, j < i + 1 → c.v ≠ (j : Int) + 1 from fun j hj => by
          by_cases e : j = i
          · rw [e]; exact hv
          · exact hno'.out j (by omega))
        clear hv
        go_wp2_with fail
        go_roundw
        case rel => exact ⟨i + 1, by go_num, by omega, hno2.out, hfw'.out.alloc _⟩
        case measure => simp [intOf]; omega
    · have e1 : decide ((i : Int) < 10) = false := by rw [decide_eq_false_iff_not]; omega
      have hW := Lib.hid (show writeF c = [] by
        unfold writeF
        rw [if_neg]
        intro hc
        exact hno'.out (c.v.toNat - 1) (by omega) (by omega))
      go_wp2_with fail
      go_ret
      exact ⟨by rw [hW.out]; rfl, hF.out.then (hf'.out.then hfw'.out)⟩
end
end Go.Proofs.YtjmgheogpglpnaaDoor
