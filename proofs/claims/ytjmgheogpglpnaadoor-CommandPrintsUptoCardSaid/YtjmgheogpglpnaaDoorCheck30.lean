/-
  The program's Check and Print.
-/
import Derived.Test.YtjmgheogpglpnaaDoorCmdW30
import Derived.Test.YtjmgheogpglpnaaDoorWriteA30
namespace Go.Proofs.YtjmgheogpglpnaaDoor
open Go.RowKit
set_option linter.unusedVariables false
set_option linter.unusedSimpArgs false
theorem checkF_bad {c : CI} (h : codeR (parseF (writeF c)) ≠ 0) : checkF c = 2 := by
  unfold checkF
  cases hp : parseF (writeF c) with
  | inl k => rfl
  | inr d => rw [hp] at h; exact absurd rfl h
theorem checkF_ne {c : CI} (h : codeR (parseF (writeF c)) = 0) (hd : upC (cmdR (parseF (writeF c))) ≠ c) : checkF c = 2 := by
  unfold checkF
  cases hp : parseF (writeF c) with
  | inl k => rfl
  | inr d => rw [hp] at hd; exact if_neg hd
theorem checkF_eq {c : CI} (h : codeR (parseF (writeF c)) = 0) (hd : upC (cmdR (parseF (writeF c))) = c) : checkF c = if 2064 < (writeF c).length then 3 else 0 := by
  unfold checkF
  cases hp : parseF (writeF c) with
  | inl k => rw [hp] at h; have := parse_code hp; simp only [codeR_inl] at h; omega
  | inr d => rw [hp] at hd; exact if_pos hd
section
set_option maxHeartbeats 4000000
set_option maxRecDepth 100000
theorem check_any (V : Value) (c : CI) (w : World) (h : CmG w V c) (hL : Lw w) :
    Calls Tryd.prog 15 #[V] w fun e w' => e = .returned (.int .i64 (checkF c : Int)) ∧ Far (fun _ => False) w w' := by
  have WA := Lib.hid (fun W (hf : Far (fun _ => False) w W) => write_any V c W (h.move hf).w h.n h.f (hL.far hf fun _ _ h => h) h.l)
  have RA := Lib.hid (fun W (hf : Far (fun _ => False) w W) => read_all (writeF c) W h.l (hL.far hf fun _ _ h => h))
  have HG := Lib.hid h
  obtain ⟨no, nc, mo, mc, rfl, hN, hM, hn1, hn2⟩ := h.i
  unfold cmdV at *
  unfold PPost at RA
  have PS := parseF_small (writeF c)
  have B1 := Lib.hid (fun a => @checkF_bad c a)
  have B2 := Lib.hid (fun a b => @checkF_ne c a b)
  have B3 := Lib.hid (fun a b => @checkF_eq c a b)
  obtain ⟨P, hP⟩ : ∃ P, P = parseF (writeF c) := ⟨_, rfl⟩
  rw [← hP] at RA PS B1 B2 B3
  obtain ⟨d, hd⟩ : ∃ d, d = cmdR P := ⟨_, rfl⟩
  obtain ⟨k, hk⟩ : ∃ k, k = codeR P := ⟨_, rfl⟩
  rw [← hd, ← hk] at RA B2 B3
  rw [← hk] at B1
  rw [← hd] at PS
  obtain ⟨l, hl⟩ : ∃ l, l = writeF c := ⟨_, rfl⟩
  rw [← hl] at WA RA B3
  obtain ⟨R, hR⟩ : ∃ R, R = checkF c := ⟨_, rfl⟩
  rw [← hR] at B1 B2 B3 ⊢
  obtain ⟨s, hS⟩ : ∃ s : ByteArray, s = ⟨l.toArray⟩ := ⟨_, rfl⟩
  have hst : st l = .string s := by unfold st; rw [hS]
  have hsz : s.size = l.length := by rw [hS]; simp [ByteArray.size]
  rw [hst] at WA RA
  rw [← hsz] at B3
  have PS' := Lib.hid PS
  obtain ⟨kb, hkb⟩ : ∃ k, k = w.heap.size := ⟨_, rfl⟩
  obtain ⟨wb, hwb⟩ : ∃ W, W = w.alloc (.cells #[.int .i64 c.v, .int .i64 c.how, .slice no c.names.length nc, .slice mo c.nums.length mc, .string ⟨c.text.toArray⟩] 27) := ⟨_, rfl⟩
  have hF := Lib.hid (show Far (fun _ => False) w wb from hwb ▸ (Far.refl _ w).alloc _)
  have hB := Lib.hid (hwb ▸ Bk.new hkb : Bk wb kb 27 #[.int .i64 c.v, .int .i64 c.how, .slice no c.names.length nc, .slice mo c.nums.length mc, .string ⟨c.text.toArray⟩])
  have q0 : wb.cell? ⟨kb, 0, none⟩ = some (.int .i64 c.v) := hB.out.cell 0
  have q1 : wb.cell? ⟨kb, 1, none⟩ = some (.int .i64 c.how) := hB.out.cell 1
  have q2 : wb.cell? ⟨kb, 2, none⟩ = some (.slice no c.names.length nc) := hB.out.cell 2
  have q3 : wb.cell? ⟨kb, 3, none⟩ = some (.slice mo c.nums.length mc) := hB.out.cell 3
  have q4 : wb.cell? ⟨kb, 4, none⟩ = some (.string ⟨c.text.toArray⟩) := hB.out.cell 4
  clear hN hM hn1 hn2 hP hd hk hl hR hS hst hsz PS
  go_enter Tryd.func15, Tryd.ntmps15
  go_upto_region 1 with fail
  rw [← hkb, ← hwb]
  clear hkb hwb
  go_upto_region 3 with (first
    | (go_at_call 26; refine (WA.out _ hF.out).mono ?_; rintro e w1 ⟨rfl, hf1⟩; have hf1' := Lib.hid (hF.out.then hf1); have hB1 := Lib.hid (hB.out.far' hf1 id); clear hf1)
    | (go_at_call 20; refine (RA.out _ hf1'.out).mono ?_; rintro e w2 ⟨hf2, V, rfl, hV⟩; have hV2 := Lib.hid hV; obtain ⟨xo, xc, yo, yc, rfl, ho1, ho2⟩ := hV.form; have hf2' := Lib.hid (hf1'.out.then hf2); have hB2 := Lib.hid (hB1.out.far' hf2 id); clear hf2 ho1 ho2 hV))
  obtain ⟨k3, hk3⟩ : ∃ k, k = w2.heap.size := ⟨_, rfl⟩
  obtain ⟨w3, hw3⟩ : ∃ W, W = w2.alloc (.cells #[.int .i64 (d.v : Int), .int .i64 (d.how : Int), .slice xo d.names.length xc, .slice yo d.nums.length yc, .string ⟨d.text.toArray⟩] 27) := ⟨_, rfl⟩
  rw [← hk3, ← hw3]
  have hF3 : Far (fun _ => False) w2 w3 := hw3 ▸ (Far.refl _ w2).alloc _
  have hf3' := Lib.hid (hf2'.out.then hF3)
  have C3 := (hw3 ▸ Bk.new hk3 : Bk w3 k3 27 #[.int .i64 (d.v : Int), .int .i64 (d.how : Int), .slice xo d.names.length xc, .slice yo d.nums.length yc, .string ⟨d.text.toArray⟩])
  have hB3 := hB2.out.far' hF3 id
  have a0 : w3.cell? ⟨k3, 0, none⟩ = some (.int .i64 (d.v : Int)) := C3.cell 0
  have a1 : w3.cell? ⟨k3, 1, none⟩ = some (.int .i64 (d.how : Int)) := C3.cell 1
  have a2 : w3.cell? ⟨k3, 2, none⟩ = some (.slice xo d.names.length xc) := C3.cell 2
  have a3 : w3.cell? ⟨k3, 3, none⟩ = some (.slice yo d.nums.length yc) := C3.cell 3
  have a4 : w3.cell? ⟨k3, 4, none⟩ = some (.string ⟨d.text.toArray⟩) := C3.cell 4
  have b0 : w3.cell? ⟨kb, 0, none⟩ = some (.int .i64 c.v) := hB3.cell 0
  have b1 : w3.cell? ⟨kb, 1, none⟩ = some (.int .i64 c.how) := hB3.cell 1
  have b2 : w3.cell? ⟨kb, 2, none⟩ = some (.slice no c.names.length nc) := hB3.cell 2
  have b3 : w3.cell? ⟨kb, 3, none⟩ = some (.slice mo c.nums.length mc) := hB3.cell 3
  have b4 : w3.cell? ⟨kb, 4, none⟩ = some (.string ⟨c.text.toArray⟩) := hB3.cell 4
  have V3 := Lib.hid (hV2.out.far hF3 fun _ _ h => h)
  have SA := Lib.hid (same_any _ _ (upC d) c w3 (V3.out.cmi (by have := PS'.out; unfold maxLen; omega) (by have := PS'.out; unfold maxLen; omega)) (HG.out.i.move hf3'.out))
  unfold cmdV at SA
  clear hk3 hw3 hF3 C3 hB3 q0 q1 q2 q3 q4
  by_cases hk0 : k = 0
  · subst hk0
    by_cases hd : upC d = c
    · have e0 := B3.out rfl hd
      rw [decide_eq_true hd] at SA
      by_cases hl : 2064 < s.size
      · rw [if_pos hl] at e0
        subst e0
        have q5 : decide ((2064 : Int) < (s.size : Int)) = true := by rw [decide_eq_true_eq]; omega
        have hl' := Lib.hid hl
        have hd' := Lib.hid hd
        clear hl hd B1 B2 B3
        go_wp2_with (go_at_call 17; refine SA.out.mono ?_; rintro e w4 ⟨rfl, hf4⟩; have hf4' := Lib.hid hf4; clear hf4)
        go_ret
        exact ⟨rfl, hf3'.out.then hf4'.out⟩
      · rw [if_neg hl] at e0
        subst e0
        have q5 : decide ((2064 : Int) < (s.size : Int)) = false := by rw [decide_eq_false_iff_not]; omega
        have hl' := Lib.hid hl
        have hd' := Lib.hid hd
        clear hl hd B1 B2 B3
        go_wp2_with (go_at_call 17; refine SA.out.mono ?_; rintro e w4 ⟨rfl, hf4⟩; have hf4' := Lib.hid hf4; clear hf4)
        go_ret
        exact ⟨rfl, hf3'.out.then hf4'.out⟩
    · have e0 := B2.out rfl hd
      subst e0
      rw [decide_eq_false hd] at SA
      have hd' := Lib.hid hd
      clear hd B1 B2 B3
      go_wp2_with (go_at_call 17; refine SA.out.mono ?_; rintro e w4 ⟨rfl, hf4⟩; have hf4' := Lib.hid hf4; clear hf4)
      go_ret
      exact ⟨rfl, hf3'.out.then hf4'.out⟩
  · have e0 := B1.out hk0
    subst e0
    have q5 : ((k : Int) == 0) = false := by simp; omega
    have q6 : ((k : Int) != 0) = true := by simp; omega
    have q7 : ¬ ((k : Int) = 0) := by omega
    clear B1 B2 B3 SA
    go_wp2_with fail
    go_ret
    exact ⟨rfl, hf3'.out⟩
theorem print_any (V : Value) (c : CI) (w : World) (h : CmG w V c) (hL : Lw w) :
    Calls Tryd.prog 14 #[V] w fun e w' => e = .returned (.tuple #[st (if checkF c = 0 then writeF c else []), .int .i64 (checkF c : Int)]) ∧ Far (fun _ => False) w w' := by
  have WA := Lib.hid (fun W (hf : Far (fun _ => False) w W) => write_any V c W (h.move hf).w h.n h.f (hL.far hf fun _ _ h => h) h.l)
  have CA := Lib.hid (fun W (hf : Far (fun _ => False) w W) => check_any V c W (h.move hf) (hL.far hf fun _ _ h => h))
  obtain ⟨no, nc, mo, mc, rfl, hN, hM, hn1, hn2⟩ := h.i
  unfold cmdV at *
  obtain ⟨k, hk⟩ : ∃ k, k = checkF c := ⟨_, rfl⟩
  rw [← hk] at CA ⊢
  obtain ⟨l, hl⟩ : ∃ l, l = writeF c := ⟨_, rfl⟩
  rw [← hl] at WA ⊢
  obtain ⟨kb, hkb⟩ : ∃ k, k = w.heap.size := ⟨_, rfl⟩
  obtain ⟨wb, hwb⟩ : ∃ W, W = w.alloc (.cells #[.int .i64 c.v, .int .i64 c.how, .slice no c.names.length nc, .slice mo c.nums.length mc, .string ⟨c.text.toArray⟩] 27) := ⟨_, rfl⟩
  have hF := Lib.hid (show Far (fun _ => False) w wb from hwb ▸ (Far.refl _ w).alloc _)
  have hB := Lib.hid (hwb ▸ Bk.new hkb : Bk wb kb 27 #[.int .i64 c.v, .int .i64 c.how, .slice no c.names.length nc, .slice mo c.nums.length mc, .string ⟨c.text.toArray⟩])
  have q0 : wb.cell? ⟨kb, 0, none⟩ = some (.int .i64 c.v) := hB.out.cell 0
  have q1 : wb.cell? ⟨kb, 1, none⟩ = some (.int .i64 c.how) := hB.out.cell 1
  have q2 : wb.cell? ⟨kb, 2, none⟩ = some (.slice no c.names.length nc) := hB.out.cell 2
  have q3 : wb.cell? ⟨kb, 3, none⟩ = some (.slice mo c.nums.length mc) := hB.out.cell 3
  have q4 : wb.cell? ⟨kb, 4, none⟩ = some (.string ⟨c.text.toArray⟩) := hB.out.cell 4
  clear hN hM hn1 hn2 hk hl
  by_cases hk0 : k = 0
  · subst hk0
    go_enter Tryd.func14, Tryd.ntmps14
    go_upto_region 1 with fail
    rw [← hkb, ← hwb]
    clear hkb hwb
    go_wp2_with (first
      | (go_at_call 15; refine (CA.out _ hF.out).mono ?_; rintro e w1 ⟨rfl, hf1⟩; have hf1' := Lib.hid (hF.out.then hf1); have hB1 := hB.out.far' hf1 id; have b0 : w1.cell? ⟨kb, 0, none⟩ = some (.int .i64 c.v) := hB1.cell 0; have b1 : w1.cell? ⟨kb, 1, none⟩ = some (.int .i64 c.how) := hB1.cell 1; have b2 : w1.cell? ⟨kb, 2, none⟩ = some (.slice no c.names.length nc) := hB1.cell 2; have b3 : w1.cell? ⟨kb, 3, none⟩ = some (.slice mo c.nums.length mc) := hB1.cell 3; have b4 : w1.cell? ⟨kb, 4, none⟩ = some (.string ⟨c.text.toArray⟩) := hB1.cell 4; clear hf1 hB1)
      | (go_at_call 26; refine (WA.out _ hf1'.out).mono ?_; rintro e w2 ⟨rfl, hf2⟩; have hf2' := Lib.hid (hf1'.out.then hf2); clear hf2))
    go_ret2
    exact ⟨rfl, hf2'.out⟩
  · have q5 : ((k : Int) == 0) = false := by simp; omega
    have q6 : ((k : Int) != 0) = true := by simp; omega
    have q7 : ¬ ((k : Int) = 0) := by omega
    rw [if_neg hk0]
    have hk0' := Lib.hid hk0
    clear hk0
    go_enter Tryd.func14, Tryd.ntmps14
    go_upto_region 1 with fail
    rw [← hkb, ← hwb]
    clear hkb hwb
    go_wp2_with (go_at_call 15; refine (CA.out _ hF.out).mono ?_; rintro e w1 ⟨rfl, hf1⟩; have hf1' := Lib.hid (hF.out.then hf1); clear hf1)
    go_ret2
    exact ⟨rfl, hf1'.out⟩
end
end Go.Proofs.YtjmgheogpglpnaaDoor
