/-
  The document's Check and Print. Made by gen/prints30.py.
-/
import Derived.Test.YtjmgheogpglpnaaDoorRLoop30
namespace Go.Proofs.YtjmgheogpglpnaaDoor
open Go.RowKit
set_option linter.unusedVariables false
set_option linter.unusedSimpArgs false
theorem rline_any (V : Value) (c : CI) (w : World) (h : CmG w V c) (hc : costC c ≤ 1048576) (hL : Lw w) :
    Calls Tryd.prog 28 #[V] w fun e w' => e = .returned (.tuple #[st (lineC c).1, .bool (lineC c).2]) ∧ Far (fun _ => False) w w' := by
  by_cases hv : 1 ≤ c.v ∧ c.v ≤ 10
  · obtain ⟨v, e⟩ : ∃ v : Nat, c.v = (v : Int) := ⟨c.v.toNat, by omega⟩
    by_cases h2 : v ≤ 2
    · exact rline_two V c w h.i v e (by omega) h2 hc
    · exact rline_form V c w h.i v e (by omega) (by omega) hc h.f hL
  · exact rline_out V c w h.i hv
theorem lineC_len {w : World} {V : Value} {c : CI} (h : CmG w V c) (ht : (lineC c).2 = true) : (lineC c).1.length ≤ 140737488351232 := by rw [line_write ht]; exact h.l
section
set_option maxHeartbeats 4000000
set_option maxRecDepth 100000
theorem rcheck_any (V : Value) (c : CI) (w : World) (h : CmG w V c) (hc : costC c ≤ 1048576) (hL : Lw w) :
    Calls Tryd.prog 27 #[V] w fun e w' => e = .returned (.int .i64 (checkF c : Int)) ∧ Far (fun _ => False) w w' := by
  have LA := Lib.hid (fun W (hf : Far (fun _ => False) w W) => rline_any V c W (h.move hf) hc (hL.far hf fun _ _ h => h))
  have hlen := lineC_len (c := c) h
  rw [checkF_line]
  generalize lineC c = z at *
  obtain ⟨l, ok⟩ := z
  dsimp only at *
  obtain ⟨s, hS⟩ : ∃ s : ByteArray, s = ⟨l.toArray⟩ := ⟨_, rfl⟩
  have hst : st l = .string s := by unfold st; rw [hS]
  have hsz : s.size = l.length := by rw [hS]; simp [ByteArray.size]
  rw [hst] at LA
  rw [← hsz] at hlen ⊢
  obtain ⟨no, nc, mo, mc, rfl, hN, hM, hn1, hn2⟩ := h.i
  unfold cmdV at *
  obtain ⟨kb, hkb⟩ : ∃ k, k = w.heap.size := ⟨_, rfl⟩
  obtain ⟨wb, hwb⟩ : ∃ W, W = w.alloc (.cells #[.int .i64 c.v, .int .i64 c.how, .slice no c.names.length nc, .slice mo c.nums.length mc, .string ⟨c.text.toArray⟩] 27) := ⟨_, rfl⟩
  have hF := Lib.hid (show Far (fun _ => False) w wb from hwb ▸ (Far.refl _ w).alloc _)
  have hB := Lib.hid (hwb ▸ Bk.new hkb : Bk wb kb 27 #[.int .i64 c.v, .int .i64 c.how, .slice no c.names.length nc, .slice mo c.nums.length mc, .string ⟨c.text.toArray⟩])
  have q0 : wb.cell? ⟨kb, 0, none⟩ = some (.int .i64 c.v) := hB.out.cell 0
  have q1 : wb.cell? ⟨kb, 1, none⟩ = some (.int .i64 c.how) := hB.out.cell 1
  have q2 : wb.cell? ⟨kb, 2, none⟩ = some (.slice no c.names.length nc) := hB.out.cell 2
  have q3 : wb.cell? ⟨kb, 3, none⟩ = some (.slice mo c.nums.length mc) := hB.out.cell 3
  have q4 : wb.cell? ⟨kb, 4, none⟩ = some (.string ⟨c.text.toArray⟩) := hB.out.cell 4
  clear hN hM hn1 hn2
  clear hS hst hsz hc hL h
  cases ok with
  | false =>
    clear hlen
    rw [if_neg (by decide)]
    go_enter Tryd.func27, Tryd.ntmps27
    go_upto_region 1 with fail
    rw [← hkb, ← hwb]
    clear hkb hwb
    go_wp2_with (go_at_call 28; refine (LA.out _ hF.out).mono ?_; rintro e w1 ⟨rfl, hf⟩; have hf1' := Lib.hid (hF.out.then hf); clear hf)
    go_ret
    exact ⟨rfl, hf1'.out⟩
  | true =>
    rw [if_pos rfl]
    have hl2 := hlen rfl
    clear hlen
    by_cases hl : 2064 < s.size
    · rw [if_pos hl]
      have q5 : decide ((2064 : Int) < (s.size : Int)) = true := by rw [decide_eq_true_eq]; omega
      have q6 : decide (2064 < s.size) = true := by rw [decide_eq_true_eq]; exact hl
      go_enter Tryd.func27, Tryd.ntmps27
      go_upto_region 1 with fail
      rw [← hkb, ← hwb]
      clear hkb hwb
      go_wp2_with (go_at_call 28; refine (LA.out _ hF.out).mono ?_; rintro e w1 ⟨rfl, hf⟩; have hf1' := Lib.hid (hF.out.then hf); clear hf)
      go_ret
      exact ⟨rfl, hf1'.out⟩
    · rw [if_neg hl]
      have q5 : decide ((2064 : Int) < (s.size : Int)) = false := by rw [decide_eq_false_iff_not]; omega
      have q6 : decide (2064 < s.size) = false := by rw [decide_eq_false_iff_not]; exact hl
      go_enter Tryd.func27, Tryd.ntmps27
      go_upto_region 1 with fail
      rw [← hkb, ← hwb]
      clear hkb hwb
      go_wp2_with (go_at_call 28; refine (LA.out _ hF.out).mono ?_; rintro e w1 ⟨rfl, hf⟩; have hf1' := Lib.hid (hF.out.then hf); clear hf)
      go_ret
      exact ⟨rfl, hf1'.out⟩
theorem rprint_any (V : Value) (c : CI) (w : World) (h : CmG w V c) (hc : costC c ≤ 1048576) (hL : Lw w) :
    Calls Tryd.prog 16 #[V] w fun e w' => e = .returned (.tuple #[st (if checkF c = 0 then writeF c else []), .int .i64 (checkF c : Int)]) ∧ Far (fun _ => False) w w' := by
  have LA := Lib.hid (fun W (hf : Far (fun _ => False) w W) => rline_any V c W (h.move hf) hc (hL.far hf fun _ _ h => h))
  have CA := Lib.hid (fun W (hf : Far (fun _ => False) w W) => rcheck_any V c W (h.move hf) hc (hL.far hf fun _ _ h => h))
  obtain ⟨k, hk⟩ : ∃ k, k = checkF c := ⟨_, rfl⟩
  have hk2 := hk
  rw [checkF_line] at hk2
  rw [← hk] at CA ⊢
  by_cases hk0 : k = 0
  · have ht : (lineC c).2 = true := by
      cases hb : (lineC c).2 with
      | true => rfl
      | false => rw [hb, if_neg (by decide)] at hk2; omega
    rw [line_write ht, ht] at LA
    rw [if_pos hk0]
    obtain ⟨s, hS⟩ : ∃ s : Value, s = st (writeF c) := ⟨_, rfl⟩
    rw [← hS] at LA ⊢
    obtain ⟨no, nc, mo, mc, rfl, hN, hM, hn1, hn2⟩ := h.i
    unfold cmdV at *
    obtain ⟨kb, hkb⟩ : ∃ k, k = w.heap.size := ⟨_, rfl⟩
    obtain ⟨wb, hwb⟩ : ∃ W, W = w.alloc (.cells #[.int .i64 c.v, .int .i64 c.how, .slice no c.names.length nc, .slice mo c.nums.length mc, .string ⟨c.text.toArray⟩] 27) := ⟨_, rfl⟩
    have hF := Lib.hid (show Far (fun _ => False) w wb from hwb ▸ (Far.refl _ w).alloc _)
    have hB := Lib.hid (hwb ▸ Bk.new hkb : Bk wb kb 27 #[.int .i64 c.v, .int .i64 c.how, .slice no c.names.length nc, .slice mo c.nums.length mc, .string ⟨c.text.toArray⟩])
    have q0 : wb.cell? ⟨kb, 0, none⟩ = some (.int .i64 c.v) := hB.out.cell 0
    have q1 : wb.cell? ⟨kb, 1, none⟩ = some (.int .i64 c.how) := hB.out.cell 1
    have q2 : wb.cell? ⟨kb, 2, none⟩ = some (.slice no c.names.length nc) := hB.out.cell 2
    have q3 : wb.cell? ⟨kb, 3, none⟩ = some (.slice mo c.nums.length mc) := hB.out.cell 3
    have q4 : wb.cell? ⟨kb, 4, none⟩ = some (.string ⟨c.text.toArray⟩) := hB.out.cell 4
    clear hN hM hn1 hn2
    clear hS ht hk hk2 hc hL h
    subst hk0
    go_enter Tryd.func16, Tryd.ntmps16
    go_upto_region 1 with fail
    rw [← hkb, ← hwb]
    clear hkb hwb
    go_wp2_with (first
      | (go_at_call 27; refine (CA.out _ hF.out).mono ?_; rintro e w1 ⟨rfl, hf⟩; have hf1' := Lib.hid (hF.out.then hf); have hB1 := hB.out.far' hf id; have b0 : w1.cell? ⟨kb, 0, none⟩ = some (.int .i64 c.v) := hB1.cell 0; have b1 : w1.cell? ⟨kb, 1, none⟩ = some (.int .i64 c.how) := hB1.cell 1; have b2 : w1.cell? ⟨kb, 2, none⟩ = some (.slice no c.names.length nc) := hB1.cell 2; have b3 : w1.cell? ⟨kb, 3, none⟩ = some (.slice mo c.nums.length mc) := hB1.cell 3; have b4 : w1.cell? ⟨kb, 4, none⟩ = some (.string ⟨c.text.toArray⟩) := hB1.cell 4; clear hf hB1)
      | (go_at_call 28; refine (LA.out _ hf1'.out).mono ?_; rintro e w2 ⟨rfl, hf⟩; have hf2' := Lib.hid (hf1'.out.then hf); clear hf))
    go_ret2
    exact ⟨rfl, hf2'.out⟩
  · rw [if_neg hk0]
    have q5 : ((k : Int) == 0) = false := by simp; omega
    have q6 : ((k : Int) != 0) = true := by simp; omega
    have q7 : ¬ ((k : Int) = 0) := by omega
    obtain ⟨no, nc, mo, mc, rfl, hN, hM, hn1, hn2⟩ := h.i
    unfold cmdV at *
    obtain ⟨kb, hkb⟩ : ∃ k, k = w.heap.size := ⟨_, rfl⟩
    obtain ⟨wb, hwb⟩ : ∃ W, W = w.alloc (.cells #[.int .i64 c.v, .int .i64 c.how, .slice no c.names.length nc, .slice mo c.nums.length mc, .string ⟨c.text.toArray⟩] 27) := ⟨_, rfl⟩
    have hF := Lib.hid (show Far (fun _ => False) w wb from hwb ▸ (Far.refl _ w).alloc _)
    have hB := Lib.hid (hwb ▸ Bk.new hkb : Bk wb kb 27 #[.int .i64 c.v, .int .i64 c.how, .slice no c.names.length nc, .slice mo c.nums.length mc, .string ⟨c.text.toArray⟩])
    have q0 : wb.cell? ⟨kb, 0, none⟩ = some (.int .i64 c.v) := hB.out.cell 0
    have q1 : wb.cell? ⟨kb, 1, none⟩ = some (.int .i64 c.how) := hB.out.cell 1
    have q2 : wb.cell? ⟨kb, 2, none⟩ = some (.slice no c.names.length nc) := hB.out.cell 2
    have q3 : wb.cell? ⟨kb, 3, none⟩ = some (.slice mo c.nums.length mc) := hB.out.cell 3
    have q4 : wb.cell? ⟨kb, 4, none⟩ = some (.string ⟨c.text.toArray⟩) := hB.out.cell 4
    clear hN hM hn1 hn2
    clear hk hk2 hk0 hc hL h
    go_enter Tryd.func16, Tryd.ntmps16
    go_upto_region 1 with fail
    rw [← hkb, ← hwb]
    clear hkb hwb
    go_wp2_with (go_at_call 27; refine (CA.out _ hF.out).mono ?_; rintro e w1 ⟨rfl, hf⟩; have hf1' := Lib.hid (hF.out.then hf); have hB1 := hB.out.far' hf id; have b0 : w1.cell? ⟨kb, 0, none⟩ = some (.int .i64 c.v) := hB1.cell 0; have b1 : w1.cell? ⟨kb, 1, none⟩ = some (.int .i64 c.how) := hB1.cell 1; have b2 : w1.cell? ⟨kb, 2, none⟩ = some (.slice no c.names.length nc) := hB1.cell 2; have b3 : w1.cell? ⟨kb, 3, none⟩ = some (.slice mo c.nums.length mc) := hB1.cell 3; have b4 : w1.cell? ⟨kb, 4, none⟩ = some (.string ⟨c.text.toArray⟩) := hB1.cell 4; clear hf hB1)
    go_ret2
    exact ⟨rfl, hf1'.out⟩
end
end Go.Proofs.YtjmgheogpglpnaaDoor
