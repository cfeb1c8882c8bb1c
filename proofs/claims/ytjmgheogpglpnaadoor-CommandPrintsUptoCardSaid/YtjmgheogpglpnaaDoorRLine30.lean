/-
  The document's Line. Made by gen/rline30.py.
-/
import Derived.Test.YtjmgheogpglpnaaDoorLineC30
import Derived.Test.YtjmgheogpglpnaaDoorRWordsB30
import Derived.Test.YtjmgheogpglpnaaDoorCmdBulk30
import Derived.Laws.Concat
namespace Go.Proofs.YtjmgheogpglpnaaDoor
open Go.RowKit
set_option linter.unusedVariables false
set_option linter.unusedSimpArgs false
theorem bytes_add (a b : Tx) : (⟨a.toArray⟩ : ByteArray) ++ (⟨b.toArray⟩ : ByteArray) = ⟨(a ++ b).toArray⟩ := by
  apply ByteArray.ext
  simp
theorem take_next' {α : Type} {l : List α} {i : Nat} {t : α} (h : l[i]? = some t) : l.take (i + 1) = l.take i ++ [t] := by
  rw [List.take_add_one, h]; rfl
theorem words_one {u : Tx} (h : (32 : UInt8) ∉ u) : (splitW u).length = 1 := by rw [splitW_no h]; rfl
theorem words_more {u : Tx} (h : (32 : UInt8) ∈ u) : (splitW u).length ≠ 1 := by
  rcases blank_cases u with hn | ⟨a, b, rfl, ha⟩
  · exact absurd h hn
  · rw [splitW_yes ha, List.length_cons]
    have := List.length_pos_iff.2 (splitW_ne b)
    omega
theorem words_pos (u : Tx) : 0 < (splitW u).length := List.length_pos_iff.2 (splitW_ne u)
theorem line_step {c : CI} {ts : List Lt} {t : Lt} {x0 x : LS} {i : Nat} (h : lineL (ts.take i) c x0 = some x) (ht : ts[i]? = some t) : lineL (ts.take (i + 1)) c x0 = if okW (wordL t c x) then some (nextL t c x) else none := by
  rw [take_next' ht, lineL_app, h]
  rfl
theorem line_fail {c : CI} {ts : List Lt} {t : Lt} {x0 x : LS} {i : Nat} (h : lineL (ts.take i) c x0 = some x) (ht : ts[i]? = some t) (hk : ¬ okW (wordL t c x)) : lineL ts c x0 = none := by
  have e : ts = ts.take (i + 1) ++ ts.drop (i + 1) := (List.take_append_drop _ _).symm
  rw [e, lineL_app, line_step h ht, if_neg hk]
  rfl
theorem lineC_out {c : CI} (h : ¬ (1 ≤ c.v ∧ c.v ≤ 10)) : lineC c = ([], false) := by unfold lineC; rw [if_neg h]
theorem lineC_two {c : CI} {v : Nat} (hv : c.v = (v : Int)) (h1 : 1 ≤ v) (h2 : v ≤ 2) : lineC c = (wordV v ++ 32 :: c.text, decide (c.how = 0) && decide (c.names.length = 0) && decide (c.nums.length = 0)) := by
  unfold lineC
  rw [hv, if_pos (by omega), if_pos (by omega), Int.toNat_natCast]
theorem lineC_form {c : CI} {v : Nat} (hv : c.v = (v : Int)) (h1 : 3 ≤ v) (h2 : v ≤ 10) : lineC c = match lineL (formV v) c ⟨wordV v, 0, 0, 0⟩ with
    | none => ([], false)
    | some x => (x.s, fitL c x) := by
  unfold lineC
  rw [hv, if_pos (by omega), if_neg (by omega), Int.toNat_natCast]
  cases lineL (formV v) c ⟨wordV v, 0, 0, 0⟩ <;> rfl
section
set_option maxHeartbeats 4000000
set_option maxRecDepth 100000
theorem rword_any (n : Int) (w : World) : Calls Tryd.prog 19 #[.int .i64 n] w fun e w' => e = .returned (.string ⟨(if 1 ≤ n ∧ n ≤ 10 then wordV n.toNat else []).toArray⟩) ∧ w' = w := by
  by_cases h : 1 ≤ n ∧ n ≤ 10
  · rw [if_pos h]
    obtain ⟨i, rfl⟩ : ∃ i : Nat, n = (i : Int) + 1 := ⟨n.toNat - 1, by omega⟩
    have := rwd_at i (by omega) w
    rwa [show ((i : Int) + 1).toNat = i + 1 by omega]
  · rw [if_neg h]
    have a1 : (n == 1) = false := by simp; omega
    have a2 : (n == 2) = false := by simp; omega
    have a3 : (n == 3) = false := by simp; omega
    have a4 : (n == 4) = false := by simp; omega
    have a5 : (n == 5) = false := by simp; omega
    have a6 : (n == 6) = false := by simp; omega
    have a7 : (n == 7) = false := by simp; omega
    have a8 : (n == 8) = false := by simp; omega
    have a9 : (n == 9) = false := by simp; omega
    have a10 : (n == 10) = false := by simp; omega
    have b1 : ¬ n = 1 := by omega
    have b2 : ¬ n = 2 := by omega
    have b3 : ¬ n = 3 := by omega
    have b4 : ¬ n = 4 := by omega
    have b5 : ¬ n = 5 := by omega
    have b6 : ¬ n = 6 := by omega
    have b7 : ¬ n = 7 := by omega
    have b8 : ¬ n = 8 := by omega
    have b9 : ¬ n = 9 := by omega
    have b10 : ¬ n = 10 := by omega
    clear h
    go_enter Tryd.func19, Tryd.ntmps19
    go_wp2_with fail
    go_ret
    exact ⟨rfl, rfl⟩
theorem rhow_any (n : Int) (w : World) : Calls Tryd.prog 25 #[.int .i64 n] w fun e w' => e = .returned (.string ⟨(hwT n).toArray⟩) ∧ w' = w := by
  by_cases h : 1 ≤ n ∧ n ≤ 3
  · have : n = 1 ∨ n = 2 ∨ n = 3 := by omega
    rcases this with rfl | rfl | rfl
    · exact rhow_at 0 (by decide) w
    · exact rhow_at 1 (by decide) w
    · exact rhow_at 2 (by decide) w
  · have e : hwT n = [] := by unfold hwT; rw [if_neg (by omega), if_neg (by omega), if_neg (by omega)]
    rw [e]
    have a1 : (n == 1) = false := by simp; omega
    have a2 : (n == 2) = false := by simp; omega
    have a3 : (n == 3) = false := by simp; omega
    have b1 : ¬ n = 1 := by omega
    have b2 : ¬ n = 2 := by omega
    have b3 : ¬ n = 3 := by omega
    clear h e
    go_enter Tryd.func25, Tryd.ntmps25
    go_wp2_with fail
    go_ret
    exact ⟨rfl, rfl⟩
theorem rline_out (V : Value) (c : CI) (w : World) (h : CmI w V c) (hv : ¬ (1 ≤ c.v ∧ c.v ≤ 10)) : Calls Tryd.prog 28 #[V] w fun e w' => e = .returned (.tuple #[st (lineC c).1, .bool (lineC c).2]) ∧ Far (fun _ => False) w w' := by
  have WD := Lib.hid (fun w => rword_any c.v w)
  rw [if_neg hv] at WD
  rw [lineC_out hv]
  unfold st
  obtain ⟨no, nc, mo, mc, rfl, hN, hM, hn1, hn2⟩ := h
  unfold cmdV
  obtain ⟨vv, hvv⟩ : ∃ x, x = c.v := ⟨_, rfl⟩
  obtain ⟨hh, hhh⟩ : ∃ x, x = c.how := ⟨_, rfl⟩
  obtain ⟨n1, hnn1⟩ : ∃ x, x = c.names.length := ⟨_, rfl⟩
  obtain ⟨n2, hnn2⟩ : ∃ x, x = c.nums.length := ⟨_, rfl⟩
  obtain ⟨tt, htt⟩ : ∃ x : ByteArray, x = ⟨c.text.toArray⟩ := ⟨_, rfl⟩
  rw [← hvv, ← hhh, ← hnn1, ← hnn2, ← htt]
  obtain ⟨kb, hkb⟩ : ∃ k, k = w.heap.size := ⟨_, rfl⟩
  obtain ⟨wb, hwb⟩ : ∃ W, W = w.alloc (.cells #[.int .i64 vv, .int .i64 hh, .slice no n1 nc, .slice mo n2 mc, .string tt] 27) := ⟨_, rfl⟩
  have hF := Lib.hid (show Far (fun _ => False) w wb from hwb ▸ (Far.refl _ w).alloc _)
  have hB := Lib.hid (hwb ▸ Bk.new hkb : Bk wb kb 27 #[.int .i64 vv, .int .i64 hh, .slice no n1 nc, .slice mo n2 mc, .string tt])
  have hN' := Lib.hid (hN.move hF.out)
  have hM' := Lib.hid (hM.move hF.out)
  have hkb' := Lib.hid hkb
  have hwb' := Lib.hid hwb
  have q0 : wb.cell? ⟨kb, 0, none⟩ = some (.int .i64 vv) := hB.out.cell 0
  have q1 : wb.cell? ⟨kb, 1, none⟩ = some (.int .i64 hh) := hB.out.cell 1
  have q2 : wb.cell? ⟨kb, 2, none⟩ = some (.slice no n1 nc) := hB.out.cell 2
  have q3 : wb.cell? ⟨kb, 3, none⟩ = some (.slice mo n2 mc) := hB.out.cell 3
  have q4 : wb.cell? ⟨kb, 4, none⟩ = some (.string tt) := hB.out.cell 4
  have hnn1' := Lib.hid hnn1
  have hnn2' := Lib.hid hnn2
  have htt' := Lib.hid htt
  have hhh' := Lib.hid hhh
  have hvv' := Lib.hid hvv
  clear hkb hwb hN hM hnn1 hnn2 htt hhh hvv
  rw [← hvv'.out] at WD
  clear hn1 hn2 hv
  go_enter Tryd.func28, Tryd.ntmps28
  go_upto_region 1 with fail
  rw [← hkb'.out, ← hwb'.out]
  go_wp2_with (go_at_call 19; refine (WD.out _).mono ?_; rintro e w9 ⟨rfl, e9⟩; replace e9 := e9.symm; subst e9)
  go_ret2
  exact ⟨rfl, hF.out⟩
theorem rline_two (V : Value) (c : CI) (w : World) (h : CmI w V c) (v : Nat) (hv : c.v = (v : Int)) (h1 : 1 ≤ v) (h2 : v ≤ 2) (hcost : costC c ≤ 1048576) : Calls Tryd.prog 28 #[V] w fun e w' => e = .returned (.tuple #[st (lineC c).1, .bool (lineC c).2]) ∧ Far (fun _ => False) w w' := by
  have WD := Lib.hid (fun w => rword_any c.v w)
  rw [if_pos (by omega), hv, Int.toNat_natCast] at WD
  rw [lineC_two hv h1 h2]
  have hwne : wordV v ≠ [] := (word_clean (v := v) (by omega) (by omega)).1
  obtain ⟨u, hu⟩ : ∃ u, u = wordV v := ⟨_, rfl⟩
  rw [← hu] at WD hwne ⊢
  have hu7 : u.length ≤ 7 := by rw [hu]; exact verb_len v
  have htl : c.text.length ≤ costC c := by unfold costC; omega
  obtain ⟨ub, hub⟩ : ∃ ub : ByteArray, ub = ⟨u.toArray⟩ := ⟨_, rfl⟩
  have x5 : (ub.toList == (⟨#[]⟩ : ByteArray).toList) = false := by rw [hub]; simpa using hwne
  have x5c : ub.toList.isEmpty = false := by
    have : ub.toList = u := by rw [hub]; simp
    rw [this]
    cases u with
    | nil => exact absurd rfl hwne
    | cons _ _ => rfl
  have hus : ub.size ≤ 7 := by rw [hub]; simpa [ByteArray.size] using hu7
  rw [← hub] at WD
  have x6 : decide ((v : Int) ≤ 2) = true := by rw [decide_eq_true_eq]; omega
  unfold st
  obtain ⟨no, nc, mo, mc, rfl, hN, hM, hn1, hn2⟩ := h
  unfold cmdV
  obtain ⟨vv, hvv⟩ : ∃ x, x = c.v := ⟨_, rfl⟩
  obtain ⟨hh, hhh⟩ : ∃ x, x = c.how := ⟨_, rfl⟩
  obtain ⟨n1, hnn1⟩ : ∃ x, x = c.names.length := ⟨_, rfl⟩
  obtain ⟨n2, hnn2⟩ : ∃ x, x = c.nums.length := ⟨_, rfl⟩
  obtain ⟨tt, htt⟩ : ∃ x : ByteArray, x = ⟨c.text.toArray⟩ := ⟨_, rfl⟩
  rw [← hvv, ← hhh, ← hnn1, ← hnn2, ← htt]
  obtain ⟨kb, hkb⟩ : ∃ k, k = w.heap.size := ⟨_, rfl⟩
  obtain ⟨wb, hwb⟩ : ∃ W, W = w.alloc (.cells #[.int .i64 vv, .int .i64 hh, .slice no n1 nc, .slice mo n2 mc, .string tt] 27) := ⟨_, rfl⟩
  have hF := Lib.hid (show Far (fun _ => False) w wb from hwb ▸ (Far.refl _ w).alloc _)
  have hB := Lib.hid (hwb ▸ Bk.new hkb : Bk wb kb 27 #[.int .i64 vv, .int .i64 hh, .slice no n1 nc, .slice mo n2 mc, .string tt])
  have hN' := Lib.hid (hN.move hF.out)
  have hM' := Lib.hid (hM.move hF.out)
  have hkb' := Lib.hid hkb
  have hwb' := Lib.hid hwb
  have q0 : wb.cell? ⟨kb, 0, none⟩ = some (.int .i64 vv) := hB.out.cell 0
  have q1 : wb.cell? ⟨kb, 1, none⟩ = some (.int .i64 hh) := hB.out.cell 1
  have q2 : wb.cell? ⟨kb, 2, none⟩ = some (.slice no n1 nc) := hB.out.cell 2
  have q3 : wb.cell? ⟨kb, 3, none⟩ = some (.slice mo n2 mc) := hB.out.cell 3
  have q4 : wb.cell? ⟨kb, 4, none⟩ = some (.string tt) := hB.out.cell 4
  have hnn1' := Lib.hid hnn1
  have hnn2' := Lib.hid hnn2
  have htt' := Lib.hid htt
  have hhh' := Lib.hid hhh
  have hvv' := Lib.hid hvv
  clear hkb hwb hN hM hnn1 hnn2 htt hhh hvv
  obtain ⟨U, hU⟩ : ∃ U : Tx, U = u ++ 32 :: c.text := ⟨_, rfl⟩
  have hU' := Lib.hid (show (ub ++ ⟨#[32]⟩ ++ tt : ByteArray) = ⟨U.toArray⟩ by rw [hU, htt'.out, hub]; have := bytes_add (u ++ [32]) c.text; rw [← bytes_add u [32]] at this; rw [List.append_assoc] at this; exact this)
  rw [← hU]
  have e1 := hvv'.out
  rw [hv] at e1
  subst e1
  dsimp only
  have s0 : tt.size ≤ 1048576 := by rw [htt'.out]; simp [ByteArray.size]; omega
  have s1 : ¬ (9223372036854775807 < ub.size + 1) := by omega
  have s2 : ¬ (9223372036854775807 < ub.size + 1 + tt.size) := by omega
  have s3 : ¬ (9223372036854775807 ≤ ub.size) := by omega
  clear hn1 hn2 hv hwne hu hub hu7 htl hcost hus s0 hhh' hnn1' hnn2' hvv' hU htt' hN' hM'
  by_cases y1 : hh = 0
  rotate_left
  · have hy := Lib.hid y1
    have z1 : (hh == 0) = false := by rw [beq_eq_false_iff_ne]; exact y1
    go_enter Tryd.func28, Tryd.ntmps28
    go_upto_region 1 with fail
    rw [← hkb'.out, ← hwb'.out]
    go_upto_region 6 with (go_at_call 19; refine (WD.out _).mono ?_; rintro e w9 ⟨rfl, e9⟩; replace e9 := e9.symm; subst e9)
    go_quiet (fail)
    go_wp2_with fail
    go_ret2
    exact ⟨by rw [hU'.out]; simp [hy.out], by first | exact hF.out.drewN _ | exact hF.out⟩
  subst y1
  by_cases y2 : n1 = 0
  rotate_left
  · have hy := Lib.hid y2
    have z2 : ((n1 : Int) == 0) = false := by rw [beq_eq_false_iff_ne]; omega
    have z2b : ¬ ((n1 : Int) = 0) := by omega
    clear y2
    go_enter Tryd.func28, Tryd.ntmps28
    go_upto_region 1 with fail
    rw [← hkb'.out, ← hwb'.out]
    go_upto_region 6 with (go_at_call 19; refine (WD.out _).mono ?_; rintro e w9 ⟨rfl, e9⟩; replace e9 := e9.symm; subst e9)
    go_quiet (fail)
    go_wp2_with fail
    go_ret2
    exact ⟨by rw [hU'.out]; simp [hy.out], by first | exact hF.out.drewN _ | exact hF.out⟩
  subst y2
  by_cases y3 : n2 = 0
  · subst y3
    have hy := Lib.hid (show (0 : Nat) = 0 from rfl)
    go_enter Tryd.func28, Tryd.ntmps28
    go_upto_region 1 with fail
    rw [← hkb'.out, ← hwb'.out]
    go_upto_region 6 with (go_at_call 19; refine (WD.out _).mono ?_; rintro e w9 ⟨rfl, e9⟩; replace e9 := e9.symm; subst e9)
    go_quiet (fail)
    go_wp2_with fail
    go_ret2
    exact ⟨by rw [hU'.out]; simp [hy.out], by first | exact hF.out.drewN _ | exact hF.out⟩
  · have hy := Lib.hid y3
    have z3 : ((n2 : Int) == 0) = false := by rw [beq_eq_false_iff_ne]; omega
    have z3b : ¬ ((n2 : Int) = 0) := by omega
    clear y3
    go_enter Tryd.func28, Tryd.ntmps28
    go_upto_region 1 with fail
    rw [← hkb'.out, ← hwb'.out]
    go_upto_region 6 with (go_at_call 19; refine (WD.out _).mono ?_; rintro e w9 ⟨rfl, e9⟩; replace e9 := e9.symm; subst e9)
    go_quiet (fail)
    go_wp2_with fail
    go_ret2
    exact ⟨by rw [hU'.out]; simp [hy.out], by first | exact hF.out.drewN _ | exact hF.out⟩
end
end Go.Proofs.YtjmgheogpglpnaaDoor
