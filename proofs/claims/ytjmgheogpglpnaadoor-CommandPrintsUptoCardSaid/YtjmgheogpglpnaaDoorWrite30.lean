/-
  The program writes a command: the words behind the verb's.
-/
import Derived.Test.YtjmgheogpglpnaaDoorConcat30
import Derived.Test.YtjmgheogpglpnaaDoorReadQ30
import Derived.Test.YtjmgheogpglpnaaDoorLaidGet30
namespace Go.Proofs.YtjmgheogpglpnaaDoor
open Go.RowKit
set_option linter.unusedVariables false
set_option linter.unusedSimpArgs false
def NmS (w : World) (V : Value) (l : List Int) : Prop := Src w 1 V l.length (l.map fun n => .int .i64 n)
theorem NmS.move {w w' : World} {V : Value} {l : List Int} (h : NmS w V l) (hf : Far (fun _ => False) w w') : NmS w' V l := Src.move h hf
/-- A command's value whose lists can be read. -/
def CmW (w : World) (V : Value) (c : CI) : Prop := ∃ nv mv, V = .agg #[.int .i64 c.v, .int .i64 c.how, nv, mv, .string ⟨c.text.toArray⟩] ∧ TxS w nv c.names ∧ NmS w mv c.nums
theorem CmW.move {w w' : World} {V : Value} {c : CI} (h : CmW w V c) (hf : Far (fun _ => False) w w') : CmW w' V c := by
  obtain ⟨nv, mv, e, h1, h2⟩ := h
  exact ⟨nv, mv, e, h1.move hf, h2.move hf⟩
theorem OwnC.cmw {w : World} {B : Nat} {V : Value} {c : Cm} (h : OwnC w B V c) : CmW w V (upC c) := by
  obtain ⟨nv, mv, e, h1, h2⟩ := h
  refine ⟨nv, mv, e, Src.own h1, ?_⟩
  have := Src.own h2
  unfold NmS upC
  simpa [nums, Function.comp_def] using this
/-- The word of a way of answering; none: empty. -/
def hwT (h : Int) : Tx := if h = 1 then tMatrix else if h = 2 then tTensor else if h = 3 then tGll else []
theorem txs_one (w : World) (x : Tx) : TxS (w.alloc (.cells #[.string ⟨x.toArray⟩] 9)) (.slice (some ⟨w.heap.size, 0, none⟩) 1 1) [x] := src_new w 9 [st x]
section
set_option maxHeartbeats 2000000
set_option maxRecDepth 100000
theorem writeText_any (V : Value) (c : CI) (w : World) (h : CmW w V c) : Calls Tryd.prog 40 #[V] w fun e w' => ∃ ov, e = .returned ov ∧ TxS w' ov [c.text] ∧ Far (fun _ => False) w w' := by
  obtain ⟨nv, mv, rfl, h1, h2⟩ := h
  obtain ⟨no, nc, rfl⟩ := h1.form
  obtain ⟨mo, mc, rfl⟩ := Src.form h2
  obtain ⟨kb, hkb⟩ : ∃ k, k = w.heap.size := ⟨_, rfl⟩
  obtain ⟨wb, hwb⟩ : ∃ W, W = w.alloc (.cells #[.int .i64 c.v, .int .i64 c.how, .slice no c.names.length nc, .slice mo c.nums.length mc, .string ⟨c.text.toArray⟩] 27) := ⟨_, rfl⟩
  have hF := Lib.hid (show Far (fun _ => False) w wb from hwb ▸ (Far.refl _ w).alloc _)
  have hB : Bk wb kb 27 #[.int .i64 c.v, .int .i64 c.how, .slice no c.names.length nc, .slice mo c.nums.length mc, .string ⟨c.text.toArray⟩] := hwb ▸ Bk.new hkb
  have q4 : wb.cell? ⟨kb, 4, none⟩ = some (.string ⟨c.text.toArray⟩) := hB.cell 4
  have TO := Lib.hid (txs_one wb c.text)
  clear h1 h2 hB
  go_enter Tryd.func40, Tryd.ntmps40
  go_upto_region 1 with fail
  rw [← hkb, ← hwb]
  clear hkb hwb
  go_wp2_with fail
  go_ret
  exact ⟨_, rfl, TO.out, hF.out.alloc _⟩
theorem writeNames_any (V : Value) (c : CI) (w : World) (h : CmW w V c) : Calls Tryd.prog 42 #[V] w fun e w' => ∃ ov, e = .returned ov ∧ TxS w' ov c.names ∧ Far (fun _ => False) w w' := by
  obtain ⟨nv, mv, rfl, h1, h2⟩ := h
  have h1' := Lib.hid h1
  obtain ⟨no, nc, rfl⟩ := h1.form
  obtain ⟨mo, mc, rfl⟩ := Src.form h2
  obtain ⟨kb, hkb⟩ : ∃ k, k = w.heap.size := ⟨_, rfl⟩
  obtain ⟨wb, hwb⟩ : ∃ W, W = w.alloc (.cells #[.int .i64 c.v, .int .i64 c.how, .slice no c.names.length nc, .slice mo c.nums.length mc, .string ⟨c.text.toArray⟩] 27) := ⟨_, rfl⟩
  have hF := Lib.hid (show Far (fun _ => False) w wb from hwb ▸ (Far.refl _ w).alloc _)
  have hB : Bk wb kb 27 #[.int .i64 c.v, .int .i64 c.how, .slice no c.names.length nc, .slice mo c.nums.length mc, .string ⟨c.text.toArray⟩] := hwb ▸ Bk.new hkb
  have q2 : wb.cell? ⟨kb, 2, none⟩ = some (.slice no c.names.length nc) := hB.cell 2
  clear h1 h2 hB
  go_enter Tryd.func42, Tryd.ntmps42
  go_upto_region 1 with fail
  rw [← hkb, ← hwb]
  clear hkb hwb
  go_wp2_with fail
  go_ret
  exact ⟨_, rfl, h1'.out.move hF.out, hF.out⟩
theorem hw_at {k : Nat} (hk : k < 4) : hows[k]? = some (hwT (k : Int)) := by
  have : k = 0 ∨ k = 1 ∨ k = 2 ∨ k = 3 := by omega
  rcases this with rfl | rfl | rfl | rfl <;> rfl
theorem hw_out {h : Int} (hh : ¬ (0 ≤ h ∧ h < 4)) : hwT h = [] := by
  unfold hwT
  rw [if_neg (by omega), if_neg (by omega), if_neg (by omega)]
theorem writeQuery_any (V : Value) (c : CI) (w : World) (h : CmW w V c) (hn : 1 + c.names.length ≤ 1099511627776) : Calls Tryd.prog 44 #[V] w fun e w' => ∃ ov, e = .returned ov ∧ TxS w' ov (hwT c.how :: c.names) ∧ Far (fun _ => False) w w' := by
  obtain ⟨nv, mv, rfl, h1, h2⟩ := h
  obtain ⟨no, nc, rfl⟩ := h1.form
  obtain ⟨mo, mc, rfl⟩ := Src.form h2
  obtain ⟨kb, hkb⟩ : ∃ k, k = w.heap.size := ⟨_, rfl⟩
  obtain ⟨wb, hwb⟩ : ∃ W, W = w.alloc (.cells #[.int .i64 c.v, .int .i64 c.how, .slice no c.names.length nc, .slice mo c.nums.length mc, .string ⟨c.text.toArray⟩] 27) := ⟨_, rfl⟩
  have hF := Lib.hid (show Far (fun _ => False) w wb from hwb ▸ (Far.refl _ w).alloc _)
  have hB : Bk wb kb 27 #[.int .i64 c.v, .int .i64 c.how, .slice no c.names.length nc, .slice mo c.nums.length mc, .string ⟨c.text.toArray⟩] := hwb ▸ Bk.new hkb
  obtain ⟨w1, hw1⟩ : ∃ W, W = wb.alloc (.cells #[.string ⟨#[]⟩, .string ⟨tMatrix.toArray⟩, .string ⟨tTensor.toArray⟩, .string ⟨tGll.toArray⟩] 9) := ⟨_, rfl⟩
  obtain ⟨g, hg⟩ : ∃ g, g = wb.heap.size := ⟨_, rfl⟩
  have HW := hows_any wb
  rw [← hw1, ← hg] at HW
  have hF1 : Far (fun _ => False) wb w1 := hw1 ▸ (Far.refl _ wb).alloc _
  have hG1 : Bk w1 g 9 #[.string ⟨#[]⟩, .string ⟨tMatrix.toArray⟩, .string ⟨tTensor.toArray⟩, .string ⟨tGll.toArray⟩] := hw1 ▸ Bk.new hg
  have hFF := Lib.hid (hF.out.then hF1)
  have hB1 := Lib.hid (hB.far' hF1 id)
  have a1 : wb.cell? ⟨kb, 1, none⟩ = some (.int .i64 c.how) := hB.cell 1
  have b1 : w1.cell? ⟨kb, 1, none⟩ = some (.int .i64 c.how) := hB1.out.cell 1
  have b2 : w1.cell? ⟨kb, 2, none⟩ = some (.slice no c.names.length nc) := hB1.out.cell 2
  have hl : kb < w1.heap.size := hB1.out.lt
  have CC : ∀ x : Tx, Calls Tryd.prog 37 #[.slice (some ⟨w1.heap.size + 1, 0, none⟩) 2 2] ((w1.alloc (.cells #[.string ⟨x.toArray⟩] 9)).alloc (.cells #[.slice (some ⟨w1.heap.size, 0, none⟩) 1 1, .slice no c.names.length nc] 24))
      fun e w' => ∃ v, e = .returned v ∧ TxS w' v (x :: c.names) ∧ Far (fun _ => False) w1 w' := fun x => by
    have f1 : Far (fun _ => False) w1 (w1.alloc (.cells #[.string ⟨x.toArray⟩] 9)) := (Far.refl _ w1).alloc _
    have f2 : Far (fun _ => False) (w1.alloc (.cells #[.string ⟨x.toArray⟩] 9)) ((w1.alloc (.cells #[.string ⟨x.toArray⟩] 9)).alloc (.cells #[.slice (some ⟨w1.heap.size, 0, none⟩) 1 1, .slice no c.names.length nc] 24)) := (Far.refl _ _).alloc _
    have hb : Bk ((w1.alloc (.cells #[.string ⟨x.toArray⟩] 9)).alloc (.cells #[.slice (some ⟨w1.heap.size, 0, none⟩) 1 1, .slice no c.names.length nc] 24)) (w1.heap.size + 1) 24 #[.slice (some ⟨w1.heap.size, 0, none⟩) 1 1, .slice no c.names.length nc] := Bk.new (by simp)
    refine (concat_any (w1.heap.size + 1) (.slice (some ⟨w1.heap.size, 0, none⟩) 1 1) (.slice no c.names.length nc) [x] c.names _ (hb.cell 0) (hb.cell 1) ((txs_one w1 x).move f2) ((h1.move hFF.out).move (f1.then f2)) (by simpa using hn)).mono ?_
    rintro e w' ⟨v, rfl, ho, hf⟩
    exact ⟨v, rfl, Src.own ho, (f1.then f2).then hf⟩
  replace CC := Lib.hid CC
  have hG1' := Lib.hid hG1
  clear hw1 hg hF1 hG1 hB h1 h2
  by_cases hr : 0 ≤ c.how ∧ c.how < 4
  · obtain ⟨k, hk, hk4⟩ : ∃ k : Nat, c.how = (k : Int) ∧ k < 4 := ⟨c.how.toNat, by omega, by omega⟩
    have hc1 : w1.cell? ⟨g, k, none⟩ = some (.string ⟨(hwT c.how).toArray⟩) := by rw [hk]; exact hows_cells hG1'.out k _ (hw_at hk4)
    obtain ⟨x, hx⟩ : ∃ x, x = hwT c.how := ⟨_, rfl⟩
    rw [← hx] at hc1
    have CX := CC.out x
    rw [← hx]
    rw [hk] at a1 b1 hwb
    have e1 : decide ((0 : Int) ≤ (k : Int)) = true := by rw [decide_eq_true_eq]; omega
    have e2 : decide ((k : Int) < 4) = true := by rw [decide_eq_true_eq]; omega
    have e3 : (k : Int) < 4 := by omega
    clear hr hx CC
    rw [hk]
    clear hk
    go_enter Tryd.func44, Tryd.ntmps44
    go_upto_region 1 with fail
    rw [← hkb, ← hwb]
    clear hkb hwb
    go_wp2_with (first
      | (go_at_call 57; refine HW.mono ?_; rintro e w2 ⟨rfl, e9⟩; replace e9 := e9.symm; subst e9)
      | (go_at_call 37; refine CX.mono ?_; rintro e w5 ⟨ov, rfl, hT, hf5⟩; have hT' := Lib.hid hT; have hf5' := Lib.hid hf5; clear hT hf5))
    go_ret
    exact ⟨_, rfl, hT'.out, hFF.out.then hf5'.out⟩
  · rw [hw_out hr]
    have CX := CC.out []
    obtain ⟨q, hq⟩ : ∃ q, q = c.how := ⟨_, rfl⟩
    rw [← hq] at a1 b1 hwb hr ⊢
    clear CC hq
    by_cases h0 : 0 ≤ q
    · have e1 : decide ((0 : Int) ≤ q) = true := by rw [decide_eq_true_eq]; omega
      have e2 : decide (q < 4) = false := by rw [decide_eq_false_iff_not]; omega
      go_enter Tryd.func44, Tryd.ntmps44
      go_upto_region 1 with fail
      rw [← hkb, ← hwb]
      clear hkb hwb
      go_wp2_with (first
        | (go_at_call 57; refine HW.mono ?_; rintro e w2 ⟨rfl, e9⟩; replace e9 := e9.symm; subst e9)
        | (go_at_call 37; refine CX.mono ?_; rintro e w5 ⟨ov, rfl, hT, hf5⟩; have hT' := Lib.hid hT; have hf5' := Lib.hid hf5; clear hT hf5))
      go_ret
      exact ⟨_, rfl, hT'.out, hFF.out.then hf5'.out⟩
    · have e1 : decide ((0 : Int) ≤ q) = false := by rw [decide_eq_false_iff_not]; omega
      go_enter Tryd.func44, Tryd.ntmps44
      go_upto_region 1 with fail
      rw [← hkb, ← hwb]
      clear hkb hwb
      go_wp2_with (first
        | (go_at_call 57; refine HW.mono ?_; rintro e w2 ⟨rfl, e9⟩; replace e9 := e9.symm; subst e9)
        | (go_at_call 37; refine CX.mono ?_; rintro e w5 ⟨ov, rfl, hT, hf5⟩; have hT' := Lib.hid hT; have hf5' := Lib.hid hf5; clear hT hf5))
      go_ret
      exact ⟨_, rfl, hT'.out, hFF.out.then hf5'.out⟩
end
end Go.Proofs.YtjmgheogpglpnaaDoor
