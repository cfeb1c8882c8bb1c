/-
  The law CommandPrints. Made by gen/prints30.py.
-/
import Derived.Test.YtjmgheogpglpnaaDoorRPrint30
import Derived.Test.YtjmgheogpglpnaaDoorCheck30
import Derived.Test.YtjmgheogpglpnaaDoorHead30
namespace Go.Proofs.YtjmgheogpglpnaaDoor
open Go.RowKit
set_option linter.unusedVariables false
set_option linter.unusedSimpArgs false
section
set_option maxHeartbeats 4000000
set_option maxRecDepth 100000
theorem prints_law (V : Value) (c : CI) (w : World) (h : CmG w V c) (hc : costC c ≤ 1048576) (hL : Lw w) :
    Calls Tryd.prog 4 #[V] w fun e w' => e = .returned (.bool true) ∧ Far (fun _ => False) w w' := by
  have PA := Lib.hid (fun W (hf : Far (fun _ => False) w W) => print_any V c W (h.move hf) (hL.far hf fun _ _ h => h))
  have CA := Lib.hid (fun W (hf : Far (fun _ => False) w W) => check_any V c W (h.move hf) (hL.far hf fun _ _ h => h))
  have RA := Lib.hid (fun W (hf : Far (fun _ => False) w W) => rprint_any V c W (h.move hf) hc (hL.far hf fun _ _ h => h))
  generalize checkF c = k at *
  obtain ⟨s, hS⟩ : ∃ s : ByteArray, s = ⟨(if k = 0 then writeF c else []).toArray⟩ := ⟨_, rfl⟩
  have hst : st (if k = 0 then writeF c else []) = .string s := by unfold st; rw [hS]
  rw [hst] at PA RA
  have q1' : (s.toList == s.toList) = true := by simp
  have q2' : ((k : Int) == (k : Int)) = true := by simp
  obtain ⟨no, nc, mo, mc, rfl, hN, hM, hn1, hn2⟩ := h.i
  unfold cmdV at *
  obtain ⟨kb, hkb⟩ : ∃ k, k = w.heap.size := ⟨_, rfl⟩
  obtain ⟨wb, hwb⟩ : ∃ W, W = w.alloc (.cells #[.int .i64 c.v, .int .i64 c.how, .slice no c.names.length nc, .slice mo c.nums.length mc, .string ⟨c.text.toArray⟩] 27) := ⟨_, rfl⟩
  have hF := Lib.hid (show Far (fun _ => False) w wb from hwb ▸ (Far.refl _ w).alloc _)
  have hB := Lib.hid (hwb ▸ Bk.new hkb : Bk wb kb 27 #[.int .i64 c.v, .int .i64 c.how, .slice no c.names.length nc, .slice mo c.nums.length mc, .string ⟨c.text.toArray⟩])
  have q0 : wb.cell? ⟨kb, 0, none⟩ = some (.int .i64 c.v) := hB.out.cell 0
  have q1 : wb.cell? ⟨kb, 1, none⟩ = some (.int .i64 c.how) := hB.out.cell 1
  have q2 : wb.cell? ⟨kb, 2, none⟩ = some (.slice no c.names.length nc) := hB.out.cell 2
  have q3 : wb.cell? ⟨kb, 3, none⟩ = some (.slice mo c.nums.length mc) := hB.out.cell 3
  have q4 : wb.cell? ⟨kb, 4, none⟩ = some (.string ⟨c.text.toArray⟩) := hB.out.cell 4
  clear hN hM hn1 hn2
  clear hS hst hc hL h
  go_enter Tryd.func4, Tryd.ntmps4
  go_upto_region 1 with fail
  rw [← hkb, ← hwb]
  clear hkb hwb
  go_wp2_with (first
    | (go_at_call 14; refine (PA.out _ hF.out).mono ?_; rintro e w1 ⟨rfl, hf⟩; have hfw1 := Lib.hid (hF.out.then hf); have hB1 := Lib.hid (hB.out.far' hf id); have b0 : w1.cell? ⟨kb, 0, none⟩ = some (.int .i64 c.v) := hB1.out.cell 0; have b1 : w1.cell? ⟨kb, 1, none⟩ = some (.int .i64 c.how) := hB1.out.cell 1; have b2 : w1.cell? ⟨kb, 2, none⟩ = some (.slice no c.names.length nc) := hB1.out.cell 2; have b3 : w1.cell? ⟨kb, 3, none⟩ = some (.slice mo c.nums.length mc) := hB1.out.cell 3; have b4 : w1.cell? ⟨kb, 4, none⟩ = some (.string ⟨c.text.toArray⟩) := hB1.out.cell 4; clear hf)
    | (go_at_call 15; refine (CA.out _ hfw1.out).mono ?_; rintro e w2 ⟨rfl, hf⟩; have hfw2 := Lib.hid (hfw1.out.then hf); have hB2 := Lib.hid (hB1.out.far' hf id); have d0 : w2.cell? ⟨kb, 0, none⟩ = some (.int .i64 c.v) := hB2.out.cell 0; have d1 : w2.cell? ⟨kb, 1, none⟩ = some (.int .i64 c.how) := hB2.out.cell 1; have d2 : w2.cell? ⟨kb, 2, none⟩ = some (.slice no c.names.length nc) := hB2.out.cell 2; have d3 : w2.cell? ⟨kb, 3, none⟩ = some (.slice mo c.nums.length mc) := hB2.out.cell 3; have d4 : w2.cell? ⟨kb, 4, none⟩ = some (.string ⟨c.text.toArray⟩) := hB2.out.cell 4; clear hf)
    | (go_at_call 16; refine (RA.out _ hfw2.out).mono ?_; rintro e w3 ⟨rfl, hf⟩; have hfw3 := Lib.hid (hfw2.out.then hf); have hB3 := Lib.hid (hB2.out.far' hf id); have f0 : w3.cell? ⟨kb, 0, none⟩ = some (.int .i64 c.v) := hB3.out.cell 0; have f1 : w3.cell? ⟨kb, 1, none⟩ = some (.int .i64 c.how) := hB3.out.cell 1; have f2 : w3.cell? ⟨kb, 2, none⟩ = some (.slice no c.names.length nc) := hB3.out.cell 2; have f3 : w3.cell? ⟨kb, 3, none⟩ = some (.slice mo c.nums.length mc) := hB3.out.cell 3; have f4 : w3.cell? ⟨kb, 4, none⟩ = some (.string ⟨c.text.toArray⟩) := hB3.out.cell 4; clear hf)
    | (go_at_call 12; refine (head_any _).mono ?_; rintro e w4 ⟨rfl, hf⟩; have hfw4 := Lib.hid (hfw3.out.then hf); clear hf))
  go_ret
  exact ⟨rfl, hfw4.out⟩
end
end Go.Proofs.YtjmgheogpglpnaaDoor
