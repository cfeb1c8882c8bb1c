/-
  Places: has, with, less.
-/
import Derived.Test.YteojbnkjphghkaaDoorPlMath15
import Derived.Test.YteojbnkjphghkaaDoorCopy
namespace Go.Proofs.YteojbnkjphghkaaDoor
open Go.RowKit
set_option linter.unusedVariables false
set_option linter.unusedSimpArgs false
/-- Two words. -/
def Wd (p : Nat × Nat) : Prop := p.1 < 18446744073709551616 ∧ p.2 < 18446744073709551616
def plV (p : Nat × Nat) : Value := .agg #[.int .u64 (p.1 : Int), .int .u64 (p.2 : Int)]
def memP (p : Nat × Nat) (q : Nat) : Bool := memS p.1 p.2 q
theorem afar (w : World) (o : Obj) : Far (fun _ => False) w (w.alloc o) := (Far.refl _ w).alloc o
section
set_option maxHeartbeats 1000000
set_option maxRecDepth 100000
theorem phas_low (u v q : Nat) (hq : q < 64) (hu : u < 18446744073709551616) (w : World) : Calls Tryd.prog 48 #[.agg #[.int .u64 (u : Int), .int .u64 (v : Int)], .int .i64 (q : Int)] w fun e w' => e = .returned (.bool (u.testBit q)) ∧ Far (fun _ => False) w w' := by
  have h1 : (q : Int) / 64 = 0 := by omega
  have h2 : (q : Int) % 64 = (q : Int) := by omega
  have h3 : (0 : Int) ≤ (q : Int) := by omega
  have h4 : (q : Int) ≤ 63 := by omega
  have HB := Lib.hid (bit_shr u q hu)
  go_enter Tryd.func48, Tryd.ntmps48
  go_wp2_with fail
  go_ret
  exact ⟨by rw [← HB.out]; rfl, afar _ _⟩
theorem phas_high (u v r : Nat) (hr : r < 64) (hv : v < 18446744073709551616) (q : Int) (hq : q = 64 + (r : Int)) (w : World) : Calls Tryd.prog 48 #[.agg #[.int .u64 (u : Int), .int .u64 (v : Int)], .int .i64 q] w fun e w' => e = .returned (.bool (v.testBit r)) ∧ Far (fun _ => False) w w' := by
  have h1 : q / 64 = 1 := by omega
  have h2 : q % 64 = (r : Int) := by omega
  have h3 : (0 : Int) ≤ q := by omega
  have h4 : q ≤ 127 := by omega
  have HB := Lib.hid (bit_shr v r hv)
  have hq' := Lib.hid hq
  clear hq
  go_enter Tryd.func48, Tryd.ntmps48
  go_wp2_with fail
  go_ret
  exact ⟨by rw [← HB.out]; rfl, afar _ _⟩
theorem phas_any (p : Nat × Nat) (q : Nat) (hp : Wd p) (hq : q < 128) (w : World) : Calls Tryd.prog 48 #[plV p, .int .i64 (q : Int)] w fun e w' => e = .returned (.bool (memP p q)) ∧ Far (fun _ => False) w w' := by
  unfold memP memS plV
  by_cases h : q < 64
  · rw [if_pos h]; exact phas_low _ _ q h hp.1 w
  · rw [if_neg h]; exact phas_high _ _ (q - 64) (by omega) hp.2 q (by omega) w
theorem pwith_low (u v q : Nat) (hq : q < 64) (hu : u < 18446744073709551616) (w : World) : Calls Tryd.prog 79 #[.agg #[.int .u64 (u : Int), .int .u64 (v : Int)], .int .i64 (q : Int)] w fun e w' => e = .returned (.agg #[.int .u64 ((u ||| 2 ^ q : Nat) : Int), .int .u64 (v : Int)]) ∧ Far (fun _ => False) w w' := by
  obtain ⟨h, hh⟩ : ∃ h, h = w.heap.size := ⟨_, rfl⟩
  obtain ⟨k, hk⟩ : ∃ k, k = h + 1 := ⟨_, rfl⟩
  obtain ⟨w1, hw1⟩ : ∃ w1, w1 = (w.alloc (.cells #[.int .u64 (u : Int), .int .u64 (v : Int)] 79)).alloc (.cells #[.int .u64 0, .int .u64 0] 79) := ⟨_, rfl⟩
  have hX : Bk w1 h 79 #[.int .u64 (u : Int), .int .u64 (v : Int)] := hw1 ▸ (Bk.new hh).alloc _
  have hR : Bk w1 k 79 #[.int .u64 0, .int .u64 0] := hw1 ▸ Bk.new (by simp [hk, hh])
  have hF : Far (fun _ => False) w w1 := hw1 ▸ ((Far.refl _ w).alloc _).alloc _
  have h1 : (q : Int) / 64 = 0 := by omega
  have h2 : (q : Int) % 64 = (q : Int) := by omega
  have h3 : (0 : Int) ≤ (q : Int) := by omega
  have h4 : (q : Int) ≤ 63 := by omega
  have c0 : w1.cell? ⟨h, 0, none⟩ = some (.int .u64 (u : Int)) := hX.cell 0
  have f0 : w1.frozen? ⟨h, 0, none⟩ = false := hX.free 0
  have HO := Lib.hid (or_put u q hu hq)
  obtain ⟨w2, hw2⟩ : ∃ w2, w2 = w1.setCell ⟨h, 0, none⟩ (.int .u64 ((u ||| 2 ^ q : Nat) : Int)) := ⟨_, rfl⟩
  have hS : Far (fun i => i = h) w1 w2 := hw2 ▸ (Far.refl _ w1).set _ _ fun _ => rfl
  have hX2 : Hid (Bk w2 h 79 #[.int .u64 ((u ||| 2 ^ q : Nat) : Int), .int .u64 (v : Int)]) := Lib.hid (hw2 ▸ hX.set 0 _)
  have hR2 : Hid (Bk w2 k 79 #[.int .u64 0, .int .u64 0]) := Lib.hid (hR.far' hS (by omega))
  have hF2 := Lib.hid (hF.out hS fun i hi e => by omega)
  have hkw := Lib.hid (show w.heap.size ≤ k by omega)
  have hh' := Lib.hid (show w.heap.size = h by omega)
  have hk' := Lib.hid (show h + 1 = k by omega)
  have hw1' := Lib.hid hw1
  have hw2' := Lib.hid hw2
  clear hh hk hw1 hX hR hF hS hw2
  go_enter Tryd.func79, Tryd.ntmps79
  go_upto_region 1 with fail
  rw [hh'.out, hk'.out, ← hw1'.out]
  go_region
  all_goals
    rw [HO.out, ← hw2'.out]
    have x0 : w2.cell? ⟨h, 0, none⟩ = some (.int .u64 ((u ||| 2 ^ q : Nat) : Int)) := hX2.out.cell 0
    have x1 : w2.cell? ⟨h, 1, none⟩ = some (.int .u64 (v : Int)) := hX2.out.cell 1
    have y0 : w2.cell? ⟨k, 0, none⟩ = some (.int .u64 0) := hR2.out.cell 0
    have y1 : w2.cell? ⟨k, 1, none⟩ = some (.int .u64 0) := hR2.out.cell 1
    have g0 : w2.frozen? ⟨k, 0, none⟩ = false := hR2.out.free 0
    have g1 : w2.frozen? ⟨k, 1, none⟩ = false := hR2.out.free 1
    go_wp2_with fail
    obtain ⟨w3, hw3⟩ : ∃ w3, w3 = ((w2.setCell ⟨k, 0, none⟩ (.int .u64 ((u ||| 2 ^ q : Nat) : Int))).setCell ⟨k, 1, none⟩ (.int .u64 (v : Int))).drew := ⟨_, rfl⟩
    have hS3 : Far (fun i => i = k) w2 w3 := hw3 ▸ (((Far.refl (fun i => i = k) w2).set ⟨k, 0, none⟩ (.int .u64 ((u ||| 2 ^ q : Nat) : Int)) fun _ => rfl).set ⟨k, 1, none⟩ (.int .u64 (v : Int)) fun _ => rfl).drew
    have hB3 : Bk w3 k 79 #[.int .u64 ((u ||| 2 ^ q : Nat) : Int), .int .u64 (v : Int)] := hw3 ▸ (hR2.out.set 0 _).set 1 _
    rw [← hw3]
    have m0 : w3.cell? ⟨k, 0, none⟩ = some (.int .u64 ((u ||| 2 ^ q : Nat) : Int)) := hB3.cell 0
    have m1 : w3.cell? ⟨k, 1, none⟩ = some (.int .u64 (v : Int)) := hB3.cell 1
    exact bodyPost_ret (v := .agg #[.int .u64 ((u ||| 2 ^ q : Nat) : Int), .int .u64 (v : Int)]) (by simp [results, Tryd.f79, go_sem, m0, m1]) rfl ⟨rfl, hF2.out.out hS3 fun i hi e => by have := hkw.out; omega⟩
theorem pwith_high (u v r : Nat) (hr : r < 64) (hv : v < 18446744073709551616) (q : Int) (hq : q = 64 + (r : Int)) (w : World) : Calls Tryd.prog 79 #[.agg #[.int .u64 (u : Int), .int .u64 (v : Int)],   .int .i64 q] w fun e w' => e = .returned (.agg #[.int .u64 (u : Int), .int .u64 ((v ||| 2 ^ r : Nat) : Int)]) ∧ Far (fun _ => False) w w' := by
  obtain ⟨h, hh⟩ : ∃ h, h = w.heap.size := ⟨_, rfl⟩
  obtain ⟨k, hk⟩ : ∃ k, k = h + 1 := ⟨_, rfl⟩
  obtain ⟨w1, hw1⟩ : ∃ w1, w1 = (w.alloc (.cells #[.int .u64 (u : Int), .int .u64 (v : Int)] 79)).alloc (.cells #[.int .u64 0, .int .u64 0] 79) := ⟨_, rfl⟩
  have hX : Bk w1 h 79 #[.int .u64 (u : Int), .int .u64 (v : Int)] := hw1 ▸ (Bk.new hh).alloc _
  have hR : Bk w1 k 79 #[.int .u64 0, .int .u64 0] := hw1 ▸ Bk.new (by simp [hk, hh])
  have hF : Far (fun _ => False) w w1 := hw1 ▸ ((Far.refl _ w).alloc _).alloc _
  have h1 : q / 64 = 1 := by omega
  have h2 : q % 64 = (r : Int) := by omega
  have h3 : (0 : Int) ≤ q := by omega
  have h4 : q ≤ 127 := by omega
  have c0 : w1.cell? ⟨h, 1, none⟩ = some (.int .u64 (v : Int)) := hX.cell 1
  have f0 : w1.frozen? ⟨h, 1, none⟩ = false := hX.free 1
  have HO := Lib.hid (or_put v r hv hr)
  obtain ⟨w2, hw2⟩ : ∃ w2, w2 = w1.setCell ⟨h, 1, none⟩ (.int .u64 ((v ||| 2 ^ r : Nat) : Int)) := ⟨_, rfl⟩
  clear hq
  have hS : Far (fun i => i = h) w1 w2 := hw2 ▸ (Far.refl _ w1).set _ _ fun _ => rfl
  have hX2 : Hid (Bk w2 h 79 #[.int .u64 (u : Int), .int .u64 ((v ||| 2 ^ r : Nat) : Int)]) := Lib.hid (hw2 ▸ hX.set 1 _)
  have hR2 : Hid (Bk w2 k 79 #[.int .u64 0, .int .u64 0]) := Lib.hid (hR.far' hS (by omega))
  have hF2 := Lib.hid (hF.out hS fun i hi e => by omega)
  have hkw := Lib.hid (show w.heap.size ≤ k by omega)
  have hh' := Lib.hid (show w.heap.size = h by omega)
  have hk' := Lib.hid (show h + 1 = k by omega)
  have hw1' := Lib.hid hw1
  have hw2' := Lib.hid hw2
  clear hh hk hw1 hX hR hF hS hw2
  go_enter Tryd.func79, Tryd.ntmps79
  go_upto_region 1 with fail
  rw [hh'.out, hk'.out, ← hw1'.out]
  go_region
  all_goals
    rw [HO.out, ← hw2'.out]
    have x0 : w2.cell? ⟨h, 0, none⟩ = some (.int .u64 (u : Int)) := hX2.out.cell 0
    have x1 : w2.cell? ⟨h, 1, none⟩ = some (.int .u64 ((v ||| 2 ^ r : Nat) : Int)) := hX2.out.cell 1
    have y0 : w2.cell? ⟨k, 0, none⟩ = some (.int .u64 0) := hR2.out.cell 0
    have y1 : w2.cell? ⟨k, 1, none⟩ = some (.int .u64 0) := hR2.out.cell 1
    have g0 : w2.frozen? ⟨k, 0, none⟩ = false := hR2.out.free 0
    have g1 : w2.frozen? ⟨k, 1, none⟩ = false := hR2.out.free 1
    go_wp2_with fail
    obtain ⟨w3, hw3⟩ : ∃ w3, w3 = ((w2.setCell ⟨k, 0, none⟩ (.int .u64 ((u : Nat) : Int))).setCell ⟨k, 1, none⟩ (.int .u64 ((v ||| 2 ^ r : Nat) : Int))).drew := ⟨_, rfl⟩
    have hS3 : Far (fun i => i = k) w2 w3 := hw3 ▸ (((Far.refl (fun i => i = k) w2).set ⟨k, 0, none⟩ (.int .u64 ((u : Nat) : Int)) fun _ => rfl).set ⟨k, 1, none⟩ (.int .u64 ((v ||| 2 ^ r : Nat) : Int)) fun _ => rfl).drew
    have hB3 : Bk w3 k 79 #[.int .u64 ((u : Nat) : Int), .int .u64 ((v ||| 2 ^ r : Nat) : Int)] := hw3 ▸ (hR2.out.set 0 _).set 1 _
    rw [← hw3]
    have m0 : w3.cell? ⟨k, 0, none⟩ = some (.int .u64 ((u : Nat) : Int)) := hB3.cell 0
    have m1 : w3.cell? ⟨k, 1, none⟩ = some (.int .u64 ((v ||| 2 ^ r : Nat) : Int)) := hB3.cell 1
    exact bodyPost_ret (v := .agg #[.int .u64 ((u : Nat) : Int), .int .u64 ((v ||| 2 ^ r : Nat) : Int)]) (by simp [results, Tryd.f79, go_sem, m0, m1]) rfl ⟨rfl, hF2.out.out hS3 fun i hi e => by have := hkw.out; omega⟩
theorem pwith_any (p : Nat × Nat) (q : Nat) (hp : Wd p) (hq : q < 128) (w : World) : Calls Tryd.prog 79 #[plV p, .int .i64 (q : Int)] w fun e w' => ∃ p', e = .returned (plV p') ∧ Wd p' ∧ (∀ x, memP p' x = (memP p x || decide (x = q))) ∧ Far (fun _ => False) w w' := by
  unfold plV
  by_cases h : q < 64
  · exact (pwith_low p.1 p.2 q h hp.1 w).mono fun e w' ⟨he, hf⟩ => ⟨(p.1 ||| 2 ^ q, p.2), he, ⟨or_lt _ _ hp.1 h, hp.2⟩, fun x => mem_put_low p.1 p.2 q x h, hf⟩
  · exact (pwith_high p.1 p.2 (q - 64) (by omega) hp.2 q (by omega) w).mono fun e w' ⟨he, hf⟩ => ⟨(p.1, p.2 ||| 2 ^ (q - 64)), he, ⟨hp.1, or_lt _ _ hp.2 (by omega)⟩, fun x => by unfold memP; rw [mem_put_high, show 64 + (q - 64) = q by omega], hf⟩
set_option maxHeartbeats 4000000 in
theorem pless_core (u v u' v' : Nat) (w : World) (hu : u < 18446744073709551616) (hv : v < 18446744073709551616) (hu' : u' < 18446744073709551616) (hv' : v' < 18446744073709551616) :
    Calls Tryd.prog 68 #[.agg #[.int .u64 (u : Int), .int .u64 (v : Int)], .agg #[.int .u64 (u' : Int), .int .u64 (v' : Int)]] w fun e w' => e = .returned (.agg #[.int .u64 ((less u u' : Nat) : Int), .int .u64 ((less v v' : Nat) : Int)]) ∧ Far (fun _ => False) w w' := by
  obtain ⟨h, hh⟩ : ∃ h, h = w.heap.size := ⟨_, rfl⟩
  obtain ⟨ko, hko⟩ : ∃ k, k = h + 1 := ⟨_, rfl⟩
  obtain ⟨k, hk⟩ : ∃ k, k = ko + 1 := ⟨_, rfl⟩
  obtain ⟨W, hW⟩ : ∃ w1, w1 = ((w.alloc (.cells #[.int .u64 (u : Int), .int .u64 (v : Int)] 79)).alloc (.cells #[.int .u64 (u' : Int), .int .u64 (v' : Int)] 79)).alloc (.cells #[.int .u64 0, .int .u64 0] 79) := ⟨_, rfl⟩
  have hX : Bk W h 79 #[.int .u64 (u : Int), .int .u64 (v : Int)] := hW ▸ ((Bk.new hh).alloc _).alloc _
  have hO : Bk W ko 79 #[.int .u64 (u' : Int), .int .u64 (v' : Int)] := hW ▸ (Bk.new (by simp [hko, hh])).alloc _
  have hR : Bk W k 79 #[.int .u64 0, .int .u64 0] := hW ▸ Bk.new (by simp [hk, hko, hh])
  have hF : Far (fun _ => False) w W := hW ▸ (((Far.refl _ w).alloc _).alloc _).alloc _
  have X0 := bits_less u u' hu hu'
  have X1 := bits_less v v' hv hv'
  have i0 : ∀ w, (Instr.index 79 (.agg #[.int .u64 (u' : Int), .int .u64 (v' : Int)]) (.int .i64 0)).run Tryd.prog w = .ok (.int .u64 (u' : Int)) w := fun _ => by kernel_rfl
  have i1 : ∀ w, (Instr.index 79 (.agg #[.int .u64 (u' : Int), .int .u64 (v' : Int)]) (.int .i64 1)).run Tryd.prog w = .ok (.int .u64 (v' : Int)) w := fun _ => by kernel_rfl
  generalize less u u' = Y0 at *
  generalize less v v' = Y1 at *
  have o0 : W.cell? ⟨ko, 0, none⟩ = some (.int .u64 (u' : Int)) := hO.cell 0
  have o1 : W.cell? ⟨ko, 1, none⟩ = some (.int .u64 (v' : Int)) := hO.cell 1
  have hkw := Lib.hid (show w.heap.size ≤ k ∧ h ≠ k ∧ w.heap.size ≤ h by omega)
  have hh' := Lib.hid (show w.heap.size = h by omega)
  have hko' := Lib.hid (show h + 1 = ko by omega)
  have hk' := Lib.hid (show ko + 1 = k by omega)
  have hk2 := Lib.hid (show h + 1 + 1 = k by omega)
  have hW' := Lib.hid hW
  have hX' := Lib.hid hX
  have hR' := Lib.hid hR
  have hF' := Lib.hid hF
  clear hh hko hk hW hX hO hR hF
  go_enter Tryd.func68, Tryd.ntmps68
  go_upto_region 1 with fail
  rw [hh'.out]
  try rw [hk2.out]
  rw [hko'.out]
  try rw [hk'.out]
  rw [← hW'.out]
  go_wp2_with fail
  clear o0 o1
  go_loopw [8] (fun iv wr => ∃ (j : Nat) (a b : Nat), iv = .int .i64 j ∧ ((j = 0 ∧ a = u ∧ b = v) ∨ (j = 1 ∧ a = Y0 ∧ b = v) ∨ (j = 2 ∧ a = Y0 ∧ b = Y1)) ∧ Bk wr h 79 #[.int .u64 (a : Int), .int .u64 (b : Int)] ∧ Far (fun i => i = h) W wr) (fun iv _ => 2 - (intOf iv).toNat)
  case atStart => exact ⟨0, u, v, rfl, .inl ⟨rfl, rfl, rfl⟩, hX'.out, Far.refl _ _⟩
  case round =>
    obtain ⟨j, a, b, rfl, hc, hB, hf⟩ := hrel
    have a0 : wr.cell? ⟨h, 0, none⟩ = some (.int .u64 (a : Int)) := hB.cell 0
    have a1 : wr.cell? ⟨h, 1, none⟩ = some (.int .u64 (b : Int)) := hB.cell 1
    have b0 : wr.frozen? ⟨h, 0, none⟩ = false := hB.free 0
    have b1 : wr.frozen? ⟨h, 1, none⟩ = false := hB.free 1
    have hB' := Lib.hid hB
    have hf' := Lib.hid hf
    clear hB hf
    rcases hc with ⟨rfl, rfl, rfl⟩ | ⟨rfl, rfl, rfl⟩ | ⟨rfl, rfl, rfl⟩
    · rw [show ((0 : Nat) : Int) = (0 : Int) from rfl]
      go_wp2_with (simp only [X0])
      go_roundw
      case rel => exact ⟨1, Y0, b, by rfl, .inr (.inl ⟨rfl, rfl, rfl⟩), hB'.out.set 0 _, hf'.out.set _ _ fun _ => rfl⟩
      case measure => simp [intOf]
    · rw [show ((1 : Nat) : Int) = (1 : Int) from rfl]
      go_wp2_with (simp only [X1])
      go_roundw
      case rel => exact ⟨2, a, Y1, by rfl, .inr (.inr ⟨rfl, rfl, rfl⟩), hB'.out.set 1 _, hf'.out.set _ _ fun _ => rfl⟩
      case measure => simp [intOf]
    · rw [show ((2 : Nat) : Int) = (2 : Int) from rfl]
      have hRr := Lib.hid (hR'.out.far' hf'.out (by have := hkw.out; omega))
      have y0 : wr.cell? ⟨k, 0, none⟩ = some (.int .u64 0) := hRr.out.cell 0
      have y1 : wr.cell? ⟨k, 1, none⟩ = some (.int .u64 0) := hRr.out.cell 1
      have g0 : wr.frozen? ⟨k, 0, none⟩ = false := hRr.out.free 0
      have g1 : wr.frozen? ⟨k, 1, none⟩ = false := hRr.out.free 1
      go_wp2_with fail
      obtain ⟨w3, hw3⟩ : ∃ w3, w3 = (wr.setCell ⟨k, 0, none⟩ (.int .u64 (a : Int))).setCell ⟨k, 1, none⟩ (.int .u64 (b : Int)) := ⟨_, rfl⟩
      have hS3 : Far (fun i => i = k) wr w3 := hw3 ▸ ((Far.refl (fun i => i = k) wr).set ⟨k, 0, none⟩ (.int .u64 (a : Int)) fun _ => rfl).set ⟨k, 1, none⟩ (.int .u64 (b : Int)) fun _ => rfl
      have hB3 : Bk w3 k 79 #[.int .u64 (a : Int), .int .u64 (b : Int)] := hw3 ▸ (hRr.out.set 0 _).set 1 _
      rw [← hw3]
      have m0 : w3.cell? ⟨k, 0, none⟩ = some (.int .u64 (a : Int)) := hB3.cell 0
      have m1 : w3.cell? ⟨k, 1, none⟩ = some (.int .u64 (b : Int)) := hB3.cell 1
      exact bodyPost_ret (v := .agg #[.int .u64 (a : Int), .int .u64 (b : Int)]) (by simp [results, Tryd.f68, go_sem, m0, m1]) rfl ⟨rfl, (hF'.out.out hf'.out fun i hi e => by have := hkw.out; omega).out hS3 fun i hi e => by have := hkw.out; omega⟩
theorem pless_any (p o : Nat × Nat) (hp : Wd p) (ho : Wd o) (w : World) : Calls Tryd.prog 68 #[plV p, plV o] w fun e w' => ∃ p', e = .returned (plV p') ∧ Wd p' ∧ (∀ x, memP p' x = (memP p x && !memP o x)) ∧ Far (fun _ => False) w w' :=
  (pless_core p.1 p.2 o.1 o.2 w hp.1 hp.2 ho.1 ho.2).mono fun e w' ⟨he, hf⟩ => ⟨(less p.1 o.1, less p.2 o.2), he, ⟨less_lt _ _ hp.1, less_lt _ _ hp.2⟩, fun x => mem_less _ _ _ _ x hp.1 hp.2, hf⟩
end
end Go.Proofs.YteojbnkjphghkaaDoor
