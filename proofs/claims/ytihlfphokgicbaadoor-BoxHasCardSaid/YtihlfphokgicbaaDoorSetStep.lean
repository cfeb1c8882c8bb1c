/-
  step: to where the arcs with a symbol lead from a set of states.
-/
import Derived.Test.YtihlfphokgicbaaDoorSetOf
import Derived.Test.YtihlfphokgicbaaDoorArcLess
namespace Go.Proofs.YtihlfphokgicbaaDoor
open Go.RowKit
set_option linter.unusedVariables false
set_option linter.unusedSimpArgs false
/-- The k-th arc leads from the set to p by the symbol. -/
def leads (g : Nat → Ar) (u v : Nat) (s1 : Bool) (s2 : Int) (k p : Nat) : Prop := ((g k).2.1 = s1 ∧ (g k).2.2.1 = s2) ∧ memS u v (g k).1.toNat = true ∧ (g k).2.2.2 = (p : Int)
section
set_option maxHeartbeats 2000000
set_option maxRecDepth 100000
theorem step_any (S : Int) (fo : Option Addr) (n fc : Nat) (ao : Option Addr) (m ac : Nat) (g : Nat → Ar) (u0 v0 : Nat) (s1 : Bool) (s2 : Int) (w : World) (hm : m ≤ maxLen) (hA : Arcs w ao m g) (hg : ∀ k, k < m → (0 ≤ (g k).1 ∧ (g k).1 < 128) ∧ 0 ≤ (g k).2.2.2 ∧ (g k).2.2.2 < 128) (hu0 : u0 < 18446744073709551616) (hv0 : v0 < 18446744073709551616) :
    Calls Tryd.prog 19 #[.agg #[.int .i64 S, .slice fo n fc, .slice ao m ac], .agg #[.int .u64 (u0 : Int), .int .u64 (v0 : Int)], .agg #[.bool s1, .int .i64 s2]] w fun e w' => ∃ u v : Nat, e = .returned (.agg #[.int .u64 (u : Int), .int .u64 (v : Int)]) ∧ u < 18446744073709551616 ∧ v < 18446744073709551616 ∧ (∀ p : Nat, memS u v p = true ↔ ∃ k, k < m ∧ leads g u0 v0 s1 s2 k p) ∧ Far (fun _ => False) w w' := by
  unfold maxLen at hm
  obtain ⟨h, hh⟩ : ∃ h, h = w.heap.size := ⟨_, rfl⟩
  obtain ⟨kU, hkU⟩ : ∃ k, k = h + 1 := ⟨_, rfl⟩
  obtain ⟨kY, hkY⟩ : ∃ k, k = kU + 1 := ⟨_, rfl⟩
  obtain ⟨kR, hkR⟩ : ∃ k, k = kY + 1 := ⟨_, rfl⟩
  obtain ⟨kS, hkS⟩ : ∃ k, k = kR + 1 := ⟨_, rfl⟩
  obtain ⟨w1, hw1⟩ : ∃ w1, w1 = ((((w.alloc (.cells #[.int .i64 S, .slice fo n fc, .slice ao m ac] 25)).alloc (.cells #[.int .u64 (u0 : Int), .int .u64 (v0 : Int)] 54)).alloc (.cells #[.bool s1, .int .i64 s2] 38)).alloc (.cells #[.int .u64 0, .int .u64 0] 54)).alloc (.cells #[.int .u64 0, .int .u64 0] 54) := ⟨_, rfl⟩
  have hB : Bk w1 h 25 #[.int .i64 S, .slice fo n fc, .slice ao m ac] := hw1 ▸ ((((Bk.new hh).alloc _).alloc _).alloc _).alloc _
  have hU : Bk w1 kU 54 #[.int .u64 (u0 : Int), .int .u64 (v0 : Int)] := hw1 ▸ (((Bk.new (by simp [hkU, hkY, hkR, hkS, hh])).alloc _).alloc _).alloc _
  have hY : Bk w1 kY 38 #[.bool s1, .int .i64 s2] := hw1 ▸ ((Bk.new (by simp [hkU, hkY, hkR, hkS, hh])).alloc _).alloc _
  have hR : Bk w1 kR 54 #[.int .u64 0, .int .u64 0] := hw1 ▸ (Bk.new (by simp [hkU, hkY, hkR, hkS, hh])).alloc _
  have hS : Bk w1 kS 54 #[.int .u64 0, .int .u64 0] := hw1 ▸ Bk.new (by simp [hkU, hkY, hkR, hkS, hh])
  have hF : Far (fun _ => False) w w1 := hw1 ▸ (((((Far.refl _ w).alloc _).alloc _).alloc _).alloc _).alloc _
  have hA' := Lib.hid hA
  have hB' := Lib.hid hB
  have hU' := Lib.hid hU
  have hY' := Lib.hid hY
  have hR' := Lib.hid hR
  have hS' := Lib.hid hS
  have hF' := Lib.hid hF
  have hw1' := Lib.hid hw1
  have hh' := Lib.hid hh
  have hg' := Lib.hid hg
  have hkU' := Lib.hid hkU
  have hkY' := Lib.hid hkY
  have hkR' := Lib.hid hkR
  have hkS' := Lib.hid hkS
  have b2 : w1.cell? ⟨h, 2, none⟩ = some (.slice ao m ac) := hB.cell 2
  clear hA hU hY hR hS hF hw1 hg hB hh hkU hkY hkR hkS
  go_enter Tryd.func19, Tryd.ntmps19
  go_upto_region 2 with fail
  rw [← hh'.out, ← hkU'.out, ← hkY'.out, ← hkR'.out, ← hkS'.out, ← hw1'.out]
  go_wp2_with fail
  clear b2
  go_loopw [13] (fun iv wr => ∃ (i u v : Nat), iv = .int .i64 i ∧ i ≤ m ∧ SetB wr kS u v ∧ (∀ p : Nat, memS u v p = true ↔ ∃ k, k < i ∧ leads g u0 v0 s1 s2 k p) ∧ Far (fun k => k = kS) w1 wr) (fun iv _ => m - (intOf iv).toNat)
  case atStart => exact ⟨0, 0, 0, rfl, Nat.zero_le _, ⟨hS'.out, by decide, by decide⟩, fun p => by simp [memS], Far.refl _ _⟩
  case round =>
    obtain ⟨i, u, v, rfl, hi, hSB, hmem, hfw⟩ := hrel
    by_cases hlt : i < m
    · have e1 : decide ((i : Int) < (m : Int)) = true := by rw [decide_eq_true_eq]; omega
      have hii : (i : Int) < (m : Int) := by omega
      obtain ⟨gb, off, rfl, hgb, hcs⟩ := hA'.out (by omega)
      obtain ⟨c0, c1, c2, c3⟩ := hcs i hlt
      have hgb1 : gb < w1.heap.size := Nat.lt_of_lt_of_le hgb hF'.out.size
      have hne : gb ≠ kS := by have := hh'.out; have := hkU'.out; have := hkY'.out; have := hkR'.out; have := hkS'.out; omega
      have hcell : ∀ o, wr.cell? ⟨gb, o, none⟩ = w.cell? ⟨gb, o, none⟩ := fun o => (cell_eq (hfw.block gb hgb1 hne)).trans (hF'.out.cell hgb)
      rw [← hcell] at c0 c1 c2 c3
      obtain ⟨⟨g0, g1⟩, g2, g3⟩ := hg'.out i hlt
      have hUr := hU'.out.far' hfw (by have := hkY'.out; have := hkR'.out; have := hkS'.out; omega)
      have hYr := hY'.out.far' hfw (by have := hkR'.out; have := hkS'.out; omega)
      obtain ⟨ax, hax⟩ : ∃ ax, ax = wr.heap.size := ⟨_, rfl⟩
      have hLi : ∀ p, leads g u0 v0 s1 s2 i p ↔ ((g i).2.1 = s1 ∧ (g i).2.2.1 = s2) ∧ memS u0 v0 (g i).1.toNat = true ∧ (g i).2.2.2 = (p : Int) := fun p => Iff.rfl
      generalize hgi : g i = x at *
      obtain ⟨x0, x1, x2, x3⟩ := x
      simp only [] at c0 c1 c2 c3 g0 g1 g2 g3 hLi
      obtain ⟨q0, rfl⟩ : ∃ q : Nat, x0 = (q : Int) := ⟨x0.toNat, by omega⟩
      obtain ⟨q3, rfl⟩ : ∃ q : Nat, x3 = (q : Int) := ⟨x3.toNat, by omega⟩
      rw [Int.toNat_natCast] at hLi
      obtain ⟨wa, hwa⟩ : ∃ wa, wa = wr.alloc (.cells #[.int .i64 (q0 : Int), .bool x1, .int .i64 x2, .int .i64 (q3 : Int)] 49) := ⟨_, rfl⟩
      have hfa : Far (fun _ => False) wr wa := hwa ▸ alloc_far _ _
      have hX : Bk wa ax 49 #[.int .i64 (q0 : Int), .bool x1, .int .i64 x2, .int .i64 (q3 : Int)] := by rw [hax, hwa]; exact Bk.new rfl
      have r0 : wa.cell? ⟨ax, 0, none⟩ = some (.int .i64 (q0 : Int)) := hX.cell 0
      have r1 : wa.cell? ⟨ax, 1, none⟩ = some (.bool x1) := hX.cell 1
      have r2 : wa.cell? ⟨ax, 2, none⟩ = some (.int .i64 x2) := hX.cell 2
      have r3 : wa.cell? ⟨ax, 3, none⟩ = some (.int .i64 (q3 : Int)) := hX.cell 3
      have hUa := hUr.far' hfa id
      have hYa := hYr.far' hfa id
      have y0 : wa.cell? ⟨kU, 0, none⟩ = some (.int .u64 (u0 : Int)) := hUa.cell 0
      have y1 : wa.cell? ⟨kU, 1, none⟩ = some (.int .u64 (v0 : Int)) := hUa.cell 1
      have z0 : wa.cell? ⟨kY, 0, none⟩ = some (.bool s1) := hYa.cell 0
      have z1 : wa.cell? ⟨kY, 1, none⟩ = some (.int .i64 s2) := hYa.cell 1
      have hSa : SetB wa kS u v := ⟨hSB.1.far' hfa id, hSB.2⟩
      have hfwa : Far (fun k => k = kS) w1 wa := hfw.trans hfa fun _ _ h => h.elim
      have hstep : ∀ p, (∃ k, k < i + 1 ∧ leads g u0 v0 s1 s2 k p) ↔ memS u v p = true ∨ ((x1 = s1 ∧ x2 = s2) ∧ memS u0 v0 q0 = true ∧ q3 = p) := fun p => by
        rw [hmem p]
        constructor
        · rintro ⟨k, hk, e⟩
          by_cases hki : k = i
          · subst hki; have := (hLi p).1 e; exact .inr ⟨this.1, this.2.1, by omega⟩
          · exact .inl ⟨k, by omega, e⟩
        · rintro (⟨k, hk, e⟩ | ⟨a, b, rfl⟩)
          · exact ⟨k, by omega, e⟩
          · exact ⟨i, by omega, (hLi _).2 ⟨a, b, rfl⟩⟩
      have hstep' := Lib.hid hstep
      have hfwa' := Lib.hid hfwa
      have hSa' := Lib.hid hSa
      have hwa' := Lib.hid hwa
      have hax' := Lib.hid hax
      have hX' := Lib.hid hX
      have hq3 : q3 < 128 := by omega
      have hq0 : q0 < 128 := by omega
      have EQ := eq_sym x1 x2 s1 s2
      clear hcs hmem hfw hSB hcell hgi hLi hwa hax hfa hX hUa hYa hSa hfwa hstep hUr hYr g0 g1 g2 g3
      go_upto_region 5 with fail
      rw [← hax'.out, ← hwa'.out]
      clear c0 c1 c2 c3
      by_cases hs : x1 = s1 ∧ x2 = s2
      · have e2 : (x1 == s1 && x2 == s2) = true := by simp [hs]
        rw [e2] at EQ
        have hs' := Lib.hid hs
        clear e2 hs
        have HA := has_any u0 v0 q0 hq0 hu0 hv0
        cases hb : memS u0 v0 q0 with
        | true =>
          rw [hb] at HA
          go_wp2_with fail
          refine (HA _).mono ?_
          rintro e w2 ⟨rfl, hf2⟩
          have hX2 := hX'.out.far' hf2 id
          have r3 : w2.cell? ⟨ax, 3, none⟩ = some (.int .i64 (q3 : Int)) := hX2.cell 3
          have PA := put_any u v q3 kS hq3 w2 ⟨hSa'.out.1.far' hf2 id, hSa'.out.2⟩
          have hb' := Lib.hid hb
          have hf2' := Lib.hid hf2
          clear hX2 HA hb hf2 EQ
          go_wp2_with fail
          refine PA.mono ?_
          rintro e w3 ⟨u2, v2, ⟨x, rfl⟩, hSB2, hm2, hf3⟩
          have hSB2' := Lib.hid hSB2
          have hm2' := Lib.hid hm2
          have hf3' := Lib.hid hf3
          clear hSB2 hm2 hf3 PA
          go_wp2_with fail
          go_roundw
          case rel => exact ⟨i + 1, u2, v2, by go_num, by omega, hSB2'.out, fun p => by
            rw [hm2'.out p, hstep'.out p, Bool.or_eq_true, decide_eq_true_eq]
            exact ⟨fun h => h.imp id fun h => ⟨hs'.out, hb'.out, h.symm⟩, fun h => h.imp id fun h => h.2.2.symm⟩, (hfwa'.out.trans hf2'.out (fun _ _ h => h.elim)).trans hf3'.out fun _ _ h => h⟩
          case measure => simp [intOf]; omega
        | false =>
          rw [hb] at HA
          go_wp2_with fail
          refine (HA _).mono ?_
          rintro e w2 ⟨rfl, hf2⟩
          have hb' := Lib.hid hb
          have hf2' := Lib.hid hf2
          clear HA hb hf2 EQ
          go_wp2_with fail
          go_roundw
          case rel => exact ⟨i + 1, u, v, by go_num, by omega, ⟨hSa'.out.1.far' hf2'.out id, hSa'.out.2⟩, fun p => by
            rw [hstep'.out p]
            exact ⟨.inl, fun h => h.elim id fun h => by have := hb'.out; rw [h.2.1] at this; cases this⟩, hfwa'.out.trans hf2'.out (fun _ _ h => h.elim)⟩
          case measure => simp [intOf]; omega
      · have e2 : (x1 == s1 && x2 == s2) = false := by
          cases hb : (x1 == s1 && x2 == s2) with
          | false => rfl
          | true => exact absurd (by simpa using hb) hs
        rw [e2] at EQ
        have hs' := Lib.hid hs
        clear e2 hs
        go_wp2_with fail
        go_roundw
        case rel => exact ⟨i + 1, u, v, by go_num, by omega, hSa'.out, fun p => by
          rw [hstep'.out p]
          exact ⟨.inl, fun h => h.elim id fun h => absurd h.1 hs'.out⟩, hfwa'.out⟩
        case measure => simp [intOf]; omega
    · have e1 : decide ((i : Int) < (m : Int)) = false := by rw [decide_eq_false_iff_not]; omega
      have hin : i = m := by omega
      obtain ⟨hSr, hu, hv⟩ := hSB
      have s0 : wr.cell? ⟨kS, 0, none⟩ = some (.int .u64 (u : Int)) := hSr.cell 0
      have s1' : wr.cell? ⟨kS, 1, none⟩ = some (.int .u64 (v : Int)) := hSr.cell 1
      have hRr := hR'.out.far' hfw (by have := hkS'.out; omega)
      have t0 : wr.frozen? ⟨kR, 0, none⟩ = false := hRr.free 0
      have t1 : wr.frozen? ⟨kR, 1, none⟩ = false := hRr.free 1
      have t2 : wr.cell? ⟨kR, 0, none⟩ = some (.int .u64 0) := hRr.cell 0
      have t3 : wr.cell? ⟨kR, 1, none⟩ = some (.int .u64 0) := hRr.cell 1
      have hRr' := Lib.hid hRr
      have hmem' := Lib.hid hmem
      have hfw' := Lib.hid hfw
      have hin' := Lib.hid hin
      clear hRr hmem hfw hin hSr
      go_wp2_with fail
      have hS0 : w.heap.size ≤ kR ∧ w.heap.size ≤ kS := by have := hh'.out; have := hkU'.out; have := hkY'.out; have := hkR'.out; have := hkS'.out; omega
      have hb3 : Bk ((wr.setCell ⟨kR, 0, none⟩ (.int .u64 (u : Int))).setCell ⟨kR, 1, none⟩ (.int .u64 (v : Int))) kR 54 #[.int .u64 (u : Int), .int .u64 (v : Int)] := (hRr'.out.set 0 (.int .u64 (u : Int))).set 1 (.int .u64 (v : Int))
      have hF3 : Far (fun _ => False) w ((wr.setCell ⟨kR, 0, none⟩ (.int .u64 (u : Int))).setCell ⟨kR, 1, none⟩ (.int .u64 (v : Int))) := ((hF'.out.out hfw'.out (fun i hi e => by omega)).set _ _ (fun h => absurd h (Nat.not_lt.2 hS0.1))).set _ _ (fun h => absurd h (Nat.not_lt.2 hS0.1))
      clear s0 s1' t0 t1 t2 t3
      generalize ((wr.setCell ⟨kR, 0, none⟩ (.int .u64 (u : Int))).setCell ⟨kR, 1, none⟩ (.int .u64 (v : Int))) = W3 at *
      have c0 : W3.cell? ⟨kR, 0, none⟩ = some (.int .u64 (u : Int)) := hb3.cell 0
      have c1 : W3.cell? ⟨kR, 1, none⟩ = some (.int .u64 (v : Int)) := hb3.cell 1
      have hm := hmem'.out
      rw [hin'.out] at hm
      exact bodyPost_ret (v := .agg #[.int .u64 (u : Int), .int .u64 (v : Int)]) (by simp [results, Tryd.f19, go_sem, c0, c1]) rfl ⟨u, v, rfl, hu, hv, hm, hF3⟩
end
end Go.Proofs.YtihlfphokgicbaaDoor
