/-
  Has: has an automaton a word?
-/
import Derived.Test.YtihlfphokgicbaaDoorBoolRow
namespace Go.Proofs.YtihlfphokgicbaaDoor
open Go.RowKit
set_option linter.unusedVariables false
set_option linter.unusedSimpArgs false
/-- A word that was handed in. -/
def Syms (w : World) (ao : Option Addr) (n : Nat) (g : Nat → Bool × Int) : Prop := 0 < n → ∃ b off, ao = some ⟨b, off, none⟩ ∧ b < w.heap.size ∧ ∀ k, k < n → w.cell? ⟨b, off + k * 2, none⟩ = some (.bool (g k).1) ∧ w.cell? ⟨b, off + k * 2 + 1, none⟩ = some (.int .i64 (g k).2)
theorem Syms.move {w w' : World} {ao : Option Addr} {n : Nat} {g : Nat → Bool × Int} (h : Syms w ao n g) (hf : Far (fun _ => False) w w') : Syms w' ao n g := fun hn => by
  obtain ⟨b, off, e, hb, hc⟩ := h hn
  refine ⟨b, off, e, Nat.lt_of_lt_of_le hb hf.size, fun k hk => ?_⟩
  obtain ⟨c0, c1⟩ := hc k hk
  exact ⟨(hf.cell hb).trans c0, (hf.cell hb).trans c1⟩
/-- Is p a state behind the first i symbols of the word? -/
def inAt (g : Nat → Ar) (m : Nat) (wd : Nat → Bool × Int) : Nat → Nat → Prop
  | 0, p => p = 0
  | i + 1, p => ∃ k, k < m ∧ (((g k).2.1 = (wd i).1 ∧ (g k).2.2.1 = (wd i).2) ∧ inAt g m wd i (g k).1.toNat ∧ (g k).2.2.2 = (p : Int))
def hasP (g : Nat → Ar) (m : Nat) (wd : Nat → Bool × Int) (wl n : Nat) (f : Nat → Int) : Prop := ∃ j, j < n ∧ inAt g m wd wl (f j).toNat
theorem inAt_step {g : Nat → Ar} {m : Nat} {wd : Nat → Bool × Int} {i u v u' v' : Nat} (h : ∀ p, memS u v p = true ↔ inAt g m wd i p) (h' : ∀ p, memS u' v' p = true ↔ ∃ k, k < m ∧ leads g u v (wd i).1 (wd i).2 k p) (p : Nat) : memS u' v' p = true ↔ inAt g m wd (i + 1) p := by
  rw [h' p]
  refine exists_congr fun k => and_congr_right fun hk => ?_
  unfold leads
  rw [h]
theorem inAt_stepB {g : Nat → Ar} {m : Nat} {wd : Nat → Bool × Int} {i : Nat} {fB f' : Nat → Bool} (h : ∀ p, fB p = true ↔ inAt g m wd i p) (h' : ∀ p, f' p = true ↔ ∃ k, k < m ∧ leadsB g fB (wd i).1 (wd i).2 k p) (p : Nat) : f' p = true ↔ inAt g m wd (i + 1) p := by
  rw [h' p]
  refine exists_congr fun k => and_congr_right fun hk => ?_
  unfold leadsB
  rw [h]
theorem has_len {g : Nat → Ar} {m : Nat} {wd : Nat → Bool × Int} {wl n : Nat} {f : Nat → Int} {u v a b : Nat} {l : List Nat} (hf : ∀ k, k < n → 0 ≤ f k ∧ f k < 128) (h : ∀ p, memS u v p = true ↔ inAt g m wd wl p) (h' : ∀ p : Nat, memS a b p = true ↔ ∃ k, k < n ∧ f k = (p : Int)) (hU : Upto (u &&& a) (v &&& b) 128 l) : decide ((0 : Int) < (l.length : Int)) = true ↔ hasP g m wd wl n f := by
  rw [decide_eq_true_eq]
  constructor
  · intro hl
    obtain ⟨p, hp⟩ : ∃ p, p ∈ l := by
      cases l with
      | nil => simp at hl
      | cons p l => exact ⟨p, by simp⟩
    have h1 := ((hU.2.1 p).1 hp).2
    rw [mem_both, Bool.and_eq_true, h, h'] at h1
    obtain ⟨h2, j, hj, e⟩ := h1
    exact ⟨j, hj, by rw [e, Int.toNat_natCast]; exact h2⟩
  · rintro ⟨j, hj, hin⟩
    have h0 := hf j hj
    have hm : (f j).toNat ∈ l := (hU.2.1 _).2 ⟨by omega, by rw [mem_both, Bool.and_eq_true, h, h']; exact ⟨hin, j, hj, by omega⟩⟩
    have := List.length_pos_of_mem hm
    omega
section
set_option maxHeartbeats 2000000
set_option maxRecDepth 100000
theorem bhas_no (S : Int) (fo : Option Addr) (n fc : Nat) (f : Nat → Int) (ao : Option Addr) (m ac : Nat) (g : Nat → Ar) (qo : Option Addr) (wl qc : Nat) (w : World) (hI : Ints w fo n f) (hA : Arcs w ao m g) (hn : n ≤ maxLen) (hm : m ≤ maxLen) (hno : ¬ MayBe S n f m g) :
    Calls Tryd.prog 9 #[.agg #[.int .i64 S, .slice fo n fc, .slice ao m ac], .slice qo wl qc] w fun e w' => e = .returned (.tuple #[.bool false, .int .i64 200]) ∧ Far (fun _ => False) w w' := by
  obtain ⟨h, hh⟩ : ∃ h, h = w.heap.size := ⟨_, rfl⟩
  obtain ⟨w1, hw1⟩ : ∃ w1, w1 = w.alloc (.cells #[.int .i64 S, .slice fo n fc, .slice ao m ac] 25) := ⟨_, rfl⟩
  have hB : Bk w1 h 25 #[.int .i64 S, .slice fo n fc, .slice ao m ac] := hw1 ▸ Bk.new hh
  have hF : Far (fun _ => False) w w1 := hw1 ▸ (Far.refl _ w).alloc _
  have b0 : w1.cell? ⟨h, 0, none⟩ = some (.int .i64 S) := hB.cell 0
  have b1 : w1.cell? ⟨h, 1, none⟩ = some (.slice fo n fc) := hB.cell 1
  have b2 : w1.cell? ⟨h, 2, none⟩ = some (.slice ao m ac) := hB.cell 2
  have CK := check_any S fo n fc f ao m ac g w1 (hI.move hF) (hA.move hF) hn hm
  rw [code_no hno] at CK
  have hh' := Lib.hid hh
  have hw1' := Lib.hid hw1
  have hF' := Lib.hid hF
  clear hI hA hn hm hno hh hw1 hB hF
  go_enter Tryd.func9, Tryd.ntmps9
  go_upto_region 1 with fail
  rw [← hh'.out, ← hw1'.out]
  go_wp2_with fail
  refine CK.mono ?_
  rintro e w2 ⟨rfl, hf2⟩
  have hf2' := Lib.hid hf2
  clear hf2 CK
  go_wp2_with fail
  exact bodyPost_ret (v := .tuple #[.bool false, .int .i64 200]) (by simp [results, Tryd.f9, go_sem]) rfl ⟨rfl, hF'.out.then hf2'.out⟩
theorem bhas_long (S : Int) (fo : Option Addr) (n fc : Nat) (f : Nat → Int) (ao : Option Addr) (m ac : Nat) (g : Nat → Ar) (qo : Option Addr) (wl qc : Nat) (w : World) (hI : Ints w fo n f) (hA : Arcs w ao m g) (hn : n ≤ maxLen) (hm : m ≤ maxLen) (hM : MayBe S n f m g) (hl : 64 < wl) :
    Calls Tryd.prog 9 #[.agg #[.int .i64 S, .slice fo n fc, .slice ao m ac], .slice qo wl qc] w fun e w' => e = .returned (.tuple #[.bool false, .int .i64 3]) ∧ Far (fun _ => False) w w' := by
  obtain ⟨h, hh⟩ : ∃ h, h = w.heap.size := ⟨_, rfl⟩
  obtain ⟨w1, hw1⟩ : ∃ w1, w1 = w.alloc (.cells #[.int .i64 S, .slice fo n fc, .slice ao m ac] 25) := ⟨_, rfl⟩
  have hB : Bk w1 h 25 #[.int .i64 S, .slice fo n fc, .slice ao m ac] := hw1 ▸ Bk.new hh
  have hF : Far (fun _ => False) w w1 := hw1 ▸ (Far.refl _ w).alloc _
  have b0 : w1.cell? ⟨h, 0, none⟩ = some (.int .i64 S) := hB.cell 0
  have b1 : w1.cell? ⟨h, 1, none⟩ = some (.slice fo n fc) := hB.cell 1
  have b2 : w1.cell? ⟨h, 2, none⟩ = some (.slice ao m ac) := hB.cell 2
  have CK := check_any S fo n fc f ao m ac g w1 (hI.move hF) (hA.move hF) hn hm
  rw [code_yes hM] at CK
  have e0 : decide ((64 : Int) < (wl : Int)) = true := by rw [decide_eq_true_eq]; omega
  have e0' : decide (64 < wl) = true := by rw [decide_eq_true_eq]; omega
  have hh' := Lib.hid hh
  have hw1' := Lib.hid hw1
  have hF' := Lib.hid hF
  clear hI hA hn hm hM hh hw1 hB hF hl
  go_enter Tryd.func9, Tryd.ntmps9
  go_upto_region 1 with fail
  rw [← hh'.out, ← hw1'.out]
  go_wp2_with fail
  refine CK.mono ?_
  rintro e w2 ⟨rfl, hf2⟩
  have hf2' := Lib.hid hf2
  clear hf2 CK
  go_wp2_with fail
  exact bodyPost_ret (v := .tuple #[.bool false, .int .i64 3]) (by simp [results, Tryd.f9, go_sem]) rfl ⟨rfl, hF'.out.then hf2'.out⟩
theorem bhas_yes (S : Int) (fo : Option Addr) (n fc : Nat) (f : Nat → Int) (ao : Option Addr) (m ac : Nat) (g : Nat → Ar) (qo : Option Addr) (wl qc : Nat) (wd : Nat → Bool × Int) (w : World) (hI : Ints w fo n f) (hA : Arcs w ao m g) (hQ : Syms w qo wl wd) (hn : n ≤ maxLen) (hm : m ≤ maxLen) (hM : MayBe S n f m g) (hl : wl ≤ 64) (hT : Tab w) :
    Calls Tryd.prog 9 #[.agg #[.int .i64 S, .slice fo n fc, .slice ao m ac], .slice qo wl qc] w fun e w' => (∃ b : Bool, e = .returned (.tuple #[.bool b, .int .i64 0]) ∧ (b = true ↔ hasP g m wd wl n f)) ∧ Far (fun _ => False) w w' := by
  obtain ⟨h, hh⟩ : ∃ h, h = w.heap.size := ⟨_, rfl⟩
  obtain ⟨w1, hw1⟩ : ∃ w1, w1 = w.alloc (.cells #[.int .i64 S, .slice fo n fc, .slice ao m ac] 25) := ⟨_, rfl⟩
  have hB : Bk w1 h 25 #[.int .i64 S, .slice fo n fc, .slice ao m ac] := hw1 ▸ Bk.new hh
  have hF : Far (fun _ => False) w w1 := hw1 ▸ (Far.refl _ w).alloc _
  have b0 : w1.cell? ⟨h, 0, none⟩ = some (.int .i64 S) := hB.cell 0
  have b1 : w1.cell? ⟨h, 1, none⟩ = some (.slice fo n fc) := hB.cell 1
  have b2 : w1.cell? ⟨h, 2, none⟩ = some (.slice ao m ac) := hB.cell 2
  have CK := check_any S fo n fc f ao m ac g w1 (hI.move hF) (hA.move hF) hn hm
  rw [code_yes hM] at CK
  have e0 : decide ((64 : Int) < (wl : Int)) = false := by rw [decide_eq_false_iff_not]; omega
  have e0' : decide (64 < wl) = false := by rw [decide_eq_false_iff_not]; omega
  have hT1 : Tab w1 := hT.stays (hF.below (Nat.le_refl _) fun _ _ h => h)
  have hS65 := hM.2.1
  have hfb : ∀ k, k < n → 0 ≤ f k ∧ f k < 128 := fun k hk => by have := hM.2.2.1 k hk; unfold finAt at this; omega
  have hgb : ∀ k, k < m → (0 ≤ (g k).1 ∧ (g k).1 < 128) ∧ 0 ≤ (g k).2.2.2 ∧ (g k).2.2.2 < 128 := fun k hk => by
    obtain ⟨a1, a2, a3, a4, _⟩ := hM.2.2.2 k hk
    omega
  have hQ1 := Lib.hid (hQ.move hF)
  have HSO := Lib.hid (fun w' (hf : Far (fun _ => False) w1 w') => setOf_any fo n fc f w' hn ((hI.move hF).move hf) hfb)
  have HST := Lib.hid (fun u0 v0 s1 s2 hu hv w' (hf : Far (fun _ => False) w1 w') => step_any S fo n fc ao m ac g u0 v0 s1 s2 w' hm ((hA.move hF).move hf) hgb hu hv)
  have HMA := Lib.hid (fun u v u' v' hu hv hu' hv' w' (hf : Far (fun _ => False) w1 w') => members_any u v u' v' w' hu hv hu' hv' (hT1.stays (hf.below (Nat.le_refl _) fun _ _ h => h)))
  have hfb' := Lib.hid hfb
  have hh' := Lib.hid hh
  have hw1' := Lib.hid hw1
  have hF' := Lib.hid hF
  have hB' := Lib.hid hB
  clear hI hA hn hm hM hh hw1 hB hF hQ hT hT1 hfb hgb hS65
  go_enter Tryd.func9, Tryd.ntmps9
  go_upto_region 1 with fail
  rw [← hh'.out, ← hw1'.out]
  go_wp2_with fail
  refine CK.mono ?_
  rintro e w2 ⟨rfl, hf2⟩
  have hf2' := Lib.hid hf2
  clear hf2 CK b0 b1 b2
  go_wp2_with fail
  have S0 := setOf_any (some ⟨w2.heap.size, 0, none⟩) 1 1 (fun _ => 0) (w2.alloc (.cells #[.int .i64 0] 3)) (by unfold maxLen; omega) (fun _ => ⟨w2.heap.size, 0, rfl, by simp, fun k hk => by rw [show 0 + k = 0 by omega]; exact (Bk.new (w := w2) (t := 3) (cs := #[.int .i64 0]) rfl).cell 0⟩) (fun k hk => by omega)
  refine S0.mono ?_
  rintro e w3 ⟨u, v, rfl, hu, hv, hmem, hf3⟩
  obtain ⟨kA, hkA⟩ : ∃ k, k = w3.heap.size := ⟨_, rfl⟩
  obtain ⟨w4, hw4⟩ : ∃ w4, w4 = w3.alloc (.cells #[.int .u64 (u : Int), .int .u64 (v : Int)] 54) := ⟨_, rfl⟩
  have hA4 : Bk w4 kA 54 #[.int .u64 (u : Int), .int .u64 (v : Int)] := hw4 ▸ Bk.new hkA
  have hf14 : Far (fun _ => False) w1 w4 := hw4 ▸ (((hf2'.out.alloc _).then hf3).alloc _)
  have hkl : w1.heap.size ≤ kA := by rw [hkA]; exact ((hf2'.out.alloc _).then hf3).size
  have hmem0 : ∀ p, memS u v p = true ↔ inAt g m wd 0 p := fun p => by
    rw [hmem p]
    show _ ↔ p = 0
    constructor
    · rintro ⟨k, hk, e⟩; omega
    · rintro rfl; exact ⟨0, by omega, rfl⟩
  have hw4' := Lib.hid hw4
  have hkA' := Lib.hid hkA
  have hA4' := Lib.hid hA4
  have hf14' := Lib.hid hf14
  have hmem0' := Lib.hid hmem0
  have hkl' := Lib.hid hkl
  clear S0 hmem hf3 hw4 hkA hA4 hf14 hmem0 hkl
  go_upto_region 7 with fail
  rw [← hkA'.out, ← hw4'.out]
  go_wp2_with fail
  go_loopw [22] (fun iv wr => ∃ i u v : Nat, iv = .int .i64 i ∧ i ≤ wl ∧ SetB wr kA u v ∧ (∀ p, memS u v p = true ↔ inAt g m wd i p) ∧ Far (fun k => k = kA) w4 wr) (fun iv _ => wl - (intOf iv).toNat)
  case atStart => exact ⟨0, u, v, rfl, Nat.zero_le _, ⟨hA4'.out, hu, hv⟩, hmem0'.out, Far.refl _ _⟩
  case round =>
    clear hu hv hmem0' hA4' hw4'
    obtain ⟨i, u, v, rfl, hi, ⟨hAr, hu, hv⟩, hmem, hfw⟩ := hrel
    have hfx : Far (fun _ => False) w1 wr := hf14'.out.out hfw (fun i hi e => by have := hkl'.out; omega)
    have s0 : wr.cell? ⟨kA, 0, none⟩ = some (.int .u64 (u : Int)) := hAr.cell 0
    have s1 : wr.cell? ⟨kA, 1, none⟩ = some (.int .u64 (v : Int)) := hAr.cell 1
    have hBr := hB'.out.far' hfx id
    have b0 : wr.cell? ⟨h, 0, none⟩ = some (.int .i64 S) := hBr.cell 0
    have b1 : wr.cell? ⟨h, 1, none⟩ = some (.slice fo n fc) := hBr.cell 1
    have b2 : wr.cell? ⟨h, 2, none⟩ = some (.slice ao m ac) := hBr.cell 2
    have hfw' := Lib.hid hfw
    have hfx' := Lib.hid hfx
    have hmem' := Lib.hid hmem
    have hAr' := Lib.hid hAr
    by_cases hlt : i < wl
    · have e1 : decide ((i : Int) < (wl : Int)) = true := by rw [decide_eq_true_eq]; omega
      have hii : (i : Int) < (wl : Int) := by omega
      obtain ⟨gb, off, rfl, hgb, hcs⟩ := (hQ1.out.move hfx) (by omega)
      obtain ⟨c0, c1⟩ := hcs i hlt
      have hST := HST.out u v (wd i).1 (wd i).2 hu hv
      have hi1 : ∀ u' v', (∀ p, memS u' v' p = true ↔ ∃ k, k < m ∧ leads g u v (wd i).1 (wd i).2 k p) → ∀ p, memS u' v' p = true ↔ inAt g m wd (i + 1) p := fun u' v' h' => inAt_step hmem h'
      have hi1' := Lib.hid hi1
      obtain ⟨ax, hax⟩ : ∃ ax, ax = wr.heap.size := ⟨_, rfl⟩
      obtain ⟨wa, hwa⟩ : ∃ wa, wa = wr.alloc (.cells #[.bool (wd i).1, .int .i64 (wd i).2] 38) := ⟨_, rfl⟩
      have hfa : Far (fun _ => False) wr wa := hwa ▸ alloc_far _ _
      have hX : Bk wa ax 38 #[.bool (wd i).1, .int .i64 (wd i).2] := by rw [hax, hwa]; exact Bk.new rfl
      have hBa := hBr.far' hfa id
      have hAa := hAr.far' hfa id
      have hSTa := hST wa (hfx.then hfa)
      have r0 : wa.cell? ⟨ax, 0, none⟩ = some (.bool (wd i).1) := hX.cell 0
      have r1 : wa.cell? ⟨ax, 1, none⟩ = some (.int .i64 (wd i).2) := hX.cell 1
      have a0 : wa.cell? ⟨h, 0, none⟩ = some (.int .i64 S) := hBa.cell 0
      have a1 : wa.cell? ⟨h, 1, none⟩ = some (.slice fo n fc) := hBa.cell 1
      have a2 : wa.cell? ⟨h, 2, none⟩ = some (.slice ao m ac) := hBa.cell 2
      have t0 : wa.cell? ⟨kA, 0, none⟩ = some (.int .u64 (u : Int)) := hAa.cell 0
      have t1 : wa.cell? ⟨kA, 1, none⟩ = some (.int .u64 (v : Int)) := hAa.cell 1
      have hfa' := Lib.hid hfa
      have hax' := Lib.hid hax
      have hwa' := Lib.hid hwa
      have hAa' := Lib.hid hAa
      generalize hq1 : (wd i).1 = q1 at *
      generalize hq2 : (wd i).2 = q2 at *
      have hq1' := Lib.hid hq1
      have hq2' := Lib.hid hq2
      clear hcs hmem hfw hfx hBr hAr hST hi1 hax hwa hfa hX hBa hAa hq1 hq2 hu hv
      go_upto_region 10 with fail
      rw [← hax'.out, ← hwa'.out]
      clear c0 c1 b0 b1 b2 s0 s1
      go_wp2_with fail
      refine hSTa.mono ?_
      rintro e w6 ⟨u', v', rfl, hu', hv', hmem6, hf6⟩
      have hA6 := hAa'.out.far' hf6 id
      have t0 : w6.cell? ⟨kA, 0, none⟩ = some (.int .u64 (u : Int)) := hA6.cell 0
      have t1 : w6.cell? ⟨kA, 1, none⟩ = some (.int .u64 (v : Int)) := hA6.cell 1
      have z0 : w6.frozen? ⟨kA, 0, none⟩ = false := hA6.free 0
      have z1 : w6.frozen? ⟨kA, 1, none⟩ = false := hA6.free 1
      have hu6 := Lib.hid hu'
      have hv6 := Lib.hid hv'
      have hmem6' := Lib.hid hmem6
      have hf6' := Lib.hid hf6
      have hA6' := Lib.hid hA6
      clear hu' hv' hmem6 hf6 hA6 hSTa r0 r1 a0 a1 a2
      go_wp2_with fail
      go_roundw
      case rel => exact ⟨i + 1, u', v', by go_num, by omega, ⟨bk_two hA6'.out, hu6.out, hv6.out⟩, hi1'.out _ _ hmem6'.out, ((hfw'.out.trans (hfa'.out.then hf6'.out) (fun _ _ h => h.elim)).set _ _ (fun _ => rfl)).set _ _ (fun _ => rfl)⟩
      case measure => simp [intOf]; omega
    · have e1 : decide ((i : Int) < (wl : Int)) = false := by rw [decide_eq_false_iff_not]; omega
      have hin : i = wl := by omega
      have hm2 := Lib.hid (show ∀ p, memS u v p = true ↔ inAt g m wd wl p from hin ▸ hmem)
      have HK := Lib.hid (show ∀ w2, Far (fun _ => False) wr w2 → w2.cell? ⟨kA, 0, none⟩ = some (.int .u64 (u : Int)) ∧ w2.cell? ⟨kA, 1, none⟩ = some (.int .u64 (v : Int)) ∧ w2.cell? ⟨h, 1, none⟩ = some (.slice fo n fc) from fun w2 hf => ⟨(hAr.far' hf id).cell 0, (hAr.far' hf id).cell 1, (hBr.far' hf id).cell 1⟩)
      have hu2 := Lib.hid hu
      have hv2 := Lib.hid hv
      clear hmem hfw hfx hBr hAr hin hmem' hAr' hu hv
      go_wp2_with fail
      go_region_held3 (fun w' => w'.cell? ⟨kA, 0, none⟩ = some (.int .u64 (u : Int)) ∧ w'.cell? ⟨kA, 1, none⟩ = some (.int .u64 (v : Int)) ∧ w'.cell? ⟨h, 1, none⟩ = some (.slice fo n fc)) (go_keep)
        (first
          | (go_at_call 18; refine (HSO.out _ hfx'.out.drew).mono ?_; rintro e w7 ⟨ua, va, rfl, hua, hva, hmema, hf7⟩; obtain ⟨r0, r1, r2⟩ := HK.out w7 ((drew_far wr).then hf7); have hua' := Lib.hid hua; have hva' := Lib.hid hva; have hmema' := Lib.hid hmema; have hf7' := Lib.hid ((drew_far wr).then hf7); clear hua hva hmema hf7)
          | (go_at_call 20; refine (HMA.out u v ua va hu2.out hv2.out hua'.out hva'.out _ (hfx'.out.then hf7'.out)).mono ?_; rintro e w8 ⟨l, so, cap, B, rfl, hB8, hO8, hU8, hf8⟩; obtain ⟨t0, t1, t2⟩ := HK.out w8 (hf7'.out.then hf8); have hU8' := Lib.hid hU8; have hf8' := Lib.hid hf8; clear hB8 hO8 hU8 hf8))
      all_goals
        go_wp2_with fail
        exact bodyPost_ret (v := .tuple #[.bool (decide ((0 : Int) < (l.length : Int))), .int .i64 0]) (by simp [results, Tryd.f9, go_sem]) rfl ⟨⟨_, rfl, has_len hfb'.out hm2.out hmema'.out hU8'.out⟩, (hF'.out.then hfx'.out).then (hf7'.out.then hf8'.out)⟩
end
end Go.Proofs.YtihlfphokgicbaaDoor
