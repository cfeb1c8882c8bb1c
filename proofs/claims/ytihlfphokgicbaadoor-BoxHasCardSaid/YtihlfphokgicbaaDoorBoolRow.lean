/-
  A row of booleans of the call's own; the document's Step.
-/
import Derived.Test.YtihlfphokgicbaaDoorBoxStep
import Derived.Laws.MakeOwn
namespace Go.Proofs.YtihlfphokgicbaaDoor
open Go.RowKit
set_option linter.unusedVariables false
set_option linter.unusedSimpArgs false
def bcells (S : Nat) (f : Nat → Bool) : Array Value := Array.ofFn (n := S) fun i => Value.bool (f i)
def BRow (w : World) (g S : Nat) (f : Nat → Bool) : Prop := Bk w g 4 (bcells S f)
theorem bcells_get (S : Nat) (f : Nat → Bool) (i : Nat) (h : i < S) : (bcells S f)[i]? = some (.bool (f i)) := by simp [bcells, h]
theorem BRow.get {w : World} {g S : Nat} {f : Nat → Bool} (h : BRow w g S f) (i : Nat) (hi : i < S) : w.cell? ⟨g, i, none⟩ = some (.bool (f i)) := (h.cell i).trans (bcells_get S f i hi)
def setB (f : Nat → Bool) (i j : Nat) : Bool := if j = i then true else f j
theorem bcells_set (S : Nat) (f : Nat → Bool) (i : Nat) : (bcells S f).setIfInBounds i (.bool true) = bcells S (setB f i) := by
  apply Array.ext_getElem?
  intro j
  rw [Array.getElem?_setIfInBounds]
  by_cases e : i = j
  · subst e
    by_cases hj : i < S <;> simp [bcells, setB, hj]
  · have e' : ¬ j = i := fun h => e h.symm
    by_cases hj : j < S <;> simp [bcells, setB, hj, e, e']
theorem BRow.put {w : World} {g S : Nat} {f : Nat → Bool} (h : BRow w g S f) (i : Nat) : BRow (w.setCell ⟨g, i, none⟩ (.bool true)) g S (setB f i) := by
  have := h.set i (.bool true)
  rw [bcells_set] at this
  exact this
theorem bool_row : (Tryd.prog.info? 4).map (fun i => (i.zero, i.size, i.bytes)) = some (some (.bool false), 1, 1) := by kernel_rfl
theorem made_bools (S : Nat) : madeCells (Value.bool false).cells (S * 1) = bcells S (fun _ => false) := by
  apply Array.ext
  · simp [bcells, madeCells]
  · intro j h1 h2
    simp [bcells, madeCells, Value.cells, Nat.mod_one]
theorem make_bools (S : Nat) (hS : S ≤ 65) (w : World) : (Instr.makeSlice 41 (.int .i64 (S : Int)) (.int .i64 (S : Int))).run Tryd.prog w = .ok (.slice (some ⟨w.heap.size, 0, none⟩) S S) (w.alloc (.cells (bcells S (fun _ => false)) 4)) := by
  obtain ⟨i, hi, hz, h1, h2⟩ := info_parts bool_row
  have := run_makeSlice (P := Tryd.prog) w 41 4 i (.bool false) Tryd.underlying41 hi hz .i64 .i64 (S : Int) (S : Int) (by omega) (Int.le_refl _) (by rw [h1, Int.toNat_natCast]; omega) (by rw [h2]; omega) (by omega)
  rw [Int.toNat_natCast, h1, made_bools] at this
  exact this
/-- An arc leads from the row to p by the symbol. -/
def leadsB (g : Nat → Ar) (f : Nat → Bool) (s1 : Bool) (s2 : Int) (k p : Nat) : Prop := ((g k).2.1 = s1 ∧ (g k).2.2.1 = s2) ∧ f (g k).1.toNat = true ∧ (g k).2.2.2 = (p : Int)
section
set_option maxHeartbeats 2000000
set_option maxRecDepth 100000
theorem rstep_any (S : Nat) (fo : Option Addr) (n fc : Nat) (ao : Option Addr) (m ac : Nat) (g : Nat → Ar) (gF : Nat) (f : Nat → Bool) (s1 : Bool) (s2 : Int) (w : World) (hS : S ≤ 65) (hm : m ≤ maxLen) (hA : Arcs w ao m g) (hFR : BRow w gF S f) (hg : ∀ k, k < m → (0 ≤ (g k).1 ∧ (g k).1 < S) ∧ 0 ≤ (g k).2.2.2 ∧ (g k).2.2.2 < S) :
    Calls Tryd.prog 12 #[.agg #[.int .i64 (S : Int), .slice fo n fc, .slice ao m ac], .slice (some ⟨gF, 0, none⟩) S S, .agg #[.bool s1, .int .i64 s2]] w fun e w' => ∃ (gT : Nat) (f' : Nat → Bool), e = .returned (.slice (some ⟨gT, 0, none⟩) S S) ∧ w.heap.size ≤ gT ∧ BRow w' gT S f' ∧ (∀ p : Nat, f' p = true ↔ ∃ k, k < m ∧ leadsB g f s1 s2 k p) ∧ Far (fun _ => False) w w' := by
  unfold maxLen at hm
  obtain ⟨h, hh⟩ : ∃ h, h = w.heap.size := ⟨_, rfl⟩
  obtain ⟨kY, hkY⟩ : ∃ k, k = h + 1 := ⟨_, rfl⟩
  obtain ⟨kT, hkT⟩ : ∃ k, k = kY + 1 := ⟨_, rfl⟩
  obtain ⟨w0, hw0⟩ : ∃ w0, w0 = (w.alloc (.cells #[.int .i64 (S : Int), .slice fo n fc, .slice ao m ac] 25)).alloc (.cells #[.bool s1, .int .i64 s2] 38) := ⟨_, rfl⟩
  obtain ⟨w1, hw1⟩ : ∃ w1, w1 = w0.alloc (.cells (bcells S (fun _ => false)) 4) := ⟨_, rfl⟩
  have hB0 : Bk w0 h 25 #[.int .i64 (S : Int), .slice fo n fc, .slice ao m ac] := hw0 ▸ (Bk.new hh).alloc _
  have hY0 : Bk w0 kY 38 #[.bool s1, .int .i64 s2] := hw0 ▸ Bk.new (by simp [hkY, hh])
  have hz0 : w0.heap.size = kT := by rw [hw0]; simp [hkT, hkY, hh]
  have hB : Bk w1 h 25 #[.int .i64 (S : Int), .slice fo n fc, .slice ao m ac] := hw1 ▸ hB0.alloc _
  have hY : Bk w1 kY 38 #[.bool s1, .int .i64 s2] := hw1 ▸ hY0.alloc _
  have hT : BRow w1 kT S (fun _ => false) := hw1 ▸ Bk.new hz0.symm
  have hF0 : Far (fun _ => False) w w0 := hw0 ▸ ((Far.refl _ w).alloc _).alloc _
  have hF : Far (fun _ => False) w w1 := hw1 ▸ hF0.alloc _
  have hFR1 : BRow w1 gF S f := Bk.far' hFR hF id
  have hgFl := hFR.lt
  have hMK := make_bools S hS
  have b0 : w0.cell? ⟨h, 0, none⟩ = some (.int .i64 (S : Int)) := hB0.cell 0
  have hFR' := Lib.hid hFR1
  have hA' := Lib.hid hA
  have hB' := Lib.hid hB
  have hY' := Lib.hid hY
  have hT' := Lib.hid hT
  have hF' := Lib.hid hF
  have hw0' := Lib.hid hw0
  have hw1' := Lib.hid hw1
  have hz0' := Lib.hid hz0
  have hh' := Lib.hid hh
  have hg' := Lib.hid hg
  have hkY' := Lib.hid hkY
  have hkT' := Lib.hid hkT
  have hgFl' := Lib.hid hgFl
  clear hA hB hB0 hY hY0 hT hF hF0 hw0 hw1 hz0 hh hg hkY hkT hFR hFR1 hgFl
  go_enter Tryd.func12, Tryd.ntmps12
  go_upto_region 1 with fail
  rw [← hh'.out, ← hkY'.out, ← hw0'.out]
  go_wp2_with fail
  rw [hz0'.out, ← hw1'.out]
  clear hMK b0
  go_loopw [8] (fun iv wr => ∃ (i : Nat) (f' : Nat → Bool), iv = .int .i64 i ∧ i ≤ m ∧ BRow wr kT S f' ∧ (∀ p : Nat, f' p = true ↔ ∃ k, k < i ∧ leadsB g f s1 s2 k p) ∧ Far (fun k => k = kT) w1 wr) (fun iv _ => m - (intOf iv).toNat)
  case atStart => exact ⟨0, fun _ => false, rfl, Nat.zero_le _, hT'.out, fun p => by simp, Far.refl _ _⟩
  case round =>
    obtain ⟨i, f', rfl, hi, hTr, hmem, hfw⟩ := hrel
    have hBr := hB'.out.far' hfw (by have := hkY'.out; have := hkT'.out; omega)
    have b2 : wr.cell? ⟨h, 2, none⟩ = some (.slice ao m ac) := hBr.cell 2
    by_cases hlt : i < m
    · have e1 : decide ((i : Int) < (m : Int)) = true := by rw [decide_eq_true_eq]; omega
      have hii : (i : Int) < (m : Int) := by omega
      obtain ⟨gb, off, rfl, hgb, hcs⟩ := hA'.out (by omega)
      obtain ⟨c0, c1, c2, c3⟩ := hcs i hlt
      have hgb1 : gb < w1.heap.size := Nat.lt_of_lt_of_le hgb hF'.out.size
      have hne : gb ≠ kT := by have := hh'.out; have := hkY'.out; have := hkT'.out; omega
      have hcell : ∀ o, wr.cell? ⟨gb, o, none⟩ = w.cell? ⟨gb, o, none⟩ := fun o => (cell_eq (hfw.block gb hgb1 hne)).trans (hF'.out.cell hgb)
      rw [← hcell] at c0 c1 c2 c3
      obtain ⟨⟨g0, g1⟩, g2, g3⟩ := hg'.out i hlt
      have hYr := hY'.out.far' hfw (by have := hkT'.out; omega)
      have hFRr : BRow wr gF S f := Bk.far' hFR'.out hfw (by have := hgFl'.out; have := hh'.out; have := hkY'.out; have := hkT'.out; omega)
      obtain ⟨ax, hax⟩ : ∃ ax, ax = wr.heap.size := ⟨_, rfl⟩
      have hLi : ∀ p, leadsB g f s1 s2 i p ↔ ((g i).2.1 = s1 ∧ (g i).2.2.1 = s2) ∧ f (g i).1.toNat = true ∧ (g i).2.2.2 = (p : Int) := fun p => Iff.rfl
      generalize hgi : g i = x at *
      obtain ⟨x0, x1, x2, x3⟩ := x
      simp only [] at c0 c1 c2 c3 g0 g1 g2 g3 hLi
      obtain ⟨q0, rfl⟩ : ∃ q : Nat, x0 = (q : Int) := ⟨x0.toNat, by omega⟩
      obtain ⟨q3, rfl⟩ : ∃ q : Nat, x3 = (q : Int) := ⟨x3.toNat, by omega⟩
      rw [Int.toNat_natCast] at hLi
      obtain ⟨wa, hwa⟩ : ∃ wa, wa = wr.alloc (.cells #[.int .i64 (q0 : Int), .bool x1, .int .i64 x2, .int .i64 (q3 : Int)] 49) := ⟨_, rfl⟩
      have hfa : Far (fun _ => False) wr wa := hwa ▸ alloc_far _ _
      have hX : Bk wa ax 49 #[.int .i64 (q0 : Int), .bool x1, .int .i64 x2, .int .i64 (q3 : Int)] := by rw [hax, hwa]; exact Bk.new rfl
      have r0 : wa.cell? ⟨ax, 0, none⟩ = some (.int .i64 (q0 : Int)) := hX.cell 0
      have r1 : wa.cell? ⟨ax, 1, none⟩ = some (.bool x1) := hX.cell 1
      have r2 : wa.cell? ⟨ax, 2, none⟩ = some (.int .i64 x2) := hX.cell 2
      have r3 : wa.cell? ⟨ax, 3, none⟩ = some (.int .i64 (q3 : Int)) := hX.cell 3
      have hYa := hYr.far' hfa id
      have z0 : wa.cell? ⟨kY, 0, none⟩ = some (.bool s1) := hYa.cell 0
      have z1 : wa.cell? ⟨kY, 1, none⟩ = some (.int .i64 s2) := hYa.cell 1
      have hq3 : q3 < S := by omega
      have hq0 : q0 < S := by omega
      have hqi0 : (q0 : Int) < (S : Int) := by omega
      have hqi3 : (q3 : Int) < (S : Int) := by omega
      have cf : wa.cell? ⟨gF, q0, none⟩ = some (.bool (f q0)) := BRow.get (Bk.far' hFRr hfa id) q0 hq0
      have hTa : BRow wa kT S f' := Bk.far' hTr hfa id
      have ct : wa.cell? ⟨kT, q3, none⟩ = some (.bool (f' q3)) := hTa.get q3 hq3
      have ft : wa.frozen? ⟨kT, q3, none⟩ = false := Bk.free hTa q3
      have hfwa : Far (fun k => k = kT) w1 wa := hfw.trans hfa fun _ _ h => h.elim
      have hstep : ∀ p, (∃ k, k < i + 1 ∧ leadsB g f s1 s2 k p) ↔ f' p = true ∨ ((x1 = s1 ∧ x2 = s2) ∧ f q0 = true ∧ q3 = p) := fun p => by
        rw [hmem p]
        constructor
        · rintro ⟨k, hk, e⟩
          by_cases hki : k = i
          · subst hki; have := (hLi p).1 e; exact .inr ⟨this.1, this.2.1, by omega⟩
          · exact .inl ⟨k, by omega, e⟩
        · rintro (⟨k, hk, e⟩ | ⟨a, b, rfl⟩)
          · exact ⟨k, by omega, e⟩
          · exact ⟨i, by omega, (hLi _).2 ⟨a, b, rfl⟩⟩
      have hstep' := Lib.hid hstep
      have hfwa' := Lib.hid hfwa
      have hTa' := Lib.hid hTa
      have hwa' := Lib.hid hwa
      have hax' := Lib.hid hax
      have EQ := eq_sym x1 x2 s1 s2
      clear hcs hmem hfw hTr hcell hgi hLi hwa hax hfa hX hYa hTa hfwa hstep hYr hFRr g0 g1 g2 g3 hBr
      go_upto_region 6 with fail
      rw [← hax'.out, ← hwa'.out]
      clear c0 c1 c2 c3 b2
      cases hb : f q0 with
      | false =>
        rw [hb] at cf
        have hb' := Lib.hid hb
        clear hb EQ
        go_wp2_with fail
        go_roundw
        case rel => exact ⟨i + 1, f', by go_num, by omega, hTa'.out, fun p => by
          rw [hstep'.out p]
          exact ⟨.inl, fun h => h.elim id fun h => by have := hb'.out; rw [h.2.1] at this; cases this⟩, hfwa'.out⟩
        case measure => simp [intOf]; omega
      | true =>
        rw [hb] at cf
        have hb' := Lib.hid hb
        clear hb
        by_cases hs : x1 = s1 ∧ x2 = s2
        · have e2 : (x1 == s1 && x2 == s2) = true := by simp [hs]
          rw [e2] at EQ
          have hs' := Lib.hid hs
          clear e2 hs
          go_wp2_with fail
          go_roundw
          case rel => exact ⟨i + 1, setB f' q3, by go_num, by omega, hTa'.out.put q3, fun p => by
            rw [hstep'.out p]
            unfold setB
            by_cases hp : p = q3
            · subst hp; simp [hs'.out, hb'.out]
            · rw [if_neg hp]; exact ⟨.inl, fun h => h.elim id fun h => absurd h.2.2.symm hp⟩, hfwa'.out.set _ _ (fun _ => rfl)⟩
          case measure => simp [intOf]; omega
        · have e2 : (x1 == s1 && x2 == s2) = false := by
            cases hb : (x1 == s1 && x2 == s2) with
            | false => rfl
            | true => exact absurd (by simpa using hb) hs
          rw [e2] at EQ
          have hs' := Lib.hid hs
          clear e2 hs
          go_wp2_with fail
          go_roundw
          case rel => exact ⟨i + 1, f', by go_num, by omega, hTa'.out, fun p => by
            rw [hstep'.out p]
            exact ⟨.inl, fun h => h.elim id fun h => absurd h.1 hs'.out⟩, hfwa'.out⟩
          case measure => simp [intOf]; omega
    · have e1 : decide ((i : Int) < (m : Int)) = false := by rw [decide_eq_false_iff_not]; omega
      have hin : i = m := by omega
      have hmem' := Lib.hid (show ∀ p : Nat, f' p = true ↔ ∃ k, k < m ∧ leadsB g f s1 s2 k p from hin ▸ hmem)
      have hTr' := Lib.hid hTr
      have hfw' := Lib.hid hfw
      clear hin hmem hTr hfw hBr
      go_wp2_with fail
      go_ret
      exact ⟨kT, f', rfl, by have := hh'.out; have := hkY'.out; have := hkT'.out; omega, hTr'.out, hmem'.out, hF'.out.out hfw'.out (fun i hi e => by have := hh'.out; have := hkY'.out; have := hkT'.out; omega)⟩
end
end Go.Proofs.YtihlfphokgicbaaDoor
