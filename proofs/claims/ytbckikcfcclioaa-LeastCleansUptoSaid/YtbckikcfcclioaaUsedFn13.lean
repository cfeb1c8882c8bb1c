/-
  checkFrom, used, Used: the program's.
-/
import Derived.Test.YtbckikcfcclioaaUsed13
namespace Go.Proofs.Ytbckikcfcclioaa
open Go.RowKit
set_option linter.unusedVariables false
set_option linter.unusedSimpArgs false
def FromOK (S n : Nat) (f : Nat → Int) : Prop := ∀ k, k < n → 0 ≤ f k ∧ f k < S
def FromIn (n : Nat) (f : Nat → Int) (j : Nat) : Prop := ∃ k, k < n ∧ (f k).toNat = j
section
set_option maxHeartbeats 4000000
set_option maxRecDepth 100000
theorem checkFrom_any (S : Nat) (pv : Value) (T : List Tr) (fo : Option Addr) (n fc : Nat) (f : Nat → Int) (w : World) (hP : Prods w pv T) (hs : T.length ≤ 4398046510976) (hs2 : ∀ t ∈ T, t.2.2.length ≤ maxLen) (hok : CnfOK (S : Int) T) (hI : Ints w fo n f) (hn : n ≤ maxLen) :
    Calls Try.prog 31 #[.agg #[.int .i64 (S : Int), pv], .slice fo n fc] w fun e w' => Far (fun _ => False) w w' ∧ ((e = .returned (.int .i64 0) ∧ FromOK S n f) ∨ (e = .returned (.int .i64 2) ∧ ¬ FromOK S n f)) := by
  unfold maxLen at hn
  obtain ⟨h0, hh0⟩ : ∃ h, h = w.heap.size := ⟨_, rfl⟩
  obtain ⟨ao, ac, rfl⟩ := Src.form hP.1
  obtain ⟨w1, hw1⟩ : ∃ w1, w1 = w.alloc (.cells #[.int .i64 (S : Int), .slice ao T.length ac] 24) := ⟨_, rfl⟩
  have hF1 : Far (fun _ => False) w w1 := hw1 ▸ alloc_far0 _ _
  have hX : Bk w1 h0 24 #[.int .i64 (S : Int), .slice ao T.length ac] := hw1 ▸ Bk.new hh0
  have a0 : w1.cell? ⟨h0, 0, none⟩ = some (.int .i64 (S : Int)) := hX.cell 0
  have a1 : w1.cell? ⟨h0, 1, none⟩ = some (.slice ao T.length ac) := hX.cell 1
  have CK := check_any (S : Int) (.slice ao T.length ac) T w1 (hP.move hF1) (by unfold maxLen; omega) hs2
  rw [pcode_yes hok] at CK
  have hI' := Lib.hid (hI.move hF1)
  have hX' := Lib.hid hX
  have hF1' := Lib.hid hF1
  have hw1' := Lib.hid hw1
  have hh0' := Lib.hid hh0
  clear hP hs hs2 hok hX hF1 hw1 hh0 hI
  go_enter Try.func31, Try.ntmps31
  go_upto_region 1 with fail
  rw [← hh0'.out, ← hw1'.out]
  go_wp2_with fail
  refine CK.mono ?_
  rintro e w2 ⟨rfl, hf2⟩
  have hI2 := Lib.hid (hI'.out.move hf2)
  have hX2 := Lib.hid (hX'.out.far' hf2 id)
  have hF2 := Lib.hid (hF1'.out.then hf2)
  clear CK hf2 a0 a1
  go_wp2_with fail
  go_loopw [15] (fun iv wr => ∃ i : Nat, iv = .int .i64 i ∧ i ≤ n ∧ Hid (∀ k, k < i → 0 ≤ f k ∧ f k < S) ∧ w2 = wr) (fun iv _ => n - (intOf iv).toNat)
  case atStart => exact ⟨0, rfl, Nat.zero_le _, Lib.hid (fun k hk => absurd hk (Nat.not_lt_zero _)), rfl⟩
  case round =>
    obtain ⟨i, rfl, hi, hg, rfl⟩ := hrel
    by_cases hlt : i < n
    · have e1 : decide ((i : Int) < (n : Int)) = true := by rw [decide_eq_true_eq]; omega
      have hii : (i : Int) < (n : Int) := by omega
      obtain ⟨g, off, rfl, hgl, hcs⟩ := hI2.out (by omega)
      have c0 : w2.cell? ⟨g, off + i, none⟩ = some (.int .i64 (f i)) := hcs i hlt
      have b0 : w2.cell? ⟨h0, 0, none⟩ = some (.int .i64 (S : Int)) := hX2.out.cell 0
      clear hgl hcs
      obtain ⟨x, hx⟩ : ∃ x, x = f i := ⟨_, rfl⟩
      rw [← hx] at c0
      have hx' := Lib.hid hx
      clear hx
      by_cases h1 : x < 0
      · have d0 : decide (x < 0) = true := decide_eq_true h1
        have hbad := Lib.hid (show ¬ FromOK S n f from fun q => by have := q i hlt; rw [← hx'.out] at this; omega)
        clear h1 hg
        go_wp2_with fail
        go_ret
        exact ⟨hF2.out, .inr ⟨rfl, hbad.out⟩⟩
      · have d0 : decide (x < 0) = false := decide_eq_false h1
        by_cases h2 : x < (S : Int)
        · have d1 : decide (x ≥ (S : Int)) = false := decide_eq_false (by omega)
          have d1' : decide ((S : Int) ≤ x) = false := decide_eq_false (by omega)
          have hg2 : Hid (∀ k, k < i + 1 → 0 ≤ f k ∧ f k < S) := Lib.hid (fun k hk => by
            by_cases e : k < i
            · exact hg.out k e
            · obtain rfl : k = i := by omega
              rw [← hx'.out]; omega)
          clear h1 h2 hg
          go_wp2_with fail
          go_roundw
          case rel => exact ⟨i + 1, by go_num, by omega, hg2, by first | rfl | trivial⟩
          case measure => simp [intOf]; omega
        · have d1 : decide (x ≥ (S : Int)) = true := decide_eq_true (by omega)
          have d1' : decide ((S : Int) ≤ x) = true := decide_eq_true (by omega)
          have hbad := Lib.hid (show ¬ FromOK S n f from fun q => by have := q i hlt; rw [← hx'.out] at this; omega)
          clear h1 h2 hg
          go_wp2_with fail
          go_ret
          exact ⟨hF2.out, .inr ⟨rfl, hbad.out⟩⟩
    · have e1 : decide ((i : Int) < (n : Int)) = false := by rw [decide_eq_false_iff_not]; omega
      have hall := Lib.hid (show FromOK S n f from fun k hk => hg.out k (by omega))
      clear hg
      go_wp2_with fail
      go_ret
      exact ⟨hF2.out, .inl ⟨rfl, hall.out⟩⟩
theorem used_any (S : Nat) (pv : Value) (T : List Tr) (fo : Option Addr) (n fc : Nat) (f : Nat → Int) (w : World) (hP : Prods w pv T) (hs : T.length ≤ 4398046510976) (hs2 : ∀ t ∈ T, t.2.2.length ≤ maxLen) (hok : CnfOK (S : Int) T) (hI : Ints w fo n f) (hn : n ≤ maxLen) (hfr : FromOK S n f) :
    Calls Try.prog 32 #[.agg #[.int .i64 (S : Int), pv], .slice fo n fc] w fun e w' => Far (fun _ => False) w w' ∧ ∃ gR U, e = .returned (.slice (some ⟨gR, 0, none⟩) S S) ∧ w.heap.size ≤ gR ∧ BRow w' gR S U ∧ ClosedU T U ∧ (∀ j, FromIn n f j → U j = true) ∧ LeastU T (FromIn n f) U := by
  unfold maxLen at hn
  obtain ⟨h0, hh0⟩ : ∃ h, h = w.heap.size := ⟨_, rfl⟩
  obtain ⟨gR, hgR⟩ : ∃ g, g = h0 + 1 := ⟨_, rfl⟩
  obtain ⟨kL, hkL⟩ : ∃ k, k = gR + 1 := ⟨_, rfl⟩
  obtain ⟨ao, ac, rfl⟩ := Src.form hP.1
  obtain ⟨w1, hw1⟩ : ∃ w1, w1 = w.alloc (.cells #[.int .i64 (S : Int), .slice ao T.length ac] 24) := ⟨_, rfl⟩
  have z1 : w1.heap.size = gR := by rw [hw1]; simp [hgR, hh0]
  have hX : Bk w1 h0 24 #[.int .i64 (S : Int), .slice ao T.length ac] := hw1 ▸ Bk.new hh0
  have hF1 : Far (fun _ => False) w w1 := hw1 ▸ alloc_far0 _ _
  obtain ⟨w3, hw3⟩ : ∃ w3, w3 = w1.alloc (.cells (bcells S fun _ => false) 4) := ⟨_, rfl⟩
  obtain ⟨w4, hw4⟩ : ∃ w4, w4 = w3.alloc (.cells #[.slice (some ⟨gR, 0, none⟩) S S] 25) := ⟨_, rfl⟩
  have z3 : w3.heap.size = kL := by rw [hw3]; simp [hkL, z1]
  have hR4 : BRow w4 gR S (fun _ => false) := hw4 ▸ Bk.alloc (hw3 ▸ Bk.new z1.symm : Bk w3 gR 4 (bcells S fun _ => false)) _
  have hL4 : Bk w4 kL 25 #[.slice (some ⟨gR, 0, none⟩) S S] := hw4 ▸ Bk.new z3.symm
  have hF14 : Far (fun _ => False) w1 w4 := hw4 ▸ (hw3 ▸ alloc_far0 _ _ : Far (fun _ => False) w1 w3).alloc _
  have hX4 := hX.far' hF14 id
  have hW := hF1.then hF14
  have hgw : w.heap.size ≤ gR := by omega
  have hgk : kL ≠ gR := by omega
  have hhg : h0 ≠ gR := by omega
  have hS1 : 1 ≤ S := by have := hok.1.1; omega
  have hS2 : S ≤ 1024 := by have := hok.1.2; omega
  have a0 : w1.cell? ⟨h0, 0, none⟩ = some (.int .i64 (S : Int)) := hX.cell 0
  have MK := make_bools S (by omega)
  have hP' := Lib.hid hP
  have hs2' := Lib.hid hs2
  have hok' := Lib.hid hok
  have hI' := Lib.hid hI
  have hfr' := Lib.hid hfr
  have hh0' := Lib.hid hh0
  have hkL' := Lib.hid hkL
  have hw1' := Lib.hid hw1
  have hw3' := Lib.hid hw3
  have hw4' := Lib.hid hw4
  have z1' := Lib.hid z1
  have hL' := Lib.hid hL4
  have hX4' := Lib.hid hX4
  have hR4' : Hid (BRow w4 gR S (fun _ => false)) := Lib.hid hR4
  have hW' := Lib.hid hW
  have hgw' := Lib.hid hgw
  clear hP hs2 hok hI hfr hh0 hgR hkL hw1 hw3 hw4 z1 z3 hX hF1 hR4 hL4 hF14 hX4 hW hgw
  go_enter Try.func32, Try.ntmps32
  go_upto_region 1 with fail
  rw [← hh0'.out, ← hw1'.out]
  go_upto_region 2 with fail
  rw [z1'.out, ← hkL'.out, ← hw3'.out, ← hw4'.out]
  clear MK a0
  go_wp2_with fail
  go_loopw [13] (fun iv wr => ∃ (i : Nat) (U : Nat → Bool), iv = .int .i64 i ∧ i ≤ n ∧ Hid (BRow wr gR S U) ∧ Far (fun k => k = gR) w4 wr ∧ Hid (∀ j, U j = true ↔ FromIn i f j)) (fun iv _ => n - (intOf iv).toNat)
  case atStart => exact ⟨0, _, rfl, Nat.zero_le _, hR4', Far.refl _ _, Lib.hid (fun j => ⟨fun h => (by cases h), fun ⟨k, hk, _⟩ => absurd hk (Nat.not_lt_zero _)⟩)⟩
  case round =>
    obtain ⟨i, U, rfl, hi, hr, hfw, hU⟩ := hrel
    have l0 : wr.cell? ⟨kL, 0, none⟩ = some (.slice (some ⟨gR, 0, none⟩) S S) := (hL'.out.far' hfw hgk).cell 0
    have hWr := hW'.out.out hfw fun k hk e => by have := hgw'.out; omega
    by_cases hlt : i < n
    · have e1 : decide ((i : Int) < (n : Int)) = true := by rw [decide_eq_true_eq]; omega
      have hii : (i : Int) < (n : Int) := by omega
      obtain ⟨g, off, rfl, hgl, hcs⟩ := (hI'.out.move hWr) (by omega)
      have c0 : wr.cell? ⟨g, off + i, none⟩ = some (.int .i64 (f i)) := hcs i hlt
      obtain ⟨f0, f1⟩ := hfr'.out i hlt
      obtain ⟨x, hx⟩ : ∃ x : Nat, f i = (x : Int) := ⟨(f i).toNat, by omega⟩
      rw [hx] at c0
      have hxS : x < S := by omega
      have hxI : (x : Int) < (S : Int) := by omega
      have q1 : wr.frozen? ⟨gR, x, none⟩ = false := Bk.free hr.out x
      have q0 : wr.cell? ⟨gR, x, none⟩ = some (.bool (U x)) := IRow_at hr.out hxS
      have hr2 : Hid (BRow (wr.setCell ⟨gR, x, none⟩ (.bool true)) gR S (updG U x true)) := Lib.hid (BRow.put hr.out x true)
      have hf2 := Lib.hid (hfw.set ⟨gR, x, none⟩ (.bool true) (fun _ => rfl))
      have hU2 : Hid (∀ j, updG U x true j = true ↔ FromIn (i + 1) f j) := Lib.hid (fun j => by
        unfold updG
        split
        · rename_i e
          exact ⟨fun _ => ⟨i, by omega, by rw [hx, Int.toNat_natCast]; exact e.symm⟩, fun _ => rfl⟩
        · rename_i e
          rw [hU.out j]
          exact ⟨fun ⟨k, hk, h2⟩ => ⟨k, by omega, h2⟩, fun ⟨k, hk, h2⟩ => by
            by_cases ek : k < i
            · exact ⟨k, ek, h2⟩
            · obtain rfl : k = i := by omega
              rw [hx, Int.toNat_natCast] at h2
              exact absurd h2.symm e⟩)
      clear hgl hcs hr hfw hU hWr hx f0 f1
      go_wp2_with fail
      go_roundw
      case rel => exact ⟨i + 1, updG U x true, by go_num, by omega, hr2, hf2.out, hU2⟩
      case measure => simp [intOf]; omega
    · have e1 : decide ((i : Int) < (n : Int)) = false := by rw [decide_eq_false_iff_not]; omega
      have hin : i = n := by omega
      subst hin
      have hXr := hX4'.out.far' hfw hhg
      have hLr := hL'.out.far' hfw hgk
      have hPk : ∀ w', Far (fun k => k = gR) wr w' → Prods w' (.slice ao T.length ac) T := fun w' hf => hP'.out.move (hWr.out hf fun k hk e => by have := hgw'.out; omega)
      have ST := settleU_any (S : Int) (.slice ao T.length ac) T gR kL wr (fun w U => BRow w gR S U) (fun U => (∀ j, FromIn i f j → U j = true) ∧ LeastU T (FromIn i f) U) (fun t U => U t.1.toNat = true → ∀ k, InB t.2.2 k → U k = true) (muE S) U
        (Bk.lt hr.out) hPk hs (fun w1 w2 s h hf => Bk.far' h hf id) hr.out ⟨fun j hj => (hU.out j).2 hj, fun C hC hF k hk => hF k ((hU.out k).1 hk)⟩
        (fun t ht V wA hfA hrA hjA => by
          obtain ⟨⟨p0, p1⟩, p2⟩ := hok'.out.2 t ht
          have UU := used1_any S gR kL V t.1.toNat t.2.1 t.2.2 wA (fun w' hf => (hPk w' (hfA.trans hf fun _ _ h => h)).2 t ht) (hs2'.out t ht) hrA (fun x hx hx1 => ⟨(p2 x hx).1, (p2 x hx).2.2 hx1⟩) hS2 (by omega) (hLr.far' hfA hgk)
          rw [Int.toNat_of_nonneg p0] at UU
          refine UU.mono fun e w2 hsp => ⟨hsp.1, ?_⟩
          rcases hsp.2 with ⟨e1, e2, e3⟩ | ⟨V', e1, e2, e3, e4, e5, e6⟩
          · exact .inl ⟨e1, e2, e3⟩
          · exact .inr ⟨V', e1, e2, ⟨fun j hj => e4 j (hjA.1 j hj), fun C hC hF k hk => (e6 k hk).elim (fun q => hjA.2 C hC hF k q) (fun q => hC t ht (hjA.2 C hC hF _ e5) k q)⟩, e3⟩)
      have b0 : wr.cell? ⟨h0, 0, none⟩ = some (.int .i64 (S : Int)) := hXr.cell 0
      have b1 : wr.cell? ⟨h0, 1, none⟩ = some (.slice ao T.length ac) := hXr.cell 1
      have hWr' := Lib.hid hWr
      have hLr' := Lib.hid hLr
      clear hr hfw hU hWr hXr hLr hPk
      go_wp2_with fail
      refine ST.mono ?_
      rintro e w6 ⟨⟨v6, rfl⟩, hf6, V, hr6, hj6, hfx6⟩
      have l6 : w6.cell? ⟨kL, 0, none⟩ = some (.slice (some ⟨gR, 0, none⟩) S S) := (hLr'.out.far' hf6 hgk).cell 0
      have hW6 := Lib.hid (hWr'.out.out hf6 fun k hk e => by have := hgw'.out; omega)
      have hall := Lib.hid (show BRow w6 gR S V ∧ ClosedU T V ∧ (∀ j, FromIn i f j → V j = true) ∧ LeastU T (FromIn i f) V from ⟨hr6, hfx6, hj6.1, hj6.2⟩)
      clear ST hf6 hr6 hj6 hfx6 b0 b1 l0
      go_wp2_with fail
      go_ret
      exact ⟨hW6.out, gR, V, rfl, hgw'.out, hall.out⟩
end
end Go.Proofs.Ytbckikcfcclioaa
