/-
  Shortest: the program's.
-/
import Derived.Test.YteojbnkjphghkaaDoorSettle13
namespace Go.Proofs.YteojbnkjphghkaaDoor
open Go.RowKit
set_option linter.unusedVariables false
set_option linter.unusedSimpArgs false
def wsum (f : Nat → Nat) : Nat → Nat
  | 0 => 0
  | n + 1 => wsum f n + f n
theorem wsum_le {f f' : Nat → Nat} (h : ∀ k, f' k ≤ f k) : ∀ n, wsum f' n ≤ wsum f n
  | 0 => Nat.le_refl _
  | n + 1 => by have := wsum_le h n; have := h n; unfold wsum; omega
theorem wsum_lt {f f' : Nat → Nat} (h : ∀ k, f' k ≤ f k) {i : Nat} (hi : f' i < f i) : ∀ n, i < n → wsum f' n < wsum f n
  | 0, h0 => absurd h0 (Nat.not_lt_zero _)
  | n + 1, h0 => by
    unfold wsum
    by_cases e : i = n
    · subst e; have := wsum_le h i; omega
    · have := wsum_lt h hi n (by omega); have := h n; omega
def muS (S : Nat) (s : Nat → Int) : Nat := wsum (fun k => if s k < 0 then 67 else (s k).toNat) S
theorem muS_lt {S : Nat} {s : Nat → Int} {h : Nat} {n : Int} (hh : h < S) (hg : RngS s) (h0 : 0 ≤ n) (hn : n ≤ 65) (h1 : ¬ (0 ≤ s h ∧ s h ≤ n)) : muS S (updS s h n) < muS S s := by
  refine wsum_lt (i := h) (fun k => ?_) ?_ S hh
  · unfold updS
    by_cases e : k = h
    · subst e
      rw [if_pos rfl, if_neg (show ¬ n < 0 by omega)]
      split <;> omega
    · rw [if_neg e]; exact Nat.le_refl _
  · rw [show updS s h n h = n from if_pos rfl, if_neg (show ¬ n < 0 by omega)]
    split <;> omega
theorem IRow.congr {w : World} {g n : Nat} {f f' : Nat → Int} (h : IRow w g n f) (e : ∀ k, k < n → f k = f' k) : IRow w g n f' := by
  unfold IRow at *
  have : icells n f = icells n f' := by
    unfold icells
    congr 1
    exact List.map_congr_left fun k hk => by rw [e k (List.mem_range.1 hk)]
  rw [← this]
  exact h
def SP1 (gR S : Nat) (s : Nat → Int) (h : Nat) (n : Int) (w : World) (e : Ending) (w' : World) : Prop := Far (fun k => k = gR) w w' ∧
  ((e = .returned (.bool false) ∧ IRow w' gR S s ∧ lei (s h) n) ∨ (e = .returned (.bool true) ∧ IRow w' gR S (updS s h n) ∧ 0 ≤ n ∧ ¬ (0 ≤ s h ∧ s h ≤ n)))
section
set_option maxHeartbeats 4000000
set_option maxRecDepth 100000
theorem short1_any (S gR kL : Nat) (s : Nat → Int) (h : Nat) (v : Value) (l : List Sy) (w : World) (hB : Body w v l) (hl : l.length ≤ maxLen) (hR : IRow w gR S s) (hs : ∀ x ∈ l, SymIn S x) (hg : RngS s) (hSm : S ≤ 1024) (hh : h < S) (hI : Bk w kL 25 #[.slice (some ⟨gR, 0, none⟩) S S]) :
    Calls Tryd.prog 37 #[.agg #[.int .i64 (h : Int), v], .pointer (some ⟨kL, 0, none⟩)] w fun e w' => SP1 gR S s h (long s l 0) w e w' := by
  obtain ⟨bo, bc, rfl⟩ := Src.form hB
  obtain ⟨ax, hax⟩ : ∃ ax, ax = w.heap.size := ⟨_, rfl⟩
  obtain ⟨wa, hwa⟩ : ∃ wa, wa = w.alloc (.cells #[.int .i64 (h : Int), .slice bo l.length bc] 48) := ⟨_, rfl⟩
  have hfa : Far (fun _ => False) w wa := hwa ▸ alloc_far0 _ _
  have hX : Bk wa ax 48 #[.int .i64 (h : Int), .slice bo l.length bc] := hwa ▸ Bk.new hax
  have hRa : IRow wa gR S s := Bk.far' hR hfa id
  have hIa := hI.far' hfa id
  have x1 : wa.cell? ⟨ax, 1, none⟩ = some (.slice bo l.length bc) := hX.cell 1
  have i0 : wa.cell? ⟨kL, 0, none⟩ = some (.slice (some ⟨gR, 0, none⟩) S S) := hIa.cell 0
  have LN := lengthOf_any S gR s (.slice bo l.length bc) l wa (hB.move hfa) hl hRa hs hg hSm
  obtain ⟨n, hn⟩ : ∃ n, n = long s l 0 := ⟨_, rfl⟩
  rw [← hn] at LN ⊢
  have hhI : (h : Int) < (S : Int) := by omega
  have hX' := Lib.hid hX
  have hRa' := Lib.hid hRa
  have hIa' := Lib.hid hIa
  have hfa' := Lib.hid (hfa.mono (G := fun k => k = gR) fun _ _ h => h.elim)
  have hax' := Lib.hid hax
  have hwa' := Lib.hid hwa
  clear hB hl hR hs hI hax hwa hfa hX hRa hIa hn hg
  go_enter Tryd.func37, Tryd.ntmps37
  go_upto_region 1 with fail
  rw [← hax'.out, ← hwa'.out]
  go_wp2_with fail
  refine LN.mono ?_
  rintro e w2 ⟨rfl, hf2⟩
  have y0 : w2.cell? ⟨ax, 0, none⟩ = some (.int .i64 (h : Int)) := (hX'.out.far' hf2 id).cell 0
  have j0 : w2.cell? ⟨kL, 0, none⟩ = some (.slice (some ⟨gR, 0, none⟩) S S) := (hIa'.out.far' hf2 id).cell 0
  have hR2 : Hid (IRow w2 gR S s) := Lib.hid (Bk.far' hRa'.out hf2 id)
  have q0 : w2.cell? ⟨gR, h, none⟩ = some (.int .i64 (s h)) := IRow.at hR2.out hh
  have q1 : w2.frozen? ⟨gR, h, none⟩ = false := Bk.free hR2.out h
  have hf2' := Lib.hid (hfa'.out.trans hf2 fun _ _ h => h.elim)
  have S5 := Lib.hid (hf2'.out.trans ((Far.refl (fun k => k = gR) w2).set ⟨gR, h, none⟩ (.int .i64 n) (fun _ => rfl)) fun _ _ h => h)
  have R5 : Hid (IRow (w2.setCell ⟨gR, h, none⟩ (.int .i64 n)) gR S (updS s h n)) := Lib.hid (IRow.put hR2.out h _)
  clear LN hf2 x1 i0
  by_cases hn0 : n < 0
  · have d0 : decide (n < 0) = true := decide_eq_true hn0
    have hn0' := Lib.hid hn0
    clear hn0
    go_wp2_with fail
    go_ret
    exact (show SP1 gR S s h n w _ w2 from ⟨hf2'.out, .inl ⟨rfl, hR2.out, .inl hn0'.out⟩⟩)
  · have d0 : decide (n < 0) = false := decide_eq_false hn0
    have hn0' := Lib.hid hn0
    clear hn0
    by_cases hs0 : 0 ≤ s h
    · have d1 : decide (s h ≥ 0) = true := decide_eq_true hs0
      have d1' : decide (0 ≤ s h) = true := decide_eq_true hs0
      by_cases hle : s h ≤ n
      · have d2 : decide (s h ≤ n) = true := decide_eq_true hle
        have hle' := Lib.hid hle
        have hs0' := Lib.hid hs0
        clear hle hs0
        go_wp2_with fail
        go_ret
        exact (show SP1 gR S s h n w _ w2 from ⟨hf2'.out, .inl ⟨rfl, hR2.out, .inr ⟨hs0'.out, hle'.out⟩⟩⟩)
      · have d2 : decide (s h ≤ n) = false := decide_eq_false hle
        have hle' := Lib.hid hle
        clear hle hs0
        go_wp2_with fail
        go_ret
        exact (show SP1 gR S s h n w _ _ from ⟨S5.out, .inr ⟨rfl, R5.out, by have := hn0'.out; omega, fun q => absurd q.2 (by have := hle'.out; omega)⟩⟩)
    · have d1 : decide (s h ≥ 0) = false := decide_eq_false hs0
      have d1' : decide (0 ≤ s h) = false := decide_eq_false hs0
      have hs0' := Lib.hid hs0
      clear hs0
      go_wp2_with fail
      go_ret
      exact (show SP1 gR S s h n w _ _ from ⟨S5.out, .inr ⟨rfl, R5.out, by have := hn0'.out; omega, fun q => absurd q.1 (by have := hs0'.out; omega)⟩⟩)
/-- What Shortest answers where the productions may be. -/
def ShOK (S : Nat) (T : List Tr) (s : Nat → Int) : Prop := ClosedS T s ∧ ReachS T s ∧ LeastS T s ∧ RngS s
theorem shortest_yes (S : Nat) (pv : Value) (T : List Tr) (w : World) (hP : Prods w pv T) (hs : T.length ≤ 4398046510976) (hs2 : ∀ t ∈ T, t.2.2.length ≤ maxLen) (hok : CnfOK (S : Int) T) :
    Calls Tryd.prog 20 #[.agg #[.int .i64 (S : Int), pv]] w fun e w' => Far (fun _ => False) w w' ∧ ∃ gR s, e = .returned (.tuple #[.slice (some ⟨gR, 0, none⟩) S S, .int .i64 0]) ∧ w.heap.size ≤ gR ∧ IRow w' gR S s ∧ ShOK S T s := by
  obtain ⟨h0, hh0⟩ : ∃ h, h = w.heap.size := ⟨_, rfl⟩
  obtain ⟨ao, ac, rfl⟩ := Src.form hP.1
  obtain ⟨w1, hw1⟩ : ∃ w1, w1 = w.alloc (.cells #[.int .i64 (S : Int), .slice ao T.length ac] 24) := ⟨_, rfl⟩
  have hF1 : Far (fun _ => False) w w1 := hw1 ▸ alloc_far0 _ _
  have hX : Bk w1 h0 24 #[.int .i64 (S : Int), .slice ao T.length ac] := hw1 ▸ Bk.new hh0
  have a0 : w1.cell? ⟨h0, 0, none⟩ = some (.int .i64 (S : Int)) := hX.cell 0
  have a1 : w1.cell? ⟨h0, 1, none⟩ = some (.slice ao T.length ac) := hX.cell 1
  have CK := check_any (S : Int) (.slice ao T.length ac) T w1 (hP.move hF1) (by unfold maxLen; omega) hs2
  rw [pcode_yes hok] at CK
  have hS1 : 1 ≤ S := by have := hok.1.1; omega
  have hS2 : S ≤ 1024 := by have := hok.1.2; omega
  have hP' := Lib.hid hP
  have hs2' := Lib.hid hs2
  have hok' := Lib.hid hok
  have hX' := Lib.hid hX
  have hF1' := Lib.hid hF1
  have hw1' := Lib.hid hw1
  have hh0' := Lib.hid hh0
  clear hP hs2 hok hX hF1 hw1 hh0
  go_enter Tryd.func20, Tryd.ntmps20
  go_upto_region 1 with fail
  rw [← hh0'.out, ← hw1'.out]
  go_wp2_with fail
  refine CK.mono ?_
  rintro e w2 ⟨rfl, hf2⟩
  have hF2 := Lib.hid (hF1'.out.then hf2)
  have hX2 := Lib.hid (hX'.out.far' hf2 id)
  have b0 : w2.cell? ⟨h0, 0, none⟩ = some (.int .i64 (S : Int)) := hX2.out.cell 0
  have MK := make_ints S (by omega)
  clear CK hf2 a0 a1
  go_upto_region 5 with fail
  obtain ⟨gR, hgR⟩ : ∃ g, g = w2.heap.size := ⟨_, rfl⟩
  obtain ⟨kL, hkL⟩ : ∃ k, k = gR + 1 := ⟨_, rfl⟩
  obtain ⟨w3, hw3⟩ : ∃ w3, w3 = w2.alloc (.cells (icells S fun _ => 0) 3) := ⟨_, rfl⟩
  obtain ⟨w4, hw4⟩ : ∃ w4, w4 = w3.alloc (.cells #[.slice (some ⟨gR, 0, none⟩) S S] 25) := ⟨_, rfl⟩
  rw [← hgR, ← hkL, ← hw3, ← hw4]
  have z3 : w3.heap.size = kL := by rw [hw3]; simp [hkL, hgR]
  have hR4 : IRow w4 gR S (fun _ => 0) := hw4 ▸ Bk.alloc (hw3 ▸ Bk.new hgR : Bk w3 gR 3 (icells S fun _ => 0)) _
  have hL4 : Bk w4 kL 25 #[.slice (some ⟨gR, 0, none⟩) S S] := hw4 ▸ Bk.new z3.symm
  have hF24 : Far (fun _ => False) w2 w4 := hw4 ▸ (hw3 ▸ alloc_far0 _ _ : Far (fun _ => False) w2 w3).alloc _
  have hF4 := Lib.hid (hF2.out.then hF24)
  have hX4 := Lib.hid (hX2.out.far' hF24 id)
  have hgw := Lib.hid (show w.heap.size ≤ gR by have := hF2.out.size; omega)
  have hgk : gR ≠ kL := by omega
  have hgk' : kL ≠ gR := by omega
  have hh0g : h0 ≠ gR := by have := hX2.out.lt; omega
  have hR4' := Lib.hid hR4
  have hL4' := Lib.hid hL4
  have l0 : w4.cell? ⟨kL, 0, none⟩ = some (.slice (some ⟨gR, 0, none⟩) S S) := hL4.cell 0
  clear hgR hkL hw3 hw4 z3 hR4 hL4 hF24 b0 MK
  go_wp2_with fail
  clear l0
  go_loopw [17] (fun iv wr => ∃ i : Nat, iv = .int .i64 i ∧ i ≤ S ∧ Hid (IRow wr gR S (fun k => if k < i then -1 else 0)) ∧ Far (fun k => k = gR) w4 wr) (fun iv _ => S - (intOf iv).toNat)
  case atStart => exact ⟨0, rfl, Nat.zero_le _, Lib.hid (by simpa using hR4'.out), Far.refl _ _⟩
  case round =>
    obtain ⟨i, rfl, hi, hr, hfw⟩ := hrel
    have l0 : wr.cell? ⟨kL, 0, none⟩ = some (.slice (some ⟨gR, 0, none⟩) S S) := (hL4'.out.far' hfw hgk').cell 0
    by_cases hlt : i < S
    · have e1 : decide ((i : Int) < (S : Int)) = true := by rw [decide_eq_true_eq]; omega
      have hii : (i : Int) < (S : Int) := by omega
      have q0 : wr.cell? ⟨gR, i, none⟩ = some (.int .i64 (if i < i then -1 else 0)) := IRow.at hr.out hlt
      have q1 : wr.frozen? ⟨gR, i, none⟩ = false := Bk.free hr.out i
      rw [if_neg (Nat.lt_irrefl i)] at q0
      have hr2 := Lib.hid (show IRow (wr.setCell ⟨gR, i, none⟩ (.int .i64 (-1))) gR S (fun k => if k < i + 1 then -1 else 0) from (IRow.put hr.out i (-1)).congr fun k hk => by
        show updS (fun k => if k < i then (-1 : Int) else 0) i (-1) k = if k < i + 1 then -1 else 0
        unfold updS
        by_cases e : k = i
        · subst e; rw [if_pos rfl, if_pos (by omega)]
        · rw [if_neg e]
          dsimp only
          by_cases e2 : k < i
          · rw [if_pos e2, if_pos (by omega)]
          · rw [if_neg e2, if_neg (by omega)])
      have hfw2 := Lib.hid (hfw.set ⟨gR, i, none⟩ (.int .i64 (-1)) (fun _ => rfl))
      clear hr hfw
      go_wp2_with fail
      go_roundw
      case rel => exact ⟨i + 1, by go_num, by omega, hr2, hfw2.out⟩
      case measure => simp [intOf]; omega
    · have e1 : decide ((i : Int) < (S : Int)) = false := by rw [decide_eq_false_iff_not]; omega
      have hin : i = S := by omega
      subst hin
      have hr0 : IRow wr gR i (fun _ => -1) := hr.out.congr fun k hk => if_pos hk
      have hW : Far (fun _ => False) w wr := hF4.out.out hfw (fun k hk e => by have := hgw.out; omega)
      have hXr := hX4.out.far' hfw hh0g
      have hLr := hL4'.out.far' hfw hgk'
      have hPk : ∀ w', Far (fun k => k = gR) wr w' → Prods w' (.slice ao T.length ac) T := fun w' hf => hP'.out.move (hW.out hf fun k hk e => by have := hgw.out; omega)
      have ST := settleS_any (i : Int) (.slice ao T.length ac) T gR kL wr (fun w s => IRow w gR i s) (fun s => ReachS T s ∧ LeastS T s ∧ RngS s) (fun t s => lei (s t.1.toNat) (long s t.2.2 0)) (muS i) (fun _ => -1)
        (Bk.lt hr0) hPk hs (fun w1 w2 s h hf => Bk.far' h hf id) hr0 ⟨fun h hh => absurd hh (show ¬ (0 : Int) ≤ -1 by decide), fun u hu h => .inl (show (-1 : Int) < 0 by decide), fun h => ⟨show (-1 : Int) ≤ -1 by decide, show (-1 : Int) ≤ 65 by decide⟩⟩
        (fun t ht s wA hfA hrA hjA => by
          obtain ⟨⟨p0, p1⟩, p2⟩ := hok'.out.2 t ht
          have hb := (hPk wA hfA).2 t ht
          have hL := hLr.far' hfA hgk'
          have SH := short1_any i gR kL s t.1.toNat t.2.1 t.2.2 wA hb (hs2'.out t ht) hrA (fun x hx hx1 => ⟨(p2 x hx).1, (p2 x hx).2.2 hx1⟩) hjA.2.2 hS2 (by omega) hL
          rw [Int.toNat_of_nonneg p0] at SH
          refine SH.mono fun e w2 hsp => ⟨hsp.1, ?_⟩
          rcases hsp.2 with ⟨e1, e2, e3⟩ | ⟨e1, e2, e3, e4⟩
          · exact .inl ⟨e1, e2, e3⟩
          · refine .inr ⟨_, e1, e2, stepS ht hjA.1 hjA.2.1 hjA.2.2 e3 e4, ?_⟩
            have := long_rng (s := s) t.2.2 0 (Int.le_refl _) (by decide)
            exact muS_lt (by omega) hjA.2.2 e3 this.2.1 e4)
      have b0 : wr.cell? ⟨h0, 0, none⟩ = some (.int .i64 (i : Int)) := hXr.cell 0
      have b1 : wr.cell? ⟨h0, 1, none⟩ = some (.slice ao T.length ac) := hXr.cell 1
      have hW' := Lib.hid hW
      have hLr' := Lib.hid hLr
      clear hr hfw hr0 hW hXr hLr hPk
      go_wp2_with fail
      refine ST.mono ?_
      rintro e w6 ⟨⟨v6, rfl⟩, hf6, s, hr6, hj6, hfx6⟩
      have l6 : w6.cell? ⟨kL, 0, none⟩ = some (.slice (some ⟨gR, 0, none⟩) i i) := (hLr'.out.far' hf6 hgk').cell 0
      have hW6 := Lib.hid (hW'.out.out hf6 fun k hk e => by have := hgw.out; omega)
      have hall := Lib.hid (show IRow w6 gR i s ∧ ShOK i T s from ⟨hr6, hfx6, hj6.1, hj6.2.1, hj6.2.2⟩)
      clear ST hf6 hr6 hj6 hfx6 b0 b1 l0
      go_wp2_with fail
      exact bodyPost_ret (v := .tuple #[.slice (some ⟨gR, 0, none⟩) i i, .int .i64 0]) (by simp [results, Tryd.f20, go_sem]) rfl ⟨hW6.out, gR, s, rfl, hgw.out, hall.out.1, hall.out.2⟩
theorem shortest_no (S : Int) (pv : Value) (T : List Tr) (w : World) (hP : Prods w pv T) (hs : T.length ≤ maxLen) (hs2 : ∀ t ∈ T, t.2.2.length ≤ maxLen) (hok : ¬ CnfOK S T) :
    Calls Tryd.prog 20 #[.agg #[.int .i64 S, pv]] w fun e w' => Far (fun _ => False) w w' ∧ e = .returned (.tuple #[.slice none 0 0, .int .i64 220]) := by
  obtain ⟨h0, hh0⟩ : ∃ h, h = w.heap.size := ⟨_, rfl⟩
  obtain ⟨ao, ac, rfl⟩ := Src.form hP.1
  obtain ⟨w1, hw1⟩ : ∃ w1, w1 = w.alloc (.cells #[.int .i64 S, .slice ao T.length ac] 24) := ⟨_, rfl⟩
  have hF1 : Far (fun _ => False) w w1 := hw1 ▸ alloc_far0 _ _
  have hX : Bk w1 h0 24 #[.int .i64 S, .slice ao T.length ac] := hw1 ▸ Bk.new hh0
  have a0 : w1.cell? ⟨h0, 0, none⟩ = some (.int .i64 S) := hX.cell 0
  have a1 : w1.cell? ⟨h0, 1, none⟩ = some (.slice ao T.length ac) := hX.cell 1
  have CK := check_any S (.slice ao T.length ac) T w1 (hP.move hF1) hs hs2
  rw [pcode_no hok] at CK
  have hF1' := Lib.hid hF1
  have hw1' := Lib.hid hw1
  have hh0' := Lib.hid hh0
  clear hP hs2 hok hX hF1 hw1 hh0 hs
  go_enter Tryd.func20, Tryd.ntmps20
  go_upto_region 1 with fail
  rw [← hh0'.out, ← hw1'.out]
  go_wp2_with fail
  refine CK.mono ?_
  rintro e w2 ⟨rfl, hf2⟩
  have hF2 := Lib.hid (hF1'.out.then hf2)
  clear CK hf2 a0 a1
  go_wp2_with fail
  exact bodyPost_ret (v := .tuple #[.slice none 0 0, .int .i64 220]) (by simp [results, Tryd.f20, go_sem]) rfl ⟨hF2.out, rfl⟩
end
end Go.Proofs.YteojbnkjphghkaaDoor
