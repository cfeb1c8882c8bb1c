/-
  The document's shortest words, empty and fruitful nonterminals.
-/
import Derived.Test.YtjkfieilaahejaaJac13
namespace Go.Proofs.Ytjkfieilaahejaa
open Go.RowKit
set_option linter.unusedVariables false
set_option linter.unusedSimpArgs false
theorem set_neg {w : World} {g S i : Nat} (h : IRow w g S (fun k => if k < i then -1 else 0)) : IRow (w.setCell ⟨g, i, none⟩ (.int .i64 (-1))) g S (fun k => if k < i + 1 then -1 else 0) := (IRow.put h i (-1)).congr fun k hk => by
  show updS (fun k => if k < i then (-1 : Int) else 0) i (-1) k = if k < i + 1 then -1 else 0
  unfold updS
  by_cases e : k = i
  · subst e; rw [if_pos rfl, if_pos (by omega)]
  · rw [if_neg e]
    dsimp only
    by_cases e2 : k < i
    · rw [if_pos e2, if_pos (by omega)]
    · rw [if_neg e2, if_neg (by omega)]
section
set_option maxHeartbeats 4000000
set_option maxRecDepth 100000
theorem sameInts_any (S g1 g2 : Nat) (f f' : Nat → Int) (w : World) (h1 : IRow w g1 S f) (h2 : IRow w g2 S f') (hS : S ≤ 1024) :
    Calls Try.prog 84 #[.slice (some ⟨g1, 0, none⟩) S S, .slice (some ⟨g2, 0, none⟩) S S] w fun e w' => ∃ b : Bool, e = .returned (.bool b) ∧ (b = true ↔ ∀ k, k < S → f k = f' k) ∧ Far (fun _ => False) w w' := by
  have h1' := Lib.hid h1
  have h2' := Lib.hid h2
  clear h1 h2
  go_enter Try.func84, Try.ntmps84
  go_wp2_with fail
  go_loopw [5] (fun iv wr => ∃ i : Nat, iv = .int .i64 i ∧ i ≤ S ∧ Hid (∀ k, k < i → f k = f' k) ∧ Far (fun _ => False) w wr) (fun iv _ => S - (intOf iv).toNat)
  case atStart => exact ⟨0, rfl, Nat.zero_le _, Lib.hid (fun k hk => absurd hk (Nat.not_lt_zero _)), Far.refl _ _⟩
  case round =>
    obtain ⟨i, rfl, hi, hs, hfw⟩ := hrel
    by_cases hlt : i < S
    · have e1 : decide ((i : Int) < (S : Int)) = true := by rw [decide_eq_true_eq]; omega
      have hii : (i : Int) < (S : Int) := by omega
      have c1 : wr.cell? ⟨g1, i, none⟩ = some (.int .i64 (f i)) := IRow.at (show IRow wr g1 S f from Bk.far' h1'.out hfw id) hlt
      have c2 : wr.cell? ⟨g2, i, none⟩ = some (.int .i64 (f' i)) := IRow.at (show IRow wr g2 S f' from Bk.far' h2'.out hfw id) hlt
      have hfw' := Lib.hid hfw
      by_cases hq : f i = f' i
      · have g0 : (f i != f' i) = false := by simpa using hq
        have hs2 : Hid (∀ k, k < i + 1 → f k = f' k) := Lib.hid (fun k hk => by
          by_cases e : k < i
          · exact hs.out k e
          · obtain rfl : k = i := by omega
            exact hq)
        clear hs hq hfw
        go_wp2_with fail
        go_quiet (fail)
        go_wp2_with fail
        go_roundw
        case rel => exact ⟨i + 1, by go_num, by omega, hs2, hfw'.out.drewN _⟩
        case measure => simp [intOf]; omega
      · have g0 : (f i != f' i) = true := by simpa using hq
        have hq' := Lib.hid hq
        clear hs hq hfw
        go_wp2_with fail
        go_quiet (fail)
        go_wp2_with fail
        go_ret
        exact ⟨false, rfl, ⟨fun h => (by cases h), fun h => absurd (h i hlt) hq'.out⟩, hfw'.out.drewN _⟩
    · have e1 : decide ((i : Int) < (S : Int)) = false := by rw [decide_eq_false_iff_not]; omega
      have hin : i = S := by omega
      have hfw' := Lib.hid hfw
      clear hfw
      go_wp2_with fail
      go_ret
      exact ⟨true, by simp, ⟨fun _ k hk => hs.out k (by omega), fun _ => rfl⟩, hfw'.out⟩
theorem sameBools_yes (S g1 g2 : Nat) (f : Nat → Bool) (w : World) (h1 : BRow w g1 S f) (h2 : BRow w g2 S f) (hS : S ≤ 1024) :
    Calls Try.prog 18 #[.slice (some ⟨g1, 0, none⟩) S S, .slice (some ⟨g2, 0, none⟩) S S] w fun e w' => e = .returned (.bool true) ∧ Far (fun _ => False) w w' := by
  have h1' := Lib.hid h1
  have h2' := Lib.hid h2
  clear h1 h2
  go_enter Try.func18, Try.ntmps18
  go_wp2_with fail
  go_loopw [5] (fun iv wr => ∃ i : Nat, iv = .int .i64 i ∧ i ≤ S ∧ Far (fun _ => False) w wr) (fun iv _ => S - (intOf iv).toNat)
  case atStart => exact ⟨0, rfl, Nat.zero_le _, Far.refl _ _⟩
  case round =>
    obtain ⟨i, rfl, hi, hfw⟩ := hrel
    by_cases hlt : i < S
    · have e1 : decide ((i : Int) < (S : Int)) = true := by rw [decide_eq_true_eq]; omega
      have hii : (i : Int) < (S : Int) := by omega
      have c1 : wr.cell? ⟨g1, i, none⟩ = some (.bool (f i)) := BRow.at (show BRow wr g1 S f from Bk.far' h1'.out hfw id) hlt
      have c2 : wr.cell? ⟨g2, i, none⟩ = some (.bool (f i)) := BRow.at (show BRow wr g2 S f from Bk.far' h2'.out hfw id) hlt
      have hfw' := Lib.hid hfw
      generalize f i = fi at *
      have g0 : (fi != fi) = false := by simp
      clear hfw
      go_wp2_with fail
      go_quiet (fail)
      go_wp2_with fail
      go_roundw
      case rel => exact ⟨i + 1, by go_num, by omega, hfw'.out.drewN _⟩
      case measure => simp [intOf]; omega
    · have e1 : decide ((i : Int) < (S : Int)) = false := by rw [decide_eq_false_iff_not]; omega
      have hfw' := Lib.hid hfw
      clear hfw
      go_wp2_with fail
      go_ret
      exact ⟨rfl, hfw'.out⟩
theorem rleast_any (S : Nat) (pv : Value) (T : List Tr) (w : World) (hP : Prods w pv T) (hs : T.length ≤ 4398046510976) (hs2 : ∀ t ∈ T, t.2.2.length ≤ maxLen) (hok : CnfOK (S : Int) T) :
    Calls Try.prog 70 #[.agg #[.int .i64 (S : Int), pv], .int .i64 ((S : Int) + 1)] w fun e w' => Far (fun _ => False) w w' ∧ ∃ gR s, e = .returned (.slice (some ⟨gR, 0, none⟩) S S) ∧ w.heap.size ≤ gR ∧ IRow w' gR S s ∧ ClosedS T s ∧ LeastS T s ∧ RngS s := by
  obtain ⟨h0, hh0⟩ : ∃ h, h = w.heap.size := ⟨_, rfl⟩
  obtain ⟨go, hgo⟩ : ∃ g, g = h0 + 1 := ⟨_, rfl⟩
  obtain ⟨ao, ac, rfl⟩ := Src.form hP.1
  obtain ⟨W, hW⟩ : ∃ W, W = w.alloc (.cells #[.int .i64 (S : Int), .slice ao T.length ac] 24) := ⟨_, rfl⟩
  obtain ⟨w2, hw2⟩ : ∃ w2, w2 = W.alloc (.cells (icells S fun _ => 0) 3) := ⟨_, rfl⟩
  have zW : W.heap.size = go := by rw [hW]; simp [hgo, hh0]
  have hX : Bk W h0 24 #[.int .i64 (S : Int), .slice ao T.length ac] := hW ▸ Bk.new hh0
  have hFW : Far (fun _ => False) w W := hW ▸ alloc_far0 _ _
  have hFW2 : Far (fun _ => False) W w2 := hw2 ▸ alloc_far0 _ _
  have hR2 : IRow w2 go S (fun _ => 0) := hw2 ▸ Bk.new zW.symm
  have hX2 := hX.far' hFW2 id
  have hF2 := hFW.then hFW2
  have a0 : W.cell? ⟨h0, 0, none⟩ = some (.int .i64 (S : Int)) := hX.cell 0
  have hS1 : 1 ≤ S := by have := hok.1.1; omega
  have hS2 : S ≤ 1024 := by have := hok.1.2; omega
  have hgw : w.heap.size < go := by omega
  have hh0g : h0 ≠ go := by omega
  have MK := make_ints S (by omega)
  have hP' := Lib.hid hP
  have hs2' := Lib.hid hs2
  have hok' := Lib.hid hok
  have hh0' := Lib.hid hh0
  have hW' := Lib.hid hW
  have hw2' := Lib.hid hw2
  have zW' := Lib.hid zW
  have hX2' := Lib.hid hX2
  have hF2' := Lib.hid hF2
  have hR2' := Lib.hid hR2
  have hgw' := Lib.hid hgw
  have hhl := Lib.hid (show h0 < w2.heap.size from hX2.lt)
  clear hP hs2 hok hh0 hgo hW hw2 zW hX hFW hFW2 hR2 hX2 hF2 hgw
  go_enter Try.func70, Try.ntmps70
  go_upto_region 1 with fail
  rw [← hh0'.out, ← hW'.out]
  go_upto_region 2 with fail
  rw [zW'.out, ← hw2'.out]
  clear a0
  go_wp2_with fail
  go_loopw [6] (fun iv wr => ∃ i : Nat, iv = .int .i64 i ∧ i ≤ S ∧ Hid (IRow wr go S (fun k => if k < i then -1 else 0)) ∧ Far (fun k => k = go) w2 wr) (fun iv _ => S - (intOf iv).toNat)
  case atStart => exact ⟨0, rfl, Nat.zero_le _, Lib.hid (by simpa using hR2'.out), Far.refl _ _⟩
  case round =>
    obtain ⟨i, rfl, hi, hr, hfw⟩ := hrel
    have b0 : wr.cell? ⟨h0, 0, none⟩ = some (.int .i64 (S : Int)) := (hX2'.out.far' hfw hh0g).cell 0
    by_cases hlt : i < S
    · have e1 : decide ((i : Int) < (S : Int)) = true := by rw [decide_eq_true_eq]; omega
      have hii : (i : Int) < (S : Int) := by omega
      have q0 : wr.cell? ⟨go, i, none⟩ = some (.int .i64 (if i < i then -1 else 0)) := IRow.at hr.out hlt
      have q1 : wr.frozen? ⟨go, i, none⟩ = false := Bk.free hr.out i
      rw [if_neg (Nat.lt_irrefl i)] at q0
      have hr2 := Lib.hid (set_neg hr.out)
      have hfw2 := Lib.hid (hfw.set ⟨go, i, none⟩ (.int .i64 (-1)) (fun _ => rfl))
      clear hr hfw
      go_wp2_with fail
      go_roundw
      case rel => exact ⟨i + 1, by go_num, by omega, hr2, hfw2.out⟩
      case measure => simp [intOf]; omega
    · have e1 : decide ((i : Int) < (S : Int)) = false := by rw [decide_eq_false_iff_not]; omega
      have hin : i = S := by omega
      subst hin
      have hr0 : Hid (IRow wr go i (fun _ => -1)) := Lib.hid (hr.out.congr fun k hk => if_pos hk)
      have hWr := Lib.hid (hF2'.out.out hfw (fun k hk e => by have := hgw'.out; omega))
      have hXr := Lib.hid (hX2'.out.far' hfw hh0g)
      clear hr hfw
      obtain ⟨wb, rfl⟩ : ∃ wb : World, wb = wr := ⟨_, rfl⟩
      go_wp2_with fail
      clear b0
      go_loopw [5, 7] (fun ov kv wr => ∃ (k go' : Nat), ov = .slice (some ⟨go', 0, none⟩) i i ∧ kv = .int .i64 k ∧ k ≤ i ∧ Hid (IRow wr go' i (jac T k)) ∧ Hid (w.heap.size < go') ∧ Far (fun _ => False) wb wr) (fun _ kv _ => i + 1 - (intOf kv).toNat)
      case atStart => exact ⟨0, go, rfl, rfl, Nat.zero_le _, hr0, hgw', Far.refl _ _⟩
      case round =>
        obtain ⟨wo, rfl⟩ : ∃ wo : World, wo = wr := ⟨_, rfl⟩
        obtain ⟨k, go', rfl, rfl, hk, hro, hgo', hfo⟩ := hrel
        have e2 : decide ((k : Int) < (i : Int) + 1) = true := by rw [decide_eq_true_eq]; omega
        have hkk : (k : Int) < (i : Int) + 1 := by omega
        have b0 : wo.cell? ⟨h0, 0, none⟩ = some (.int .i64 (i : Int)) := (hXr.out.far' hfo id).cell 0
        obtain ⟨gn, hgn⟩ : ∃ g, g = wo.heap.size := ⟨_, rfl⟩
        obtain ⟨w3, hw3⟩ : ∃ w3, w3 = wo.alloc (.cells (icells i fun _ => 0) 3) := ⟨_, rfl⟩
        have hf3 : Far (fun _ => False) wo w3 := hw3 ▸ alloc_far0 _ _
        have hR3 : Hid (IRow w3 gn i (fun _ => 0)) := Lib.hid (hw3 ▸ Bk.new hgn)
        have hO3 : Hid (IRow w3 go' i (jac T k)) := Lib.hid (Bk.far' hro.out hf3 id)
        have hX3 := Lib.hid ((hXr.out.far' hfo id).far' hf3 id)
        have hW3 := Lib.hid (hWr.out.then (hfo.then hf3))
        have hfb3 := Lib.hid (hfo.then hf3)
        have hne : go' ≠ gn := by have := Bk.lt hro.out; omega
        have hne' : h0 ≠ gn := by have := (hXr.out.far' hfo id).lt; omega
        have hgnw := Lib.hid (show w.heap.size < gn by have := Bk.lt hro.out; have := hgo'.out; omega)
        have hgnb := Lib.hid (show wb.heap.size ≤ gn by have := hfo.size; omega)
        have hgn' := Lib.hid hgn
        have hw3' := Lib.hid hw3
        clear hro hfo hgn hw3 hf3
        go_upto_region 10 with fail
        rw [← hgn'.out, ← hw3'.out]
        clear b0
        go_wp2_with fail
        go_loopw [9] (fun jv wr => ∃ j : Nat, jv = .int .i64 j ∧ j ≤ i ∧ Hid (IRow wr gn i (fun k => if k < j then -1 else 0)) ∧ Far (fun k => k = gn) w3 wr) (fun jv _ => i - (intOf jv).toNat)
        case atStart => exact ⟨0, rfl, Nat.zero_le _, Lib.hid (by simpa using hR3.out), Far.refl _ _⟩
        case round =>
          obtain ⟨j, rfl, hj, hr, hfw⟩ := hrel
          have b0 : wr.cell? ⟨h0, 0, none⟩ = some (.int .i64 (i : Int)) := (hX3.out.far' hfw hne').cell 0
          by_cases hlt3 : j < i
          · have e3 : decide ((j : Int) < (i : Int)) = true := by rw [decide_eq_true_eq]; omega
            have hji : (j : Int) < (i : Int) := by omega
            have q0 : wr.cell? ⟨gn, j, none⟩ = some (.int .i64 (if j < j then -1 else 0)) := IRow.at hr.out hlt3
            have q1 : wr.frozen? ⟨gn, j, none⟩ = false := Bk.free hr.out j
            rw [if_neg (Nat.lt_irrefl j)] at q0
            have hr2 := Lib.hid (set_neg hr.out)
            have hfw2 := Lib.hid (hfw.set ⟨gn, j, none⟩ (.int .i64 (-1)) (fun _ => rfl))
            clear hr hfw
            go_wp2_with fail
            go_roundw
            case rel => exact ⟨j + 1, by go_num, by omega, hr2, hfw2.out⟩
            case measure => simp [intOf]; omega
          · have e3 : decide ((j : Int) < (i : Int)) = false := by rw [decide_eq_false_iff_not]; omega
            have hjn : j = i := by omega
            subst hjn
            have hrN : Hid (IRow wr gn j (nx (jac T k) T 0)) := Lib.hid (hr.out.congr fun k hk => if_pos hk)
            have hfN := Lib.hid hfw
            clear hr hfw
            go_wp2_with fail
            clear b0
            go_loopw [10] (fun mv wr => ∃ m : Nat, mv = .int .i64 m ∧ m ≤ T.length ∧ Hid (IRow wr gn j (nx (jac T k) T m)) ∧ Far (fun k => k = gn) w3 wr) (fun mv _ => T.length - (intOf mv).toNat)
            case atStart => exact ⟨0, rfl, Nat.zero_le _, hrN, hfN.out⟩
            case round =>
              obtain ⟨m, rfl, hm, hr, hfw⟩ := hrel
              have hXw := Lib.hid (hX3.out.far' hfw hne')
              have b1 : wr.cell? ⟨h0, 1, none⟩ = some (.slice ao T.length ac) := hXw.out.cell 1
              by_cases hlt4 : m < T.length
              · have e4 : decide ((m : Int) < (T.length : Int)) = true := by rw [decide_eq_true_eq]; omega
                have hmi : (m : Int) < (T.length : Int) := by omega
                obtain ⟨t, ht⟩ : ∃ t, T[m]? = some t := ⟨T[m], List.getElem?_eq_getElem hlt4⟩
                have hmem := List.mem_of_getElem? ht
                obtain ⟨⟨p0, p1⟩, p2⟩ := hok'.out.2 t hmem
                have hWw := hW3.out.out hfw (fun k hk e => by have := hgnw.out; omega)
                obtain ⟨bb, off, c, he, hbl, c0, c1, hbd⟩ := (hP'.out.move hWw).prod ht
                simp only [Value.slice.injEq] at he
                obtain ⟨rfl, _, rfl⟩ := he
                have hns := nx_succ (s := jac T k) ht
                have hl2 := hs2'.out t hmem
                obtain ⟨q0, qv, l⟩ := t
                dsimp only at c0 c1 hbd hns p0 p1 p2 hl2
                obtain ⟨hn, rfl⟩ : ∃ hn : Nat, q0 = (hn : Int) := ⟨q0.toNat, by omega⟩
                have hnS : hn < j := by omega
                have hnI : (hn : Int) < (j : Int) := by omega
                obtain ⟨bo, bc, rfl⟩ := Src.form hbd
                have RL := rlong_any j go' (jac T k) (.slice bo l.length bc) l wr hbd hl2 (show IRow wr go' j (jac T k) from Bk.far' hO3.out hfw hne) (fun x hx hx1 => ⟨(p2 x hx).1, (p2 x hx).2.2 hx1⟩) (jac_rng T k) hS2
                obtain ⟨g, hg⟩ : ∃ g, g = long (jac T k) l 0 := ⟨_, rfl⟩
                obtain ⟨v, hv⟩ : ∃ v, v = nx (jac T k) T m hn := ⟨_, rfl⟩
                rw [← hg] at RL
                rw [← hg, Int.toNat_natCast, ← hv] at hns
                have hns' := Lib.hid hns
                have hv' := Lib.hid hv
                have hfw' := Lib.hid hfw
                clear hbl hbd hmem ht hfw hWw hg hv p0 p1 p2 hl2 hns
                go_wp2_with fail
                refine RL.mono ?_
                rintro e w9 ⟨rfl, hf9⟩
                have hr9 : Hid (IRow w9 gn j (nx (jac T k) T m)) := Lib.hid (Bk.far' hr.out hf9 id)
                have q0 : w9.cell? ⟨gn, hn, none⟩ = some (.int .i64 v) := hv'.out ▸ IRow.at hr9.out hnS
                have q1 : w9.frozen? ⟨gn, hn, none⟩ = false := Bk.free hr9.out hn
                have hf9' := Lib.hid (hfw'.out.trans hf9 fun _ _ h => h.elim)
                have R5 : Hid (IRow (w9.setCell ⟨gn, hn, none⟩ (.int .i64 g)) gn j (updS (nx (jac T k) T m) hn g)) := Lib.hid (IRow.put hr9.out hn g)
                have F5 := Lib.hid (hf9'.out.set ⟨gn, hn, none⟩ (.int .i64 g) (fun _ => rfl))
                clear RL hf9 c0 c1 b1 hr
                by_cases hg0 : g < 0
                · have d0 : decide (g ≥ 0) = false := decide_eq_false (by omega)
                  have d0' : decide (0 ≤ g) = false := decide_eq_false (by omega)
                  have hN := Lib.hid (show nx (jac T k) T (m + 1) = nx (jac T k) T m by rw [hns'.out, if_neg (fun q => by omega)])
                  clear hg0
                  go_wp2_with fail
                  go_roundw
                  case rel => exact ⟨m + 1, by go_num, by omega, hN.out ▸ hr9, hf9'.out⟩
                  case measure => simp [intOf]; omega
                · have d0 : decide (g ≥ 0) = true := decide_eq_true (by omega)
                  have d0' : decide (0 ≤ g) = true := decide_eq_true (by omega)
                  by_cases hv0 : v < 0
                  · have d1 : decide (v < 0) = true := decide_eq_true hv0
                    have hN := Lib.hid (show nx (jac T k) T (m + 1) = updS (nx (jac T k) T m) hn g by rw [hns'.out, if_pos ⟨by omega, .inl hv0⟩])
                    clear hg0 hv0
                    go_wp2_with fail
                    go_roundw
                    case rel => exact ⟨m + 1, by go_num, by omega, hN.out ▸ R5, F5.out⟩
                    case measure => simp [intOf]; omega
                  · have d1 : decide (v < 0) = false := decide_eq_false hv0
                    by_cases hgv : g < v
                    · have d2 : decide (g < v) = true := decide_eq_true hgv
                      have hN := Lib.hid (show nx (jac T k) T (m + 1) = updS (nx (jac T k) T m) hn g by rw [hns'.out, if_pos ⟨by omega, .inr hgv⟩])
                      clear hg0 hv0 hgv
                      go_wp2_with fail
                      go_roundw
                      case rel => exact ⟨m + 1, by go_num, by omega, hN.out ▸ R5, F5.out⟩
                      case measure => simp [intOf]; omega
                    · have d2 : decide (g < v) = false := decide_eq_false hgv
                      have hN := Lib.hid (show nx (jac T k) T (m + 1) = nx (jac T k) T m by rw [hns'.out, if_neg (fun q => by omega)])
                      clear hg0 hv0 hgv
                      go_wp2_with fail
                      go_roundw
                      case rel => exact ⟨m + 1, by go_num, by omega, hN.out ▸ hr9, hf9'.out⟩
                      case measure => simp [intOf]; omega
              · have e4 : decide ((m : Int) < (T.length : Int)) = false := by rw [decide_eq_false_iff_not]; omega
                have hmT : m = T.length := by omega
                have hrJ : Hid (IRow wr gn j (jac T (k + 1))) := Lib.hid (by have := hr.out; rw [hmT] at this; exact this)
                have SI := sameInts_any j go' gn (jac T k) (jac T (k + 1)) wr (Bk.far' hO3.out hfw hne) hrJ.out hS2
                have hWw := Lib.hid (hW3.out.out hfw (fun k hk e => by have := hgnw.out; omega))
                have hbw := Lib.hid (hfb3.out.out hfw (fun k hk e => by have := hgnb.out; omega))
                clear hr hfw
                go_wp2_with fail
                refine SI.mono ?_
                rintro e w9 ⟨b, rfl, hb, hf9⟩
                have hb' := Lib.hid hb
                have hrJ9 : Hid (IRow w9 gn j (jac T (k + 1))) := Lib.hid (Bk.far' hrJ.out hf9 id)
                have hW9 := Lib.hid (hWw.out.then hf9)
                have hb9 := Lib.hid (hbw.out.then hf9)
                clear SI hb hf9 b1
                cases b with
                | true =>
                  have hall := Lib.hid (show jac T (k + 1) = jac T k from funext fun x => by
                    by_cases hx : x < j
                    · exact (hb'.out.1 rfl x hx).symm
                    · rw [jac_out hok'.out (by omega) (k + 1), jac_out hok'.out (by omega) k])
                  go_wp2_with fail
                  go_ret
                  exact ⟨hW9.out, gn, jac T (k + 1), rfl, Nat.le_of_lt hgnw.out, hrJ9.out, hall.out ▸ jac_closed (fun x => congrFun hall.out x), jac_least T (k + 1), jac_rng T (k + 1)⟩
                | false =>
                  have hkl := Lib.hid (show k < j from Classical.byContradiction fun hge => by
                    obtain rfl : k = j := by omega
                    have := hb'.out.2 fun x hx => (jac_rest hok'.out x).symm
                    cases this)
                  go_wp2_with fail
                  go_roundw
                  case rel => exact ⟨k + 1, gn, rfl, by go_num, hkl.out, hrJ9, hgnw, hb9.out⟩
                  case measure => simp [intOf]; omega
end
end Go.Proofs.Ytjkfieilaahejaa
