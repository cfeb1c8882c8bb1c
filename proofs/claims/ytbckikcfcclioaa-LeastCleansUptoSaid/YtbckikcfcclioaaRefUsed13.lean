/-
  The document's Used.
-/
import Derived.Test.YtbckikcfcclioaaPile13
import Derived.Deep.LoopGhost
namespace Go.Proofs.Ytbckikcfcclioaa
open Go.RowKit
set_option linter.unusedVariables false
set_option linter.unusedSimpArgs false
theorem info_num : (Try.prog.info? 3).map (fun i => (i.zero, i.size, i.bytes)) = some (some (.int .i64 0), 1, 8) := by kernel_rfl
theorem pos_dec (r : Nat) : decide (((r + 1 : Nat) : Int) > 0) = true := by rw [decide_eq_true_eq]; omega
theorem muE_le (E : Nat → Bool) : ∀ S, muE S E ≤ S
  | 0 => Nat.le_refl _
  | S + 1 => by
    have := muE_le E S
    unfold muE at *
    unfold wsum
    split <;> omega
section
set_option maxHeartbeats 8000000
set_option maxRecDepth 100000
theorem rused_any (S : Nat) (pv : Value) (T : List Tr) (fo : Option Addr) (n fc : Nat) (f : Nat → Int) (w : World) (hP : Prods w pv T) (hs : T.length ≤ 4398046510976) (hs2 : ∀ t ∈ T, t.2.2.length ≤ maxLen) (hok : CnfOK (S : Int) T) (hI : Ints w fo n f) (hn : n ≤ 1048576) (hN : tot T ≤ 1048576) :
    Calls Try.prog 15 #[.agg #[.int .i64 (S : Int), pv], .slice fo n fc] w fun e w' => Far (fun _ => False) w w' ∧ ((¬ FromOK S n f ∧ e = .returned (.tuple #[.slice none 0 0, .int .i64 2])) ∨ (FromOK S n f ∧ ∃ gO U, e = .returned (.tuple #[.slice (some ⟨gO, 0, none⟩) S S, .int .i64 0]) ∧ BRow w' gO S U ∧ ClosedU T U ∧ (∀ j, FromIn n f j → U j = true) ∧ LeastU T (FromIn n f) U)) := by
  obtain ⟨h0, hh0⟩ : ∃ h, h = w.heap.size := ⟨_, rfl⟩
  obtain ⟨gO, hgO⟩ : ∃ g, g = h0 + 1 := ⟨_, rfl⟩
  obtain ⟨ao, ac, rfl⟩ := Src.form hP.1
  obtain ⟨w1, hw1⟩ : ∃ w1, w1 = w.alloc (.cells #[.int .i64 (S : Int), .slice ao T.length ac] 24) := ⟨_, rfl⟩
  have z1 : w1.heap.size = gO := by rw [hw1]; simp [hgO, hh0]
  have hX : Bk w1 h0 24 #[.int .i64 (S : Int), .slice ao T.length ac] := hw1 ▸ Bk.new hh0
  have hF1 : Far (fun _ => False) w w1 := hw1 ▸ alloc_far0 _ _
  obtain ⟨w2, hw2⟩ : ∃ w2, w2 = w1.alloc (.cells (bcells S fun _ => false) 4) := ⟨_, rfl⟩
  have hO2 : BRow w2 gO S (fun _ => false) := hw2 ▸ Bk.new z1.symm
  have hF12 : Far (fun _ => False) w1 w2 := hw2 ▸ alloc_far0 _ _
  have hX2 := hX.far' hF12 id
  have hW := hF1.then hF12
  have hgB : gO < w2.heap.size := Bk.lt hO2
  have hhg : h0 ≠ gO := by omega
  have hS1 : 1 ≤ S := by have := hok.1.1; omega
  have hS2 : S ≤ 1024 := by have := hok.1.2; omega
  have a0 : w1.cell? ⟨h0, 0, none⟩ = some (.int .i64 (S : Int)) := hX.cell 0
  have MK := make_bools S (by omega)
  have hgw := Lib.hid (show w.heap.size ≤ gO by omega)
  have hP' := Lib.hid hP
  have hs2' := Lib.hid hs2
  have hok' := Lib.hid hok
  have hI' := Lib.hid hI
  have hh0' := Lib.hid hh0
  have hw1' := Lib.hid hw1
  have hw2' := Lib.hid hw2
  have z1' := Lib.hid z1
  have hX2' := Lib.hid hX2
  have hO2' : Hid (BRow w2 gO S (fun _ => false)) := Lib.hid hO2
  have hW' := Lib.hid hW
  clear hP hs2 hok hI hh0 hgO hw1 hw2 z1 hX hF1 hO2 hF12 hX2 hW
  go_enter Try.func15, Try.ntmps15
  go_upto_region 1 with fail
  rw [← hh0'.out, ← hw1'.out]
  go_upto_region 2 with fail
  rw [z1'.out, ← hw2'.out]
  clear MK a0
  go_wp2_with fail
  go_loopw [7, 8] (fun pv iv wr => ∃ (i : Nat) (po : Option Addr) (pc : Nat), pv = .slice po i pc ∧ iv = .int .i64 i ∧ i ≤ n ∧ Hid (∀ k, k < i → 0 ≤ f k ∧ f k < S) ∧ Hid (wr.ownsRow w2.heap.size 3 1 (.slice po i pc) i (ints ((List.range i).map fun k => (f k).toNat))) ∧ Far (fun _ => False) w2 wr) (fun _ iv _ => n - (intOf iv).toNat)
  case atStart => exact ⟨0, none, 0, rfl, rfl, Nat.zero_le _, Lib.hid (fun k hk => absurd hk (Nat.not_lt_zero _)), Lib.hid (World.ownsRow_nil _ _ _ _), Far.refl _ _⟩
  case round =>
    obtain ⟨i, po, pc, rfl, rfl, hi, hg, hown, hfw⟩ := hrel
    have hWr := Lib.hid (hW'.out.then hfw)
    have b0 : wr.cell? ⟨h0, 0, none⟩ = some (.int .i64 (S : Int)) := (hX2'.out.far' hfw id).cell 0
    have hfw' := Lib.hid hfw
    by_cases hlt : i < n
    · have e1 : decide ((i : Int) < (n : Int)) = true := by rw [decide_eq_true_eq]; omega
      have hii : (i : Int) < (n : Int) := by omega
      obtain ⟨g, off, rfl, hgl, hcs⟩ := (hI'.out.move hWr.out) (by omega)
      have c0 : wr.cell? ⟨g, off + i, none⟩ = some (.int .i64 (f i)) := hcs i hlt
      obtain ⟨x, hx⟩ : ∃ x, x = f i := ⟨_, rfl⟩
      rw [← hx] at c0
      have hx' := Lib.hid hx
      clear hx hgl hcs hfw
      by_cases h1 : x < 0
      · have d0 : decide (x < 0) = true := decide_eq_true h1
        have hbad := Lib.hid (show ¬ FromOK S n f from fun q => by have := q i hlt; rw [← hx'.out] at this; omega)
        clear h1 hg hown
        go_wp2_with fail
        go_quiet (fail)
        go_wp2_with fail
        exact bodyPost_ret (v := .tuple #[.slice none 0 0, .int .i64 2]) (by simp [results, Try.f15, go_sem]) rfl ⟨hWr.out.drewN _, .inl ⟨hbad.out, rfl⟩⟩
      · have d0 : decide (x < 0) = false := decide_eq_false h1
        by_cases h2 : x < (S : Int)
        · have d1 : decide (x ≥ (S : Int)) = false := decide_eq_false (by omega)
          have d1' : decide ((S : Int) ≤ x) = false := decide_eq_false (by omega)
          obtain ⟨xn, hxn⟩ : ∃ xn : Nat, x = (xn : Int) := ⟨x.toNat, by omega⟩
          subst hxn
          have hg2 : Hid (∀ k, k < i + 1 → 0 ≤ f k ∧ f k < S) := Lib.hid (fun k hk => by
            by_cases e : k < i
            · exact hg.out k e
            · obtain rfl : k = i := by omega
              rw [← hx'.out]; omega)
          obtain ⟨inf, hinf, hz0, hz1, hz2⟩ := info_parts info_num
          have d1n : decide (S ≤ xn) = false := decide_eq_false (by omega)
          clear h1 h2 hg
          go_upto_region 6 with fail
          go_quiet (fail)
          obtain ⟨wq, hwq⟩ : ∃ wq, wq = wr.drewN nq := ⟨_, rfl⟩
          rw [← hwq]
          have hfq : Far (fun _ => False) wr wq := hwq ▸ (Far.refl _ wr).drewN _
          have hownq := Lib.hid (row_far hown.out hfq fun _ _ h => h)
          have c0' : wq.cell? ⟨g, off + i, none⟩ = some (.int .i64 (xn : Int)) := hwq ▸ c0
          have hfw2 := Lib.hid (hfw'.out.then hfq)
          have A1 := Lib.hid (hownq.out.alloc (.cells #[.int .i64 (xn : Int)] 3))
          have A2 := Lib.hid (World.news_of_block (w := wq.alloc (.cells #[.int .i64 (xn : Int)] 3)) (cs := #[.int .i64 (xn : Int)]) (t := 3) (fr := (0, 0)) (heap_alloc_new wq _))
          have A3 : ∀ u ∈ [(Value.int .i64 (xn : Int))], u.oneCell' = true := by simp [Value.oneCell']
          have A4 : i + 1 ≤ maxLen := by unfold maxLen; omega
          have A5 : (i + 1) * 8 ≤ 140737488355328 := by omega
          have A6 : w2.heap.size ≤ (wq.alloc (.cells #[.int .i64 (xn : Int)] 3)).heap.size := by have := hfw2.out.size; simp; omega
          clear c0 b0 hfq hwq
          go_wp2_with (at_builtin; refine wpList_append_lies _ rfl _ _ 30 rfl w2.heap.size 3 inf _ 1 8 Try.underlying30 hinf hz0 hz1 hz2 rfl (by decide) (.slice po i pc) i _ rfl A1.out ⟨wq.heap.size, 0, none⟩ 1 1 _ rfl rfl A2.out A3 (by decide) A4 A5 A6 _ rfl ?_; intro fg fcap w7 ho7 hg7 hat7 hl7)
          have hR7 : Far (fun k => (Value.slice po i pc).ownBlock = some k) wq w7 := ((Far.refl _ wq).alloc _).grown hg7 fun k _ e => e
          have hW7 := Lib.hid (hfw2.out.trans hR7 fun k hk e => by have := (hownq.out.lt k e).1; omega)
          have ho7' := Lib.hid (show w7.ownsRow w2.heap.size 3 1 (.slice (some ⟨fg, 0, none⟩) (i + 1) fcap) (i + 1) (ints ((List.range (i + 1)).map fun k => (f k).toNat)) by
            rw [List.range_succ, List.map_append, ints, List.map_append]
            simp only [List.map_cons, List.map_nil]
            rw [← hx'.out, Int.toNat_natCast]
            exact ho7)
          clear hR7 ho7 hg7 hat7 A1 A2 A3 A4 A5 A6 c0'
          go_wp2_with fail
          go_roundw
          case rel => exact ⟨i + 1, some ⟨fg, 0, none⟩, fcap, rfl, by go_num, by omega, hg2, ho7', hW7.out⟩
          case measure => simp [intOf]; omega
        · have d1 : decide (x ≥ (S : Int)) = true := decide_eq_true (by omega)
          have d1' : decide ((S : Int) ≤ x) = true := decide_eq_true (by omega)
          have hbad := Lib.hid (show ¬ FromOK S n f from fun q => by have := q i hlt; rw [← hx'.out] at this; omega)
          clear h1 h2 hg hown
          go_wp2_with fail
          go_quiet (fail)
          go_wp2_with fail
          exact bodyPost_ret (v := .tuple #[.slice none 0 0, .int .i64 2]) (by simp [results, Try.f15, go_sem]) rfl ⟨hWr.out.drewN _, .inl ⟨hbad.out, rfl⟩⟩
    · have e1 : decide ((i : Int) < (n : Int)) = false := by rw [decide_eq_false_iff_not]; omega
      have hin : i = n := by omega
      subst hin
      have hfok := Lib.hid (show FromOK S i f from hg.out)
      have hp0 := Lib.hid (show Pile T (FromIn i f) S (fun _ => false) ((List.range i).map fun k => (f k).toNat) from
        ⟨fun k hk => by
            obtain ⟨j, hj, rfl⟩ := List.mem_map.1 hk
            have := hg.out j (List.mem_range.1 hj)
            omega,
         fun C hC hF => ⟨fun k h => (by cases h), fun k hk => by
            obtain ⟨j, hj, rfl⟩ := List.mem_map.1 hk
            exact hF _ ⟨j, List.mem_range.1 hj, rfl⟩⟩,
         fun t ht h => (by cases h),
         fun j ⟨k, hk, e⟩ => .inr (List.mem_map.2 ⟨k, List.mem_range.2 hk, e⟩)⟩)
      have hr0 : Hid (BRow wr gO S (fun _ => false)) := Lib.hid (Bk.far' hO2'.out hfw id)
      have hfg := Lib.hid (hfw.mono (G := fun k => k = gO) fun _ _ h => h.elim)
      have hmu := muE_le (fun _ => false) S
      obtain ⟨N, hNT⟩ : ∃ N, N = tot T := ⟨_, rfl⟩
      obtain ⟨g0, hg0⟩ : ∃ g, g = muE S (fun _ => false) * (N + 1) + i := ⟨_, rfl⟩
      have hg0b : Hid (g0 ≤ 1100000000) := Lib.hid (by
        have : muE S (fun _ => false) * (N + 1) ≤ 1024 * 1048577 := Nat.mul_le_mul (by omega) (by omega)
        omega)
      have hg0' := Lib.hid hg0.symm
      have hNT' := Lib.hid hNT
      clear hfw hg hg0 hNT hmu hfw' hWr
      go_wp2_with fail
      clear b0
      go_loopg [7] g0 (fun m v wr => ∃ (po : Option Addr) (pc q : Nat) (L : List Nat) (X : Nat → Bool), v = .slice po q pc ∧ Hid (wr.ownsRow w2.heap.size 3 1 (.slice po q pc) q (ints L)) ∧ Hid (muE S X * (N + 1) + q = m) ∧ Hid (m ≤ 1100000000) ∧ Hid (Pile T (FromIn i f) S X L) ∧ Hid (BRow wr gO S X) ∧ Far (fun k => k = gO) w2 wr)
      case atStart => exact ⟨po, pc, i, _, _, rfl, hown, hg0', hg0b, hp0, hr0, hfg.out⟩
      case round =>
        clear hown hp0 hr0 hfg hg0' hg0b
        obtain ⟨po, pc, q, L, X, rfl, hO, hm, hmb, hC, hr, hfw⟩ := hrel
        by_cases hq0 : q = 0
        · subst hq0
          have hL : L = [] := List.eq_nil_of_length_eq_zero (by have := hO.out.1; simpa using this)
          subst hL
          have hfin := Lib.hid (hC.out.done)
          have hWr := Lib.hid (hW'.out.out hfw fun k hk e => by have := hgw.out; omega)
          clear hO hm hmb hC hfw
          go_wp2_with fail
          exact bodyPost_ret (v := .tuple #[.slice (some ⟨gO, 0, none⟩) S S, .int .i64 0]) (by simp [results, Try.f15, go_sem]) rfl ⟨hWr.out, .inr ⟨hfok.out, gO, X, rfl, hr.out, hfin.out⟩⟩
        · obtain ⟨r, rfl⟩ : ∃ r, q = r + 1 := ⟨q - 1, by omega⟩
          obtain ⟨g, cap, hform⟩ := own_form hO.out (by omega)
          simp only [Value.slice.injEq] at hform
          obtain ⟨rfl, _, rfl⟩ := hform
          obtain ⟨L, k, rfl⟩ : ∃ (L' : List Nat) (k : Nat), L = L' ++ [k] := by
            have hl := hO.out.1
            simp at hl
            exact ⟨L.dropLast, L.getLast (by intro e; subst e; simp at hl), (List.dropLast_concat_getLast _).symm⟩
          have hOk : wr.ownsRow w2.heap.size 3 1 (.slice (some ⟨g, 0, none⟩) (r + 1) pc) (r + 1) (ints L ++ [.int .i64 (k : Int)]) := by have := hO.out; unfold ints at this; rwa [List.map_append] at this
          have hLr := Lib.hid (show L.length = r by have := hOk.1; simp at this; omega)
          have hcq := own_last hOk
          have hQ := Lib.hid (own_cut hOk)
          have hG := own_in hOk
          have hqc : r + 1 ≤ pc := own_cap hOk
          have hqc2 : r ≤ pc := by omega
          have hc0 : ¬ pc = 0 := by omega
          have hkS : k < S := hC.out.lt k (by simp)
          have hkI : (k : Int) < (S : Int) := by omega
          have hrm : r ≤ 1100000000 := by have := hm.out; have := hmb.out; omega
          have hwq : wrap64 (r : Int) = r := by simp only [wrap64]; omega
          have hnp := pos_dec r
          have q0 : wr.cell? ⟨gO, k, none⟩ = some (.bool (X k)) := IRow_at hr.out hkS
          have q1 : wr.frozen? ⟨gO, k, none⟩ = false := Bk.free hr.out k
          have hgg : gO ≠ g := by omega
          have hG' := Lib.hid hG
          have hfw1 := Lib.hid hfw
          clear hO hOk hq0 hG hfw
          cases hX : X k with
          | true =>
            rw [hX] at q0
            have hC2 := Lib.hid (hC.out.skip hX)
            clear hC hX
            go_wp2_with fail
            go_roundg (muE S X * (N + 1) + r)
            case measure => have := hm.out; omega
            case rel => exact ⟨some ⟨g, 0, none⟩, pc, r, L, X, rfl, hQ, Lib.hid rfl, Lib.hid (by have := hm.out; have := hmb.out; omega), hC2, hr, hfw1.out⟩
          | false =>
            rw [hX] at q0
            have hlt := Lib.hid (muE_lt hkS hX)
            have hC2 := Lib.hid (hC.out.mark hok'.out)
            have hr2 : Hid (BRow (wr.setCell ⟨gO, k, none⟩ (.bool true)) gO S (updG X k true)) := Lib.hid (BRow.put hr.out k true)
            have hfs : Far (fun k => k = gO) wr (wr.setCell ⟨gO, k, none⟩ (.bool true)) := (Far.refl _ wr).set ⟨gO, k, none⟩ (.bool true) (fun _ => rfl)
            have hQ2 : Hid ((wr.setCell ⟨gO, k, none⟩ (.bool true)).ownsRow w2.heap.size 3 1 (.slice (some ⟨g, 0, none⟩) r pc) r (ints (L ++ psh k (T.take 0)))) := Lib.hid (by
              rw [List.take_zero, psh, List.append_nil]
              exact row_far hQ.out hfs fun j e => by
                simp only [Value.ownBlock, Option.some.injEq] at e
                omega)
            have hfw2 := Lib.hid (hfw1.out.trans hfs fun _ _ h => h)
            clear hC hX hr hQ hfs hfw1
            go_wp2_with fail
            clear q0 q1 hcq
            go_loopw [7, 10] (fun v jv wr => ∃ (j : Nat) (po : Option Addr) (pc q : Nat), v = .slice po q pc ∧ jv = .int .i64 j ∧ j ≤ T.length ∧ Hid (wr.ownsRow w2.heap.size 3 1 (.slice po q pc) q (ints (L ++ psh k (T.take j)))) ∧ Hid (BRow wr gO S (updG X k true)) ∧ Far (fun k => k = gO) w2 wr) (fun _ jv _ => T.length - (intOf jv).toNat)
            case atStart => exact ⟨0, some ⟨g, 0, none⟩, pc, r, rfl, rfl, Nat.zero_le _, hQ2, hr2, hfw2.out⟩
            case round =>
              clear hQ2 hr2 hfw2
              obtain ⟨j, po, pc, q, rfl, rfl, hj, hO, hr, hfw⟩ := hrel
              have b1 : wr.cell? ⟨h0, 1, none⟩ = some (.slice ao T.length ac) := (hX2'.out.far' hfw hhg).cell 1
              have hWw := hW'.out.out hfw (fun k hk e => by have := hgw.out; omega)
              have hlen := hO.out.1
              simp only [List.length_map, List.length_append, Nat.mul_one] at hlen
              by_cases hjT : j < T.length
              · have e2 : decide ((j : Int) < (T.length : Int)) = true := by rw [decide_eq_true_eq]; omega
                have hji : (j : Int) < (T.length : Int) := by omega
                obtain ⟨t, ht⟩ : ∃ t, T[j]? = some t := ⟨T[j], List.getElem?_eq_getElem hjT⟩
                have hmem := List.mem_of_getElem? ht
                obtain ⟨⟨p0, p1⟩, p2⟩ := hok'.out.2 t hmem
                obtain ⟨bb, off, c, he, hbl, d0, d1, hbd⟩ := hP'.out.prod ht
                simp only [Value.slice.injEq] at he
                obtain ⟨rfl, _, rfl⟩ := he
                have hps := psh_succ (n := k) ht
                have htt := tot_at ht
                have hl2 := hs2'.out t hmem
                obtain ⟨q0, qv, l⟩ := t
                dsimp only at d0 d1 hbd hps p0 p1 p2 hl2 htt
                obtain ⟨hn, rfl⟩ : ∃ hn : Nat, q0 = (hn : Int) := ⟨q0.toNat, by omega⟩
                rw [Int.toNat_natCast] at hps
                obtain ⟨bo, bc, rfl⟩ := Src.form hbd
                have HC := Lib.hid (fun w' (hf : Far (fun _ => False) w w') => (show w'.cell? ⟨bb, off + j * 2, none⟩ = some (.int .i64 (hn : Int)) ∧ w'.cell? ⟨bb, off + j * 2 + 1, none⟩ = some (.slice bo l.length bc) ∧ Body w' (.slice bo l.length bc) l from ⟨(hf.cell hbl).trans d0, (hf.cell hbl).trans d1, hbd.move hf⟩))
                obtain ⟨c0, c1, _⟩ := HC.out wr hWw
                have hps' := Lib.hid hps
                have hp2 := Lib.hid p2
                have hfw' := Lib.hid hfw
                have hlb : Hid (L.length + tot (T.take j) + l.length ≤ 1101048576 ∧ (psh k (T.take j)).length ≤ tot (T.take j)) := Lib.hid ⟨by
                  have h1 := hm.out
                  have h2 := hmb.out
                  have h4 := hLr.out
                  omega, psh_len _ _⟩
                clear hps p0 p1 p2 hbl d0 d1 hbd hmem ht htt hWw hfw hlen
                unfold maxLen at hl2
                by_cases hh : hn = k
                · subst hh
                  have g1 : ((hn : Int) != (hn : Int)) = false := by simp
                  have hO1 : Hid (wr.ownsRow w2.heap.size 3 1 (.slice po q pc) q (ints (L ++ psh hn (T.take j) ++ nts (l.take 0)))) := Lib.hid (by simpa [nts] using hO.out)
                  clear hO
                  go_wp2_with fail
                  clear b1 c0 c1
                  go_loopw [7, 11] (fun v bv wr => ∃ (b : Nat) (po : Option Addr) (pc q : Nat), v = .slice po q pc ∧ bv = .int .i64 b ∧ b ≤ l.length ∧ Hid (wr.ownsRow w2.heap.size 3 1 (.slice po q pc) q (ints (L ++ psh hn (T.take j) ++ nts (l.take b)))) ∧ Hid (BRow wr gO S (updG X hn true)) ∧ Far (fun k => k = gO) w2 wr) (fun _ bv _ => l.length - (intOf bv).toNat)
                  case atStart => exact ⟨0, po, pc, q, rfl, rfl, Nat.zero_le _, hO1, hr, hfw'.out⟩
                  case round =>
                    clear hO1 hr hfw'
                    obtain ⟨b, po, pc, q, rfl, rfl, hb, hO, hr, hfw⟩ := hrel
                    have b1 : wr.cell? ⟨h0, 1, none⟩ = some (.slice (some ⟨bb, off, none⟩) T.length ac) := (hX2'.out.far' hfw hhg).cell 1
                    have hWw := hW'.out.out hfw (fun k hk e => by have := hgw.out; omega)
                    obtain ⟨c0, c1, hbd⟩ := HC.out wr hWw
                    by_cases hbl : b < l.length
                    · have e3 : decide ((b : Int) < (l.length : Int)) = true := by rw [decide_eq_true_eq]; omega
                      have hbi : (b : Int) < (l.length : Int) := by omega
                      obtain ⟨x, hx⟩ : ∃ x, l[b]? = some x := ⟨l[b], List.getElem?_eq_getElem hbl⟩
                      obtain ⟨sb, so, sc, he, hsb, s0, s1⟩ := hbd.sym hx
                      simp only [Value.slice.injEq] at he
                      obtain ⟨rfl, _, rfl⟩ := he
                      have hns := nts_succ hx
                      obtain ⟨x0, _, x2⟩ := hp2.out x (List.mem_of_getElem? hx)
                      have hlen := hO.out.1
                      simp only [List.length_map, List.length_append, Nat.mul_one] at hlen
                      have hqb : q ≤ 1101048576 := by
                        have h1 := hlb.out
                        have h2 := nts_len (l.take b)
                        rw [List.length_take] at h2
                        omega
                      obtain ⟨sx, hsx⟩ : ∃ k, k = wr.heap.size := ⟨_, rfl⟩
                      obtain ⟨w1', hw1a⟩ : ∃ w1', w1' = wr.alloc (.cells #[.bool x.1, .int .i64 x.2] 56) := ⟨_, rfl⟩
                      have hf1 : Far (fun _ => False) wr w1' := hw1a ▸ alloc_far0 _ _
                      have hS1 : Bk w1' sx 56 #[.bool x.1, .int .i64 x.2] := hw1a ▸ Bk.new hsx
                      have hR1 : Hid (BRow w1' gO S (updG X hn true)) := Lib.hid (Bk.far' hr.out hf1 id)
                      have y0 : w1'.cell? ⟨sx, 0, none⟩ = some (.bool x.1) := hS1.cell 0
                      have y1 : w1'.cell? ⟨sx, 1, none⟩ = some (.int .i64 x.2) := hS1.cell 1
                      have hO1 := Lib.hid (show w1'.ownsRow w2.heap.size 3 1 (.slice po q pc) q (ints (L ++ psh hn (T.take j) ++ nts (l.take b))) from hw1a ▸ hO.out.alloc _)
                      have hfw1 := Lib.hid (hfw.trans hf1 fun _ _ h => h.elim)
                      have hsx' := Lib.hid hsx
                      have hns' := Lib.hid hns
                      obtain ⟨xb, xk⟩ := x
                      dsimp only at s0 s1 y0 y1 hw1a x0 x2
                      have hw1b := Lib.hid hw1a
                      clear hx hbd hsb hns hlen hO hr hfw hWw hsx hw1a hf1 hS1
                      cases xb with
                      | true =>
                        have hO2 := Lib.hid (show w1'.ownsRow w2.heap.size 3 1 (.slice po q pc) q (ints (L ++ psh hn (T.take j) ++ nts (l.take (b + 1)))) from by
                          have := hO1.out
                          rw [hns'.out]
                          simpa using this)
                        clear hO1 x0 x2
                        go_upto_region 22 with fail
                        rw [← hsx'.out, ← hw1b.out]
                        clear s0 s1 b1 c0 c1
                        go_wp2_with fail
                        go_roundw
                        case rel => exact ⟨b + 1, po, pc, q, rfl, by go_num, by omega, hO2, hR1, hfw1.out⟩
                        case measure => simp [intOf]; omega
                      | false =>
                        have x2' := x2 rfl
                        obtain ⟨kn, rfl⟩ : ∃ kn : Nat, xk = (kn : Int) := ⟨xk.toNat, by omega⟩
                        obtain ⟨inf, hinf, hz0, hz1, hz2⟩ := info_parts info_num
                        have A1 := Lib.hid (hO1.out.alloc (.cells #[.int .i64 (kn : Int)] 3))
                        have A2 := Lib.hid (World.news_of_block (w := w1'.alloc (.cells #[.int .i64 (kn : Int)] 3)) (cs := #[.int .i64 (kn : Int)]) (t := 3) (fr := (0, 0)) (heap_alloc_new w1' _))
                        have A3 : ∀ u ∈ [(Value.int .i64 (kn : Int))], u.oneCell' = true := by simp [Value.oneCell']
                        have A4 : q + 1 ≤ maxLen := by unfold maxLen; omega
                        have A5 : (q + 1) * 8 ≤ 140737488355328 := by omega
                        have A6 : w2.heap.size ≤ (w1'.alloc (.cells #[.int .i64 (kn : Int)] 3)).heap.size := by have := hfw1.out.size; simp; omega
                        clear x0 x2 x2'
                        go_upto_region 22 with fail
                        rw [← hsx'.out, ← hw1b.out]
                        clear s0 s1 b1 c0 c1
                        go_wp2_with (at_builtin; refine wpList_append_lies _ rfl _ _ 30 rfl w2.heap.size 3 inf _ 1 8 Try.underlying30 hinf hz0 hz1 hz2 rfl (by decide) (.slice po q pc) q _ rfl A1.out ⟨w1'.heap.size, 0, none⟩ 1 1 _ rfl rfl A2.out A3 (by decide) A4 A5 A6 _ rfl ?_; intro fg fcap w7 ho7 hg7 hat7 hl7)
                        have hR7 : Far (fun k => (Value.slice po q pc).ownBlock = some k) w1' w7 := ((Far.refl _ w1').alloc _).grown hg7 fun k _ e => e
                        have hnb : ∀ k, (Value.slice po q pc).ownBlock = some k → w2.heap.size ≤ k := fun k e => (hO1.out.lt k e).1
                        have hW7 := Lib.hid (hfw1.out.trans hR7 fun k hk e => by have := hnb k e; omega)
                        have hr7 : Hid (BRow w7 gO S (updG X hn true)) := Lib.hid (Bk.far' hR1.out hR7 fun e => by have := hnb _ e; omega)
                        have ho7' := Lib.hid (show w7.ownsRow w2.heap.size 3 1 (.slice (some ⟨fg, 0, none⟩) (q + 1) fcap) (q + 1) (ints (L ++ psh hn (T.take j) ++ nts (l.take (b + 1)))) by
                          rw [hns'.out]
                          simp only [Bool.false_eq_true, if_false, Int.toNat_natCast]
                          rw [← List.append_assoc, ints, List.map_append]
                          exact ho7)
                        clear hR7 hnb ho7 hg7 hat7 A1 A2 A3 A4 A5 A6 hO1 hR1
                        go_wp2_with fail
                        go_roundw
                        case rel => exact ⟨b + 1, some ⟨fg, 0, none⟩, fcap, q + 1, rfl, by go_num, by omega, ho7', hr7, hW7.out⟩
                        case measure => simp [intOf]; omega
                    · have e3 : decide ((b : Int) < (l.length : Int)) = false := by rw [decide_eq_false_iff_not]; omega
                      have hbe : b = l.length := by omega
                      have hO2 := Lib.hid (show wr.ownsRow w2.heap.size 3 1 (.slice po q pc) q (ints (L ++ psh hn (T.take (j + 1)))) from by
                        have := hO.out
                        rw [hbe, List.take_length] at this
                        rw [hps'.out]
                        simp only [if_true]
                        rw [← List.append_assoc]
                        exact this)
                      have hfw' := Lib.hid hfw
                      clear hO hfw hWw hbd
                      go_wp2_with fail
                      go_roundw
                      case rel => exact ⟨j + 1, po, pc, q, rfl, by go_num, by omega, hO2, hr, hfw'.out⟩
                      case measure => simp [intOf]; omega
                · have g1 : ((hn : Int) != (k : Int)) = true := by simp; omega
                  have hO2 := Lib.hid (show wr.ownsRow w2.heap.size 3 1 (.slice po q pc) q (ints (L ++ psh k (T.take (j + 1)))) from by
                    rw [hps'.out, if_neg hh, List.append_nil]
                    exact hO.out)
                  clear hO hh
                  go_wp2_with fail
                  go_roundw
                  case rel => exact ⟨j + 1, po, pc, q, rfl, by go_num, by omega, hO2, hr, hfw'.out⟩
                  case measure => simp [intOf]; omega
              · have e2 : decide ((j : Int) < (T.length : Int)) = false := by rw [decide_eq_false_iff_not]; omega
                have hje : j = T.length := by omega
                have hO2 := Lib.hid (show wr.ownsRow w2.heap.size 3 1 (.slice po q pc) q (ints (L ++ psh k T)) from by
                  have := hO.out
                  rw [hje, List.take_length] at this
                  exact this)
                have hql : q ≤ r + N := by
                  have h1 := psh_len k T
                  have h2 := hLr.out
                  have h3 := hNT'.out
                  rw [hje, List.take_length] at hlen
                  omega
                have hfw' := Lib.hid hfw
                have hless := pile_less (n := N) (m := r) hlt.out
                have hmm := hm.out
                have hmu : muE S (updG X k true) * (N + 1) + q < muE S X * (N + 1) + (r + 1) := by omega
                clear hO hfw hWw hlen hless
                go_wp2_with fail
                go_roundg (muE S (updG X k true) * (N + 1) + q)
                case measure => omega
                case rel => exact ⟨po, pc, q, L ++ psh k T, updG X k true, rfl, hO2, Lib.hid rfl, Lib.hid (by have := hmb.out; omega), hC2, hr, hfw'.out⟩
end
end Go.Proofs.Ytbckikcfcclioaa
