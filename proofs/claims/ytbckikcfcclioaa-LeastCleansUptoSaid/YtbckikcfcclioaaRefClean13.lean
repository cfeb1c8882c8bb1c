/-
  The document's Clean.
-/
import Derived.Test.YtbckikcfcclioaaRefUsed13
import Derived.Test.YtbckikcfcclioaaRefEF13
namespace Go.Proofs.Ytbckikcfcclioaa
open Go.RowKit
set_option linter.unusedVariables false
set_option linter.unusedSimpArgs false
theorem mem_filt {p : Tr → Bool} {T : List Tr} {t : Tr} (h : t ∈ T.filter p) : t ∈ T := (List.mem_filter.1 h).1
theorem filt_succ {p : Tr → Bool} {T : List Tr} {i : Nat} {t : Tr} (h : T[i]? = some t) : (T.take (i + 1)).filter p = (T.take i).filter p ++ if p t then [t] else [] := by
  obtain ⟨h1, h2⟩ := List.getElem?_eq_some_iff.1 h
  rw [List.take_succ_eq_append_getElem h1, h2, List.filter_append]
  congr 1
  cases hp : p t <;> simp [hp]
theorem filt_len (p : Tr → Bool) (T : List Tr) (i : Nat) : ((T.take i).filter p).length ≤ T.length :=
  Nat.le_trans (List.length_filter_le _ _) (by rw [List.length_take]; omega)
theorem filt_mem {p : Tr → Bool} {T : List Tr} {i : Nat} {t : Tr} (h : t ∈ (T.take i).filter p) : t ∈ T := List.mem_of_mem_take (mem_filt h)
theorem tot_filter (p : Tr → Bool) : ∀ T : List Tr, tot (T.filter p) ≤ tot T
  | [] => Nat.le_refl _
  | t :: T => by
    have := tot_filter p T
    rw [List.filter_cons]
    split <;> simp only [tot] <;> omega
theorem ok_filter {S : Int} {T : List Tr} (p : Tr → Bool) (h : CnfOK S T) : CnfOK S (T.filter p) := ⟨h.1, fun t ht => h.2 t (mem_filt ht)⟩
def pS (s : Nat → Int) (t : Tr) : Bool := decide (0 ≤ long s t.2.2 0)
def pU (U : Nat → Bool) (t : Tr) : Bool := U t.1.toNat
section
set_option maxHeartbeats 8000000
set_option maxRecDepth 100000
theorem rclean_any (S : Nat) (pv : Value) (T : List Tr) (fo : Option Addr) (n fc : Nat) (f : Nat → Int) (w : World) (hP : Prods w pv T) (hs : T.length ≤ 1048576) (hs2 : ∀ t ∈ T, t.2.2.length ≤ maxLen) (hok : CnfOK (S : Int) T) (hI : Ints w fo n f) (hn : n ≤ 1048576) (hN : tot T ≤ 1048576) :
    Calls Try.prog 22 #[.agg #[.int .i64 (S : Int), pv], .slice fo n fc] w fun e w' => Far (fun _ => False) w w' ∧ ((¬ FromOK S n f ∧ e = .returned (.tuple #[.agg #[.int .i64 0, .slice none 0 0], .int .i64 2])) ∨ (FromOK S n f ∧ ∃ pv' s U, e = .returned (.tuple #[.agg #[.int .i64 (S : Int), pv'], .int .i64 0]) ∧ Prods w' pv' ((T.filter (pS s)).filter (pU U)) ∧ ClosedS T s ∧ LeastS T s ∧ RngS s ∧ ClosedU (T.filter (pS s)) U ∧ (∀ j, FromIn n f j → U j = true) ∧ LeastU (T.filter (pS s)) (FromIn n f) U)) := by
  obtain ⟨h0, hh0⟩ : ∃ h, h = w.heap.size := ⟨_, rfl⟩
  obtain ⟨kR, hkR⟩ : ∃ k, k = h0 + 1 := ⟨_, rfl⟩
  obtain ⟨ao, ac, rfl⟩ := Src.form hP.1
  obtain ⟨w0, hw0⟩ : ∃ w0, w0 = (w.alloc (.cells #[.int .i64 (S : Int), .slice ao T.length ac] 24)).alloc (.cells #[.int .i64 0, .slice none 0 0] 24) := ⟨_, rfl⟩
  have hA0 : Bk w0 h0 24 #[.int .i64 (S : Int), .slice ao T.length ac] := hw0 ▸ (Bk.new hh0).alloc _
  have hR0 : Bk w0 kR 24 #[.int .i64 0, .slice none 0 0] := hw0 ▸ Bk.new (by simp [hkR, hh0])
  have hF0 : Far (fun _ => False) w w0 := hw0 ▸ ((Far.refl _ w).alloc _).alloc _
  have hS1 : 1 ≤ S := by have := hok.1.1; omega
  have hS2 : S ≤ 1024 := by have := hok.1.2; omega
  have a0 : w0.cell? ⟨h0, 0, none⟩ = some (.int .i64 (S : Int)) := hA0.cell 0
  have a1 : w0.cell? ⟨h0, 1, none⟩ = some (.slice ao T.length ac) := hA0.cell 1
  have RS := rshort_any S (.slice ao T.length ac) T w0 (hP.move hF0) (by omega) hs2 hok
  have hP' := Lib.hid hP
  have hs2' := Lib.hid hs2
  have hok' := Lib.hid hok
  have hI' := Lib.hid hI
  have hh0' := Lib.hid hh0
  have hkR' := Lib.hid hkR
  have hw0' := Lib.hid hw0
  have hA0' := Lib.hid hA0
  have hR0' := Lib.hid hR0
  have hF0' := Lib.hid hF0
  clear hP hs2 hok hI hh0 hkR hw0 hA0 hR0 hF0
  go_enter Try.func22, Try.ntmps22
  go_upto_region 1 with fail
  rw [← hh0'.out, ← hkR'.out, ← hw0'.out]
  go_wp2_with fail
  refine RS.mono ?_
  rintro e w1 ⟨hf1, gS, s, rfl, hgS, hrS, hcS, hlS, hgS2⟩
  have hF1 := hF0'.out.then hf1
  obtain ⟨kO, hkO⟩ : ∃ k, k = w1.heap.size := ⟨_, rfl⟩
  obtain ⟨w2, hw2⟩ : ∃ w2, w2 = w1.alloc (.cells #[.int .i64 (S : Int), .slice none 0 0] 24) := ⟨_, rfl⟩
  have hF12 : Far (fun _ => False) w1 w2 := hw2 ▸ alloc_far0 _ _
  have hO2 : Bk w2 kO 24 #[.int .i64 (S : Int), .slice none 0 0] := hw2 ▸ Bk.new hkO
  have hA2 := (hA0'.out.far' hf1 id).far' hF12 id
  have hR2 := (hR0'.out.far' hf1 id).far' hF12 id
  have hS2r : Hid (IRow w2 gS S s) := Lib.hid (Bk.far' hrS hF12 id)
  have hF2 := Lib.hid (hF1.then hF12)
  have hz2 : w2.heap.size = kO + 1 := by rw [hw2]; simp [hkO]
  have hwk := Lib.hid (show w.heap.size ≤ kO by have := hF1.size; omega)
  have hOA : h0 ≠ kO := by have := (hA0'.out.far' hf1 id).lt; omega
  have hOR : kR ≠ kO := by have := (hR0'.out.far' hf1 id).lt; omega
  have hOS : gS ≠ kO := by have := Bk.lt hrS; omega
  have hkO2 : kO < w2.heap.size := by omega
  have a0' : w1.cell? ⟨h0, 0, none⟩ = some (.int .i64 (S : Int)) := (hA0'.out.far' hf1 id).cell 0
  have hsh := Lib.hid (show ClosedS T s ∧ LeastS T s ∧ RngS s from ⟨hcS, hlS, hgS2⟩)
  have hkO' := Lib.hid hkO
  have hw2' := Lib.hid hw2
  have hz2' := Lib.hid hz2
  have hA2' := Lib.hid hA2
  have hR2' := Lib.hid hR2
  have hO2' := Lib.hid hO2
  clear RS hf1 hgS hrS hcS hlS hgS2 hF1 hkO hw2 hF12 hO2 hA2 hR2 hz2 a0 a1
  go_upto_region 3 with fail
  rw [← hkO'.out, ← hw2'.out]
  clear a0'
  go_wp2_with fail
  go_loopw [8] (fun iv wr => ∃ (i : Nat) (qv : Value), iv = .int .i64 i ∧ i ≤ T.length ∧ Hid (Bk wr kO 24 #[.int .i64 (S : Int), qv]) ∧ Hid (wr.ownsRow w2.heap.size 36 2 qv ((T.take i).filter (pS s)).length (tcells ((T.take i).filter (pS s)))) ∧ Far (fun k => k = kO) w2 wr) (fun iv _ => T.length - (intOf iv).toNat)
  case atStart => exact ⟨0, .slice none 0 0, rfl, Nat.zero_le _, hO2', Lib.hid (World.ownsRow_nil _ _ _ _), Far.refl _ _⟩
  case round =>
    obtain ⟨i, qv, rfl, hi, hOr, hown, hfw⟩ := hrel
    have b1 : wr.cell? ⟨h0, 1, none⟩ = some (.slice ao T.length ac) := (hA2'.out.far' hfw hOA).cell 1
    have hWr := hF2.out.out hfw (fun k hk e => by have := hwk.out; omega)
    by_cases hlt : i < T.length
    · have e1 : decide ((i : Int) < (T.length : Int)) = true := by rw [decide_eq_true_eq]; omega
      have hii : (i : Int) < (T.length : Int) := by omega
      obtain ⟨t, ht⟩ : ∃ t, T[i]? = some t := ⟨T[i], List.getElem?_eq_getElem hlt⟩
      have hmem := List.mem_of_getElem? ht
      obtain ⟨⟨p0, p1⟩, p2⟩ := hok'.out.2 t hmem
      obtain ⟨bb, off, c, he, hbl, d0, d1, hbd⟩ := hP'.out.prod ht
      simp only [Value.slice.injEq] at he
      obtain ⟨rfl, _, rfl⟩ := he
      have hfs := filt_succ (p := pS s) ht
      have hfl := filt_len (pS s) T i
      have hl2 := hs2'.out t hmem
      obtain ⟨q0, qb, l⟩ := t
      dsimp only at d0 d1 hbd p0 p1 p2 hl2
      obtain ⟨hn, rfl⟩ : ∃ hn : Nat, q0 = (hn : Int) := ⟨q0.toNat, by omega⟩
      obtain ⟨bo, bc, rfl⟩ := Src.form hbd
      have HC := Lib.hid (fun w' (hf : Far (fun _ => False) w w') => (show w'.cell? ⟨bb, off + i * 2, none⟩ = some (.int .i64 (hn : Int)) ∧ w'.cell? ⟨bb, off + i * 2 + 1, none⟩ = some (.slice bo l.length bc) ∧ Body w' (.slice bo l.length bc) l ∧ bb < w'.heap.size from ⟨(hf.cell hbl).trans d0, (hf.cell hbl).trans d1, hbd.move hf, Nat.lt_of_lt_of_le hbl hf.size⟩))
      obtain ⟨c0, c1, hbr, _⟩ := HC.out wr hWr
      have RL := rlong_any S gS s (.slice bo l.length bc) l wr hbr hl2 (show IRow wr gS S s from Bk.far' hS2r.out hfw hOS) (fun x hx hx1 => ⟨(p2 x hx).1, (p2 x hx).2.2 hx1⟩) hsh.out.2.2 hS2
      obtain ⟨g, hg⟩ : ∃ g, g = long s l 0 := ⟨_, rfl⟩
      rw [← hg] at RL
      have hps : pS s ((hn : Int), .slice bo l.length bc, l) = decide (0 ≤ g) := by rw [hg]; rfl
      rw [hps] at hfs
      have hfs' := Lib.hid hfs
      have hfw' := Lib.hid hfw
      have hWr' := Lib.hid hWr
      clear hfs hps hg p0 p1 p2 hbl d0 d1 hbd hbr hmem ht hl2 hfw hWr
      go_wp2_with fail
      refine RL.mono ?_
      rintro e w9 ⟨rfl, hf9⟩
      have hW9 := hWr'.out.then hf9
      obtain ⟨c0', c1', _, l3⟩ := HC.out w9 hW9
      have hO9 := hOr.out.far' hf9 id
      have hrow9 := row_far hown.out hf9 fun _ _ h => h
      have hfw9 := hfw'.out.trans hf9 fun _ _ h => h.elim
      have hA9 := hA2'.out.far' hfw9 hOA
      have q0 : w9.cell? ⟨kO, 1, none⟩ = some qv := hO9.cell 1
      have q1 : w9.frozen? ⟨kO, 1, none⟩ = false := hO9.free 1
      have q2 : w9.cell? ⟨h0, 1, none⟩ = some (.slice (some ⟨bb, off, none⟩) T.length ac) := hA9.cell 1
      have l1 : kO < w9.heap.size := hO9.lt
      have l2 : h0 < w9.heap.size := hA9.lt
      have hqn : ∀ k, qv.ownBlock = some k → w2.heap.size ≤ k := fun k e => (hrow9.lt k e).1
      have hqk := Lib.hid (show qv.ownBlock ≠ some kO from fun e => by have := hqn _ e; omega)
      have hqn' := Lib.hid hqn
      have hO9' := Lib.hid hO9
      have hfw9' := Lib.hid hfw9
      have hrow9' := Lib.hid hrow9
      clear RL hf9 hW9 hO9 hrow9 hfw9 hA9 hqn c0 c1 b1
      by_cases hg0 : g < 0
      · have d0 : decide (g ≥ 0) = false := decide_eq_false (by omega)
        have d0' : decide (0 ≤ g) = false := decide_eq_false (by omega)
        have hN := Lib.hid (show w9.ownsRow w2.heap.size 36 2 qv ((T.take (i + 1)).filter (pS s)).length (tcells ((T.take (i + 1)).filter (pS s))) by rw [hfs'.out, d0']; simpa using hrow9'.out)
        clear hg0
        go_wp2_with fail
        go_roundw
        case rel => exact ⟨i + 1, qv, by go_num, by omega, hO9', hN, hfw9'.out⟩
        case measure => simp [intOf]; omega
      · have d0 : decide (g ≥ 0) = true := decide_eq_true (by omega)
        have d0' : decide (0 ≤ g) = true := decide_eq_true (by omega)
        obtain ⟨M, hM⟩ : ∃ M, M = (T.take i).filter (pS s) := ⟨_, rfl⟩
        rw [← hM] at hfl
        have hN := Lib.hid (show (T.take (i + 1)).filter (pS s) = M ++ [((hn : Int), .slice bo l.length bc, l)] by rw [hfs'.out, d0', hM]; simp)
        have hrM := Lib.hid (show w9.ownsRow w2.heap.size 36 2 qv M.length (tcells M) from hM ▸ hrow9'.out)
        obtain ⟨pi, pz, pi1, pi2, pi3, pi4, pi5⟩ := info3 info_prod
        have A7 : 0 < 2 := by decide
        have B1' : Hid ((w9.alloc (.cells #[.int .i64 (hn : Int), .slice bo l.length bc] 36)).drew.ownsRow w2.heap.size 36 2 qv M.length (tcells M)) := Lib.hid (hrM.out.alloc _)
        have B2' : Hid (Src (w9.alloc (.cells #[.int .i64 (hn : Int), .slice bo l.length bc] 36)).drew 2 (.slice (some ⟨w9.heap.size, 0, none⟩) 1 1) 1 [.int .i64 (hn : Int), .slice bo l.length bc]) := Lib.hid (Src.move (src_new w9 36 [.int .i64 (hn : Int), .slice bo l.length bc]) (drew_far _))
        have B3' : Hid (∀ u ∈ [Value.int .i64 (hn : Int), .slice bo l.length bc], u.oneCell' = true) := Lib.hid (by simp [Value.oneCell'])
        have B4 : M.length + 1 ≤ maxLen := by unfold maxLen; omega
        have B5 : (M.length + 1) * 32 ≤ 140737488355328 := by omega
        have B6 : w2.heap.size ≤ (w9.alloc (.cells #[.int .i64 (hn : Int), .slice bo l.length bc] 36)).drew.heap.size := by have := hfw9'.out.size; simp [World.drew]; omega
        clear hg0 hown hOr hM hrow9' hfs'
        go_upto_region 7 with fail
        go_region_law (refine step_app rfl (.tmp 35) (.tmp 41) 22 rfl w2.heap.size 36 pi pz 2 32 Try.underlying22 pi1 pi2 pi3 pi4 pi5 A7 qv M.length _ rfl B1'.out (.slice (some ⟨w9.heap.size, 0, none⟩) 1 1) 1 _ rfl B2'.out B3'.out B4 B5 B6 ?_; intro v2 w5 ho5 hg5; obtain ⟨vo2, vc2, rfl⟩ := Src.form (Src.own ho5); have hO5 := Bk.grown (w := (w9.alloc (.cells #[.int .i64 (hn : Int), .slice bo l.length bc] 36)).drew) (Bk.alloc hO9'.out _) hg5 hqk.out; have u0 := hO5.cell 1; have u1 := hO5.free 1; have ho5' := Lib.hid ho5; have hg5' := Lib.hid hg5; have hO5' := Lib.hid hO5; clear ho5 hg5 hO5; simp at u0)
        all_goals (go_wp2_with fail)
        all_goals
          have hS5 := (Far.refl (fun k => k = kO) w5).set ⟨kO, 1, none⟩ (.slice vo2 (M.length + 1) vc2) (fun _ => rfl)
          have hR6 := Lib.hid (show (w5.setCell ⟨kO, 1, none⟩ (.slice vo2 (M.length + 1) vc2)).ownsRow w2.heap.size 36 2 (.slice vo2 (M.length + 1) vc2) ((T.take (i + 1)).filter (pS s)).length (tcells ((T.take (i + 1)).filter (pS s))) by
            rw [hN.out, List.length_append, tcells_app]
            exact row_far ho5'.out hS5 fun k e h => by have := (ho5'.out.lt k e).1; omega)
          have hF6 := Lib.hid (((hfw9'.out.trans ((Far.refl (fun _ => False) w9).alloc _).drew (fun _ _ h => h.elim)).trans (grown_far hg5'.out) fun k hk e => by have := hqn'.out k e; omega).trans hS5 fun _ _ h => h)
          have hO6 := Lib.hid (hO5'.out.set 1 (.slice vo2 (M.length + 1) vc2))
          clear u0 u1 q0 q1 q2 hS5
          go_roundw
          case rel => exact ⟨i + 1, .slice vo2 (M.length + 1) vc2, by go_num, by omega, hO6, hR6, hF6.out⟩
          case measure => simp [intOf]; omega
    · have e1 : decide ((i : Int) < (T.length : Int)) = false := by rw [decide_eq_false_iff_not]; omega
      have hin : i = T.length := by omega
      obtain ⟨M, hM⟩ : ∃ M, M = T.filter (pS s) := ⟨_, rfl⟩
      have hown2 : wr.ownsRow w2.heap.size 36 2 qv M.length (tcells M) := by
        have := hown.out
        rw [hin, List.take_length, ← hM] at this
        exact this
      have hMl : M.length ≤ T.length := hM ▸ List.length_filter_le _ _
      have hPM : Prods wr qv M := ⟨Src.own hown2, fun t ht => (hP'.out.move hWr).2 t (mem_filt (hM ▸ ht))⟩
      have okM : CnfOK (S : Int) M := hM ▸ ok_filter _ hok'.out
      have hNM : tot M ≤ 1048576 := by have := tot_filter (pS s) T; rw [hM]; omega
      have hs2M : ∀ t ∈ M, t.2.2.length ≤ maxLen := fun t ht => hs2'.out t (mem_filt (hM ▸ ht))
      obtain ⟨qo, qc, rfl⟩ := Src.form hPM.1
      have RU := rused_any S (.slice qo M.length qc) M fo n fc f wr hPM (by omega) hs2M okM (hI'.out.move hWr) hn hNM
      have o0 : wr.cell? ⟨kO, 0, none⟩ = some (.int .i64 (S : Int)) := hOr.out.cell 0
      have o1 : wr.cell? ⟨kO, 1, none⟩ = some (.slice qo M.length qc) := hOr.out.cell 1
      have hRr := Lib.hid (hR2'.out.far' hfw hOR)
      have hAr := Lib.hid (hA2'.out.far' hfw hOA)
      have hWr' := Lib.hid hWr
      have hPM' := Lib.hid hPM
      have okM' := Lib.hid okM
      have hM' := Lib.hid hM
      clear hown hown2 hM hPM okM hs2M hNM hfw hWr hin
      go_wp2_with fail
      refine RU.mono ?_
      rintro e w3 ⟨hf3, hcase⟩
      have hW3 := Lib.hid (hWr'.out.then hf3)
      have hf3' := Lib.hid hf3
      clear RU o0 o1 b1
      rcases hcase with ⟨hfr, rfl⟩ | ⟨hfr, gU, U, rfl, hrU, hcU, hfU, hlU⟩
      · have hR3 := hRr.out.far' hf3 id
        have r0 : w3.cell? ⟨kR, 0, none⟩ = some (.int .i64 0) := hR3.cell 0
        have r1 : w3.cell? ⟨kR, 1, none⟩ = some (.slice none 0 0) := hR3.cell 1
        have z0 : w3.frozen? ⟨kR, 0, none⟩ = false := hR3.free 0
        have z1 : w3.frozen? ⟨kR, 1, none⟩ = false := hR3.free 1
        have hR3' := Lib.hid hR3
        have hfr' := Lib.hid hfr
        have hkw := Lib.hid (show w.heap.size ≤ kR by have := hkR'.out; have := hh0'.out; omega)
        clear hR3 hfr hf3
        go_wp2_with fail
        have hS5 := (Far.refl (fun k => k = kR) w3).set ⟨kR, 0, none⟩ (.int .i64 0) (fun _ => rfl)
        have hS6 := hS5.set ⟨kR, 1, none⟩ (.slice none 0 0) (fun _ => rfl)
        have hB6 : Bk ((w3.setCell ⟨kR, 0, none⟩ (.int .i64 0)).setCell ⟨kR, 1, none⟩ (.slice none 0 0)) kR 24 #[.int .i64 0, .slice none 0 0] := (hR3'.out.set 0 (.int .i64 0)).set 1 _
        have hF6 := Lib.hid (hW3.out.out hS6 fun k hk e => by have := hkw.out; omega)
        clear r0 r1 z0 z1 hS5 hS6
        generalize ((w3.setCell ⟨kR, 0, none⟩ (.int .i64 0)).setCell ⟨kR, 1, none⟩ (.slice none 0 0)) = W6 at *
        have c0 : W6.cell? ⟨kR, 0, none⟩ = some (.int .i64 0) := hB6.cell 0
        have c1 : W6.cell? ⟨kR, 1, none⟩ = some (.slice none 0 0) := hB6.cell 1
        exact bodyPost_ret (v := .tuple #[.agg #[.int .i64 0, .slice none 0 0], .int .i64 2]) (by simp [results, Try.f22, go_sem, c0, c1]) rfl ⟨hF6.out, .inl ⟨hfr'.out, rfl⟩⟩
      · have hA3 := hAr.out.far' hf3 id
        have a3 : w3.cell? ⟨h0, 0, none⟩ = some (.int .i64 (S : Int)) := hA3.cell 0
        obtain ⟨kC, hkC⟩ : ∃ k, k = w3.heap.size := ⟨_, rfl⟩
        obtain ⟨w4, hw4⟩ : ∃ w4, w4 = w3.alloc (.cells #[.int .i64 (S : Int), .slice none 0 0] 24) := ⟨_, rfl⟩
        have hF34 : Far (fun _ => False) w3 w4 := hw4 ▸ alloc_far0 _ _
        have hC4 : Bk w4 kC 24 #[.int .i64 (S : Int), .slice none 0 0] := hw4 ▸ Bk.new hkC
        have hz4 : w4.heap.size = kC + 1 := by rw [hw4]; simp [hkC]
        have hO4 := Lib.hid ((hOr.out.far' hf3 id).far' hF34 id)
        have hR4 := Lib.hid ((hRr.out.far' hf3 id).far' hF34 id)
        have hU4 : Hid (BRow w4 gU S U) := Lib.hid (Bk.far' hrU hF34 id)
        have hW4 := Lib.hid (hW3.out.then hF34)
        have hPM3 := Lib.hid (hPM'.out.move hf3)
        have hF34' := Lib.hid hF34
        have hCO : kO ≠ kC := by have := (hOr.out.far' hf3 id).lt; omega
        have hCR : kR ≠ kC := by have := (hRr.out.far' hf3 id).lt; omega
        have hCU : gU ≠ kC := by have := Bk.lt hrU; omega
        have hwC := Lib.hid (show w.heap.size ≤ kC by have := hW3.out.size; omega)
        have hUU := Lib.hid (show ClosedU M U ∧ (∀ j, FromIn n f j → U j = true) ∧ LeastU M (FromIn n f) U from ⟨hcU, hfU, hlU⟩)
        have hfr' := Lib.hid hfr
        have hkC' := Lib.hid hkC
        have hw4' := Lib.hid hw4
        have hC4' := Lib.hid hC4
        clear hA3 hkC hw4 hF34 hC4 hz4 hrU hcU hfU hlU hfr hf3
        go_upto_region 12 with fail
        rw [← hkC'.out, ← hw4'.out]
        clear a3
        go_wp2_with fail
        go_loopw [12] (fun iv wr => ∃ (i : Nat) (qv : Value), iv = .int .i64 i ∧ i ≤ M.length ∧ Hid (Bk wr kC 24 #[.int .i64 (S : Int), qv]) ∧ Hid (wr.ownsRow w4.heap.size 36 2 qv ((M.take i).filter (pU U)).length (tcells ((M.take i).filter (pU U)))) ∧ Far (fun k => k = kC) w4 wr) (fun iv _ => M.length - (intOf iv).toNat)
        case atStart => exact ⟨0, .slice none 0 0, rfl, Nat.zero_le _, hC4', Lib.hid (World.ownsRow_nil _ _ _ _), Far.refl _ _⟩
        case round =>
          obtain ⟨i, qv, rfl, hi, hCr, hown, hfw⟩ := hrel
          have b1 : wr.cell? ⟨kO, 1, none⟩ = some (.slice qo M.length qc) := (hO4.out.far' hfw hCO).cell 1
          have hWr := hW4.out.out hfw (fun k hk e => by have := hwC.out; omega)
          by_cases hlt : i < M.length
          · have e1 : decide ((i : Int) < (M.length : Int)) = true := by rw [decide_eq_true_eq]; omega
            have hii : (i : Int) < (M.length : Int) := by omega
            obtain ⟨t, ht⟩ : ∃ t, M[i]? = some t := ⟨M[i], List.getElem?_eq_getElem hlt⟩
            have hmem := List.mem_of_getElem? ht
            obtain ⟨⟨p0, p1⟩, p2⟩ := okM'.out.2 t hmem
            obtain ⟨bb, off, c, he, hbl3, d0', d1', hbd⟩ := hPM3.out.prod ht
            have hbl := Nat.lt_of_lt_of_le hbl3 hF34'.out.size
            have d0 := (hF34'.out.cell (p := ⟨bb, off + i * 2, none⟩) hbl3).trans d0'
            have d1 := (hF34'.out.cell (p := ⟨bb, off + i * 2 + 1, none⟩) hbl3).trans d1'
            clear d0' d1'
            have hMr : ∀ b o, b ≠ kC → b < w4.heap.size → wr.cell? ⟨b, o, none⟩ = w4.cell? ⟨b, o, none⟩ := fun b o h1 h2 => cell_eq (hfw.block b h2 h1)
            simp only [Value.slice.injEq] at he
            obtain ⟨rfl, _, rfl⟩ := he
            have hfs := filt_succ (p := pU U) ht
            have hfl := filt_len (pU U) M i
            obtain ⟨q0, qb, l⟩ := t
            dsimp only at d0 d1 hbd p0 p1 p2
            obtain ⟨hn', rfl⟩ : ∃ hn : Nat, q0 = (hn : Int) := ⟨q0.toNat, by omega⟩
            obtain ⟨bo, bc, rfl⟩ := Src.form hbd
            have hbC : bb ≠ kC := by have := hkC'.out; omega
            have c0 : wr.cell? ⟨bb, off + i * 2, none⟩ = some (.int .i64 (hn' : Int)) := (hMr _ _ hbC hbl).trans d0
            have c1 : wr.cell? ⟨bb, off + i * 2 + 1, none⟩ = some (.slice bo l.length bc) := (hMr _ _ hbC hbl).trans d1
            have hpu : pU U ((hn' : Int), .slice bo l.length bc, l) = U hn' := rfl
            rw [hpu] at hfs
            have hnS : hn' < S := by omega
            have hnI : (hn' : Int) < (S : Int) := by omega
            have u9 : wr.cell? ⟨gU, hn', none⟩ = some (.bool (U hn')) := BRow.at (Bk.far' hU4.out hfw hCU) hnS
            have q0 : wr.cell? ⟨kC, 1, none⟩ = some qv := hCr.out.cell 1
            have q1 : wr.frozen? ⟨kC, 1, none⟩ = false := hCr.out.free 1
            have l1 : kC < wr.heap.size := hCr.out.lt
            have l2 : kO < wr.heap.size := (hO4.out.far' hfw hCO).lt
            have l3 : bb < wr.heap.size := Nat.lt_of_lt_of_le hbl hfw.size
            have hqn : ∀ k, qv.ownBlock = some k → w4.heap.size ≤ k := fun k e => (hown.out.lt k e).1
            have hqk := Lib.hid (show qv.ownBlock ≠ some kC from fun e => by have := hqn _ e; have := hC4'.out.lt; omega)
            have hqn' := Lib.hid hqn
            have hfw' := Lib.hid hfw
            have hfs' := Lib.hid hfs
            clear hfs hpu p0 p1 p2 hbl hbl3 d0 d1 hbd hmem ht hMr hfw hWr hqn
            cases hU : U hn' with
            | false =>
              rw [hU] at u9
              have hN := Lib.hid (show wr.ownsRow w4.heap.size 36 2 qv ((M.take (i + 1)).filter (pU U)).length (tcells ((M.take (i + 1)).filter (pU U))) by rw [hfs'.out, hU]; simpa using hown.out)
              clear hU
              go_wp2_with fail
              go_roundw
              case rel => exact ⟨i + 1, qv, by go_num, by omega, hCr, hN, hfw'.out⟩
              case measure => simp [intOf]; omega
            | true =>
              rw [hU] at u9
              obtain ⟨K, hK⟩ : ∃ K, K = (M.take i).filter (pU U) := ⟨_, rfl⟩
              rw [← hK] at hfl
              have hN := Lib.hid (show (M.take (i + 1)).filter (pU U) = K ++ [((hn' : Int), .slice bo l.length bc, l)] by rw [hfs'.out, hU, hK]; simp)
              have hrM := Lib.hid (show wr.ownsRow w4.heap.size 36 2 qv K.length (tcells K) from hK ▸ hown.out)
              obtain ⟨pi, pz, pi1, pi2, pi3, pi4, pi5⟩ := info3 info_prod
              have A7 : 0 < 2 := by decide
              have B1' : Hid ((wr.alloc (.cells #[.int .i64 (hn' : Int), .slice bo l.length bc] 36)).drew.ownsRow w4.heap.size 36 2 qv K.length (tcells K)) := Lib.hid (hrM.out.alloc _)
              have B2' : Hid (Src (wr.alloc (.cells #[.int .i64 (hn' : Int), .slice bo l.length bc] 36)).drew 2 (.slice (some ⟨wr.heap.size, 0, none⟩) 1 1) 1 [.int .i64 (hn' : Int), .slice bo l.length bc]) := Lib.hid (Src.move (src_new wr 36 [.int .i64 (hn' : Int), .slice bo l.length bc]) (drew_far _))
              have B3' : Hid (∀ u ∈ [Value.int .i64 (hn' : Int), .slice bo l.length bc], u.oneCell' = true) := Lib.hid (by simp [Value.oneCell'])
              have B4 : K.length + 1 ≤ maxLen := by unfold maxLen; omega
              have B5 : (K.length + 1) * 32 ≤ 140737488355328 := by omega
              have B6 : w4.heap.size ≤ (wr.alloc (.cells #[.int .i64 (hn' : Int), .slice bo l.length bc] 36)).drew.heap.size := by have := hfw'.out.size; simp [World.drew]; omega
              clear hU hown hK hfs'
              go_upto_region 16 with fail
              go_region_law (refine step_app rfl (.tmp 74) (.tmp 80) 22 rfl w4.heap.size 36 pi pz 2 32 Try.underlying22 pi1 pi2 pi3 pi4 pi5 A7 qv K.length _ rfl B1'.out (.slice (some ⟨wr.heap.size, 0, none⟩) 1 1) 1 _ rfl B2'.out B3'.out B4 B5 B6 ?_; intro v2 w5 ho5 hg5; obtain ⟨vo2, vc2, rfl⟩ := Src.form (Src.own ho5); have hO5 := Bk.grown (w := (wr.alloc (.cells #[.int .i64 (hn' : Int), .slice bo l.length bc] 36)).drew) (Bk.alloc hCr.out _) hg5 hqk.out; have u0 := hO5.cell 1; have u1 := hO5.free 1; have ho5' := Lib.hid ho5; have hg5' := Lib.hid hg5; have hO5' := Lib.hid hO5; clear ho5 hg5 hO5; simp at u0)
              all_goals (go_wp2_with fail)
              all_goals
                have hS5 := (Far.refl (fun k => k = kC) w5).set ⟨kC, 1, none⟩ (.slice vo2 (K.length + 1) vc2) (fun _ => rfl)
                have hR6 := Lib.hid (show (w5.setCell ⟨kC, 1, none⟩ (.slice vo2 (K.length + 1) vc2)).ownsRow w4.heap.size 36 2 (.slice vo2 (K.length + 1) vc2) ((M.take (i + 1)).filter (pU U)).length (tcells ((M.take (i + 1)).filter (pU U))) by
                  rw [hN.out, List.length_append, tcells_app]
                  exact row_far ho5'.out hS5 fun k e h => by have := (ho5'.out.lt k e).1; have := hC4'.out.lt; omega)
                have hF6 := Lib.hid (((hfw'.out.trans ((Far.refl (fun _ => False) wr).alloc _).drew (fun _ _ h => h.elim)).trans (grown_far hg5'.out) fun k hk e => by have := hqn'.out k e; omega).trans hS5 fun _ _ h => h)
                have hO6 := Lib.hid (hO5'.out.set 1 (.slice vo2 (K.length + 1) vc2))
                clear u0 u1 q0 q1 hS5
                go_roundw
                case rel => exact ⟨i + 1, .slice vo2 (K.length + 1) vc2, by go_num, by omega, hO6, hR6, hF6.out⟩
                case measure => simp [intOf]; omega
          · have e1 : decide ((i : Int) < (M.length : Int)) = false := by rw [decide_eq_false_iff_not]; omega
            have hin : i = M.length := by omega
            obtain ⟨K, hK⟩ : ∃ K, K = M.filter (pU U) := ⟨_, rfl⟩
            have hown2 := Lib.hid (show wr.ownsRow w4.heap.size 36 2 qv K.length (tcells K) by
              have := hown.out
              rw [hin, List.take_length, ← hK] at this
              exact this)
            have hRr := hR4.out.far' hfw hCR
            have r0 : wr.cell? ⟨kR, 0, none⟩ = some (.int .i64 0) := hRr.cell 0
            have r1 : wr.cell? ⟨kR, 1, none⟩ = some (.slice none 0 0) := hRr.cell 1
            have z0 : wr.frozen? ⟨kR, 0, none⟩ = false := hRr.free 0
            have z1 : wr.frozen? ⟨kR, 1, none⟩ = false := hRr.free 1
            obtain ⟨ko, kc, rfl⟩ := Src.form (Src.own hown2.out)
            have o0 : wr.cell? ⟨kC, 0, none⟩ = some (.int .i64 (S : Int)) := hCr.out.cell 0
            have o1 : wr.cell? ⟨kC, 1, none⟩ = some (.slice ko K.length kc) := hCr.out.cell 1
            have hRr' := Lib.hid hRr
            have hWr' := Lib.hid hWr
            have hK' := Lib.hid hK
            have hkw := Lib.hid (show w.heap.size ≤ kR by have := hkR'.out; have := hh0'.out; omega)
            clear hRr hown hfw hWr hin hK
            go_wp2_with fail
            have hS5 := (Far.refl (fun k => k = kR) wr).set ⟨kR, 0, none⟩ (.int .i64 (S : Int)) (fun _ => rfl)
            have hS6 := hS5.set ⟨kR, 1, none⟩ (.slice ko K.length kc) (fun _ => rfl)
            have hB6 : Bk ((wr.setCell ⟨kR, 0, none⟩ (.int .i64 (S : Int))).setCell ⟨kR, 1, none⟩ (.slice ko K.length kc)) kR 24 #[.int .i64 (S : Int), .slice ko K.length kc] := (hRr'.out.set 0 (.int .i64 (S : Int))).set 1 _
            have hF6 := Lib.hid (hWr'.out.out hS6 fun k hk e => by have := hkw.out; omega)
            have hP6 : Hid (Prods ((wr.setCell ⟨kR, 0, none⟩ (.int .i64 (S : Int))).setCell ⟨kR, 1, none⟩ (.slice ko K.length kc)) (.slice ko K.length kc) K) := Lib.hid ⟨Src.own (row_far hown2.out hS6 fun k e h => by have := (hown2.out.lt k e).1; have := hR4.out.lt; omega), fun t ht => (hP'.out.move hF6.out).2 t (mem_filt (hM'.out ▸ mem_filt (hK'.out ▸ ht)))⟩
            clear o0 o1 r0 r1 z0 z1 hS5 hS6
            generalize ((wr.setCell ⟨kR, 0, none⟩ (.int .i64 (S : Int))).setCell ⟨kR, 1, none⟩ (.slice ko K.length kc)) = W6 at *
            have c0 : W6.cell? ⟨kR, 0, none⟩ = some (.int .i64 (S : Int)) := hB6.cell 0
            have c1 : W6.cell? ⟨kR, 1, none⟩ = some (.slice ko K.length kc) := hB6.cell 1
            exact bodyPost_ret (v := .tuple #[.agg #[.int .i64 (S : Int), .slice ko K.length kc], .int .i64 0]) (by simp [results, Try.f22, go_sem, c0, c1]) rfl ⟨hF6.out, .inr ⟨hfr'.out, _, s, U, rfl, by rw [← hM'.out, ← hK'.out]; exact hP6.out, hsh.out.1, hsh.out.2.1, hsh.out.2.2, by rw [← hM'.out]; exact hUU.out.1, hUU.out.2.1, by rw [← hM'.out]; exact hUU.out.2.2⟩⟩
end
end Go.Proofs.Ytbckikcfcclioaa
