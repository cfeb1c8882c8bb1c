/-
  Clean: the program's.
-/
import Derived.Test.YtbckikcfcclioaaUsedF13
import Derived.Test.YtbckikcfcclioaaMadeF13
import Derived.Test.YtbckikcfcclioaaRefClean13
import Derived.Test.YtbckikcfcclioaaGood13
namespace Go.Proofs.Ytbckikcfcclioaa
open Go.RowKit
set_option linter.unusedVariables false
set_option linter.unusedSimpArgs false
def pE (E : Nat → Bool) (t : Tr) : Bool := t.2.2.all (goodF E)
theorem all_take_succ {l : List Sy} {j : Nat} {x : Sy} {E : Nat → Bool} (hx : l[j]? = some x) (h : ∀ y ∈ l.take j, goodF E y = true) (hg : goodF E x = true) : ∀ y ∈ l.take (j + 1), goodF E y = true := take_mem_succ hx h hg
/-- Every body lies in a row of the call's own (or is empty). -/
def OBs (w : World) (T : List Tr) : Prop := ∀ t ∈ T, OB w 0 t.2.1 t.2.2
theorem OBs.far {w w' : World} {F : Nat → Prop} {T : List Tr} (h : OBs w T) (hf : Far F w w') (hF : ∀ k, F k → ∃ t cs, Bk w k t cs ∧ 56 ≠ t) : OBs w' T := fun t ht =>
  (h t ht).far hf (fun _ _ => Nat.zero_le _) fun hr k hk hFk => by
    obtain ⟨ty, cs, hB, hne⟩ := hF k hFk
    exact own_ne hr hB hne hk
theorem OBs.push {w w5 : World} {B n : Nat} {v : Value} {xs : List Value} {T : List Tr} {t : Tr} (h : OBs w T) (ht : w.ownsRow 0 56 2 t.2.1 t.2.2.length (scells t.2.2)) (hv : w.ownsRow B 36 2 v n xs) (hf : Far (fun k => v.ownBlock = some k) w w5) : OBs w5 (T ++ [t]) := fun u hu =>
  (show OB w 0 u.2.1 u.2.2 from (List.mem_append.1 hu).elim (h u) fun e => by rw [List.mem_singleton.1 e]; exact .inr ht).far hf (fun _ _ => Nat.zero_le _) fun hr k hk hFk => rows_ne hr hv prod_ne_sym.symm hk hFk
section
set_option maxHeartbeats 8000000
set_option maxRecDepth 100000
theorem clean_yes (S : Nat) (pv : Value) (T : List Tr) (fo : Option Addr) (n fc : Nat) (f : Nat → Int) (w : World) (hP : Prods w pv T) (hs : T.length * 32 ≤ 140737488351232) (hs2 : ∀ t ∈ T, t.2.2.length * 16 ≤ 140737488351232) (hok : CnfOK (S : Int) T) (hI : Ints w fo n f) (hn : n ≤ maxLen) :
    Calls Try.prog 21 #[.agg #[.int .i64 (S : Int), pv], .slice fo n fc] w fun e w' => Far (fun _ => False) w w' ∧ ((¬ FromOK S n f ∧ e = .returned (.tuple #[.agg #[.int .i64 0, .slice none 0 0], .int .i64 2])) ∨ (FromOK S n f ∧ ∃ pv' T' E U, e = .returned (.tuple #[.agg #[.int .i64 (S : Int), pv'], .int .i64 0]) ∧ Prods w' pv' T' ∧ T'.map pl = (((T.filter (pE E)).filter (pU U))).map pl ∧ ClosedG goodF T E ∧ LeastG goodF T E ∧ ClosedU (T.filter (pE E)) U ∧ (∀ j, FromIn n f j → U j = true) ∧ LeastU (T.filter (pE E)) (FromIn n f) U)) := by
  have hs2m : ∀ t ∈ T, t.2.2.length ≤ maxLen := fun t ht => by have := hs2 t ht; unfold maxLen; omega
  obtain ⟨h0, hh0⟩ : ∃ h, h = w.heap.size := ⟨_, rfl⟩
  obtain ⟨kR, hkR⟩ : ∃ k, k = h0 + 1 := ⟨_, rfl⟩
  obtain ⟨ao, ac, rfl⟩ := Src.form hP.1
  obtain ⟨w0, hw0⟩ : ∃ w0, w0 = (w.alloc (.cells #[.int .i64 (S : Int), .slice ao T.length ac] 24)).alloc (.cells #[.int .i64 0, .slice none 0 0] 24) := ⟨_, rfl⟩
  have hA0 : Bk w0 h0 24 #[.int .i64 (S : Int), .slice ao T.length ac] := hw0 ▸ (Bk.new hh0).alloc _
  have hR0 : Bk w0 kR 24 #[.int .i64 0, .slice none 0 0] := hw0 ▸ Bk.new (by simp [hkR, hh0])
  have hF0 : Far (fun _ => False) w w0 := hw0 ▸ ((Far.refl _ w).alloc _).alloc _
  have hS1 : 1 ≤ S := by have := hok.1.1; omega
  have hS2 : S ≤ 1024 := by have := hok.1.2; omega
  have a0 : w0.cell? ⟨h0, 0, none⟩ = some (.int .i64 (S : Int)) := hA0.cell 0
  have a1 : w0.cell? ⟨h0, 1, none⟩ = some (.slice ao T.length ac) := hA0.cell 1
  have CK := checkFrom_any S (.slice ao T.length ac) T fo n fc f w0 (hP.move hF0) (by omega) hs2m hok (hI.move hF0) hn
  have FR := Lib.hid (fun w' (hf : Far (fun _ => False) w w') => leastF_yes S (.slice ao T.length ac) T w' (hP.move hf) (by omega) hs2m hok)
  have hTl : T.length ≤ 4398046510976 := by omega
  have hkw := Lib.hid (show w.heap.size ≤ kR by omega)
  have hP' := Lib.hid hP
  have hs2' := Lib.hid hs2
  have hs2m' := Lib.hid hs2m
  have hok' := Lib.hid hok
  have hI' := Lib.hid hI
  have hh0' := Lib.hid hh0
  have hkR' := Lib.hid hkR
  have hw0' := Lib.hid hw0
  have hA0' := Lib.hid hA0
  have hR0' := Lib.hid hR0
  have hF0' := Lib.hid hF0
  clear hP hs2 hs2m hok hI hh0 hkR hw0 hA0 hR0 hF0
  go_enter Try.func21, Try.ntmps21
  go_upto_region 1 with fail
  rw [← hh0'.out, ← hkR'.out, ← hw0'.out]
  go_step3
  go_wp2_with fail
  refine CK.mono ?_
  rintro e w1 ⟨hf1, hcase⟩
  have hf1' := Lib.hid hf1
  have hF1 := Lib.hid (hF0'.out.then hf1)
  have hA1 := Lib.hid (hA0'.out.far' hf1 id)
  have hR1 := Lib.hid (hR0'.out.far' hf1 id)
  clear CK hf1 a0 a1
  rcases hcase with ⟨rfl, hfr⟩ | ⟨rfl, hfr⟩
  · have hfr' := Lib.hid hfr
    have a0 : w1.cell? ⟨h0, 0, none⟩ = some (.int .i64 (S : Int)) := hA1.out.cell 0
    have a1 : w1.cell? ⟨h0, 1, none⟩ = some (.slice ao T.length ac) := hA1.out.cell 1
    have F1 := FR.out w1 hF1.out
    clear hfr
    go_wp2_with fail
    refine F1.mono ?_
    rintro e w2 ⟨hf2, gF, E, rfl, hgF, hrF, hcE, hlE⟩
    obtain ⟨kG, hkG⟩ : ∃ k, k = w2.heap.size := ⟨_, rfl⟩
    obtain ⟨w3, hw3⟩ : ∃ w3, w3 = w2.alloc (.cells #[.int .i64 (S : Int), .slice none 0 0] 24) := ⟨_, rfl⟩
    have hF23 : Far (fun _ => False) w2 w3 := hw3 ▸ alloc_far0 _ _
    have hG3 : Bk w3 kG 24 #[.int .i64 (S : Int), .slice none 0 0] := hw3 ▸ Bk.new hkG
    have hA3 := Lib.hid ((hA1.out.far' hf2 id).far' hF23 id)
    have hR3 := Lib.hid ((hR1.out.far' hf2 id).far' hF23 id)
    have hF3r : Hid (BRow w3 gF S E) := Lib.hid (Bk.far' hrF hF23 id)
    have hF3 := Lib.hid ((hF1.out.then hf2).then hF23)
    have hz3 : w3.heap.size = kG + 1 := by rw [hw3]; simp [hkG]
    have hwG := Lib.hid (show w.heap.size ≤ kG by have := hF1.out.size; have := hf2.size; omega)
    have hGA : h0 ≠ kG := by have := (hA1.out.far' hf2 id).lt; omega
    have hGR : kR ≠ kG := by have := (hR1.out.far' hf2 id).lt; omega
    have hGF : gF ≠ kG := by have := Bk.lt hrF; omega
    have a0' : w2.cell? ⟨h0, 0, none⟩ = some (.int .i64 (S : Int)) := (hA1.out.far' hf2 id).cell 0
    have hEE := Lib.hid (show ClosedG goodF T E ∧ LeastG goodF T E from ⟨hcE, hlE⟩)
    have hkG' := Lib.hid hkG
    have hw3' := Lib.hid hw3
    have hz3' := Lib.hid hz3
    have hG3' := Lib.hid hG3
    clear F1 hf2 hgF hrF hcE hlE hkG hw3 hF23 hG3 hz3 a0 a1
    go_upto_region 6 with fail
    rw [← hkG'.out, ← hw3'.out]
    clear a0'
    have a1 : w3.cell? ⟨h0, 1, none⟩ = some (.slice ao T.length ac) := hA3.out.cell 1
    go_wp2_with fail
    go_step3
    go_wp2_with fail
    clear a1
    go_loopg [36] (T.length) (fun k iv wr => ∃ (i : Nat) (qv : Value), iv = .int .i64 i ∧ i ≤ T.length ∧ k = T.length - i ∧ Hid (Bk wr kG 24 #[.int .i64 (S : Int), qv]) ∧ Hid (wr.ownsRow w3.heap.size 36 2 qv ((T.take i).filter (pE E)).length (tcells ((T.take i).filter (pE E)))) ∧ Far (fun k => k = kG) w3 wr)
    case atStart => exact ⟨0, .slice none 0 0, rfl, Nat.zero_le _, rfl, hG3', Lib.hid (World.ownsRow_nil _ _ _ _), Far.refl _ _⟩
    case round =>
      obtain ⟨wo, rfl⟩ : ∃ wo : World, wo = wr := ⟨_, rfl⟩
      obtain ⟨i, qv, rfl, hi, hk, hGr, hown, hfw⟩ := hrel
      have hk' := Lib.hid hk
      have hWr := hF3.out.out hfw (fun k hk e => by have := hwG.out; omega)
      clear hk
      by_cases hlt : i < T.length
      · have e1 : decide ((i : Int) < (T.length : Int)) = true := by rw [decide_eq_true_eq]; omega
        have hii : (i : Int) < (T.length : Int) := by omega
        obtain ⟨t, ht⟩ : ∃ t, T[i]? = some t := ⟨T[i], List.getElem?_eq_getElem hlt⟩
        have hmem := List.mem_of_getElem? ht
        obtain ⟨⟨p0, p1⟩, p2⟩ := hok'.out.2 t hmem
        obtain ⟨bb, off, c, he, hbl, d0, d1, hbd⟩ := hP'.out.prod ht
        simp only [Value.slice.injEq] at he
        obtain ⟨rfl, _, rfl⟩ := he
        have hfs := filt_succ (p := pE E) ht
        have hfl := filt_len (pE E) T i
        have hl2 := hs2m'.out t hmem
        obtain ⟨q0, qb, l⟩ := t
        dsimp only at d0 d1 hbd p0 p1 p2 hl2
        unfold maxLen at hl2
        obtain ⟨hn', rfl⟩ : ∃ hn : Nat, q0 = (hn : Int) := ⟨q0.toNat, by omega⟩
        obtain ⟨bo, bc, rfl⟩ := Src.form hbd
        have c0 : wo.cell? ⟨bb, off + i * 2, none⟩ = some (.int .i64 (hn' : Int)) := (hWr.cell hbl).trans d0
        have c1 : wo.cell? ⟨bb, off + i * 2 + 1, none⟩ = some (.slice bo l.length bc) := (hWr.cell hbl).trans d1
        obtain ⟨ax, hax⟩ : ∃ ax, ax = wo.heap.size := ⟨_, rfl⟩
        obtain ⟨wa, hwa⟩ : ∃ wa, wa = wo.alloc (.cells #[.int .i64 (hn' : Int), .slice bo l.length bc] 36) := ⟨_, rfl⟩
        have hfa : Far (fun _ => False) wo wa := hwa ▸ alloc_far0 _ _
        have hXa : Bk wa ax 36 #[.int .i64 (hn' : Int), .slice bo l.length bc] := hwa ▸ Bk.new hax
        have hWa := Lib.hid (hWr.then hfa)
        have hBa := Lib.hid (hbd.move hWa.out)
        have hfwa := Lib.hid (hfw.trans hfa fun _ _ h => h.elim)
        have hGa := Lib.hid (hGr.out.far' hfa id)
        have howna := Lib.hid (row_far hown.out hfa fun _ _ h => h)
        have hFa : Hid (BRow wa gF S E) := Lib.hid (Bk.far' (Bk.far' hF3r.out hfw hGF) hfa id)
        have hqn : ∀ k, qv.ownBlock = some k → w3.heap.size ≤ k := fun k e => (hown.out.lt k e).1
        have hqk := Lib.hid (show qv.ownBlock ≠ some kG from fun e => by have := hqn _ e; have := hz3'.out; omega)
        have hqn' := Lib.hid hqn
        have hpp := Lib.hid p2
        have hax' := Lib.hid hax
        have hwa' := Lib.hid hwa
        have hfs' := Lib.hid hfs
        have hXa' := Lib.hid hXa
        clear hfs p0 p1 p2 hbl d0 d1 hbd hmem ht hfw hWr hqn hGr hown hax hwa hfa hXa
        go_upto_region 9 with fail
        rw [← hax'.out, ← hwa'.out]
        clear c0 c1
        have x1 : wa.cell? ⟨ax, 1, none⟩ = some (.slice bo l.length bc) := hXa'.out.cell 1
        go_wp2_with fail
        clear x1
        go_loopg [43] (l.length) (fun k jv wq => ∃ (j : Nat), jv = .int .i64 j ∧ j ≤ l.length ∧ k = l.length - j ∧ Hid (∀ y ∈ l.take j, goodF E y = true) ∧ Far (fun _ => False) wa wq)
        case atStart => exact ⟨0, rfl, Nat.zero_le _, rfl, Lib.hid (fun y hy => by simp at hy), Far.refl _ _⟩
        case round =>
          obtain ⟨wq, rfl⟩ : ∃ wq : World, wq = wr := ⟨_, rfl⟩
          obtain ⟨j, rfl, hj, hkj, hgood, hfq⟩ := hrel
          have hkj' := Lib.hid hkj
          clear hkj
          by_cases hjl : j < l.length
          · have e2 : decide ((j : Int) < (l.length : Int)) = true := by rw [decide_eq_true_eq]; omega
            have hjj : (j : Int) < (l.length : Int) := by omega
            obtain ⟨x, hx⟩ : ∃ x, l[j]? = some x := ⟨l[j], List.getElem?_eq_getElem hjl⟩
            obtain ⟨sb, so, sc, he, hsl, s0, s1⟩ := (hBa.out.move hfq).sym hx
            simp only [Value.slice.injEq] at he
            obtain ⟨rfl, _, rfl⟩ := he
            have hmx := List.mem_of_getElem? hx
            have hpx := hpp.out x hmx
            obtain ⟨xb, xn⟩ := x
            dsimp only at s0 s1
            obtain ⟨k, rfl⟩ : ∃ k : Nat, xn = (k : Int) := ⟨xn.toNat, by have := hpx.1; dsimp only at this; omega⟩
            obtain ⟨ay, hay⟩ : ∃ ay, ay = wq.heap.size := ⟨_, rfl⟩
            obtain ⟨wb, hwb⟩ : ∃ wb, wb = wq.alloc (.cells #[.bool xb, .int .i64 (k : Int)] 56) := ⟨_, rfl⟩
            have hfb : Far (fun _ => False) wq wb := hwb ▸ alloc_far0 _ _
            have hYb : Bk wb ay 56 #[.bool xb, .int .i64 (k : Int)] := hwb ▸ Bk.new hay
            have y0 : wb.cell? ⟨ay, 0, none⟩ = some (.bool xb) := hYb.cell 0
            have y1 : wb.cell? ⟨ay, 1, none⟩ = some (.int .i64 (k : Int)) := hYb.cell 1
            have hfqb := Lib.hid (hfq.then hfb)
            have hFb : Hid (BRow wb gF S E) := Lib.hid (Bk.far' hFa.out hfqb.out id)
            have hay' := Lib.hid hay
            have hwb' := Lib.hid hwb
            have hx' := Lib.hid hx
            have hkS : xb = false → k < S := fun h => by have := hpx.2.2 h; dsimp only at this; omega
            clear hx hmx hpx hfq hay hwb hfb hYb hsl
            go_upto_region 12 with fail
            rw [← hay'.out, ← hwb'.out]
            clear s0 s1
            cases xb with
            | true =>
              have hg2 := Lib.hid (all_take_succ hx'.out hgood.out (E := E) rfl)
              clear hkS hgood
              go_wp2_with fail
              go_roundg (l.length - (j + 1))
              case measure => have := hkj'.out; omega
              case rel => exact ⟨j + 1, by go_num, by omega, rfl, hg2, hfqb.out⟩
            | false =>
              have hkS' := hkS rfl
              have hkI : (k : Int) < (S : Int) := by omega
              have u9 : wb.cell? ⟨gF, k, none⟩ = some (.bool (E k)) := BRow.at hFb.out hkS'
              clear hkS
              cases hE : E k with
              | true =>
                rw [hE] at u9
                have hg2 := Lib.hid (all_take_succ hx'.out hgood.out (E := E) (by unfold goodF; simp [hE]))
                clear hE hgood
                go_wp2_with fail
                go_roundg (l.length - (j + 1))
                case measure => have := hkj'.out; omega
                case rel => exact ⟨j + 1, by go_num, by omega, rfl, hg2, hfqb.out⟩
              | false =>
                rw [hE] at u9
                have hpe : pE E ((hn' : Int), .slice (some ⟨sb, so, none⟩) l.length bc, l) = false := by
                  unfold pE
                  dsimp only
                  rw [List.all_eq_false]
                  exact ⟨_, List.mem_of_getElem? hx'.out, by unfold goodF; simp [hE]⟩
                have hN := Lib.hid (show wb.ownsRow w3.heap.size 36 2 qv ((T.take (i + 1)).filter (pE E)).length (tcells ((T.take (i + 1)).filter (pE E))) by rw [hfs'.out, hpe]; simpa using row_far howna.out hfqb.out fun _ _ h => h)
                have hGb := Lib.hid (hGa.out.far' hfqb.out id)
                have hfwb := Lib.hid (hfwa.out.trans hfqb.out fun _ _ h => h.elim)
                clear hE hgood hpe
                go_wp2_with fail
                go_roundg (T.length - (i + 1))
                case measure => have := hk'.out; omega
                case rel => exact ⟨i + 1, qv, by go_num, by omega, rfl, hGb, hN, hfwb.out⟩
          · have e2 : decide ((j : Int) < (l.length : Int)) = false := by rw [decide_eq_false_iff_not]; omega
            have hje : j = l.length := by omega
            have hpe : pE E ((hn' : Int), .slice bo l.length bc, l) = true := by
              unfold pE
              dsimp only
              rw [List.all_eq_true]
              have := hgood.out
              rwa [hje, List.take_length] at this
            obtain ⟨K, hK⟩ : ∃ K, K = (T.take i).filter (pE E) := ⟨_, rfl⟩
            rw [← hK] at hfl
            have hN := Lib.hid (show (T.take (i + 1)).filter (pE E) = K ++ [((hn' : Int), .slice bo l.length bc, l)] by rw [hfs'.out, hpe, hK]; simp)
            have hrM := Lib.hid (show wq.ownsRow w3.heap.size 36 2 qv K.length (tcells K) from hK ▸ row_far howna.out hfq fun _ _ h => h)
            have hGq := Lib.hid (hGa.out.far' hfq id)
            have hXq := Lib.hid (hXa'.out.far' hfq id)
            have hfwq := Lib.hid (hfwa.out.trans hfq fun _ _ h => h.elim)
            have x0 : wq.cell? ⟨ax, 0, none⟩ = some (.int .i64 (hn' : Int)) := hXq.out.cell 0
            have x1 : wq.cell? ⟨ax, 1, none⟩ = some (.slice bo l.length bc) := hXq.out.cell 1
            have q0 : wq.cell? ⟨kG, 1, none⟩ = some qv := hGq.out.cell 1
            obtain ⟨pi, pz, pi1, pi2, pi3, pi4, pi5⟩ := info3 info_prod
            have A7 : 0 < 2 := by decide
            have B1' : Hid ((wq.alloc (.cells #[.int .i64 (hn' : Int), .slice bo l.length bc] 36)).ownsRow w3.heap.size 36 2 qv K.length (tcells K)) := Lib.hid (hrM.out.alloc _)
            have B2' : Hid (Src (wq.alloc (.cells #[.int .i64 (hn' : Int), .slice bo l.length bc] 36)) 2 (.slice (some ⟨wq.heap.size, 0, none⟩) 1 1) 1 [.int .i64 (hn' : Int), .slice bo l.length bc]) := Lib.hid (src_new wq 36 [.int .i64 (hn' : Int), .slice bo l.length bc])
            have B3' : Hid (∀ u ∈ [Value.int .i64 (hn' : Int), .slice bo l.length bc], u.oneCell' = true) := Lib.hid (by simp [Value.oneCell'])
            have B4 : K.length + 1 ≤ maxLen := by unfold maxLen; omega
            have B5 : (K.length + 1) * 32 ≤ 140737488355328 := by omega
            have B6 : w3.heap.size ≤ (wq.alloc (.cells #[.int .i64 (hn' : Int), .slice bo l.length bc] 36)).heap.size := by have := hfwq.out.size; simp; omega
            clear hje hpe hgood hK hfs' hfq
            go_wp2_with (at_builtin; refine wpList_app rfl _ _ 22 rfl w3.heap.size 36 pi pz 2 32 Try.underlying22 pi1 pi2 pi3 pi4 pi5 A7 qv K.length _ rfl B1'.out (.slice (some ⟨wq.heap.size, 0, none⟩) 1 1) 1 _ rfl B2'.out B3'.out B4 B5 B6 ?_; intro v2 w5 ho5 hg5; obtain ⟨vo2, vc2, rfl⟩ := Src.form (Src.own ho5); have hO5 := Bk.grown (w := (wq.alloc (.cells #[.int .i64 (hn' : Int), .slice bo l.length bc] 36))) (Bk.alloc hGq.out _) hg5 hqk.out; have u0 := hO5.cell 1; have u1 := hO5.free 1; have ho5' := Lib.hid ho5; have hg5' := Lib.hid hg5; have hO5' := Lib.hid hO5; clear ho5 hg5 hO5; simp at u0)
            have hS5 := (Far.refl (fun k => k = kG) w5).set ⟨kG, 1, none⟩ (.slice vo2 (K.length + 1) vc2) (fun _ => rfl)
            have hR6 := Lib.hid (show (w5.setCell ⟨kG, 1, none⟩ (.slice vo2 (K.length + 1) vc2)).ownsRow w3.heap.size 36 2 (.slice vo2 (K.length + 1) vc2) ((T.take (i + 1)).filter (pE E)).length (tcells ((T.take (i + 1)).filter (pE E))) by
              rw [hN.out, List.length_append, tcells_app]
              exact row_far ho5'.out hS5 fun k e h => by have := (ho5'.out.lt k e).1; have := hz3'.out; omega)
            have hF6 := Lib.hid (((hfwq.out.trans ((Far.refl (fun _ => False) wq).alloc _) (fun _ _ h => h.elim)).trans (grown_far hg5'.out) fun k hk e => by have := hqn'.out k e; omega).trans hS5 fun _ _ h => h)
            have hO6 := Lib.hid (hO5'.out.set 1 (.slice vo2 (K.length + 1) vc2))
            clear u0 u1 q0 x0 x1 hS5
            go_roundg (T.length - (i + 1))
            case measure => have := hk'.out; omega
            case rel => exact ⟨i + 1, .slice vo2 (K.length + 1) vc2, by go_num, by omega, rfl, hO6, hR6, hF6.out⟩
      · have e1 : decide ((i : Int) < (T.length : Int)) = false := by rw [decide_eq_false_iff_not]; omega
        have hin : i = T.length := by omega
        obtain ⟨M, hM⟩ : ∃ M, M = T.filter (pE E) := ⟨_, rfl⟩
        have hown2 : wo.ownsRow w3.heap.size 36 2 qv M.length (tcells M) := by
          have := hown.out
          rw [hin, List.take_length, ← hM] at this
          exact this
        have hMl : M.length ≤ T.length := hM ▸ List.length_filter_le _ _
        have hPM : Prods wo qv M := ⟨Src.own hown2, fun t ht => (hP'.out.move hWr).2 t (mem_filt (hM ▸ ht))⟩
        have okM : CnfOK (S : Int) M := hM ▸ ok_filter _ hok'.out
        have hs2M : ∀ t ∈ M, t.2.2.length ≤ maxLen := fun t ht => hs2m'.out t (mem_filt (hM ▸ ht))
        have hs2N : ∀ t ∈ M, t.2.2.length * 16 ≤ 140737488351232 := fun t ht => hs2'.out t (mem_filt (hM ▸ ht))
        obtain ⟨qo, qc, rfl⟩ := Src.form hPM.1
        have RU := used_any S (.slice qo M.length qc) M fo n fc f wo hPM (by omega) hs2M okM (hI'.out.move hWr) hn hfr'.out
        have o0 : wo.cell? ⟨kG, 0, none⟩ = some (.int .i64 (S : Int)) := hGr.out.cell 0
        have o1 : wo.cell? ⟨kG, 1, none⟩ = some (.slice qo M.length qc) := hGr.out.cell 1
        have hRr := Lib.hid (hR3.out.far' hfw hGR)
        have hAr := Lib.hid (hA3.out.far' hfw hGA)
        have hWr' := Lib.hid hWr
        have hPM' := Lib.hid hPM
        have okM' := Lib.hid okM
        have hM' := Lib.hid hM
        have hs2N' := Lib.hid hs2N
        clear hown hown2 hM hPM okM hs2M hs2N hfw hWr hin
        go_wp2_with fail
        refine RU.mono ?_
        rintro e w4 ⟨hf4, gU, U, rfl, hgU, hrU, hcU, hfU, hlU⟩
        have hA4 := hAr.out.far' hf4 id
        have a4 : w4.cell? ⟨h0, 0, none⟩ = some (.int .i64 (S : Int)) := hA4.cell 0
        obtain ⟨kC, hkC⟩ : ∃ k, k = w4.heap.size := ⟨_, rfl⟩
        obtain ⟨w5, hw5⟩ : ∃ w5, w5 = w4.alloc (.cells #[.int .i64 (S : Int), .slice none 0 0] 24) := ⟨_, rfl⟩
        have hF45 : Far (fun _ => False) w4 w5 := hw5 ▸ alloc_far0 _ _
        have hf5 := hf4.then hF45
        have hC5 : Bk w5 kC 24 #[.int .i64 (S : Int), .slice none 0 0] := hw5 ▸ Bk.new hkC
        have hz5 : w5.heap.size = kC + 1 := by rw [hw5]; simp [hkC]
        have hG5 := hGr.out.far' hf5 id
        have g1 : w5.cell? ⟨kG, 1, none⟩ = some (.slice qo M.length qc) := hG5.cell 1
        have hR5 := Lib.hid (hRr.out.far' hf5 id)
        have hU5 : Hid (BRow w5 gU S U) := Lib.hid (Bk.far' hrU hF45 id)
        have hW5 := Lib.hid (hWr'.out.then hf5)
        have hPM4 := Lib.hid (hPM'.out.move hf4)
        have hF45' := Lib.hid hF45
        have hCR : kR ≠ kC := by have := (hRr.out.far' hf4 id).lt; omega
        have hCU : gU ≠ kC := by have := Bk.lt hrU; omega
        have hwC := Lib.hid (show w.heap.size ≤ kC by have := hWr'.out.size; have := hf4.size; omega)
        have hUU := Lib.hid (show ClosedU M U ∧ (∀ j, FromIn n f j → U j = true) ∧ LeastU M (FromIn n f) U from ⟨hcU, hfU, hlU⟩)
        have hkC' := Lib.hid hkC
        have hw5' := Lib.hid hw5
        have hz5' := Lib.hid hz5
        have hC5' := Lib.hid hC5
        have hG5' := Lib.hid hG5
        clear hA4 hkC hw5 hF45 hf5 hC5 hz5 hrU hgU hcU hfU hlU hf4 hG5 RU o0 o1
        go_upto_region 18 with fail
        rw [← hkC'.out, ← hw5'.out]
        clear a4
        go_wp2_with fail
        clear g1
        go_loopw [75] (fun iv wr => ∃ (i : Nat) (qv : Value) (T' : List Tr), iv = .int .i64 i ∧ i ≤ M.length ∧ Hid (Bk wr kC 24 #[.int .i64 (S : Int), qv]) ∧ Hid (OwnP wr kC qv T') ∧ Hid (OBs wr T') ∧ Hid (T'.map pl = ((M.take i).filter (pU U)).map pl) ∧ Far (fun k => k = kC) w5 wr) (fun iv _ => M.length - (intOf iv).toNat)
        case atStart => exact ⟨0, .slice none 0 0, [], rfl, Nat.zero_le _, hC5', Lib.hid ⟨World.ownsRow_nil _ _ _ _, fun t ht => by cases ht⟩, Lib.hid (fun t ht => by cases ht), Lib.hid (by simp), Far.refl _ _⟩
        case round =>
          obtain ⟨i, qv, T', rfl, hi, hCr, hown, hobs, hmap, hfw⟩ := hrel
          have hWr := hW5.out.out hfw (fun k hk e => by have := hwC.out; omega)
          have hTl' : T'.length ≤ M.length := by
            have := congrArg List.length hmap.out
            rw [List.length_map, List.length_map] at this
            have := filt_len (pU U) M i
            omega
          by_cases hlt : i < M.length
          · have e1 : decide ((i : Int) < (M.length : Int)) = true := by rw [decide_eq_true_eq]; omega
            have hii : (i : Int) < (M.length : Int) := by omega
            obtain ⟨t, ht⟩ : ∃ t, M[i]? = some t := ⟨M[i], List.getElem?_eq_getElem hlt⟩
            have hmem := List.mem_of_getElem? ht
            obtain ⟨⟨p0, p1⟩, p2⟩ := okM'.out.2 t hmem
            obtain ⟨bb, off, c, he, hbl3, d0', d1', hbd⟩ := hPM4.out.prod ht
            have hbl := Nat.lt_of_lt_of_le hbl3 hF45'.out.size
            have d0 := (hF45'.out.cell (p := ⟨bb, off + i * 2, none⟩) hbl3).trans d0'
            have d1 := (hF45'.out.cell (p := ⟨bb, off + i * 2 + 1, none⟩) hbl3).trans d1'
            clear d0' d1'
            have hMr : ∀ b o, b ≠ kC → b < w5.heap.size → wr.cell? ⟨b, o, none⟩ = w5.cell? ⟨b, o, none⟩ := fun b o h1 h2 => cell_eq (hfw.block b h2 h1)
            simp only [Value.slice.injEq] at he
            obtain ⟨rfl, _, rfl⟩ := he
            have hl16 := hs2N'.out t hmem
            have hbr := (hP'.out.move hWr).2 t (mem_filt (hM'.out ▸ hmem))
            have hfs := filt_succ (p := pU U) ht
            obtain ⟨q0, qb, l⟩ := t
            dsimp only at d0 d1 hbd p0 p1 p2 hl16 hbr
            obtain ⟨hn', rfl⟩ : ∃ hn : Nat, q0 = (hn : Int) := ⟨q0.toNat, by omega⟩
            obtain ⟨bo, bc, rfl⟩ := Src.form hbd
            have hbC : bb ≠ kC := by have := hkC'.out; omega
            have c0 : wr.cell? ⟨bb, off + i * 2, none⟩ = some (.int .i64 (hn' : Int)) := (hMr _ _ hbC hbl).trans d0
            have c1 : wr.cell? ⟨bb, off + i * 2 + 1, none⟩ = some (.slice bo l.length bc) := (hMr _ _ hbC hbl).trans d1
            have hpu : pU U ((hn' : Int), .slice bo l.length bc, l) = U hn' := rfl
            rw [hpu] at hfs
            have hnS : hn' < S := by omega
            have hnI : (hn' : Int) < (S : Int) := by omega
            obtain ⟨ax, hax⟩ : ∃ ax, ax = wr.heap.size := ⟨_, rfl⟩
            obtain ⟨wa, hwa⟩ : ∃ wa, wa = wr.alloc (.cells #[.int .i64 (hn' : Int), .slice bo l.length bc] 36) := ⟨_, rfl⟩
            have hfa : Far (fun _ => False) wr wa := hwa ▸ alloc_far0 _ _
            have hX : Bk wa ax 36 #[.int .i64 (hn' : Int), .slice bo l.length bc] := hwa ▸ Bk.new hax
            have hCa := hCr.out.far' hfa id
            have hoa := hown.out.move hfa
            have hba := Lib.hid (hobs.out.far hfa fun k hk => hk.elim)
            have u9 : wa.cell? ⟨gU, hn', none⟩ = some (.bool (U hn')) := BRow.at (Bk.far' (Bk.far' hU5.out hfw hCU) hfa id) hnS
            have x0 : wa.cell? ⟨ax, 0, none⟩ = some (.int .i64 (hn' : Int)) := hX.cell 0
            have x1 : wa.cell? ⟨ax, 1, none⟩ = some (.slice bo l.length bc) := hX.cell 1
            have q0 : wa.cell? ⟨kC, 1, none⟩ = some qv := hCa.cell 1
            have hXl := hX.lt
            have hCl := hCa.lt
            have hqn := Lib.hid (show ∀ k, qv.ownBlock = some k → w5.heap.size ≤ k from fun k hk => by
              have h1 := (hown.out.1.lt k hk).1
              have n3 : k ≠ kC := fun e => own_ne hoa.1 hCa prod_ne_cnf (e ▸ hk)
              have hz := hz5'.out
              omega)
            have hqax := Lib.hid (show qv.ownBlock ≠ some ax from fun e => by have := (hown.out.1.lt _ e).2; omega)
            have hqk := Lib.hid (own_ne hoa.1 hCa prod_ne_cnf)
            have hh0 : kC ≤ wa.heap.size := by omega
            have CL := Lib.hid (clone_any (.slice bo l.length bc) l wa.drew ((hbr.move hfa).move (drew_far _)) hl16)
            obtain ⟨pi, pz, pi1, pi2, pi3, pi4, pi5⟩ := info3 info_prod
            have A7 : 0 < 2 := by decide
            have B4 : T'.length + 1 ≤ maxLen := by unfold maxLen; omega
            have B5 : (T'.length + 1) * 32 ≤ 140737488355328 := by omega
            have hoa' := Lib.hid hoa
            have hCa' := Lib.hid hCa
            have hX' := Lib.hid hX
            have hfwa := Lib.hid (hfw.trans hfa fun _ _ h => h.elim)
            have hfs' := Lib.hid hfs
            have hax' := Lib.hid hax
            have hwa' := Lib.hid hwa
            have hno : ax ≠ kC := by have := hCr.out.lt; omega
            have hno' : kC ≠ ax := fun e => hno e.symm
            clear hCr hown hfs hpu p0 p1 p2 hbl hbl3 d0 d1 hbd hbr hmem ht hMr hfw hWr hfa hX hCa hoa hax hwa
            go_upto_region 21 with fail
            rw [← hax'.out, ← hwa'.out]
            clear c0 c1
            cases hU : U hn' with
            | false =>
              rw [hU] at u9
              have hm6 := Lib.hid (show T'.map pl = ((M.take (i + 1)).filter (pU U)).map pl by rw [hfs'.out, hU]; simpa using hmap.out)
              clear hU
              go_wp2_with fail
              go_roundw
              case rel => exact ⟨i + 1, qv, T', by go_num, by omega, hCa', hoa', hba, hm6, hfwa.out⟩
              case measure => simp [intOf]; omega
            | true =>
              rw [hU] at u9
              have hm6 := Lib.hid (fun vo vc => show (T' ++ [(((hn' : Int), Value.slice vo l.length vc, l) : Tr)]).map pl = ((M.take (i + 1)).filter (pU U)).map pl by rw [hfs'.out, hU, List.map_append, hmap.out]; simp [pl])
              clear hU
              go_upto_region 22 with fail
              go_region_law
                (first
                  | (refine step_app rfl (.tmp 85) (.tmp 92) 22 rfl kC 36 pi pz 2 32 Try.underlying22 pi1 pi2 pi3 pi4 pi5 A7 qv T'.length _ rfl B1'.out (.slice (some ⟨w8.heap.size, 0, none⟩) 1 1) 1 _ rfl B2'.out B3'.out B4 B5 B6 ?_; intro v2 w9 ho5 hg5; obtain ⟨vo2, vc2, rfl⟩ := Src.form (Src.own ho5); have hO5 := Bk.grown (w := (w8.alloc (.cells #[.int .i64 (hn' : Int), .slice vo l.length vc] 36))) (Bk.alloc hO4.out _) hg5 hqk.out; have hX5 := Bk.grown (w := (w8.alloc (.cells #[.int .i64 (hn' : Int), .slice vo l.length vc] 36))) (Bk.alloc hX4.out _) hg5 hqax.out; have u0 := hO5.cell 1; have u1 := hO5.free 1; have y0 := hX5.cell 0; have y1 := hX5.cell 1; have ho5' := Lib.hid ho5; have hg5' := Lib.hid hg5; have hO5' := Lib.hid hO5; clear ho5 hg5 hO5 hX5; simp at u0 y0 y1)
                  | (refine step_call rfl 34 #[.slice bo l.length bc] ?_ CL.out ?_; (go_simp); rintro v4 w8 ⟨ho4, hf4⟩; skip; obtain ⟨vo, vc, rfl⟩ := Src.form (Src.own ho4); have FW4 := Lib.hid ((drew_far wa).then hf4); have hO4 := Lib.hid (hCa'.out.far' FW4.out id); have hX4 := Lib.hid (hX'.out.far' FW4.out id); have r0 : w8.cell? ⟨ax, 0, none⟩ = some (.int .i64 (hn' : Int)) := hX4.out.cell 0; have r1 : w8.cell? ⟨ax, 1, none⟩ = some (.slice bo l.length bc) := hX4.out.cell 1; have r2 : w8.cell? ⟨kC, 1, none⟩ = some qv := hO4.out.cell 1; have l1 : kC < w8.heap.size := hO4.out.lt; have l2 : ax < w8.heap.size := hX4.out.lt; have n1 : kC ≠ w8.heap.size := (by omega); have n2 : ax ≠ w8.heap.size := (by omega); have n3 : w8.heap.size ≠ ax := (by omega); have ho4' := Lib.hid (row_zero ho4); have hP4 := Lib.hid (hoa'.out.move FW4.out); have B1' := Lib.hid (hP4.out.1.alloc (.cells #[.int .i64 (hn' : Int), .slice vo l.length vc] 36)); have B2' := Lib.hid (src_new w8 36 [.int .i64 (hn' : Int), .slice vo l.length vc]); have B3' := Lib.hid (show ∀ u ∈ [Value.int .i64 (hn' : Int), .slice vo l.length vc], u.oneCell' = true by simp [Value.oneCell']); have B6 : kC ≤ (w8.alloc (.cells #[.int .i64 (hn' : Int), .slice vo l.length vc] 36)).heap.size := (by have := FW4.out.size; simp; omega); clear ho4 hf4))
              all_goals
                have hP5 := Lib.hid (own_push (t := ((hn' : Int), Value.slice vo l.length vc, l)) (hP4.out.move ((Far.refl _ w8).alloc _)) (.inr (row_far ho4'.out ((Far.refl (fun _ => False) w8).alloc _) (fun _ _ h => h))) (grown_far hg5'.out) ho5'.out)
                have hF5 := Lib.hid ((hfwa.out.trans (FW4.out.then ((Far.refl _ w8).alloc _)) (fun _ _ h => h.elim)).trans (grown_far hg5'.out) fun k hk e => by have := hqn.out k e; omega)
                have hS5 := Lib.hid ((Far.refl (fun k => k = kC) w9).set ⟨kC, 1, none⟩ (.slice vo2 (T'.length + 1) vc2) (fun _ => rfl))
                have hP6 := Lib.hid (hP5.out.far hS5.out fun k e => ⟨by omega, _, _, e ▸ hO5'.out, prod_ne_cnf, sym_ne_cnf⟩)
                have hB5 := Lib.hid (OBs.push (t := ((hn' : Int), Value.slice vo l.length vc, l)) ((hba.out.far FW4.out fun k hk => hk.elim).far ((Far.refl (fun _ => False) w8).alloc (.cells #[.int .i64 (hn' : Int), .slice vo l.length vc] 36)) fun k hk => hk.elim) (row_far ho4'.out ((Far.refl (fun _ => False) w8).alloc _) (fun _ _ h => h)) B1'.out (grown_far hg5'.out))
                have hB7 := Lib.hid (hB5.out.far hS5.out fun k e => ⟨_, _, e ▸ hO5'.out, sym_ne_cnf⟩)
                go_wp2_with fail
                go_roundw
                case rel => exact ⟨i + 1, _, _, by go_num, by omega, Lib.hid (hO5'.out.set 1 _), hP6, hB7, Lib.hid (hm6.out vo vc), hF5.out.trans hS5.out fun _ _ h => h⟩
                case measure => simp [intOf]; omega
          · have e1 : decide ((i : Int) < (M.length : Int)) = false := by rw [decide_eq_false_iff_not]; omega
            have hin : i = M.length := by omega
            have hmap2 := Lib.hid (show T'.map pl = (M.filter (pU U)).map pl by have := hmap.out; rwa [hin, List.take_length] at this)
            have hRr := hR5.out.far' hfw hCR
            have r0 : wr.cell? ⟨kR, 0, none⟩ = some (.int .i64 0) := hRr.cell 0
            have r1 : wr.cell? ⟨kR, 1, none⟩ = some (.slice none 0 0) := hRr.cell 1
            have z0 : wr.frozen? ⟨kR, 0, none⟩ = false := hRr.free 0
            have z1 : wr.frozen? ⟨kR, 1, none⟩ = false := hRr.free 1
            obtain ⟨ko, kc, rfl⟩ := Src.form (Src.own hown.out.1)
            have o0 : wr.cell? ⟨kC, 0, none⟩ = some (.int .i64 (S : Int)) := hCr.out.cell 0
            have o1 : wr.cell? ⟨kC, 1, none⟩ = some (.slice ko T'.length kc) := hCr.out.cell 1
            have hRr' := Lib.hid hRr
            have hWr' := Lib.hid hWr
            clear hRr hfw hWr hin
            go_wp2_with fail
            have hS5 := (Far.refl (fun k => k = kR) wr).set ⟨kR, 0, none⟩ (.int .i64 (S : Int)) (fun _ => rfl)
            have hS6 := hS5.set ⟨kR, 1, none⟩ (.slice ko T'.length kc) (fun _ => rfl)
            have hB6 : Bk ((wr.setCell ⟨kR, 0, none⟩ (.int .i64 (S : Int))).setCell ⟨kR, 1, none⟩ (.slice ko T'.length kc)) kR 24 #[.int .i64 (S : Int), .slice ko T'.length kc] := (hRr'.out.set 0 (.int .i64 (S : Int))).set 1 _
            have hF6 := Lib.hid (hWr'.out.out hS6 fun k hk e => by have := hkw.out; omega)
            have hP7 : Hid (Prods ((wr.setCell ⟨kR, 0, none⟩ (.int .i64 (S : Int))).setCell ⟨kR, 1, none⟩ (.slice ko T'.length kc)) (.slice ko T'.length kc) T') := Lib.hid ⟨Src.own (row_far hown.out.1 hS6 fun k e1 e2 => own_ne hown.out.1 hRr'.out prod_ne_cnf (e2 ▸ e1)), fun t ht => (hobs.out.far hS6 (fun k e => ⟨_, _, e ▸ hRr'.out, sym_ne_cnf⟩) t ht).body⟩
            clear o0 o1 r0 r1 z0 z1 hS5 hS6
            generalize ((wr.setCell ⟨kR, 0, none⟩ (.int .i64 (S : Int))).setCell ⟨kR, 1, none⟩ (.slice ko T'.length kc)) = W6 at *
            have c0 : W6.cell? ⟨kR, 0, none⟩ = some (.int .i64 (S : Int)) := hB6.cell 0
            have c1 : W6.cell? ⟨kR, 1, none⟩ = some (.slice ko T'.length kc) := hB6.cell 1
            try rw [Exit.noGoto_ret]
            exact bodyPost_ret (v := .tuple #[.agg #[.int .i64 (S : Int), .slice ko T'.length kc], .int .i64 0]) (by simp [results, Try.f21, go_sem, c0, c1]) rfl ⟨hF6.out, .inr ⟨hfr'.out, _, T', E, U, rfl, hP7.out, by rw [← hM'.out]; exact hmap2.out, hEE.out.1, hEE.out.2, by rw [← hM'.out]; exact hUU.out.1, hUU.out.2.1, by rw [← hM'.out]; exact hUU.out.2.2⟩⟩
  · have hfr' := Lib.hid hfr
    have r0 : w1.cell? ⟨kR, 0, none⟩ = some (.int .i64 0) := hR1.out.cell 0
    have r1 : w1.cell? ⟨kR, 1, none⟩ = some (.slice none 0 0) := hR1.out.cell 1
    have z0 : w1.frozen? ⟨kR, 0, none⟩ = false := hR1.out.free 0
    have z1 : w1.frozen? ⟨kR, 1, none⟩ = false := hR1.out.free 1
    clear hfr
    go_wp2_with fail
    have hS5 := (Far.refl (fun k => k = kR) w1).set ⟨kR, 0, none⟩ (.int .i64 0) (fun _ => rfl)
    have hS6 := hS5.set ⟨kR, 1, none⟩ (.slice none 0 0) (fun _ => rfl)
    have hB6 : Bk ((w1.setCell ⟨kR, 0, none⟩ (.int .i64 0)).setCell ⟨kR, 1, none⟩ (.slice none 0 0)) kR 24 #[.int .i64 0, .slice none 0 0] := (hR1.out.set 0 (.int .i64 0)).set 1 _
    have hF6 := Lib.hid (hF1.out.out hS6 fun k hk e => by have := hkw.out; omega)
    clear r0 r1 z0 z1 hS5 hS6
    generalize ((w1.setCell ⟨kR, 0, none⟩ (.int .i64 0)).setCell ⟨kR, 1, none⟩ (.slice none 0 0)) = W6 at *
    have c0 : W6.cell? ⟨kR, 0, none⟩ = some (.int .i64 0) := hB6.cell 0
    have c1 : W6.cell? ⟨kR, 1, none⟩ = some (.slice none 0 0) := hB6.cell 1
    try rw [Exit.noGoto_ret]
    exact bodyPost_ret (v := .tuple #[.agg #[.int .i64 0, .slice none 0 0], .int .i64 2]) (by simp [results, Try.f21, go_sem, c0, c1]) rfl ⟨hF6.out, .inl ⟨hfr'.out, rfl⟩⟩
end
end Go.Proofs.Ytbckikcfcclioaa
