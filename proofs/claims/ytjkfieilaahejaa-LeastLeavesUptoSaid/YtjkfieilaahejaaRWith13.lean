/-
  The document's Without.
-/
import Derived.Test.YtjkfieilaahejaaLeft13
import Derived.Test.YtjkfieilaahejaaWithout13
namespace Go.Proofs.Ytjkfieilaahejaa
open Go.RowKit
set_option linter.unusedVariables false
set_option linter.unusedSimpArgs false
/-- What the document has put in, of the first productions. -/
def RW (E : Nat → Bool) (T : List Tr) (i : Nat) (Dd : List Tr) : Prop :=
  Dd.length ≤ i * 4096 ∧ (∀ t ∈ Dd, t.2.2.length ≤ 1048576) ∧ Up (Dd.map pl) ∧ ∀ x, x ∈ Dd.map pl ↔ x ∈ outT E (T.take i)
theorem RW.nil (E : Nat → Bool) (T : List Tr) : RW E T 0 [] := ⟨Nat.zero_le _, fun t h => (by cases h), (by simp [Up]), fun x => (by simp [outT])⟩
theorem RW.step {E : Nat → Bool} {T : List Tr} {i : Nat} {t : Tr} {A B : List Tr} (h : RW E T i A) (ht : T[i]? = some t) (hl : t.2.2.length ≤ 1048576) (hm : (placesF E 0 t.2.2).length ≤ 12) (k : LeftOK E t.1 t.2.2 [] A B) : RW E T (i + 1) B := by
  obtain ⟨h1, h2, h3, h4⟩ := h
  have h5 := left_lens (B := 1048576) k h2 (by simpa using hl)
  obtain ⟨k1, k2, k3⟩ := k
  have hp : 2 ^ (placesF E 0 t.2.2).length ≤ 2 ^ 12 := Nat.pow_le_pow_right (by decide) hm
  obtain ⟨k4, k5⟩ := k3 h3
  refine ⟨by have : 2 ^ 12 = 4096 := by decide
             omega, h5, k4, fun x => (k5 x).trans ?_⟩
  have hT : T.take (i + 1) = T.take i ++ [t] := by
    obtain ⟨hi, e⟩ := List.getElem?_eq_some_iff.1 ht
    rw [List.take_succ_eq_append_getElem hi, e]
  rw [h4 x, outT_mem, outT_mem, hT]
  constructor
  · rintro (⟨u, hu, h⟩ | ⟨y, hy, hn, rfl⟩)
    · exact ⟨u, List.mem_append_left _ hu, h⟩
    · exact ⟨t, by simp, rfl, by simpa using hn, by simpa using hy⟩
  · rintro ⟨u, hu, e1, e2, e3⟩
    rcases List.mem_append.1 hu with hu | hu
    · exact .inl ⟨u, hu, e1, e2, e3⟩
    · rw [List.mem_singleton.1 hu] at e1 e3
      exact .inr ⟨x.2, e3, by simpa using e2, by rw [List.nil_append, ← e1]⟩
section
set_option maxHeartbeats 8000000
set_option maxRecDepth 100000
theorem rwithout_any (S : Nat) (pv : Value) (T : List Tr) (w : World) (hP : Prods w pv T) (hs : T.length ≤ 1048576) (hs2 : ∀ t ∈ T, t.2.2.length ≤ 1048576) (hcp : ∀ t ∈ T, Capd t.2.1) (hok : CnfOK (S : Int) T) :
    Calls Try.prog 14 #[.agg #[.int .i64 (S : Int), pv]] w fun e w' => Far (fun _ => False) w w' ∧ ∃ E s, E = (fun k => (s k == 0 : Bool)) ∧ ClosedS T s ∧ LeastS T s ∧ RngS s ∧
      (((∃ t ∈ T, 12 < (placesF E 0 t.2.2).length) ∧ e = .returned (.tuple #[.agg #[.int .i64 0, .slice none 0 0], .int .i64 230])) ∨
       ((∀ t ∈ T, (placesF E 0 t.2.2).length ≤ 12) ∧ ∃ R ao c, e = .returned (.tuple #[.agg #[.int .i64 (S : Int), .slice ao R.length c], .int .i64 0]) ∧ Prods w' (.slice ao R.length c) R ∧ RW E T T.length R)) := by
  obtain ⟨ao, ac, rfl⟩ := Src.form hP.1
  obtain ⟨h0, hh0⟩ : ∃ h, h = w.heap.size := ⟨_, rfl⟩
  obtain ⟨kR, hkR⟩ : ∃ k, k = h0 + 1 := ⟨_, rfl⟩
  obtain ⟨w0, hw0⟩ : ∃ w0, w0 = (w.alloc (.cells #[.int .i64 (S : Int), .slice ao T.length ac] 24)).alloc (.cells #[.int .i64 0, .slice none 0 0] 24) := ⟨_, rfl⟩
  have hA0 : Bk w0 h0 24 #[.int .i64 (S : Int), .slice ao T.length ac] := hw0 ▸ (Bk.new hh0).alloc _
  have hR0 : Bk w0 kR 24 #[.int .i64 0, .slice none 0 0] := hw0 ▸ Bk.new (by simp [hkR, hh0])
  have hF0 : Far (fun _ => False) w w0 := hw0 ▸ ((Far.refl _ w).alloc _).alloc _
  have RE := Lib.hid (rempty_any S (.slice ao T.length ac) T w0 (hP.move hF0) (by omega) (fun t ht => by have := hs2 t ht; unfold maxLen; omega) hok)
  have q0 : w0.cell? ⟨h0, 0, none⟩ = some (.int .i64 (S : Int)) := hA0.cell 0
  have q1 : w0.cell? ⟨h0, 1, none⟩ = some (.slice ao T.length ac) := hA0.cell 1
  have hP' := Lib.hid hP
  have hs2' := Lib.hid hs2
  have hcp' := Lib.hid hcp
  have hA := Lib.hid hA0
  have hR := Lib.hid hR0
  have hF := Lib.hid hF0
  have hh0' := Lib.hid hh0
  have hkR' := Lib.hid hkR
  have hw0' := Lib.hid hw0
  have hsy := Lib.hid (fun t ht => symIn_ok (S := S) hok (t := t) ht)
  have hS1 : S ≤ 1024 := by have := hok.1.2; omega
  clear hP hs2 hcp hok hA0 hR0 hF0 hh0 hkR hw0
  go_enter Try.func14, Try.ntmps14
  go_upto_region 1 with fail
  rw [← hh0'.out, ← hkR'.out, ← hw0'.out]
  go_wp2_with (go_at_call 30; refine RE.out.mono ?_; rintro e w1 ⟨hf1, gR, s, rfl, hbr, hcl, hle, hrg⟩; obtain ⟨E, hE⟩ : ∃ E : Nat → Bool, E = fun k => (s k == 0) := ⟨_, rfl⟩; rw [← hE] at hbr; have hE' := Lib.hid hE; have hF1 := Lib.hid (hF.out.then hf1); have hA1 := Lib.hid (hA.out.far' hf1 id); have hR1 := Lib.hid (hR.out.far' hf1 id); have hbr' := Lib.hid hbr; have hcl' := Lib.hid hcl; have hle' := Lib.hid hle; have hrg' := Lib.hid hrg; have p1 : w1.cell? ⟨h0, 1, none⟩ = some (.slice ao T.length ac) := hA1.out.cell 1; clear hE hf1 hbr hcl hle hrg q0 q1)
  go_loopw [5] (fun iv' wr => ∃ i : Nat, iv' = .int .i64 i ∧ i ≤ T.length ∧ (∀ (j : Nat) (t : Tr), j < i → T[j]? = some t → (placesF E 0 t.2.2).length ≤ 12) ∧ Far (fun _ => False) w1 wr) (fun iv' _ => T.length - (intOf iv').toNat)
  case atStart => exact ⟨0, rfl, Nat.zero_le _, fun j t h => absurd h (Nat.not_lt_zero _), Far.refl _ _⟩
  case round =>
    obtain ⟨i, rfl, hi, hno, hfw⟩ := hrel
    clear p1
    have hno' := Lib.hid hno
    have hAr := Lib.hid (hA1.out.far' hfw id)
    have hRr := Lib.hid (hR1.out.far' hfw id)
    have hFr := Lib.hid (hF1.out.then hfw)
    have hfw' := Lib.hid hfw
    have hbrr := Lib.hid (show BRow wr gR S E from Bk.far' hbr'.out hfw id)
    have p1 : wr.cell? ⟨h0, 1, none⟩ = some (.slice ao T.length ac) := hAr.out.cell 1
    clear hno hfw
    by_cases hlt : i < T.length
    · have e1 : decide ((i : Int) < (T.length : Int)) = true := by rw [decide_eq_true_eq]; omega
      have hii : (i : Int) < (T.length : Int) := by omega
      obtain ⟨wo, hwo⟩ : ∃ W, W = wr := ⟨_, rfl⟩
      rw [← hwo] at p1 hAr hRr hFr hfw' hbrr ⊢
      clear hwo
      obtain ⟨t, ht⟩ : ∃ t, T[i]? = some t := ⟨T[i], List.getElem?_eq_getElem hlt⟩
      obtain ⟨b, off, c, he, hbl, c0, c1, hbd⟩ := (hP'.out.move hFr.out).prod ht
      simp only [Value.slice.injEq] at he
      obtain ⟨rfl, _, rfl⟩ := he
      have hmem := List.mem_of_getElem? ht
      have hl2 := hs2'.out t hmem
      have hsi := hsy.out t hmem
      obtain ⟨hd, tv, l⟩ := t
      simp only [] at c0 c1 hbd hl2 hsi
      obtain ⟨vo, vc, rfl⟩ := Src.form hbd
      have ht' := Lib.hid ht
      have hbd' := Lib.hid hbd
      have hsi' := Lib.hid hsi
      have HK := Lib.hid (fun W (hf : Far (fun _ => False) wo W) => And.intro ((hf.cell (p := ⟨b, off + i * 2 + 1, none⟩) hbl).trans c1) ((hAr.out.far' hf id).cell 1))
      clear ht hbd hsi hmem c0 c1 hbl
      go_wp2_with fail
      go_loopw [6, 7] (fun nv jv wr => ∃ j : Nat, nv = .int .i64 ((placesF E 0 (l.take j)).length : Nat) ∧ jv = .int .i64 j ∧ j ≤ l.length ∧ Far (fun _ => False) wo wr) (fun _ jv _ => l.length - (intOf jv).toNat)
      case atStart => exact ⟨0, rfl, rfl, Nat.zero_le _, Far.refl _ _⟩
      case round =>
        obtain ⟨j, rfl, rfl, hj, hfq⟩ := hrel
        obtain ⟨c1, p2⟩ := HK.out wr hfq
        clear p1
        have hfq' := Lib.hid hfq
        by_cases hjl : j < l.length
        · have e2 : decide ((j : Int) < (l.length : Int)) = true := by rw [decide_eq_true_eq]; omega
          have hjj : (j : Int) < (l.length : Int) := by omega
          obtain ⟨x, hx⟩ : ∃ x, l[j]? = some x := ⟨l[j], List.getElem?_eq_getElem hjl⟩
          obtain ⟨bb, bo, bc, he, hbl2, x0, x1⟩ := (hbd'.out.move hfq).sym hx
          simp only [Value.slice.injEq] at he
          obtain ⟨rfl, _, rfl⟩ := he
          have hxi := hsi'.out x (List.mem_of_getElem? hx)
          obtain ⟨xb, xn⟩ := x
          simp only [] at x0 x1
          have hst := Lib.hid (places_take E l 0 j (xb, xn) hx)
          obtain ⟨m, hm⟩ : ∃ m, m = (placesF E 0 (l.take j)).length := ⟨_, rfl⟩
          have hmb : m ≤ 1048576 := by
            have a := places_bound E (l.take j) 0
            rw [List.length_take] at a
            omega
          have hm' := Lib.hid hm
          rw [← hm]
          have hbq := Lib.hid (show BRow wr gR S E from Bk.far' hbrr.out hfq id)
          clear hm hx hfq
          cases xb with
          | true =>
            have hs3 := Lib.hid (show (placesF E 0 (l.take (j + 1))).length = m by rw [hst.out, hm'.out]; simp [goS])
            clear hxi
            go_wp2_with fail
            go_roundw
            case rel => exact ⟨j + 1, by rw [hs3.out], by go_num, by omega, hfq'.out.alloc _⟩
            case measure => simp [intOf]; omega
          | false =>
            obtain ⟨g0, g1⟩ := hxi rfl
            obtain ⟨k, rfl⟩ : ∃ k : Nat, xn = (k : Int) := ⟨xn.toNat, by omega⟩
            have hk : k < S := by omega
            have hkI : (k : Int) < (S : Int) := by omega
            have d0 : wr.cell? ⟨gR, k, none⟩ = some (.bool (E k)) := BRow.at hbq.out hk
            have hgl : gR < wr.heap.size := Bk.lt hbq.out
            clear g0 g1
            by_cases hem : E k = true
            · rw [hem] at d0
              have hs3 := Lib.hid (show (placesF E 0 (l.take (j + 1))).length = m + 1 by rw [hst.out, hm'.out]; simp [goS, hem])
              clear hem
              go_wp2_with fail
              go_roundw
              case rel => exact ⟨j + 1, by rw [hs3.out]; go_num, by go_num, by omega, hfq'.out.alloc _⟩
              case measure => simp [intOf]; omega
            · have hem' : E k = false := by simpa using hem
              rw [hem'] at d0
              have hs3 := Lib.hid (show (placesF E 0 (l.take (j + 1))).length = m by rw [hst.out, hm'.out]; simp [goS, hem'])
              clear hem hem'
              go_wp2_with fail
              go_roundw
              case rel => exact ⟨j + 1, by rw [hs3.out], by go_num, by omega, hfq'.out.alloc _⟩
              case measure => simp [intOf]; omega
        · have e2 : decide ((j : Int) < (l.length : Int)) = false := by rw [decide_eq_false_iff_not]; omega
          have htk : l.take j = l := List.take_of_length_le (by omega)
          rw [htk]
          clear htk
          obtain ⟨m, hm⟩ : ∃ m, m = (placesF E 0 l).length := ⟨_, rfl⟩
          have hmb : m ≤ 1048576 := by
            have a := places_bound E l 0
            omega
          have hm' := Lib.hid hm
          rw [← hm]
          clear hm
          by_cases h12 : 12 < m
          · have d12 : decide ((12 : Int) < (m : Int)) = true := by rw [decide_eq_true_eq]; omega
            have hbad := Lib.hid (show ∃ t ∈ T, 12 < (placesF E 0 t.2.2).length from ⟨_, List.mem_of_getElem? ht'.out, by rw [← hm'.out]; exact h12⟩)
            have hR2' := Lib.hid (hRr.out.far' hfq id)
            have hff := Lib.hid (hFr.out.then hfq)
            have r0 : wr.cell? ⟨kR, 0, none⟩ = some (.int .i64 0) := hR2'.out.cell 0
            have r1 : wr.cell? ⟨kR, 1, none⟩ = some (.slice none 0 0) := hR2'.out.cell 1
            have f0 : wr.frozen? ⟨kR, 0, none⟩ = false := hR2'.out.free 0
            have f1 : wr.frozen? ⟨kR, 1, none⟩ = false := hR2'.out.free 1
            clear hfq
            go_wp2_with fail
            obtain ⟨V, hV⟩ : ∃ V, V = (wr.setCell ⟨kR, 0, none⟩ (.int .i64 0)).setCell ⟨kR, 1, none⟩ (.slice none 0 0) := ⟨_, rfl⟩
            rw [← hV]
            have hbk : Bk V kR 24 #[.int .i64 0, .slice none 0 0] := hV ▸ (hR2'.out.set 0 (.int .i64 0)).set 1 (.slice none 0 0)
            have x0 : V.cell? ⟨kR, 0, none⟩ = some (.int .i64 0) := hbk.cell 0
            have x1 : V.cell? ⟨kR, 1, none⟩ = some (.slice none 0 0) := hbk.cell 1
            have hfv : Far (fun k => k = kR) wr V := hV ▸ ((Far.refl (fun k => k = kR) wr).set ⟨kR, 0, none⟩ (.int .i64 0) (fun _ => rfl)).set ⟨kR, 1, none⟩ (.slice none 0 0) (fun _ => rfl)
            refine bodyPost_ret (v := .tuple #[.agg #[.int .i64 0, .slice none 0 0], .int .i64 230]) (by simp [results, Try.f14, go_sem, x0, x1]) rfl ?_
            exact ⟨hff.out.out hfv (fun k hk e => by have := hkR'.out; have := hh0'.out; omega), E, s, hE'.out, hcl'.out, hle'.out, hrg'.out, .inl ⟨hbad.out, rfl⟩⟩
          · have d12 : decide ((12 : Int) < (m : Int)) = false := by rw [decide_eq_false_iff_not]; omega
            have hno2 := Lib.hid (show ∀ (j : Nat) (t : Tr), j < i + 1 → T[j]? = some t → (placesF E 0 t.2.2).length ≤ 12 from fun j t hj hx => by
              by_cases e : j = i
              · subst e
                rw [ht'.out] at hx
                cases hx
                show (placesF E 0 l).length ≤ 12
                rw [← hm'.out]
                omega
              · exact hno'.out j t (by omega) hx)
            clear hfq
            go_wp2_with fail
            go_roundw
            case rel => exact ⟨i + 1, by go_num, by omega, hno2.out, hfw'.out.then hfq'.out⟩
            case measure => simp [intOf]; omega
    · have e1 : decide ((i : Int) < (T.length : Int)) = false := by rw [decide_eq_false_iff_not]; omega
      have e2 : decide (i < T.length) = false := by rw [decide_eq_false_iff_not]; exact hlt
      have hall := Lib.hid (show ∀ t ∈ T, (placesF E 0 t.2.2).length ≤ 12 from fun t ht => by
        obtain ⟨j, hj, rfl⟩ := List.getElem_of_mem ht
        exact hno'.out j _ (by omega) (List.getElem?_eq_getElem hj))
      clear hno' hA1 hR1 hF1 hfw' hbr'
      obtain ⟨wo, hwo⟩ : ∃ W, W = wr := ⟨_, rfl⟩
      rw [← hwo] at p1 hAr hRr hFr hbrr ⊢
      clear hwo
      have p0 : wo.cell? ⟨h0, 0, none⟩ = some (.int .i64 (S : Int)) := hAr.out.cell 0
      have hal : h0 < wo.heap.size := hAr.out.lt
      obtain ⟨kO, hkO⟩ : ∃ k, k = wo.heap.size := ⟨_, rfl⟩
      obtain ⟨W1, hW1⟩ : ∃ W, W = wo.alloc (.cells #[.int .i64 (S : Int), .slice none 0 0] 24) := ⟨_, rfl⟩
      have hf1 : Far (fun _ => False) wo W1 := hW1 ▸ alloc_far0 _ _
      have hO1 := Lib.hid (hW1 ▸ Bk.new hkO : Bk W1 kO 24 #[.int .i64 (S : Int), .slice none 0 0])
      have hA2 := Lib.hid (hAr.out.far' hf1 id)
      have hR2 := Lib.hid (hRr.out.far' hf1 id)
      have hF2 := Lib.hid (hFr.out.then hf1)
      have hb2 := Lib.hid (show BRow W1 gR S E from Bk.far' hbrr.out hf1 id)
      have hx := Lib.hid (show h0 < kO ∧ kR < kO ∧ gR < kO ∧ w.heap.size ≤ kO by have := Bk.lt hbrr.out; have := hRr.out.lt; have := hh0'.out; omega)
      have s1 : W1.cell? ⟨h0, 1, none⟩ = some (.slice ao T.length ac) := hA2.out.cell 1
      have hkO' := Lib.hid hkO
      have hW1' := Lib.hid hW1
      clear hkO hW1 hf1 hAr hRr hFr hbrr
      go_upto_region 6 with fail
      rw [← hkO'.out, ← hW1'.out]
      clear p0 p1
      go_wp2_with fail
      clear s1
      go_loopw [10] (fun iv' wr => ∃ (i : Nat) (qo : Option Addr) (qc : Nat) (Dd : List Tr), iv' = .int .i64 i ∧ i ≤ T.length ∧ RW E T i Dd ∧ Bk wr kO 24 #[.int .i64 (S : Int), .slice qo Dd.length qc] ∧ OwnP wr h0 (.slice qo Dd.length qc) Dd ∧ Far (fun k => k = kO) W1 wr) (fun iv' _ => T.length - (intOf iv').toNat)
      case atStart => exact ⟨0, none, 0, [], rfl, Nat.zero_le _, RW.nil E T, hO1.out, ⟨World.ownsRow_nil _ _ _ _, fun t ht => by cases ht⟩, Far.refl _ _⟩
      case round =>
        obtain ⟨i, qo, qc, Dd, rfl, hi, hD, hOr, hown, hfw⟩ := hrel
        have s1 : wr.cell? ⟨h0, 1, none⟩ = some (.slice ao T.length ac) := (hA2.out.far' hfw (by have := hx.out; omega)).cell 1
        have hfx : Far (fun _ => False) w wr := hF2.out.out hfw (fun k hk e => by have := hx.out; omega)
        have hOr' := Lib.hid hOr
        have hfw' := Lib.hid hfw
        by_cases hlt : i < T.length
        · have e1 : decide ((i : Int) < (T.length : Int)) = true := by rw [decide_eq_true_eq]; omega
          have hii : (i : Int) < (T.length : Int) := by omega
          obtain ⟨t, ht⟩ : ∃ t, T[i]? = some t := ⟨T[i], List.getElem?_eq_getElem hlt⟩
          obtain ⟨b, off, c, he, hbl, c0, c1, hbd⟩ := (hP'.out.move hfx).prod ht
          simp only [Value.slice.injEq] at he
          obtain ⟨rfl, _, rfl⟩ := he
          have hmem := List.mem_of_getElem? ht
          have hl2 := hs2'.out t hmem
          have hsi := hsy.out t hmem
          have hca := hcp'.out t hmem
          have h12 := hall.out t hmem
          have hfd := drew_far wr
          have q1 : wr.cell? ⟨kO, 1, none⟩ = some (.slice qo Dd.length qc) := hOr.cell 1
          have hDD := hD.1
          have hpw : 2 ^ (placesF E 0 t.2.2).length ≤ 4096 := Nat.pow_le_pow_right (n := 2) (by decide) h12
          obtain ⟨vo, vc, htv⟩ := Src.form hbd
          have LL : Hid (Calls Try.prog 31 #[.slice qo Dd.length qc, .int .i64 t.1, .slice none 0 0, t.2.1, .slice (some ⟨gR, 0, none⟩) S S] wr.drew fun e w' => ∃ v', e = .returned v' ∧ ∃ L', OwnP w' h0 v' L' ∧ Far (fun _ => False) wr.drew w' ∧ LeftOK E t.1 t.2.2 [] Dd L') := Lib.hid ((left_any S E gR h0 t.1 hS1 t.2.2 [] (.slice qo Dd.length qc) (.slice none 0 0) t.2.1 Dd wr.drew (hown.move hfd) (Src.nil _ _) (hbd.move hfd) hca (Bk.far' (Bk.far' hb2.out hfw (by have := hx.out; omega)) hfd id) (Nat.le_trans (by have := hh0'.out; omega) hfx.size) hsi (by omega) (fun u hu => Nat.le_trans (hD.2.1 u hu) (by decide)) (by simp; omega)).mono fun e w' ⟨v', L', he, h1, h2, h3⟩ => ⟨v', he, L', h1, h2, h3⟩)
          have HS := Lib.hid (fun B (k : LeftOK E t.1 t.2.2 [] Dd B) => RW.step hD ht hl2 h12 k)
          obtain ⟨hd, tv, l⟩ := t
          simp only [] at c0 c1 htv LL HS
          subst htv
          clear hOr hown hfw hfx hbd hl2 hsi hca h12 hD ht hmem hbl hfd hDD hpw
          go_wp2_with fail
          go_region_law
            (first
              | go_loud (refine step_call rfl 31 #[.slice qo Dd.length qc, .int .i64 hd, .slice none 0 0, .slice vo l.length vc, .slice (some ⟨gR, 0, none⟩) S S] ?_ LL.out ?_; (go_simp); rintro v4 w4 ⟨L4, ho4, hf4, hk4⟩; obtain ⟨vo4, vc4, rfl⟩ := Src.form (Src.own ho4.1); have FW4 := Lib.hid ((drew_far wr).then hf4); have hO4 := Lib.hid (hOr'.out.far' FW4.out id); have u0 : w4.cell? ⟨kO, 1, none⟩ = some (.slice qo Dd.length qc) := hO4.out.cell 1; have u1 := hO4.out.free 1; have ho4' := Lib.hid ho4; have hk4' := Lib.hid hk4; clear ho4 hf4 hk4))
          all_goals
            have hS5 := Lib.hid ((Far.refl (fun k => k = kO) w4).set ⟨kO, 1, none⟩ (.slice vo4 L4.length vc4) (fun _ => rfl))
            have hP6 := Lib.hid (ho4'.out.far hS5.out fun k e => ⟨by subst e; have := hx.out; omega, _, _, e ▸ hO4.out, prod_ne_cnf, sym_ne_cnf⟩)
            go_wp2_with fail
            go_roundw
            case rel => exact ⟨i + 1, vo4, vc4, L4, by go_num, by omega, HS.out _ hk4'.out, hO4.out.set 1 _, hP6.out, (hfw'.out.trans FW4.out fun _ _ h => h.elim).trans hS5.out fun _ _ h => h⟩
            case measure => simp [intOf]; omega
        · have e1 : decide ((i : Int) < (T.length : Int)) = false := by rw [decide_eq_false_iff_not]; omega
          have hin : i = T.length := by omega
          rw [hin] at hD
          have hD' := Lib.hid hD
          have hRr := hR2.out.far' hfw (by have := hx.out; omega)
          have o0 : wr.cell? ⟨kO, 0, none⟩ = some (.int .i64 (S : Int)) := hOr.cell 0
          have o1 : wr.cell? ⟨kO, 1, none⟩ = some (.slice qo Dd.length qc) := hOr.cell 1
          have r0 : wr.cell? ⟨kR, 0, none⟩ = some (.int .i64 0) := hRr.cell 0
          have r1 : wr.cell? ⟨kR, 1, none⟩ = some (.slice none 0 0) := hRr.cell 1
          have z0 : wr.frozen? ⟨kR, 0, none⟩ = false := hRr.free 0
          have z1 : wr.frozen? ⟨kR, 1, none⟩ = false := hRr.free 1
          have hfx' := Lib.hid hfx
          have hown' := Lib.hid hown
          have hRr' := Lib.hid hRr
          have hkw := Lib.hid (show h0 ≤ kR ∧ w.heap.size ≤ kR by have := hh0'.out; have := hkR'.out; omega)
          clear hown hOr hfw hRr hin hfx hD
          go_wp2_with fail
          have hS5 := (Far.refl (fun k => k = kR) wr).set ⟨kR, 0, none⟩ (.int .i64 (S : Int)) (fun _ => rfl)
          have hS6 := hS5.set ⟨kR, 1, none⟩ (.slice qo Dd.length qc) (fun _ => rfl)
          have hP6 := Lib.hid (hown'.out.far hS6 fun k e => ⟨by subst e; exact hkw.out.1, _, _, e ▸ hRr'.out, prod_ne_cnf, sym_ne_cnf⟩)
          have hB6 : Bk ((wr.setCell ⟨kR, 0, none⟩ (.int .i64 (S : Int))).setCell ⟨kR, 1, none⟩ (.slice qo Dd.length qc)) kR 24 #[.int .i64 (S : Int), .slice qo Dd.length qc] := (hRr'.out.set 0 (.int .i64 (S : Int))).set 1 _
          have hF6 := Lib.hid (hfx'.out.out hS6 fun k hk e => by have := hkw.out; omega)
          clear o0 o1 r0 r1 z0 z1 hS5 hS6
          generalize ((wr.setCell ⟨kR, 0, none⟩ (.int .i64 (S : Int))).setCell ⟨kR, 1, none⟩ (.slice qo Dd.length qc)) = W6 at *
          have c0 : W6.cell? ⟨kR, 0, none⟩ = some (.int .i64 (S : Int)) := hB6.cell 0
          have c1 : W6.cell? ⟨kR, 1, none⟩ = some (.slice qo Dd.length qc) := hB6.cell 1
          exact bodyPost_ret (v := .tuple #[.agg #[.int .i64 (S : Int), .slice qo Dd.length qc], .int .i64 0]) (by simp [results, Try.f14, go_sem, c0, c1]) rfl ⟨hF6.out, E, s, hE'.out, hcl'.out, hle'.out, hrg'.out, .inr ⟨hall.out, Dd, _, _, rfl, hP6.out.prods, hD'.out⟩⟩
end
end Go.Proofs.Ytjkfieilaahejaa
