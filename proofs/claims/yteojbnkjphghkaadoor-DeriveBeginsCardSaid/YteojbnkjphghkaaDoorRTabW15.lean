/-
  The document's Table: just what each nonterminal derives.
-/
import Derived.Test.YteojbnkjphghkaaDoorRTab15
import Derived.Deep.LoopGhost
namespace Go.Proofs.YteojbnkjphghkaaDoor
open Go.RowKit
set_option linter.unusedVariables false
set_option linter.unusedSimpArgs false
/-- How many are not yet told. -/
def cntF (f : Nat → Bool) : Nat → Nat
  | 0 => 0
  | N + 1 => cntF f N + (if f N then 0 else 1)
theorem cntF_congr {f g : Nat → Bool} : ∀ {N : Nat}, (∀ k, k < N → f k = g k) → cntF f N = cntF g N
  | 0, _ => rfl
  | N + 1, h => by rw [cntF, cntF, cntF_congr fun k hk => h k (by omega), h N (by omega)]
theorem cntF_put {f : Nat → Bool} {k : Nat} (hf : f k = false) : ∀ {N : Nat}, k < N → cntF (updG f k true) N + 1 = cntF f N
  | N + 1, hk => by
    rw [cntF, cntF]
    by_cases e : k = N
    · subst e
      rw [cntF_congr (g := f) fun j hj => by unfold updG; rw [if_neg (by omega)], hf]
      simp [updG]
    · have := cntF_put hf (N := N) (by omega)
      have h2 : updG f k true N = f N := by unfold updG; rw [if_neg (fun q => e q.symm)]
      rw [h2]
      omega
/-- What is told is derived. -/
def TabS (P : List Hb) (W : List Int) (S : Nat) (f : Nat → Bool) : Prop := ∀ a i j, a < S → i ≤ W.length → j ≤ W.length → f (atN (W.length + 1) a i j) = true → i ≤ j → Der P W a i j
/-- What comes of the productions so far is told. -/
def TabC (P : List Hb) (W : List Int) (f : Nat → Bool) : Prop := ∀ p ∈ P, ∀ i j, i ≤ j → j ≤ W.length → ComeP f W p.2 i j → f (atN (W.length + 1) p.1.toNat i j) = true
theorem tab_all {S : Nat} {P : List Hb} {W : List Int} {f : Nat → Bool} (hs : TabS P W S f) (hc : TabC P W f) (hP : ∀ p ∈ P, (0 ≤ p.1 ∧ p.1 < (S : Int)) ∧ ∀ x ∈ p.2, p.2.length = 2 → 0 ≤ x.2 ∧ x.2 < (S : Int)) {a i j : Nat} (ha : a < S) (hij : i ≤ j) (hj : j ≤ W.length) : f (atN (W.length + 1) a i j) = true ↔ Der P W a i j := by
  refine ⟨fun h => hs a i j ha (by omega) hj h hij, fun hd => ?_⟩
  have h9 := der_least (P := P) (W := W) (K := fun q => (0 ≤ q.1 ∧ q.2.1 ≤ q.2.2 ∧ q.2.2 ≤ W.length) ∧ f (atN (W.length + 1) q.1.toNat q.2.1 q.2.2) = true)
    ⟨fun h i hp hi => ⟨⟨(hP _ hp).1.1, Nat.le_refl _, hi⟩, hc _ hp i i (Nat.le_refl _) hi rfl⟩, fun h b n i hp hw => by
      have hi := (List.getElem?_eq_some_iff.1 hw).1
      exact ⟨⟨(hP _ hp).1.1, Nat.le_succ _, hi⟩, hc _ hp i (i + 1) (Nat.le_succ _) hi ⟨rfl, hw⟩⟩⟩
    (fun h b a d c i k j hp h1 h2 => ⟨⟨(hP _ hp).1.1, Nat.le_trans h1.1.2.1 h2.1.2.1, h2.1.2.2⟩, hc _ hp i j (Nat.le_trans h1.1.2.1 h2.1.2.1) h2.1.2.2 ⟨k, h1.1.2.1, h2.1.2.1, h1.2, h2.2⟩⟩) hd
  simpa using h9.2
/-- One cell more. -/
theorem tabS_put {S : Nat} {P : List Hb} {W : List Int} {f : Nat → Bool} (hs : TabS P W S f) {p : Hb} (hp : p ∈ P) (hP : (0 ≤ p.1 ∧ p.1 < (S : Int)) ∧ (p.2.length = 2 → ∀ x ∈ p.2, 0 ≤ x.2 ∧ x.2 < (S : Int))) (hl : p.2.length ≤ 2) {i j : Nat} (hij : i ≤ j) (hj : j ≤ W.length) (hc : ComeP f W p.2 i j) : TabS P W S (updG f (atN (W.length + 1) p.1.toNat i j) true) := by
  intro a' i' j' ha hi hj' hf hij'
  unfold updG at hf
  split at hf
  · rename_i e
    obtain ⟨h1, h2, h3⟩ := atN_inj (by omega) (by omega) (by omega) (by omega) e
    subst h2 h3
    have he : p.1 = (a' : Int) := by omega
    obtain ⟨h, l⟩ := p
    simp only at he hc hp hP hl
    subst he
    match l, hc, hl with
    | [], hc, _ =>
      have hc : i' = j' := hc
      subst hc
      exact .eps hp hi
    | [x], hc, _ =>
      obtain ⟨rfl, hw⟩ := hc
      exact .one (b := x.1) hp hw
    | [x, y], hc, _ =>
      obtain ⟨k, k1, k2, k3, k4⟩ := hc
      have hx := hP.2 rfl x (by simp)
      have hy := hP.2 rfl y (by simp)
      have d1 := hs x.2.toNat i' k (by omega) hi (by omega) k3 k1
      have d2 := hs y.2.toNat k j' (by omega) (by omega) hj k4 k2
      rw [Int.toNat_of_nonneg hx.1] at d1
      rw [Int.toNat_of_nonneg hy.1] at d2
      exact .two (b := x.1) (d := y.1) hp d1 d2
    | x :: y :: z :: l, _, hl => simp at hl
  · exact hs a' i' j' ha hi hj' hf hij'
theorem calls_yes {P : Program} {F : FuncId} {args : Array Value} {w : World} {Q : World → Prop} {C : Prop} (h : Calls P F args w fun e w' => (∃ b : Bool, e = .returned (.bool b) ∧ (b = true ↔ C)) ∧ Q w') (hc : C) : Calls P F args w fun e w' => e = .returned (.bool true) ∧ Q w' := by
  refine h.mono ?_
  rintro e w' ⟨⟨b, rfl, hb⟩, hq⟩
  rw [hb.2 hc]
  exact ⟨rfl, hq⟩
theorem calls_no {P : Program} {F : FuncId} {args : Array Value} {w : World} {Q : World → Prop} {C : Prop} (h : Calls P F args w fun e w' => (∃ b : Bool, e = .returned (.bool b) ∧ (b = true ↔ C)) ∧ Q w') (hc : ¬ C) : Calls P F args w fun e w' => e = .returned (.bool false) ∧ Q w' := by
  refine h.mono ?_
  rintro e w' ⟨⟨b, rfl, hb⟩, hq⟩
  cases b with
  | true => exact absurd (hb.1 rfl) hc
  | false => exact ⟨rfl, hq⟩
section
set_option maxHeartbeats 8000000
set_option maxRecDepth 100000
theorem table_any (S : Nat) (pv wv : Value) (T : List Tr) (Wo : List Int) (w : World) (hP : Prods w pv T) (hw : WdM w wv Wo) (hok : WeakP (S : Int) T) (hn : Wo.length ≤ 64) (hlT : T.length ≤ 4398046510976) :
    Calls Tryd.prog 31 #[.agg #[.int .i64 (S : Int), pv], wv] w fun e w' => ∃ g N f, e = .returned (.slice (some ⟨g, 0, none⟩) N N) ∧ N = S * (Wo.length + 1) * (Wo.length + 1) ∧ BRow w' g N f ∧ (∀ a i j, a < S → i ≤ j → j ≤ Wo.length → (f (atN (Wo.length + 1) a i j) = true ↔ Der (T.map pl) Wo (a : Int) i j)) ∧ Far (fun _ => False) w w' := by
  obtain ⟨ao, ac, rfl⟩ := Src.form hP.1
  obtain ⟨wo', wc', rfl⟩ := Src.form hw
  have hS2 : S ≤ 1024 := by have := hok.1.1; omega
  obtain ⟨h, hh⟩ : ∃ h, h = w.heap.size := ⟨_, rfl⟩
  obtain ⟨g, hg⟩ : ∃ g, g = h + 1 := ⟨_, rfl⟩
  obtain ⟨n, hn0⟩ : ∃ n, n = Wo.length + 1 := ⟨_, rfl⟩
  obtain ⟨m, hm⟩ : ∃ m, m = S * n := ⟨_, rfl⟩
  obtain ⟨N, hN⟩ : ∃ N, N = m * n := ⟨_, rfl⟩
  have hm2 : m ≤ 1024 * 65 := by rw [hm]; exact Nat.mul_le_mul hS2 (by omega)
  have hN2 : N ≤ 1024 * 65 * 65 := by rw [hN]; exact Nat.mul_le_mul hm2 (by omega)
  have e1 : (S : Int) * (n : Int) = (m : Int) := by rw [hm]; simp
  have e2 : (m : Int) * (n : Int) = (N : Int) := by rw [hN]; simp
  have e0 : (Wo.length : Int) + 1 = (n : Int) := by omega
  have w0' : IntKind.i64.wrap (n : Int) = (n : Int) := IntWalk.i64_in _ (by omega)
  have w1' : IntKind.i64.wrap (m : Int) = (m : Int) := IntWalk.i64_in _ (by omega)
  have w2' : IntKind.i64.wrap (N : Int) = (N : Int) := IntWalk.i64_in _ (by omega)
  obtain ⟨w1, hw1⟩ : ∃ w1, w1 = w.alloc (.cells #[.int .i64 (S : Int), .slice ao T.length ac] 24) := ⟨_, rfl⟩
  obtain ⟨W, hW⟩ : ∃ W, W = w1.alloc (.cells (bcells N (fun _ => false)) 4) := ⟨_, rfl⟩
  have z1 : w1.heap.size = g := by rw [hw1]; simp [hg, hh]
  have hF1 : Far (fun _ => False) w w1 := hw1 ▸ afar _ _
  have hF1W : Far (fun _ => False) w1 W := hW ▸ afar _ _
  have hA : Bk w1 h 24 #[.int .i64 (S : Int), .slice ao T.length ac] := hw1 ▸ Bk.new hh
  have a0 : w1.cell? ⟨h, 0, none⟩ = some (.int .i64 (S : Int)) := hA.cell 0
  have hB : BRow W g N (fun _ => false) := hW ▸ Bk.new z1.symm
  have hmk := make_bools N (by omega) w1
  rw [z1, ← hW] at hmk
  have hz := Lib.hid (show w.heap.size = h ∧ h ≠ g ∧ w.heap.size ≤ g by omega)
  have hnN := Lib.hid (show n = Wo.length + 1 ∧ N = S * (Wo.length + 1) * (Wo.length + 1) by rw [hN, hm, hn0]; exact ⟨rfl, rfl⟩)
  have hnb : n ≤ 65 := by omega
  have hw1' := Lib.hid hw1
  have hA' := Lib.hid (hA.far' hF1W id)
  have hB' := Lib.hid hB
  have hFW := Lib.hid (hF1.then hF1W)
  have hP' := Lib.hid hP
  have hw' := Lib.hid hw
  have hok' := Lib.hid hok
  have hPP := Lib.hid (show ∀ p ∈ T.map pl, ((0 ≤ p.1 ∧ p.1 < (S : Int)) ∧ (p.2.length = 2 → ∀ x ∈ p.2, 0 ≤ x.2 ∧ x.2 < (S : Int))) ∧ p.2.length ≤ 2 from fun p hp => by
    obtain ⟨t, ht, rfl⟩ := List.mem_map.1 hp
    have hsy : (0 ≤ t.1 ∧ t.1 < (S : Int)) ∧ ∀ x ∈ t.2.2, symOK (S : Int) x := hok.1.2 t ht
    have hwk := hok.2 t ht
    refine ⟨⟨hsy.1, fun h2 x hx => ?_⟩, ?_⟩
    · have hxb : x.1 = false := by
        show x.1 = false
        have h2 : t.2.2.length = 2 := h2
        match hq : t.2.2, h2 with
        | [a, b], _ =>
          rw [hq] at hwk
          have hab : a.1 = false ∧ b.1 = false := by simpa [weakB, shortB, pairB] using hwk
          have hx : x ∈ t.2.2 := hx
          rw [hq] at hx
          rcases List.mem_cons.1 hx with rfl | hx
          · exact hab.1
          · rw [List.mem_singleton.1 hx]; exact hab.2
      have := hsy.2 x hx
      exact ⟨this.1, this.2.2 hxb⟩
    · show t.2.2.length ≤ 2
      match hq : t.2.2 with
      | [] => simp
      | [a] => simp
      | [a, b] => simp
      | a :: b :: c :: l => rw [hq] at hwk; simp [weakB, shortB, pairB] at hwk)
  clear hP hw hok hh hg hn0 hm hN hw1 hW z1 hF1 hF1W hA hB
  go_enter Tryd.func31, Tryd.ntmps31
  go_upto_region 1 with fail
  rw [hz.out.1, ← hw1'.out]
  go_upto_region 3 with fail
  clear e0 e1 e2 w0' w1' w2' hmk a0
  go_wp2_with fail
  go_loopg [7] (cntF (fun _ => false) N + 1) (fun gk mv wr => ∃ (mb : Bool) (f : Nat → Bool), mv = .bool mb ∧ BRow wr g N f ∧ Far (fun k => k = g) W wr ∧ TabS (T.map pl) Wo S f ∧ (mb = false → TabC (T.map pl) Wo f) ∧ gk = (if mb then cntF f N + 1 else 0))
  case atStart => exact ⟨true, _, rfl, hB'.out, Far.refl _ _, (fun a i j _ _ _ h => by cases h), (fun h => by cases h), rfl⟩
  case round =>
    obtain ⟨mb, f0, rfl, hb, hf, hs, hc, hgk⟩ := hrel
    have hb' := Lib.hid hb
    have hf' := Lib.hid hf
    have hs' := Lib.hid hs
    have hc' := Lib.hid hc
    have hgk' := Lib.hid hgk
    clear hb hf hs hc hgk
    cases mb with
    | false =>
      have hfar := Lib.hid (hFW.out.out hf'.out fun k hk e => by have := hz.out; omega)
      have hPs : ∀ p ∈ T.map pl, (0 ≤ p.1 ∧ p.1 < (S : Int)) ∧ ∀ x ∈ p.2, p.2.length = 2 → 0 ≤ x.2 ∧ x.2 < (S : Int) := fun p hp => ⟨(hPP.out p hp).1.1, fun x hx h2 => (hPP.out p hp).1.2 h2 x hx⟩
      have hall := Lib.hid (fun a i j (ha : a < S) (hij : i ≤ j) (hj : j ≤ Wo.length) => tab_all hs'.out (hc'.out rfl) hPs ha hij hj)
      clear hPs
      go_wp2_with fail
      go_ret
      exact ⟨g, N, rfl, hnN.out.2, f0, hb'.out, hall.out, hfar.out⟩
    | true =>
      obtain ⟨c0, hc0⟩ : ∃ c, c = cntF f0 N := ⟨_, rfl⟩
      have hc0' := Lib.hid hc0
      clear hc0
      obtain ⟨wo, hwo⟩ : ∃ wo, wo = wr := ⟨_, rfl⟩
      rw [← hwo] at hb' hf' ⊢
      clear hwo
      go_wp2_with fail
      go_loopw [7, 8] (fun mv pv wr => ∃ (mb : Bool) (f : Nat → Bool) (p : Nat), mv = .bool mb ∧ pv = .int .i64 p ∧ p ≤ T.length ∧ BRow wr g N f ∧ Far (fun k => k = g) W wr ∧ TabS (T.map pl) Wo S f ∧ (mb = false → f = f0 ∧ TabC ((T.take p).map pl) Wo f0) ∧ (mb = true → cntF f N < c0)) (fun _ pv _ => T.length - (intOf pv).toNat)
      case atStart => exact ⟨false, f0, 0, rfl, rfl, Nat.zero_le _, hb'.out, hf'.out, hs'.out, fun _ => ⟨rfl, fun p hp => by cases hp⟩, fun h => by cases h⟩
      case round =>
        clear hb' hf' hs' hc'
        obtain ⟨mb, f, p, rfl, rfl, hp, hb, hf, hs, hq, hc⟩ := hrel
        have hWr := hFW.out.out hf fun k hk e => by have := hz.out; omega
        have a1 : wr.cell? ⟨h, 1, none⟩ = some (.slice ao T.length ac) := (hA'.out.far' hf hz.out.2.1).cell 1
        have hb' := Lib.hid hb
        have hf' := Lib.hid hf
        have hs' := Lib.hid hs
        have hq' := Lib.hid hq
        have hc' := Lib.hid hc
        have hWr' := Lib.hid hWr
        clear hb hf hs hq hc hWr
        by_cases hlt : p < T.length
        · have e1 : decide ((p : Int) < (T.length : Int)) = true := by rw [decide_eq_true_eq]; omega
          obtain ⟨t, ht⟩ : ∃ t, T[p]? = some t := ⟨T[p], List.getElem?_eq_getElem hlt⟩
          have hmem : pl t ∈ T.map pl := List.mem_map_of_mem (List.mem_of_getElem? ht)
          have htk := Lib.hid (show (T.take (p + 1)).map pl = (T.take p).map pl ++ [pl t] by
            obtain ⟨h1, h2⟩ := List.getElem?_eq_some_iff.1 ht
            rw [List.take_succ_eq_append_getElem h1, h2, List.map_append]
            rfl)
          obtain ⟨⟨hh0, hsy⟩, hl2⟩ := hPP.out _ hmem
          have ht' := Lib.hid ht
          have hmem' := Lib.hid hmem
          obtain ⟨hd, tv, l⟩ := t
          simp only [pl] at hh0 hsy hl2
          obtain ⟨hdn, rfl⟩ : ∃ n : Nat, hd = (n : Int) := ⟨hd.toNat, by omega⟩
          have hhS : hdn < S := by omega
          have hsy' := Lib.hid hsy
          obtain ⟨wo2, hwo⟩ : ∃ wo, wo = wr := ⟨_, rfl⟩
          rw [← hwo] at hb' hf' hWr' a1 ⊢
          clear hwo ht hmem hsy
          go_wp2_with fail
          clear a1
          go_loopw [7, 9] (fun mv iv wr => ∃ (mb : Bool) (f : Nat → Bool) (i : Nat), mv = .bool mb ∧ iv = .int .i64 i ∧ i ≤ n ∧ BRow wr g N f ∧ Far (fun k => k = g) W wr ∧ TabS (T.map pl) Wo S f ∧ (mb = false → f = f0 ∧ TabC ((T.take p).map pl) Wo f0 ∧ ∀ i' j', i' < i → i' ≤ j' → j' ≤ Wo.length → ComeP f0 Wo l i' j' → f0 (atN n hdn i' j') = true) ∧ (mb = true → cntF f N < c0)) (fun _ iv _ => n - (intOf iv).toNat)
          case atStart => exact ⟨mb, f, 0, rfl, rfl, Nat.zero_le _, hb'.out, hf'.out, hs'.out, fun h => ⟨(hq'.out h).1, (hq'.out h).2, fun i' j' h => absurd h (Nat.not_lt_zero _)⟩, hc'.out⟩
          case round =>
            clear hb' hf' hs' hq' hc' hWr'
            obtain ⟨mb, f, i, rfl, rfl, hi, hb, hf, hs, hq, hc⟩ := hrel
            have hb' := Lib.hid hb
            have hf' := Lib.hid hf
            have hs' := Lib.hid hs
            have hq' := Lib.hid hq
            have hc' := Lib.hid hc
            clear hb hf hs hq hc
            by_cases hil : i < n
            · have e2 : decide ((i : Int) < (n : Int)) = true := by rw [decide_eq_true_eq]; omega
              obtain ⟨wo3, hwo⟩ : ∃ wo, wo = wr := ⟨_, rfl⟩
              rw [← hwo] at hb' hf' ⊢
              clear hwo
              go_wp2_with fail
              go_loopw [7, 10] (fun mv jv wr => ∃ (mb : Bool) (f : Nat → Bool) (j : Nat), mv = .bool mb ∧ jv = .int .i64 j ∧ i ≤ j ∧ j ≤ n ∧ BRow wr g N f ∧ Far (fun k => k = g) W wr ∧ TabS (T.map pl) Wo S f ∧ (mb = false → f = f0 ∧ TabC ((T.take p).map pl) Wo f0 ∧ (∀ i' j', i' < i → i' ≤ j' → j' ≤ Wo.length → ComeP f0 Wo l i' j' → f0 (atN n hdn i' j') = true) ∧ ∀ j', i ≤ j' → j' < j → ComeP f0 Wo l i j' → f0 (atN n hdn i j') = true) ∧ (mb = true → cntF f N < c0)) (fun _ jv _ => n - (intOf jv).toNat)
              case atStart => exact ⟨mb, f, i, rfl, rfl, Nat.le_refl _, by omega, hb'.out, hf'.out, hs'.out, fun h => ⟨(hq'.out h).1, (hq'.out h).2.1, (hq'.out h).2.2, fun j' h1 h2 => absurd h1 (by omega)⟩, hc'.out⟩
              case round =>
                clear hb' hf' hs' hq' hc'
                obtain ⟨mb, f, j, rfl, rfl, hij, hj, hb, hf, hs, hq, hc⟩ := hrel
                by_cases hjl : j < n
                · have e3 : decide ((j : Int) < (n : Int)) = true := by rw [decide_eq_true_eq]; omega
                  have hWr := hFW.out.out hf fun k hk e => by have := hz.out; omega
                  have a1 : wr.cell? ⟨h, 1, none⟩ = some (.slice ao T.length ac) := (hA'.out.far' hf hz.out.2.1).cell 1
                  obtain ⟨b, off, c, he, hbl, c0', c1, hbd⟩ := (hP'.out.move hWr).prod ht'.out
                  simp only [Value.slice.injEq] at he
                  obtain ⟨rfl, _, rfl⟩ := he
                  simp only at c0' c1 hbd
                  obtain ⟨bo, bc, rfl⟩ := Src.form hbd
                  have hpI : (p : Int) < (T.length : Int) := by omega
                  have AT := at_any n hdn i j wr hnb (by omega) (by omega) (by omega)
                  have hjW : j ≤ Wo.length := by have := hnN.out.1; omega
                  have CM := come_any S g f (.slice bo l.length bc) (.slice wo' Wo.length wc') l Wo i j N wr hbd (hw'.out.move hWr) hb hnN.out.2 hl2 hS2 (fun h2 x hx => hsy'.out h2 x hx) hij hjW hn
                  have lt := atN_lt (n := n) hhS (i := i) (j := j) (by omega) hjl
                  obtain ⟨q, hq0⟩ : ∃ q, q = atN n hdn i j := ⟨_, rfl⟩
                  rw [← hq0] at AT lt
                  have ltN : q < N := by rw [hnN.out.2]; have := hnN.out.1; rw [← this]; exact lt
                  have ltI : (q : Int) < (N : Int) := by omega
                  have fq := hb.at ltN
                  have ff : wr.frozen? ⟨g, q, none⟩ = false := Bk.free hb q
                  have hb' := Lib.hid hb
                  have hf' := Lib.hid hf
                  have hs' := Lib.hid hs
                  have hq' := Lib.hid hq
                  have hc' := Lib.hid hc
                  have hq0' := Lib.hid hq0
                  clear hb hf hs hq hc hq0 lt hbd hWr hbl
                  cases hfq : f q with
                  | true =>
                    rw [hfq] at fq
                    have hnx := Lib.hid (show mb = false → f = f0 ∧ TabC ((T.take p).map pl) Wo f0 ∧ (∀ i' j', i' < i → i' ≤ j' → j' ≤ Wo.length → ComeP f0 Wo l i' j' → f0 (atN n hdn i' j') = true) ∧ ∀ j', i ≤ j' → j' < j + 1 → ComeP f0 Wo l i j' → f0 (atN n hdn i j') = true from fun hm => by
                      obtain ⟨k1, k2, k3, k4⟩ := hq'.out hm
                      refine ⟨k1, k2, k3, fun j' h1 h2 h3 => ?_⟩
                      by_cases ej : j' = j
                      · subst ej
                        rw [← hq0'.out, ← k1]
                        exact hfq
                      · exact k4 j' h1 (by omega) h3)
                    clear hfq CM
                    go_wp2_with (go_at_call 32; with_reducible refine AT.mono ?_; rintro e w2 ⟨rfl, hw2⟩; subst hw2)
                    go_roundw
                    case rel => exact ⟨mb, f, j + 1, rfl, by go_num, by omega, by omega, hb'.out, hf'.out, hs'.out, hnx.out, hc'.out⟩
                    case measure => simp [intOf]; omega
                  | false =>
                    rw [hfq] at fq
                    have hfq' := Lib.hid hfq
                    clear hfq
                    go_upto_region 16 with (go_at_call 32; with_reducible refine AT.mono ?_; rintro e w2 ⟨rfl, hw2⟩; subst hw2)
                    by_cases hcm : ComeP f Wo l i j
                    · have CT := calls_yes CM hcm
                      have hcm' := Lib.hid hcm
                      clear CM hcm
                      go_upto_region 17 with fail
                      with_reducible refine CT.mono ?_
                      rintro e w9 ⟨rfl, hf9⟩
                      have hf9' := Lib.hid hf9
                      have hb9 := Lib.hid (show BRow w9 g N f from Bk.far' hb'.out hf9 id)
                      have g1 : w9.frozen? ⟨g, q, none⟩ = false := Bk.free hb9.out q
                      have g2 : w9.cell? ⟨g, q, none⟩ = some (.bool false) := (by rw [← hfq'.out]; exact hb9.out.at ltN)
                      clear hf9 fq ff
                      go_wp2_with fail
                      obtain ⟨R1, R2⟩ : BRow (w9.setCell ⟨g, q, none⟩ (.bool true)) g N (updG f q true) ∧ Far (fun k => k = g) W (w9.setCell ⟨g, q, none⟩ (.bool true)) := ⟨hb9.out.put q true, (hf'.out.trans hf9'.out fun _ _ h => h.elim).set _ _ fun _ => rfl⟩
                      have R3 : TabS (T.map pl) Wo S (updG f q true) := by
                        have := tabS_put hs'.out hmem'.out (hPP.out _ hmem'.out).1 (hPP.out _ hmem'.out).2 hij hjW hcm'.out
                        rw [← hnN.out.1] at this
                        rw [hq0'.out]
                        exact this
                      have R4 : cntF (updG f q true) N < c0 := by
                        have h1 := cntF_put hfq'.out ltN
                        rw [hc0'.out]
                        cases mb with
                        | false => rw [(hq'.out rfl).1] at h1 ⊢; omega
                        | true => have := hc'.out rfl; rw [hc0'.out] at this; omega
                      go_roundw
                      case rel => exact ⟨true, updG f q true, j + 1, rfl, by go_num, by omega, by omega, R1, R2, R3, (fun h => by cases h), fun _ => R4⟩
                      case measure => simp [intOf]; omega
                    · have CT := calls_no CM hcm
                      have hnx := Lib.hid (show mb = false → f = f0 ∧ TabC ((T.take p).map pl) Wo f0 ∧ (∀ i' j', i' < i → i' ≤ j' → j' ≤ Wo.length → ComeP f0 Wo l i' j' → f0 (atN n hdn i' j') = true) ∧ ∀ j', i ≤ j' → j' < j + 1 → ComeP f0 Wo l i j' → f0 (atN n hdn i j') = true from fun hm => by
                        obtain ⟨k1, k2, k3, k4⟩ := hq'.out hm
                        refine ⟨k1, k2, k3, fun j' h1 h2 h3 => ?_⟩
                        by_cases ej : j' = j
                        · subst ej
                          rw [k1] at hcm
                          exact absurd h3 hcm
                        · exact k4 j' h1 (by omega) h3)
                      clear CM hcm
                      go_upto_region 17 with fail
                      with_reducible refine CT.mono ?_
                      rintro e w9 ⟨rfl, hf9⟩
                      obtain ⟨R1, R2⟩ : BRow w9 g N f ∧ Far (fun k => k = g) W w9 := ⟨Bk.far' hb'.out hf9 id, hf'.out.trans hf9 fun _ _ h => h.elim⟩
                      have R1' := Lib.hid R1
                      have R2' := Lib.hid R2
                      clear hf9 fq ff R1 R2
                      go_wp2_with fail
                      go_roundw
                      case rel => exact ⟨mb, f, j + 1, rfl, by go_num, by omega, by omega, R1'.out, R2'.out, hs'.out, hnx.out, hc'.out⟩
                      case measure => simp [intOf]; omega
                · have e3 : decide ((j : Int) < (n : Int)) = false := by rw [decide_eq_false_iff_not]; omega
                  have hnx := Lib.hid (show mb = false → f = f0 ∧ TabC ((T.take p).map pl) Wo f0 ∧ ∀ i' j', i' < i + 1 → i' ≤ j' → j' ≤ Wo.length → ComeP f0 Wo l i' j' → f0 (atN n hdn i' j') = true from fun hm => by
                    obtain ⟨k1, k2, k3, k4⟩ := hq hm
                    refine ⟨k1, k2, fun i' j' h1 h2 h3 h4 => ?_⟩
                    by_cases ei : i' = i
                    · subst ei
                      exact k4 j' h2 (by have := hnN.out.1; omega) h4
                    · exact k3 i' j' (by omega) h2 h3 h4)
                  have hb' := Lib.hid hb
                  have hf' := Lib.hid hf
                  have hs' := Lib.hid hs
                  have hc' := Lib.hid hc
                  clear hb hf hs hq hc
                  go_wp2_with fail
                  go_roundw
                  case rel => exact ⟨mb, f, i + 1, rfl, by go_num, by omega, hb'.out, hf'.out, hs'.out, hnx.out, hc'.out⟩
                  case measure => simp [intOf]; omega
            · have e2 : decide ((i : Int) < (n : Int)) = false := by rw [decide_eq_false_iff_not]; omega
              have hnx := Lib.hid (show mb = false → f = f0 ∧ TabC ((T.take (p + 1)).map pl) Wo f0 from fun hm => by
                obtain ⟨k1, k2, k3⟩ := hq'.out hm
                refine ⟨k1, ?_⟩
                rw [htk.out]
                intro x hx i' j' h1 h2 h3
                rcases List.mem_append.1 hx with hx | hx
                · exact k2 x hx i' j' h1 h2 h3
                · rw [List.mem_singleton.1 hx] at h3 ⊢
                  have := k3 i' j' (by have := hnN.out.1; omega) h1 h2 h3
                  rw [hnN.out.1] at this
                  exact this)
              go_wp2_with fail
              go_roundw
              case rel => exact ⟨mb, f, p + 1, rfl, by go_num, by omega, hb'.out, hf'.out, hs'.out, hnx.out, hc'.out⟩
              case measure => simp [intOf]; omega
        · have e1 : decide ((p : Int) < (T.length : Int)) = false := by rw [decide_eq_false_iff_not]; omega
          have hnx := Lib.hid (show mb = false → TabC (T.map pl) Wo f from fun hm => by
            obtain ⟨k1, k2⟩ := hq'.out hm
            rw [List.take_of_length_le (by omega)] at k2
            rw [k1]
            exact k2)
          go_wp2_with fail
          go_roundg (if mb then cntF f N + 1 else 0)
          case measure =>
            rw [hgk'.out]
            cases mb with
            | false => simp
            | true => have := hc'.out rfl; rw [hc0'.out] at this; simp; omega
          case rel => exact ⟨mb, f, rfl, hb'.out, hf'.out, hs'.out, hnx.out, rfl⟩
end
end Go.Proofs.YteojbnkjphghkaaDoor
