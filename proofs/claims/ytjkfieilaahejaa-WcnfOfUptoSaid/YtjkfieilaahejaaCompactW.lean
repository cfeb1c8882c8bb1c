/-
  CompactFunc: the loops.
-/
import Derived.Test.YtjkfieilaahejaaCompactF
namespace Go.Proofs.Ytjkfieilaahejaa
open Go.RowKit
set_option linter.unusedVariables false
set_option linter.unusedSimpArgs false
theorem keepAt_eq (T : List Tr) {i j : Nat} (h : i = j + 1) : keepAt T i = !(ordP (pl (tAt T i)) (pl (tAt T j)) == 0) := by
  subst h
  simp [keepAt]
theorem set_drop {D T : List Tr} {q : Nat} {t : Tr} (hD : D.length = q) (hq : q < T.length) : (D ++ T.drop q).set q t = (D ++ [t]) ++ T.drop (q + 1) := by
  rw [List.set_append_right _ _ (by omega), hD, Nat.sub_self, List.drop_eq_getElem_cons hq, List.set_cons_zero, List.append_assoc]
  rfl
section
set_option maxHeartbeats 4000000
set_option maxRecDepth 100000
theorem compact_any (B : Nat) (pv : Value) (T : List Tr) (w : World) (hP : OwnP w B pv T) (hs : T.length ≤ 4398046510976) (hs2 : ∀ t ∈ T, t.2.2.length ≤ maxLen) :
    Calls Try.prog 48 #[pv, .func (.func 49) #[] #[]] w fun e w' => ∃ pv', e = .returned pv' ∧ OwnP w' B pv' (dd T T.length) ∧ Far (fun k => pv.ownBlock = some k) w w' := by
  by_cases h2 : T.length < 2
  · have hdd : dd T T.length = T := by
      rw [dd_all (Nat.le_refl _) (fun j hj => by have : j = 0 := by omega
                                                 subst this; rfl), List.take_length]
    obtain ⟨ao, ac, rfl⟩ := Src.form (Src.own hP.1)
    have d0 : decide ((T.length : Int) < 2) = true := by rw [decide_eq_true_eq]; omega
    have d1 : decide (T.length < 2) = true := by rw [decide_eq_true_eq]; omega
    have hP' := Lib.hid hP
    have hdd' := Lib.hid hdd
    clear hP hdd h2
    go_enter Try.func48, Try.ntmps48
    go_wp2_with fail
    go_ret
    exact ⟨_, rfl, by rw [hdd'.out]; exact hP'.out, Far.refl _ _⟩
  · rcases hP.1.2 with ⟨_, hn⟩ | ⟨g, cap, cur, rfl, hB, hb, hcap, hmax, _, _⟩
    · omega
    · have hgl : g < w.heap.size := (Array.getElem?_eq_some_iff.1 hb).1
      obtain ⟨n, hn⟩ : ∃ n, n = T.length := ⟨_, rfl⟩
      rw [← hn] at hP h2 hs hcap ⊢
      unfold maxLen at hmax
      have d0 : decide ((n : Int) < 2) = false := by rw [decide_eq_false_iff_not]; omega
      have d1 : decide (n < 2) = false := by rw [decide_eq_false_iff_not]; omega
      have hP' := Lib.hid hP
      have hn' := Lib.hid hn
      have hs2' := Lib.hid hs2
      clear hP hn hs2 hb
      go_enter Try.func48, Try.ntmps48
      go_wp2_with fail
      go_loopw [5] (fun iv wr => ∃ i : Nat, iv = .int .i64 i ∧ 1 ≤ i ∧ i ≤ n ∧ (∀ m, m < i → keepAt T m = true) ∧ Far (fun _ => False) w wr) (fun iv _ => n - (intOf iv).toNat)
      case atStart => exact ⟨1, rfl, by omega, by omega, fun m hm => by have : m = 0 := by omega
                                                                        subst this; rfl, Far.refl _ _⟩
      case round =>
        obtain ⟨i, rfl, hi1, hin, hkeep, hfw⟩ := hrel
        by_cases hlt : i < n
        · have e1 : decide ((i : Int) < (n : Int)) = true := by rw [decide_eq_true_eq]; omega
          have hii : (i : Int) < (n : Int) := by omega
          obtain ⟨j, hj⟩ : ∃ j, i = j + 1 := ⟨i - 1, by omega⟩
          have hj1 : (i : Int) - 1 = (j : Int) := by omega
          have hjn : (j : Int) < (n : Int) := by omega
          have hwr : IntKind.i64.wrap ((i : Int) - 1) = (j : Int) := by rw [hj1]; exact wrap_in (by omega)
          have hj0 : (0 : Int) ≤ (j : Int) := by omega
          have hwr2 : IntKind.i64.wrap (j : Int) = (j : Int) := wrap_in (by omega)
          have hjt : ((j : Int)).toNat = j := Int.toNat_natCast j
          have hji : j < n := by omega
          have hPr := hP'.out.move hfw
          have hti := tAt_get (T := T) (j := i) (by rw [← hn'.out]; exact hlt)
          have htj := tAt_get (T := T) (j := j) (by rw [← hn'.out]; exact hji)
          obtain ⟨c0, c1, hbi, _⟩ := prod_at hPr hti
          obtain ⟨p0, p1, hbj, _⟩ := prod_at hPr htj
          have hKA := keepAt_eq T hj
          have li := hs2'.out _ (List.mem_of_getElem? hti)
          have lj := hs2'.out _ (List.mem_of_getElem? htj)
          have hglr : g < wr.heap.size := Nat.lt_of_lt_of_le hgl hfw.size
          have EQ := Lib.hid (eqc_any (tAt T i).1 (tAt T j).1 (tAt T i).2.1 (tAt T j).2.1 (tAt T i).2.2 (tAt T j).2.2 wr.drew (hbi.move (drew_far _)) (hbj.move (drew_far _)) li lj)
          have hfw' := Lib.hid hfw
          have hkeep' := Lib.hid hkeep
          have hKA' := Lib.hid hKA
          have hj' := Lib.hid hj
          generalize hhi : (tAt T i).1 = xi at *
          generalize hvi : (tAt T i).2.1 = vi at *
          generalize hhj : (tAt T j).1 = xj at *
          generalize hvj : (tAt T j).2.1 = vj at *
          have HK := Lib.hid (show ∀ w2, Far (fun _ => False) wr w2 → w2.cell? ⟨g, i * 2, none⟩ = some (.int .i64 xi) ∧ w2.cell? ⟨g, i * 2 + 1, none⟩ = some vi ∧ w2.cell? ⟨g, j * 2, none⟩ = some (.int .i64 xj) ∧ w2.cell? ⟨g, j * 2 + 1, none⟩ = some vj from fun w2 hf => ⟨(hf.cell hglr).trans c0, (hf.cell hglr).trans c1, (hf.cell hglr).trans p0, (hf.cell hglr).trans p1⟩)
          have hdp : ordP ((xi, (tAt T i).2.2) : Int × List Sy) (xj, (tAt T j).2.2) = ordP (pl (tAt T i)) (pl (tAt T j)) := by rw [← hhi, ← hhj]; rfl
          have hdp' := Lib.hid hdp
          clear hkeep hfw hKA hPr hbi hbj hj hdp li lj hti htj hhi hvi hhj hvj
          generalize ordP ((xi, (tAt T i).2.2) : Int × List Sy) (xj, (tAt T j).2.2) = o at *
          cases ho : (o == 0) with
          | false =>
            rw [ho] at EQ
            have hk2 := Lib.hid (show keepAt T i = true by rw [hKA'.out, ← hdp'.out, ho]; rfl)
            clear ho
            go_wp2_with fail
            go_region_held3 (fun w' => w'.cell? ⟨g, i * 2, none⟩ = some (.int .i64 xi) ∧ w'.cell? ⟨g, i * 2 + 1, none⟩ = some vi ∧ w'.cell? ⟨g, j * 2, none⟩ = some (.int .i64 xj) ∧ w'.cell? ⟨g, j * 2 + 1, none⟩ = some vj) (go_keep)
              (first
                | (go_at_call 49; refine EQ.out.mono ?_; rintro e w9 ⟨rfl, hf9⟩; obtain ⟨r0, r1, r2, r3⟩ := HK.out w9 ((drew_far wr).then hf9.far); have hf9' := Lib.hid ((drew_far wr).then hf9.far); clear hf9))
            all_goals
              go_wp2_with fail
              go_roundw
              case rel => exact ⟨i + 1, by go_num, by omega, by omega, fun m hm => by
                rcases Nat.lt_or_ge m i with h | h
                · exact hkeep'.out m h
                · have : m = i := by omega
                  subst this; exact hk2.out, hfw'.out.then hf9'.out⟩
              case measure => simp [intOf]; omega
          | true =>
            rw [ho] at EQ
            have hk2 := Lib.hid (show keepAt T i = false by rw [hKA'.out, ← hdp'.out, ho]; rfl)
            clear ho
            have hic : (i : Int) < (cap : Int) := by omega
            have hic2 : i < cap := by omega
            have hic3 : ¬ cap = i := by omega
            have hic4 : ¬ i = cap := by omega
            have hic5 : (i : Int) ≤ (cap : Int) := by omega
            go_wp2_with fail
            go_region_held3 (fun w' => w'.cell? ⟨g, i * 2, none⟩ = some (.int .i64 xi) ∧ w'.cell? ⟨g, i * 2 + 1, none⟩ = some vi ∧ w'.cell? ⟨g, j * 2, none⟩ = some (.int .i64 xj) ∧ w'.cell? ⟨g, j * 2 + 1, none⟩ = some vj) (go_keep)
              (first
                | (go_at_call 49; refine EQ.out.mono ?_; rintro e w9 ⟨rfl, hf9⟩; obtain ⟨r0, r1, r2, r3⟩ := HK.out w9 ((drew_far wr).then hf9.far); have hf9' := Lib.hid ((drew_far wr).then hf9.far); clear hf9))
            all_goals
              have hP9 := Lib.hid (hP'.out.move (hfw'.out.then hf9'.out))
              have hdd0 := Lib.hid (show dd T (i + 1) = T.take i by
                rw [dd_succ, hk2.out, dd_all (by rw [← hn'.out]; omega) (fun m hm => hkeep'.out m hm)]
                simp)
              clear c0 c1 p0 p1 r0 r1 r2 r3
              go_wp2_with fail
              obtain ⟨N2, hN2⟩ : ∃ N2, N2 = n - i := ⟨_, rfl⟩
              have hN2' := Lib.hid hN2
              have hnn : n = i + N2 := by omega
              have hnn' := Lib.hid hnn
              have hN2n : N2 ≤ n := by omega
              rw [← hN2]
              clear hN2 hnn hic5
              go_loopw [5, 7] (fun qv kv wr => ∃ (q k : Nat) (R : List Tr), qv = .int .i64 q ∧ kv = .int .i64 k ∧ 1 ≤ k ∧ k ≤ N2 ∧ OwnP wr B (.slice (some ⟨g, 0, none⟩) n cap) R ∧ R = dd T (i + k) ++ T.drop q ∧ (dd T (i + k)).length = q ∧ q + 1 ≤ i + k ∧ Far (fun k => k = g) w wr) (fun _ kv _ => N2 - (intOf kv).toNat)
              case atStart => exact ⟨i, 1, T, rfl, rfl, by omega, by have := hN2'.out; omega, hP9.out, by rw [hdd0.out, List.take_append_drop], by rw [hdd0.out, List.length_take, ← hn'.out]; omega, by omega, (hfw'.out.then hf9'.out).mono fun _ _ h => h.elim⟩
              case round =>
                clear hP9
                obtain ⟨q, k, R, rfl, rfl, hk1, hkN, hPr, hR, hD, hqk, hfr⟩ := hrel
                have hnx := hnn'.out
                have hnT := hn'.out
                have hRl : R.length = n := by rw [hR, List.length_append, List.length_drop, hD, ← hnT]; omega
                have hglq : g < wr.heap.size := Nat.lt_of_lt_of_le hgl hfr.size
                by_cases hlt2 : k < N2
                · have e2 : decide ((k : Int) < (N2 : Int)) = true := by rw [decide_eq_true_eq]; omega
                  have hkk : (k : Int) < (N2 : Int) := by omega
                  obtain ⟨l, hl⟩ : ∃ l, k = l + 1 := ⟨k - 1, by omega⟩
                  have hl1 : (k : Int) - 1 = (l : Int) := by omega
                  have hlN : (l : Int) < (N2 : Int) := by omega
                  have hlw : IntKind.i64.wrap ((k : Int) - 1) = (l : Int) := by rw [hl1]; exact wrap_in (by omega)
                  have hl0 : (0 : Int) ≤ (l : Int) := by omega
                  have hlw2 : IntKind.i64.wrap (l : Int) = (l : Int) := wrap_in (by omega)
                  have hlt' : ((l : Int)).toNat = l := Int.toNat_natCast l
                  have htk := tAt_get (T := T) (j := i + k) (by rw [← hnT]; omega)
                  have htl := tAt_get (T := T) (j := i + l) (by rw [← hnT]; omega)
                  have hRk : R[i + k]? = some (tAt T (i + k)) := by rw [hR, drop_at hD (by omega)]; exact htk
                  have hRm : R[i + l]? = some (tAt T (i + l)) := by rw [hR, drop_at hD (by omega)]; exact htl
                  obtain ⟨c0, c1, hbk, _⟩ := prod_at hPr hRk
                  obtain ⟨p0, p1, hbl, _⟩ := prod_at hPr hRm
                  rw [show (i + k) * 2 = i * 2 + k * 2 by omega] at c0 c1
                  rw [show (i + l) * 2 = i * 2 + l * 2 by omega] at p0 p1
                  have hKA2 := keepAt_eq T (i := i + k) (j := i + l) (by omega)
                  have lk := hs2'.out _ (List.mem_of_getElem? htk)
                  have ll := hs2'.out _ (List.mem_of_getElem? htl)
                  have EQ2 := Lib.hid (eqc_any (tAt T (i + k)).1 (tAt T (i + l)).1 (tAt T (i + k)).2.1 (tAt T (i + l)).2.1 (tAt T (i + k)).2.2 (tAt T (i + l)).2.2 wr.drew (hbk.move (drew_far _)) (hbl.move (drew_far _)) lk ll)
                  have hmk := List.mem_of_getElem? hRk
                  obtain ⟨ko, kc, hkv⟩ := Src.form hbk
                  obtain ⟨tq, htq⟩ : ∃ t, R[q]? = some t := ⟨R[q]'(by omega), List.getElem?_eq_getElem (by omega)⟩
                  obtain ⟨s0, s1, _, _⟩ := prod_at hPr htq
                  have z0 := frozen_at hPr (q * 2)
                  have z1 := frozen_at hPr (q * 2 + 1)
                  have hqn : (q : Int) < (n : Int) := by omega
                  have hsd : (dd T (i + k) ++ T.drop q).set q (tAt T (i + k)) = (dd T (i + k) ++ [tAt T (i + k)]) ++ T.drop (q + 1) := set_drop hD (by rw [← hnT]; omega)
                  have hds := dd_succ T (i + k)
                  have hqN : q < n := by omega
                  have hPr' := Lib.hid hPr
                  have hR' := Lib.hid hR
                  have hRl' := Lib.hid hRl
                  have hD' := Lib.hid hD
                  have hfr' := Lib.hid hfr
                  have hsd' := Lib.hid hsd
                  have hds' := Lib.hid hds
                  have hmk' := Lib.hid hmk
                  have hKA2' := Lib.hid hKA2
                  have hl' := Lib.hid hl
                  have hqk' := Lib.hid hqk
                  generalize htt : tAt T (i + k) = tk at *
                  obtain ⟨xk, vk, lk'⟩ := tk
                  simp only [] at c0 c1 hkv EQ2 hKA2' hbk
                  subst hkv
                  generalize hhl : (tAt T (i + l)).1 = xl at *
                  generalize hvl : (tAt T (i + l)).2.1 = vl at *
                  have HK2 := Lib.hid (show ∀ w2, Far (fun _ => False) wr w2 → w2.cell? ⟨g, i * 2 + k * 2, none⟩ = some (.int .i64 xk) ∧ w2.cell? ⟨g, i * 2 + k * 2 + 1, none⟩ = some (.slice ko lk'.length kc) ∧ w2.cell? ⟨g, i * 2 + l * 2, none⟩ = some (.int .i64 xl) ∧ w2.cell? ⟨g, i * 2 + l * 2 + 1, none⟩ = some vl from fun w2 hf => ⟨(hf.cell hglq).trans c0, (hf.cell hglq).trans c1, (hf.cell hglq).trans p0, (hf.cell hglq).trans p1⟩)
                  have HZ2 := Lib.hid (show ∀ w2, Far (fun _ => False) wr w2 → w2.cell? ⟨g, q * 2, none⟩ = some (.int .i64 tq.1) ∧ w2.cell? ⟨g, q * 2 + 1, none⟩ = some tq.2.1 from fun w2 hf => ⟨(hf.cell hglq).trans s0, (hf.cell hglq).trans s1⟩)
                  have hdp2 : ordP ((xk, lk') : Int × List Sy) (xl, (tAt T (i + l)).2.2) = ordP (pl (xk, Value.slice ko lk'.length kc, lk')) (pl (tAt T (i + l))) := by rw [← hhl]; rfl
                  have hdp2' := Lib.hid hdp2
                  clear hkeep' hPr hR hRl hD hfr hsd hds hmk hKA2 hl hbk hbl htk htl hRk hRm lk ll htq s0 s1 z0 z1 hdp2 hhl hvl hqk hnx hnT
                  generalize ordP ((xk, lk') : Int × List Sy) (xl, (tAt T (i + l)).2.2) = o2 at *
                  cases ho2 : (o2 == 0) with
                  | true =>
                    rw [ho2] at EQ2
                    have hk3 := Lib.hid (show keepAt T (i + k) = false by rw [hKA2'.out, ← hdp2'.out, ho2]; rfl)
                    clear ho2
                    go_wp2_with fail
                    go_region_held3 (fun w' => w'.cell? ⟨g, i * 2 + k * 2, none⟩ = some (.int .i64 xk) ∧ w'.cell? ⟨g, i * 2 + k * 2 + 1, none⟩ = some (.slice ko lk'.length kc) ∧ w'.cell? ⟨g, i * 2 + l * 2, none⟩ = some (.int .i64 xl) ∧ w'.cell? ⟨g, i * 2 + l * 2 + 1, none⟩ = some vl) (go_keep)
                      (first
                        | (go_at_call 49; refine EQ2.out.mono ?_; rintro e w9 ⟨rfl, hf9⟩; obtain ⟨r0, r1, r2, r3⟩ := HK2.out w9 ((drew_far wr).then hf9.far); have hfX := Lib.hid ((drew_far wr).then hf9.far); clear hf9))
                    all_goals
                      go_wp2_with fail
                      go_roundw
                      case rel => exact ⟨q, k + 1, R, rfl, by go_num, by omega, by omega, hPr'.out.move hfX.out, by rw [hR'.out, show i + (k + 1) = i + k + 1 by omega, hds'.out, hk3.out]; simp, by rw [show i + (k + 1) = i + k + 1 by omega, hds'.out, hk3.out]; simpa using hD'.out, by have := hqk'.out; omega, hfr'.out.trans hfX.out fun _ _ h => h.elim⟩
                      case measure => simp [intOf]; omega
                  | false =>
                    rw [ho2] at EQ2
                    have hk3 := Lib.hid (show keepAt T (i + k) = true by rw [hKA2'.out, ← hdp2'.out, ho2]; rfl)
                    clear ho2
                    go_wp2_with fail
                    go_region_held3 (fun w' => w'.cell? ⟨g, i * 2 + k * 2, none⟩ = some (.int .i64 xk) ∧ w'.cell? ⟨g, i * 2 + k * 2 + 1, none⟩ = some (.slice ko lk'.length kc) ∧ w'.cell? ⟨g, i * 2 + l * 2, none⟩ = some (.int .i64 xl) ∧ w'.cell? ⟨g, i * 2 + l * 2 + 1, none⟩ = some vl) (go_keep)
                      (first
                        | (go_at_call 49; refine EQ2.out.mono ?_; rintro e w9 ⟨rfl, hf9⟩; obtain ⟨r0, r1, r2, r3⟩ := HK2.out w9 ((drew_far wr).then hf9.far); have hfX := Lib.hid ((drew_far wr).then hf9.far); clear hf9))
                    all_goals
                      obtain ⟨s0, s1⟩ := HZ2.out w9 hfX.out
                      have hPx := hPr'.out.move hfX.out
                      have z0 := frozen_at hPx (q * 2)
                      have z1 := frozen_at hPx (q * 2 + 1)
                      have hPs := Lib.hid (own_set hPx hRl'.out hqN hmk'.out)
                      clear hPx
                      go_wp2_with fail
                      go_roundw
                      case rel => exact ⟨q + 1, k + 1, R.set q (xk, .slice ko lk'.length kc, lk'), by go_num, by go_num, by omega, by omega, hPs.out, by rw [hR'.out, hsd'.out, show i + (k + 1) = i + k + 1 by omega, hds'.out, hk3.out]; simp, by rw [show i + (k + 1) = i + k + 1 by omega, hds'.out, hk3.out]; simpa using hD'.out, by have := hqk'.out; omega, ((hfr'.out.trans hfX.out fun _ _ h => h.elim).set _ _ fun _ => rfl).set _ _ fun _ => rfl⟩
                      case measure => simp [intOf]; omega
                · have e2 : decide ((k : Int) < (N2 : Int)) = false := by rw [decide_eq_false_iff_not]; omega
                  have hkk : i + k = n := by omega
                  have hqn : q < n := by omega
                  obtain ⟨wc, hcl, hPc, hFc⟩ := run_clear wr B g n cap q R hPr hRl hqn
                  have hqI : (q : Int) < (n : Int) := by omega
                  have hqc : (q : Int) < (cap : Int) := by omega
                  have hqc2 : q < cap := by omega
                  have hqc3 : ¬ cap = q := by omega
                  have hqc4 : ¬ q = cap := by omega
                  have hres := Lib.hid (show OwnP wc B (.slice (some ⟨g, 0, none⟩) q cap) (dd T n) by
                    have e : R.take q = dd T n := by rw [hR, hkk]; rw [hkk] at hD; exact List.take_left' hD
                    rw [← e]; exact hPc)
                  have hFc' := Lib.hid (hfr.trans hFc fun _ _ h => h)
                  clear hkeep' hPr hR hRl hD hPc hFc hfr hnx hnT hkk
                  go_wp2_with fail
                  go_ret
                  exact ⟨_, rfl, hres.out, hFc'.out.mono fun k _ e => by rw [e]; rfl⟩
        · have e1 : decide ((i : Int) < (n : Int)) = false := by rw [decide_eq_false_iff_not]; omega
          have hdd := Lib.hid (show dd T n = T by
            rw [dd_all (by rw [← hn'.out]; exact Nat.le_refl _) (fun m hm => hkeep m (by omega)), hn'.out, List.take_length])
          have hfw' := Lib.hid hfw
          clear hkeep hfw
          go_wp2_with fail
          go_ret
          exact ⟨_, rfl, by rw [hdd.out]; exact hP'.out.move hfw'.out, hfw'.out.mono fun _ _ h => h.elim⟩
end
end Go.Proofs.Ytjkfieilaahejaa
