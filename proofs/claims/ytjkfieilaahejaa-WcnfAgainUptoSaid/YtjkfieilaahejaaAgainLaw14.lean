/-
  WcnfAgain walked.
-/
import Derived.Test.YtjkfieilaahejaaOf14
import Derived.Test.YtjkfieilaahejaaParts
import Derived.Test.YtjkfieilaahejaaRefLeast13
namespace Go.Proofs.Ytjkfieilaahejaa
open Go.RowKit
set_option linter.unusedVariables false
set_option linter.unusedSimpArgs false
theorem tot_weak : ∀ {R : List Tr}, (∀ t ∈ R, weakB t.2.2 = true) → tot R ≤ 2 * R.length
  | [], _ => Nat.le_refl _
  | t :: R, h => by
    have h1 := weak_len (h t (List.mem_cons_self ..))
    have h2 := tot_weak fun u hu => h u (List.mem_cons_of_mem _ hu)
    simp only [tot, List.length_cons]
    omega
section
set_option maxHeartbeats 8000000
set_option maxRecDepth 100000
theorem again_bad (S : Int) (pv : Value) (T : List Tr) (w : World) (hP : Prods w pv T) (hfit : Fits T) (c : Int) (hc : c ≠ 0)
    (HO : ∀ pv' T' w', Prods w' pv' T' → T'.map pl = T.map pl → Calls Try.prog 16 #[.agg #[.int .i64 S, pv']] w' fun e w'' => Far (fun _ => False) w' w'' ∧ e = .returned (.tuple #[.agg #[.int .i64 0, .slice none 0 0], .int .i64 c])) :
    Calls Try.prog 5 #[.agg #[.int .i64 S, pv]] w fun e w' => e = .returned (.bool true) ∧ Far (fun _ => False) w w' := by
  obtain ⟨h0, hh0⟩ : ∃ h, h = w.heap.size := ⟨_, rfl⟩
  obtain ⟨ao, ac, rfl⟩ := Src.form hP.1
  obtain ⟨W, hW⟩ : ∃ W, W = w.alloc (.cells #[.int .i64 S, .slice ao T.length ac] 24) := ⟨_, rfl⟩
  have hF : Far (fun _ => False) w W := hW ▸ alloc_far0 _ _
  have hX : Bk W h0 24 #[.int .i64 S, .slice ao T.length ac] := hW ▸ Bk.new hh0
  have C1 := copy_any S (.slice ao T.length ac) T W (hP.move hF) hfit.1.1 hfit.1.2
  have a0 : W.cell? ⟨h0, 0, none⟩ = some (.int .i64 S) := hX.cell 0
  have a1 : W.cell? ⟨h0, 1, none⟩ = some (.slice ao T.length ac) := hX.cell 1
  have hcn : (c != 0) = true := by simp [hc]
  have HO' := Lib.hid HO
  have hF' := Lib.hid hF
  have hh0' := Lib.hid hh0
  have hW' := Lib.hid hW
  clear hP hfit hh0 hW hF hX HO hc
  go_enter Try.func5, Try.ntmps5
  go_upto_region 1 with fail
  rw [← hh0'.out, ← hW'.out]
  go_wp2_with fail
  refine C1.mono ?_
  rintro e w1 ⟨pv1, T1, rfl, ho1, hm1, hf1⟩
  have E1 := HO'.out pv1 T1 w1 ho1.prods hm1
  have hf1' := Lib.hid hf1
  clear C1 ho1 hm1 hf1 a0 a1
  go_wp2_with fail
  refine E1.mono ?_
  rintro e w2 ⟨hf2, rfl⟩
  have hf2' := Lib.hid ((hf1'.out.then hf2).alloc (.cells #[.int .i64 0, .slice none 0 0] 24))
  clear E1 hf2
  go_wp2_with fail
  refine (head14_any _).mono ?_
  rintro e w7 ⟨rfl, hf7⟩
  have hf7' := Lib.hid (hf2'.out.then hf7)
  clear hf7
  go_wp2_with fail
  go_ret
  exact ⟨rfl, hF'.out.then hf7'.out⟩
theorem again_some (S : Nat) (pv : Value) (T : List Tr) (w : World) (hP : Prods w pv T) (hl : T.length ≤ 1048576) (hN : tot T ≤ 1048576) (hok : CnfOK (S : Int) T) (s : Fs) (hof : ofF (T.map pl) (Fs0 S) = some s) :
    Calls Try.prog 5 #[.agg #[.int .i64 (S : Int), pv]] w fun e w' => e = .returned (.bool true) ∧ Far (fun _ => False) w w' := by
  have hs2 : ∀ t ∈ T, t.2.2.length ≤ 1048576 := fun t ht => by have := tot_mem ht; omega
  have hfit : Fits T := fits_of (by omega) fun t ht => by have := hs2 t ht; omega
  have hS2 : S ≤ 1024 := by have := hok.1.2; omega
  obtain ⟨fo1, fo2, fo3⟩ := ofF_ok _ (Fs0_ok S) hS2 (cnf_pl hok) hof
  obtain ⟨h0, hh0⟩ : ∃ h, h = w.heap.size := ⟨_, rfl⟩
  obtain ⟨ao, ac, rfl⟩ := Src.form hP.1
  obtain ⟨W, hW⟩ : ∃ W, W = w.alloc (.cells #[.int .i64 (S : Int), .slice ao T.length ac] 24) := ⟨_, rfl⟩
  have hF : Far (fun _ => False) w W := hW ▸ alloc_far0 _ _
  have hX : Bk W h0 24 #[.int .i64 (S : Int), .slice ao T.length ac] := hW ▸ Bk.new hh0
  have C1 := copy_any (S : Int) (.slice ao T.length ac) T W (hP.move hF) hfit.1.1 hfit.1.2
  have a0 : W.cell? ⟨h0, 0, none⟩ = some (.int .i64 (S : Int)) := hX.cell 0
  have a1 : W.cell? ⟨h0, 1, none⟩ = some (.slice ao T.length ac) := hX.cell 1
  have HO := Lib.hid (fun pv' T' w' (hp : Prods w' pv' T') (hm : T'.map pl = T.map pl) => wof_yes S pv' T' w' hp (by have := congrArg List.length hm; simp only [List.length_map] at this; omega) (by rw [tot_pl hm]; omega) (ok_pl hm hok))
  have hof' := Lib.hid hof
  have hfo := Lib.hid (show FsOK s ∧ s.n ≤ 1024 from ⟨fo1, fo3⟩)
  have hlN := Lib.hid (show T.length ≤ 1048576 ∧ tot T ≤ 1048576 from ⟨hl, hN⟩)
  have hF' := Lib.hid hF
  have hh0' := Lib.hid hh0
  have hW' := Lib.hid hW
  clear hP hs2 hfit hS2 fo1 fo2 fo3 hh0 hW hF hX hof hl hN hok
  go_enter Try.func5, Try.ntmps5
  go_upto_region 1 with fail
  rw [← hh0'.out, ← hW'.out]
  go_wp2_with fail
  refine C1.mono ?_
  rintro e w1 ⟨pv1, T1, rfl, ho1, hm1, hf1⟩
  have E1 := HO.out pv1 T1 w1 ho1.prods hm1
  have hm1' := Lib.hid hm1
  have hf1' := Lib.hid hf1
  clear C1 ho1 hm1 hf1 a0 a1
  go_wp2_with fail
  refine E1.mono ?_
  rintro e w2 ⟨hf2, hcase⟩
  have hf2' := Lib.hid (hf1'.out.then hf2)
  clear E1 hf2
  rcases hcase with ⟨hn, _⟩ | ⟨s', R, ro, rc, hs', rfl, hRP, hRU, hRM, hRF, hRO, hRl, hRb⟩
  · rw [hm1'.out, hof'.out] at hn; cases hn
  · rw [hm1'.out, hof'.out] at hs'
    obtain rfl : s = s' := Option.some.inj hs'
    have hRw : ∀ t ∈ R, weakB t.2.2 = true := fun t ht => (hfo.out.1.1 _ ((hRM (pl t)).1 (List.mem_map_of_mem ht))).2.1
    have hRl2 : R.length ≤ 12582912 := by
      have h1 := congrArg List.length hm1'.out
      simp only [List.length_map] at h1
      have h2 := tot_pl hm1'.out
      have h3 := hlN.out
      omega
    have hofR := ofF_weak (R.map pl) (Fs0 s.n) hfo.out.2 fun p hp => by
      obtain ⟨t, ht, rfl⟩ := List.mem_map.1 hp
      exact hRw t ht
    obtain ⟨kD, hkD⟩ : ∃ k, k = w2.heap.size := ⟨_, rfl⟩
    obtain ⟨w3, hw3⟩ : ∃ w3, w3 = w2.alloc (.cells #[.int .i64 (s.n : Int), .slice ro R.length rc] 24) := ⟨_, rfl⟩
    have hf23 : Far (fun _ => False) w2 w3 := hw3 ▸ alloc_far0 _ _
    have hP3 := Lib.hid (hRP.1.move hf23)
    have hf3' := Lib.hid (hf2'.out.then hf23)
    have hD3 : Hid (Bk w3 kD 24 #[.int .i64 (s.n : Int), .slice ro R.length rc]) := Lib.hid (hw3 ▸ Bk.new hkD)
    have hkD' := Lib.hid hkD
    have hw3' := Lib.hid hw3
    have hR' := Lib.hid (show Up (R.map pl) ∧ (∀ t ∈ R, weakB t.2.2 = true) ∧ Fits R ∧ CnfOK (s.n : Int) R ∧ R.length ≤ 12582912 from ⟨hRU, hRw, hRF, hRO, hRl2⟩)
    have hofR' := Lib.hid hofR
    clear hs' hRP hRU hRM hRF hRO hRl hRb hRw hRl2 hofR hkD hw3 hf23
    go_upto_region 2 with fail
    rw [← hkD'.out, ← hw3'.out]
    go_wp2_with fail
    refine (head14_any _).mono ?_
    rintro e w7 ⟨rfl, hf7⟩
    have hf7' := Lib.hid (hf3'.out.then hf7)
    have hD7 := Lib.hid (hD3.out.far' hf7 id)
    have hP7 := Lib.hid (hP3.out.move hf7)
    have d0 : w7.cell? ⟨kD, 0, none⟩ = some (.int .i64 (s.n : Int)) := hD7.out.cell 0
    have d1 : w7.cell? ⟨kD, 1, none⟩ = some (.slice ro R.length rc) := hD7.out.cell 1
    have O7 := wof_yes s.n (.slice ro R.length rc) R w7 hP7.out (by have := hR'.out.2.2.2.2; omega) (by have := tot_weak hR'.out.2.1; have := hR'.out.2.2.2.2; omega) hR'.out.2.2.2.1
    clear hf7
    go_wp2_with fail
    refine O7.mono ?_
    rintro e w8 ⟨hf8, hcase⟩
    have hf8' := Lib.hid (hf7'.out.then hf8)
    have hD8 := Lib.hid (hD7.out.far' hf8 id)
    have hP8 := Lib.hid (hP7.out.move hf8)
    clear O7 hf8 d0 d1
    rcases hcase with ⟨hn, _⟩ | ⟨s2, R2, qo, qc, hs2, rfl, hQP, hQU, hQM, hQF, hQO, _, _⟩
    · rw [hofR'.out] at hn; cases hn
    · rw [hofR'.out] at hs2
      have es2 := Option.some.inj hs2
      have en : s2.n = s.n := by rw [← es2]; rfl
      have eps : s2.ps = R.map pl := by rw [← es2]; rfl
      rw [eps] at hQM
      have hpl : R2.map pl = R.map pl := up_same hQU hR'.out.1 hQM
      rw [en] at hQO ⊢
      have hQw : ∀ t ∈ R2, weakB t.2.2 = true := fun t ht => by
        obtain ⟨u, hu, _, e2⟩ := mem_of_pl (fun x hx => (hQM x).1 hx) ht
        rw [← e2]
        exact hR'.out.2.1 u hu
      obtain ⟨kE, hkE⟩ : ∃ k, k = w8.heap.size := ⟨_, rfl⟩
      obtain ⟨w9, hw9⟩ : ∃ w9, w9 = w8.alloc (.cells #[.int .i64 (s.n : Int), .slice qo R2.length qc] 24) := ⟨_, rfl⟩
      have hf89 : Far (fun _ => False) w8 w9 := hw9 ▸ alloc_far0 _ _
      have hf9' := Lib.hid (hf8'.out.then hf89)
      have hE9 : Bk w9 kE 24 #[.int .i64 (s.n : Int), .slice qo R2.length qc] := hw9 ▸ Bk.new hkE
      have hD9 := hD8.out.far' hf89 id
      have hQ9 := hQP.1.move hf89
      have d0 : w9.cell? ⟨kD, 0, none⟩ = some (.int .i64 (s.n : Int)) := hD9.cell 0
      have d1 : w9.cell? ⟨kD, 1, none⟩ = some (.slice ro R.length rc) := hD9.cell 1
      have v0 : w9.cell? ⟨kE, 0, none⟩ = some (.int .i64 (s.n : Int)) := hE9.cell 0
      have v1 : w9.cell? ⟨kE, 1, none⟩ = some (.slice qo R2.length qc) := hE9.cell 1
      have SM := same_yes (s.n : Int) (.slice qo R2.length qc) (.slice ro R.length rc) R2 R w9 hQ9 (hP8.out.move hf89) hpl.symm hQF
      have hQ9' := Lib.hid hQ9
      have hE9' := Lib.hid hE9
      have hQ' := Lib.hid (show Fits R2 ∧ WeakP (s.n : Int) R2 from ⟨hQF, hQO, hQw⟩)
      have hkE' := Lib.hid hkE
      have hw9' := Lib.hid hw9
      clear hs2 es2 eps hQP hQU hQM hQF hQO hpl hQw hkE hw9 hf89 hE9 hD9 hQ9 en
      go_upto_region 7 with fail
      rw [← hkE'.out, ← hw9'.out]
      go_wp2_with fail
      refine SM.mono ?_
      rintro e w10 ⟨rfl, hf10⟩
      have hf10' := Lib.hid (hf9'.out.then hf10)
      have hE10 := hE9'.out.far' hf10 id
      have v0 : w10.cell? ⟨kE, 0, none⟩ = some (.int .i64 (s.n : Int)) := hE10.cell 0
      have v1 : w10.cell? ⟨kE, 1, none⟩ = some (.slice qo R2.length qc) := hE10.cell 1
      have IS := is_any (s.n : Int) (.slice qo R2.length qc) R2 w10 (hQ9'.out.move hf10) hQ'.out.1.2.1 hQ'.out.1.2.2
      clear SM hf10 hE10 d0 d1
      go_wp2_with fail
      refine IS.mono ?_
      rintro e w11 ⟨⟨b, rfl, hb⟩, hf11⟩
      obtain rfl : b = true := hb.2 hQ'.out.2
      have hf11' := Lib.hid (hf10'.out.then hf11)
      obtain ⟨g1, hg1⟩ : ∃ g, g = w11.heap.size := ⟨_, rfl⟩
      obtain ⟨g2, hg2⟩ : ∃ g, g = g1 + 1 := ⟨_, rfl⟩
      obtain ⟨w12, hw12⟩ : ∃ w12, w12 = (w11.alloc (.cells #[.bool true] 4)).alloc (.cells #[.bool true] 4) := ⟨_, rfl⟩
      have hB1 : BRow w12 g1 1 (fun _ => true) := hw12 ▸ Bk.alloc (Bk.new hg1) _
      have hB2 : BRow w12 g2 1 (fun _ => true) := hw12 ▸ Bk.new (by simp [hg2, hg1])
      have hf12' := Lib.hid (hf11'.out.then (hw12 ▸ ((Far.refl _ w11).alloc _).alloc _ : Far (fun _ => False) w11 w12))
      have SB := sameBools_yes 1 g1 g2 (fun _ => true) w12 hB1 hB2 (by decide)
      have SB' : Calls Try.prog 18 #[.slice (some ⟨w11.heap.size, 0, none⟩) 1 1, .slice (some ⟨w11.heap.size + 1, 0, none⟩) 1 1] ((w11.alloc (.cells #[.bool true] 4)).alloc (.cells #[.bool true] 4)) fun e w' => e = .returned (.bool true) ∧ Far (fun _ => False) w12 w' := by
        rw [← hw12, ← hg1, ← hg2]; exact SB
      clear IS hb hf11 v0 v1 SB hB1 hB2 hw12 hg1 hg2
      go_wp2_with fail
      refine SB'.mono ?_
      rintro e w13 ⟨rfl, hf13⟩
      have hf13' := Lib.hid (hf12'.out.then hf13)
      clear SB' hf13
      go_wp2_with fail
      go_ret
      exact ⟨rfl, hF'.out.then hf13'.out⟩
theorem againlaw (S : Int) (pv : Value) (T : List Tr) (w : World) (hP : Prods w pv T) (hl : T.length ≤ 1048576) (hN : tot T ≤ 1048576) :
    Calls Try.prog 5 #[.agg #[.int .i64 S, pv]] w fun e w' => e = .returned (.bool true) ∧ Far (fun _ => False) w w' := by
  have hs2 : ∀ t ∈ T, t.2.2.length ≤ 1048576 := fun t ht => by have := tot_mem ht; omega
  have hfit : Fits T := fits_of (by omega) fun t ht => by have := hs2 t ht; omega
  by_cases hok : CnfOK S T
  · obtain ⟨m, rfl⟩ : ∃ m : Nat, S = (m : Int) := ⟨S.toNat, by have := hok.1.1; omega⟩
    cases hof : ofF (T.map pl) (Fs0 m) with
    | none =>
      refine again_bad m pv T w hP hfit 240 (by decide) fun pv' T' w' hp hm => ?_
      refine (wof_yes m pv' T' w' hp (by have := congrArg List.length hm; simp only [List.length_map] at this; omega) (by rw [tot_pl hm]; omega) (ok_pl hm hok)).mono fun e w'' ⟨hf, hcase⟩ => ⟨hf, ?_⟩
      rcases hcase with ⟨_, h⟩ | ⟨s, _, _, _, h, _⟩
      · exact h
      · rw [hm, hof] at h; cases h
    | some s => exact again_some m pv T w hP hl hN hok s hof
  · exact again_bad S pv T w hP hfit 220 (by decide) fun pv' T' w' hp hm => wof_no S pv' T' w' hp (fits_pl hm hfit) fun h => hok (ok_pl hm.symm h)
end
end Go.Proofs.Ytjkfieilaahejaa
