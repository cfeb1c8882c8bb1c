/-
  WcnfKeeps walked.
-/
import Derived.Test.YtjkfieilaahejaaOf14
import Derived.Test.YtjkfieilaahejaaParts
import Derived.Test.YtjkfieilaahejaaHead13
import Derived.Test.YtjkfieilaahejaaKeepUp14
namespace Go.Proofs.Ytjkfieilaahejaa
open Go.RowKit
set_option linter.unusedVariables false
set_option linter.unusedSimpArgs false
section
set_option maxHeartbeats 8000000
set_option maxRecDepth 100000
theorem keeps_bad (S : Int) (pv : Value) (T : List Tr) (w : World) (hP : Prods w pv T) (hfit : Fits T) (c : Int) (hc : c = 220 ∨ c = 240)
    (HO : ∀ pv' T' w', Prods w' pv' T' → T'.map pl = T.map pl → Calls Try.prog 16 #[.agg #[.int .i64 S, pv']] w' fun e w'' => Far (fun _ => False) w' w'' ∧ e = .returned (.tuple #[.agg #[.int .i64 0, .slice none 0 0], .int .i64 c])) :
    Calls Try.prog 6 #[.agg #[.int .i64 S, pv]] w fun e w' => e = .returned (.bool true) ∧ Far (fun _ => False) w w' := by
  obtain ⟨h0, hh0⟩ : ∃ h, h = w.heap.size := ⟨_, rfl⟩
  obtain ⟨ao, ac, rfl⟩ := Src.form hP.1
  obtain ⟨W, hW⟩ : ∃ W, W = w.alloc (.cells #[.int .i64 S, .slice ao T.length ac] 24) := ⟨_, rfl⟩
  have hF : Far (fun _ => False) w W := hW ▸ alloc_far0 _ _
  have hX : Bk W h0 24 #[.int .i64 S, .slice ao T.length ac] := hW ▸ Bk.new hh0
  have C1 := copy_any S (.slice ao T.length ac) T W (hP.move hF) hfit.1.1 hfit.1.2
  have a0 : W.cell? ⟨h0, 0, none⟩ = some (.int .i64 S) := hX.cell 0
  have a1 : W.cell? ⟨h0, 1, none⟩ = some (.slice ao T.length ac) := hX.cell 1
  have hcn : (c != 0) = true := by rcases hc with rfl | rfl <;> rfl
  have hc' := Lib.hid hc
  have HO' := Lib.hid HO
  have hF' := Lib.hid hF
  have hh0' := Lib.hid hh0
  have hW' := Lib.hid hW
  clear hP hfit hh0 hW hF hX HO hc
  go_enter Try.func6, Try.ntmps6
  go_upto_region 1 with fail
  rw [← hh0'.out, ← hW'.out]
  go_wp2_with fail
  refine C1.mono ?_
  rintro e w1 ⟨pv1, T1, rfl, ho1, hm1, hf1⟩
  have E1 := HO'.out pv1 T1 w1 ho1.prods hm1
  have hf1' := Lib.hid hf1
  clear C1 ho1 hm1 hf1 a0 a1
  go_wp2_with fail
  refine E1.mono ?_
  rintro e w2 ⟨hf2, rfl⟩
  have hf2' := Lib.hid ((hf1'.out.then hf2).alloc (.cells #[.int .i64 0, .slice none 0 0] 24))
  clear E1 hf2
  go_wp2_with fail
  refine (head14_any _).mono ?_
  rintro e w7 ⟨rfl, hf7⟩
  have hf7' := Lib.hid (hf2'.out.then hf7)
  clear hf7
  rcases hc'.out with rfl | rfl
  all_goals
    go_wp2_with fail
    go_ret
    exact ⟨rfl, hF'.out.then hf7'.out⟩
theorem keeps_some (S : Nat) (pv : Value) (T : List Tr) (w : World) (hP : Prods w pv T) (hl : T.length ≤ 1048576) (hN : tot T ≤ 1048576) (hok : CnfOK (S : Int) T) (s : Fs) (hof : ofF (T.map pl) (Fs0 S) = some s) :
    Calls Try.prog 6 #[.agg #[.int .i64 (S : Int), pv]] w fun e w' => e = .returned (.bool true) ∧ Far (fun _ => False) w w' := by
  have hs2 : ∀ t ∈ T, t.2.2.length ≤ 1048576 := fun t ht => by have := tot_mem ht; omega
  have hfit : Fits T := fits_of (by omega) fun t ht => by have := hs2 t ht; omega
  have hS2 : S ≤ 1024 := by have := hok.1.2; omega
  obtain ⟨fo1, fo2, fo3⟩ := ofF_ok _ (Fs0_ok S) hS2 (cnf_pl hok) hof
  obtain ⟨h0, hh0⟩ : ∃ h, h = w.heap.size := ⟨_, rfl⟩
  obtain ⟨ao, ac, rfl⟩ := Src.form hP.1
  obtain ⟨W, hW⟩ : ∃ W, W = w.alloc (.cells #[.int .i64 (S : Int), .slice ao T.length ac] 24) := ⟨_, rfl⟩
  have hF : Far (fun _ => False) w W := hW ▸ alloc_far0 _ _
  have hX : Bk W h0 24 #[.int .i64 (S : Int), .slice ao T.length ac] := hW ▸ Bk.new hh0
  have C1 := copy_any (S : Int) (.slice ao T.length ac) T W (hP.move hF) hfit.1.1 hfit.1.2
  have a0 : W.cell? ⟨h0, 0, none⟩ = some (.int .i64 (S : Int)) := hX.cell 0
  have a1 : W.cell? ⟨h0, 1, none⟩ = some (.slice ao T.length ac) := hX.cell 1
  have HO := Lib.hid (fun pv' T' w' (hp : Prods w' pv' T') (hm : T'.map pl = T.map pl) => wof_yes S pv' T' w' hp (by have := congrArg List.length hm; simp only [List.length_map] at this; omega) (by rw [tot_pl hm]; omega) (ok_pl hm hok))
  have hof' := Lib.hid hof
  have hfo := Lib.hid (show FsOK s ∧ s.n ≤ 1024 from ⟨fo1, fo3⟩)
  have hlN := Lib.hid (show T.length ≤ 1048576 ∧ tot T ≤ 1048576 from ⟨hl, hN⟩)
  have hF' := Lib.hid hF
  have hh0' := Lib.hid hh0
  have hW' := Lib.hid hW
  have HKh := Lib.hid (fun w' (hf : Far (fun _ => False) W w') => (show w'.cell? ⟨h0, 0, none⟩ = some (.int .i64 (S : Int)) ∧ w'.cell? ⟨h0, 1, none⟩ = some (.slice ao T.length ac) from ⟨(hX.far' hf id).cell 0, (hX.far' hf id).cell 1⟩))
  have CP := Lib.hid (fun w' (hf : Far (fun _ => False) W w') => copy_any (S : Int) (.slice ao T.length ac) T w' ((hP.move hF).move hf) hfit.1.1 hfit.1.2)
  have SHc := Lib.hid (fun pv' T' w' (hp : Prods w' pv' T') (hm : T'.map pl = T.map pl) => shortest_yes S pv' T' w' hp (by have := congrArg List.length hm; simp only [List.length_map] at this; omega) (fits_pl hm hfit).2.2 (ok_pl hm hok))
  have hSn : S ≤ s.n := fo2
  have hSS : S ≤ 1024 := hS2
  have hok' := Lib.hid hok
  clear hP hs2 hfit hS2 fo1 fo2 fo3 hh0 hW hF hX hof hl hN hok
  go_enter Try.func6, Try.ntmps6
  go_upto_region 1 with fail
  rw [← hh0'.out, ← hW'.out]
  go_wp2_with fail
  refine C1.mono ?_
  rintro e w1 ⟨pv1, T1, rfl, ho1, hm1, hf1⟩
  have E1 := HO.out pv1 T1 w1 ho1.prods hm1
  have hm1' := Lib.hid hm1
  have hf1' := Lib.hid hf1
  clear C1 ho1 hm1 hf1 a0 a1
  go_wp2_with fail
  refine E1.mono ?_
  rintro e w2 ⟨hf2, hcase⟩
  have hf2' := Lib.hid (hf1'.out.then hf2)
  clear E1 hf2
  rcases hcase with ⟨hn, _⟩ | ⟨s', R, ro, rc, hs', rfl, hRP, hRU, hRM, hRF, hRO, hRl, hRb⟩
  · rw [hm1'.out, hof'.out] at hn; cases hn
  · rw [hm1'.out, hof'.out] at hs'
    obtain rfl : s = s' := Option.some.inj hs'
    have hRw : ∀ t ∈ R, weakB t.2.2 = true := fun t ht => (hfo.out.1.1 _ ((hRM (pl t)).1 (List.mem_map_of_mem ht))).2.1
    have hRl2 : R.length ≤ 12582912 := by
      have h1 := congrArg List.length hm1'.out
      simp only [List.length_map] at h1
      have h2 := tot_pl hm1'.out
      have h3 := hlN.out
      omega
    obtain ⟨kD, hkD⟩ : ∃ k, k = w2.heap.size := ⟨_, rfl⟩
    obtain ⟨w3, hw3⟩ : ∃ w3, w3 = w2.alloc (.cells #[.int .i64 (s.n : Int), .slice ro R.length rc] 24) := ⟨_, rfl⟩
    have hf23 : Far (fun _ => False) w2 w3 := hw3 ▸ alloc_far0 _ _
    have hP3 := Lib.hid (hRP.1.move hf23)
    have hf3' := Lib.hid (hf2'.out.then hf23)
    have hD3 : Hid (Bk w3 kD 24 #[.int .i64 (s.n : Int), .slice ro R.length rc]) := Lib.hid (hw3 ▸ Bk.new hkD)
    have hkD' := Lib.hid hkD
    have hw3' := Lib.hid hw3
    have hR' := Lib.hid (show Up (R.map pl) ∧ (∀ t ∈ R, weakB t.2.2 = true) ∧ Fits R ∧ CnfOK (s.n : Int) R ∧ R.length ≤ 12582912 from ⟨hRU, hRw, hRF, hRO, hRl2⟩)
    have hRM' := Lib.hid hRM
    clear hs' hRP hRU hRM hRF hRO hRl hRb hRw hRl2 hkD hw3 hf23
    go_upto_region 2 with fail
    rw [← hkD'.out, ← hw3'.out]
    go_wp2_with fail
    refine (head14_any _).mono ?_
    rintro e w7 ⟨rfl, hf7⟩
    have hf7' := Lib.hid (hf3'.out.then hf7)
    have hD7 := Lib.hid (hD3.out.far' hf7 id)
    have hP7 := Lib.hid (hP3.out.move hf7)
    have d0 : w7.cell? ⟨kD, 0, none⟩ = some (.int .i64 (s.n : Int)) := hD7.out.cell 0
    have d1 : w7.cell? ⟨kD, 1, none⟩ = some (.slice ro R.length rc) := hD7.out.cell 1
    have I7 := is_any (s.n : Int) (.slice ro R.length rc) R w7 hP7.out hR'.out.2.2.1.2.1 hR'.out.2.2.1.2.2
    clear hf7
    go_wp2_with fail
    refine I7.mono ?_
    rintro e w8 ⟨⟨b, rfl, hb⟩, hf8⟩
    obtain rfl : b = true := hb.2 ⟨hR'.out.2.2.2.1, hR'.out.2.1⟩
    have hf8' := Lib.hid (hf7'.out.then hf8)
    have hD8 := Lib.hid (hD7.out.far' hf8 id)
    have hP8 := Lib.hid (hP7.out.move hf8)
    obtain ⟨a0, a1⟩ := HKh.out w8 hf8'.out
    have d0 : w8.cell? ⟨kD, 0, none⟩ = some (.int .i64 (s.n : Int)) := hD8.out.cell 0
    have d1 : w8.cell? ⟨kD, 1, none⟩ = some (.slice ro R.length rc) := hD8.out.cell 1
    have e7 : decide ((s.n : Int) < (S : Int)) = false := by rw [decide_eq_false_iff_not]; omega
    have C8 := CP.out w8 hf8'.out
    clear I7 hb hf8
    go_wp2_with fail
    refine C8.mono ?_
    rintro e w9 ⟨pv2, T2, rfl, ho2, hm2, hf9⟩
    have S9 := SHc.out pv2 T2 w9 ho2.prods hm2
    have hm2' := Lib.hid hm2
    have hf9' := Lib.hid (hf8'.out.then hf9)
    have hD9 := Lib.hid (hD8.out.far' hf9 id)
    have hP9 := Lib.hid (hP8.out.move hf9)
    clear C8 ho2 hm2 hf9 a0 a1 d0 d1 e7
    go_wp2_with fail
    refine S9.mono ?_
    rintro e w10 ⟨hf10, gA, fa, rfl, hgA, hrA, hshA⟩
    have hf10' := Lib.hid (hf9'.out.then hf10)
    have hD10 := Lib.hid (hD9.out.far' hf10 id)
    have hP10 := Lib.hid (hP9.out.move hf10)
    have hrA' : Hid (IRow w10 gA S fa) := Lib.hid hrA
    have hshA' := Lib.hid hshA
    have d0 : w10.cell? ⟨kD, 0, none⟩ = some (.int .i64 (s.n : Int)) := hD10.out.cell 0
    have d1 : w10.cell? ⟨kD, 1, none⟩ = some (.slice ro R.length rc) := hD10.out.cell 1
    have S10 := shortest_yes s.n (.slice ro R.length rc) R w10 hP10.out (by have := hR'.out.2.2.2.2; omega) hR'.out.2.2.1.2.2 hR'.out.2.2.2.1
    clear S9 hf10 hgA hrA hshA
    go_wp2_with fail
    refine S10.mono ?_
    rintro e w11 ⟨hf11, gB, fb, rfl, hgB, hrB, hshB⟩
    have hf11' := Lib.hid (hf10'.out.then hf11)
    have hD11 := Lib.hid (hD10.out.far' hf11 id)
    have hrA2 : Hid (IRow w11 gA S fa) := Lib.hid (Bk.far' hrA'.out hf11 id)
    have hrB' : Hid (IRow w11 gB s.n fb) := Lib.hid hrB
    have hsame := Lib.hid (fun (k : Nat) (hk : k < S) => (show fa k = fb k from by
      have hA := pl_sh hm2'.out hshA'.out
      exact keeps_math hok'.out hof'.out hRM'.out hA.1 hA.2.2.1 hA.2.2.2 hshB.1 hshB.2.2.1 hshB.2.2.2 hk))
    obtain ⟨a0, a1⟩ := HKh.out w11 hf11'.out
    have d0' : w11.cell? ⟨kD, 0, none⟩ = some (.int .i64 (s.n : Int)) := hD11.out.cell 0
    have q1 : ((S : Int) != (S : Int)) = false := by simp
    have q2 : ((s.n : Int) != (s.n : Int)) = false := by simp
    clear S10 hf11 hgB hrB hshB d0 d1
    go_wp2_with fail
    clear a1 d0' q1 q2 a0
    go_loopw [9] (fun iv wr => ∃ i : Nat, iv = .int .i64 i ∧ i ≤ S ∧ Far (fun _ => False) w11 wr) (fun iv _ => S - (intOf iv).toNat)
    case atStart => exact ⟨0, rfl, Nat.zero_le _, Far.refl _ _⟩
    case round =>
      obtain ⟨i, rfl, hi, hfw⟩ := hrel
      have hfr := Lib.hid (hf11'.out.then hfw)
      obtain ⟨a0, _⟩ := HKh.out wr hfr.out
      by_cases hlt : i < S
      · have e1 : decide ((i : Int) < (S : Int)) = true := by rw [decide_eq_true_eq]; omega
        have hii : (i : Int) < (S : Int) := by omega
        have hiN : (i : Int) < (s.n : Int) := by omega
        have hi0 : 0 ≤ (i : Int) := by omega
        have hiNn : i < s.n := by omega
        obtain ⟨x, hx⟩ : ∃ x, x = fa i := ⟨_, rfl⟩
        have c0 : wr.cell? ⟨gA, i, none⟩ = some (.int .i64 x) := hx ▸ IRow.at (Bk.far' hrA2.out hfw id) hlt
        have c1 : wr.cell? ⟨gB, i, none⟩ = some (.int .i64 x) := by rw [hx, hsame.out i hlt]; exact IRow.at (Bk.far' hrB'.out hfw id) hiNn
        have q3 : (x != x) = false := by simp
        have hfw' := Lib.hid hfw
        clear hfw hx
        go_wp2_with fail
        go_quiet (fail)
        go_wp2_with fail
        go_roundw
        case rel => exact ⟨i + 1, by go_num, by omega, hfw'.out.drewN _⟩
        case measure => simp [intOf]; omega
      · have e1 : decide ((i : Int) < (S : Int)) = false := by rw [decide_eq_false_iff_not]; omega
        clear hfw
        go_wp2_with fail
        go_ret
        exact ⟨rfl, hF'.out.then hfr.out⟩
theorem keepslaw (S : Int) (pv : Value) (T : List Tr) (w : World) (hP : Prods w pv T) (hl : T.length ≤ 1048576) (hN : tot T ≤ 1048576) :
    Calls Try.prog 6 #[.agg #[.int .i64 S, pv]] w fun e w' => e = .returned (.bool true) ∧ Far (fun _ => False) w w' := by
  have hs2 : ∀ t ∈ T, t.2.2.length ≤ 1048576 := fun t ht => by have := tot_mem ht; omega
  have hfit : Fits T := fits_of (by omega) fun t ht => by have := hs2 t ht; omega
  by_cases hok : CnfOK S T
  · obtain ⟨m, rfl⟩ : ∃ m : Nat, S = (m : Int) := ⟨S.toNat, by have := hok.1.1; omega⟩
    cases hof : ofF (T.map pl) (Fs0 m) with
    | none =>
      refine keeps_bad m pv T w hP hfit 240 (by decide) fun pv' T' w' hp hm => ?_
      refine (wof_yes m pv' T' w' hp (by have := congrArg List.length hm; simp only [List.length_map] at this; omega) (by rw [tot_pl hm]; omega) (ok_pl hm hok)).mono fun e w'' ⟨hf, hcase⟩ => ⟨hf, ?_⟩
      rcases hcase with ⟨_, h⟩ | ⟨s, _, _, _, h, _⟩
      · exact h
      · rw [hm, hof] at h; cases h
    | some s => exact keeps_some m pv T w hP hl hN hok s hof
  · exact keeps_bad S pv T w hP hfit 220 (by decide) fun pv' T' w' hp hm => wof_no S pv' T' w' hp (fits_pl hm hfit) fun h => hok (ok_pl hm.symm h)
end
end Go.Proofs.Ytjkfieilaahejaa
