/-
  WcnfOf walked.
-/
import Derived.Test.YtjkfieilaahejaaROf14
import Derived.Test.YtjkfieilaahejaaOf14
import Derived.Test.YtjkfieilaahejaaParts
namespace Go.Proofs.Ytjkfieilaahejaa
open Go.RowKit
set_option linter.unusedVariables false
set_option linter.unusedSimpArgs false
section
set_option maxHeartbeats 8000000
set_option maxRecDepth 100000
theorem both_law (S : Int) (pv : Value) (T : List Tr) (w : World) (hP : Prods w pv T) (hfit : Fits T) (N c : Int) (M : List (Int × List Sy))
    (HO : ∀ pv' T' w', Prods w' pv' T' → T'.map pl = T.map pl → Calls Try.prog 16 #[.agg #[.int .i64 S, pv']] w' fun e w'' => Far (fun _ => False) w' w'' ∧ ∃ R ao ac, e = .returned (.tuple #[.agg #[.int .i64 N, .slice ao R.length ac], .int .i64 c]) ∧ Prods w'' (.slice ao R.length ac) R ∧ R.map pl = M ∧ Fits R)
    (HR : ∀ w', Prods w' pv T → Calls Try.prog 20 #[.agg #[.int .i64 S, pv]] w' fun e w'' => Far (fun _ => False) w' w'' ∧ ∃ R ao ac, e = .returned (.tuple #[.agg #[.int .i64 N, .slice ao R.length ac], .int .i64 c]) ∧ Prods w'' (.slice ao R.length ac) R ∧ R.map pl = M) :
    Calls Try.prog 7 #[.agg #[.int .i64 S, pv]] w fun e w' => e = .returned (.bool true) ∧ Far (fun _ => False) w w' := by
  obtain ⟨h0, hh0⟩ : ∃ h, h = w.heap.size := ⟨_, rfl⟩
  obtain ⟨ao, ac, rfl⟩ := Src.form hP.1
  obtain ⟨W, hW⟩ : ∃ W, W = w.alloc (.cells #[.int .i64 S, .slice ao T.length ac] 24) := ⟨_, rfl⟩
  have hF : Far (fun _ => False) w W := hW ▸ alloc_far0 _ _
  have hX : Bk W h0 24 #[.int .i64 S, .slice ao T.length ac] := hW ▸ Bk.new hh0
  have C1 := copy_any S (.slice ao T.length ac) T W (hP.move hF) hfit.1.1 hfit.1.2
  have a0 : W.cell? ⟨h0, 0, none⟩ = some (.int .i64 S) := hX.cell 0
  have a1 : W.cell? ⟨h0, 1, none⟩ = some (.slice ao T.length ac) := hX.cell 1
  have hPW := Lib.hid (hP.move hF)
  have hX' := Lib.hid hX
  have HO' := Lib.hid HO
  have HR' := Lib.hid HR
  have hF' := Lib.hid hF
  have hh0' := Lib.hid hh0
  have hW' := Lib.hid hW
  clear hP hfit hh0 hW hF hX HO HR
  go_enter Try.func7, Try.ntmps7
  go_upto_region 1 with fail
  rw [← hh0'.out, ← hW'.out]
  go_wp2_with fail
  refine C1.mono ?_
  rintro e w1 ⟨pv1, T1, rfl, ho1, hm1, hf1⟩
  have E1 := HO'.out pv1 T1 w1 ho1.prods hm1
  have hf1' := Lib.hid hf1
  clear C1 ho1 hm1 hf1 a0 a1
  go_wp2_with fail
  refine E1.mono ?_
  rintro e w2 ⟨hf2, R, ro, rc, rfl, hR, hRM, hRf⟩
  have hf2' := Lib.hid (hf1'.out.then hf2)
  obtain ⟨kD, hkD⟩ : ∃ k, k = w2.heap.size := ⟨_, rfl⟩
  obtain ⟨w3, hw3⟩ : ∃ w3, w3 = w2.alloc (.cells #[.int .i64 N, .slice ro R.length rc] 24) := ⟨_, rfl⟩
  have hf23 : Far (fun _ => False) w2 w3 := hw3 ▸ alloc_far0 _ _
  have hR3 := Lib.hid (hR.move hf23)
  have hf3' := Lib.hid (hf2'.out.then hf23)
  have hD3 : Hid (Bk w3 kD 24 #[.int .i64 N, .slice ro R.length rc]) := Lib.hid (hw3 ▸ Bk.new hkD)
  have hX3 := hX'.out.far' hf3'.out id
  have a0 : w3.cell? ⟨h0, 0, none⟩ = some (.int .i64 S) := hX3.cell 0
  have a1 : w3.cell? ⟨h0, 1, none⟩ = some (.slice ao T.length ac) := hX3.cell 1
  have E2 := HR'.out w3 (hPW.out.move hf3'.out)
  have hkD' := Lib.hid hkD
  have hw3' := Lib.hid hw3
  have hRM' := Lib.hid hRM
  have hRf' := Lib.hid hRf
  clear E1 hf2 hR hRM hRf hkD hw3 hf23 hX3
  go_upto_region 2 with fail
  rw [← hkD'.out, ← hw3'.out]
  go_wp2_with fail
  refine E2.mono ?_
  rintro e w4 ⟨hf4, Q, qo, qc, rfl, hQ, hQM⟩
  obtain ⟨kE, hkE⟩ : ∃ k, k = w4.heap.size := ⟨_, rfl⟩
  obtain ⟨w5, hw5⟩ : ∃ w5, w5 = w4.alloc (.cells #[.int .i64 N, .slice qo Q.length qc] 24) := ⟨_, rfl⟩
  have hf45 : Far (fun _ => False) w4 w5 := hw5 ▸ alloc_far0 _ _
  have hf35 := hf4.then hf45
  have hQ5 := Lib.hid (hQ.move hf45)
  have hR5 := Lib.hid (hR3.out.move hf35)
  have hf5' := Lib.hid (hf3'.out.then hf35)
  have hE5 : Hid (Bk w5 kE 24 #[.int .i64 N, .slice qo Q.length qc]) := Lib.hid (hw5 ▸ Bk.new hkE)
  have hD5 := Lib.hid (hD3.out.far' hf35 id)
  have hkE' := Lib.hid hkE
  have hw5' := Lib.hid hw5
  have hQM' := Lib.hid hQM
  clear E2 hf4 hQ hQM hkE hw5 hf45 hf35 a0 a1
  go_upto_region 3 with fail
  rw [← hkE'.out, ← hw5'.out]
  go_wp2_with fail
  refine (head14_any _).mono ?_
  rintro e w7 ⟨rfl, hf7⟩
  have hf7' := Lib.hid (hf5'.out.then hf7)
  have hD7 := hD5.out.far' hf7 id
  have hE7 := hE5.out.far' hf7 id
  have d0 : w7.cell? ⟨kD, 0, none⟩ = some (.int .i64 N) := hD7.cell 0
  have d1 : w7.cell? ⟨kD, 1, none⟩ = some (.slice ro R.length rc) := hD7.cell 1
  have v0 : w7.cell? ⟨kE, 0, none⟩ = some (.int .i64 N) := hE7.cell 0
  have v1 : w7.cell? ⟨kE, 1, none⟩ = some (.slice qo Q.length qc) := hE7.cell 1
  have SM := same_yes N (.slice ro R.length rc) (.slice qo Q.length qc) R Q w7 (hR5.out.move hf7) (hQ5.out.move hf7) (hQM'.out.trans hRM'.out.symm) hRf'.out
  clear hf7 hD7 hE7
  go_wp2_with fail
  refine SM.mono ?_
  rintro e w8 ⟨rfl, hf8⟩
  have hf8' := Lib.hid (hf7'.out.then hf8)
  clear SM hf8 d0 d1 v0 v1
  go_wp2_with fail
  go_ret
  exact ⟨rfl, hF'.out.then hf8'.out⟩
theorem wcnfoflaw (S : Int) (pv : Value) (T : List Tr) (w : World) (hP : Prods w pv T) (hl : T.length ≤ 1048576) (hN : tot T ≤ 1048576) :
    Calls Try.prog 7 #[.agg #[.int .i64 S, pv]] w fun e w' => e = .returned (.bool true) ∧ Far (fun _ => False) w w' := by
  have hs2 : ∀ t ∈ T, t.2.2.length ≤ 1048576 := fun t ht => by have := tot_mem ht; omega
  have hfit : Fits T := fits_of (by omega) fun t ht => by have := hs2 t ht; omega
  have hnil : ∀ w', Prods w' (.slice none ([] : List Tr).length 0) [] := fun w' => ⟨Src.nil _ _, fun t ht => by cases ht⟩
  have fnil : Fits [] := fits_of (by simp) fun t ht => by cases ht
  by_cases hok : CnfOK S T
  · obtain ⟨m, rfl⟩ : ∃ m : Nat, S = (m : Int) := ⟨S.toNat, by have := hok.1.1; omega⟩
    have HOy := fun pv' T' w' (hp : Prods w' pv' T') (hm : T'.map pl = T.map pl) => wof_yes m pv' T' w' hp (by have := congrArg List.length hm; simp only [List.length_map] at this; omega) (by rw [tot_pl hm]; omega) (ok_pl hm hok)
    have HRy := fun w' (hp : Prods w' pv T) => rof_yes m pv T w' hp (by omega) (by omega) hok
    cases hof : ofF (T.map pl) (Fs0 m) with
    | none =>
      refine both_law m pv T w hP hfit 0 240 [] (fun pv' T' w' hp hm => (HOy pv' T' w' hp hm).mono ?_) fun w' hp => (HRy w' hp).mono ?_
      · rintro e w'' ⟨hf, hcase⟩
        rcases hcase with ⟨_, h⟩ | ⟨s, _, _, _, h, _⟩
        · exact ⟨hf, [], none, 0, h, hnil _, rfl, fnil⟩
        · rw [hm, hof] at h; cases h
      · rintro e w'' ⟨hf, hcase⟩
        rcases hcase with ⟨_, h⟩ | ⟨s, _, _, _, h, _⟩
        · exact ⟨hf, [], none, 0, h, hnil _, rfl⟩
        · rw [hof] at h; cases h
    | some s =>
      obtain ⟨T0, hT0⟩ : ∃ T0 : List Tr, T0.map pl = s.ps := ⟨s.ps.map fun p => (p.1, .slice none 0 0, p.2), by rw [List.map_map, show (pl ∘ fun p : Int × List Sy => ((p.1, Value.slice none 0 0, p.2) : Tr)) = id from rfl, List.map_id]⟩
      obtain ⟨c1, c2⟩ := sortL_canon T0
      refine both_law m pv T w hP hfit s.n 0 ((sortL T0).map pl) (fun pv' T' w' hp hm => (HOy pv' T' w' hp hm).mono ?_) fun w' hp => (HRy w' hp).mono ?_
      · rintro e w'' ⟨hf, hcase⟩
        rcases hcase with ⟨h, _⟩ | ⟨s', R, ro, rc, hs', he, hRP, hRU, hRM, hRF, _⟩
        · rw [hm, hof] at h; cases h
        · rw [hm, hof] at hs'
          obtain rfl : s = s' := Option.some.inj hs'
          exact ⟨hf, R, ro, rc, he, hRP.1.move (Far.refl _ _), up_same hRU c1 fun x => by rw [hRM, c2, hT0], hRF⟩
      · rintro e w'' ⟨hf, hcase⟩
        rcases hcase with ⟨h, _⟩ | ⟨s', Q, ro, rc, hs', he, hQP, hQ⟩
        · rw [hof] at h; cases h
        · rw [hof] at hs'
          obtain rfl : s = s' := Option.some.inj hs'
          obtain ⟨d1, d2⟩ := sortL_canon Q
          exact ⟨hf, sortL Q, ro, rc, he, hQP, up_same d1 c1 fun x => by rw [d2, c2, hT0, hQ]⟩
  · refine both_law S pv T w hP hfit 0 220 [] (fun pv' T' w' hp hm => (wof_no S pv' T' w' hp (fits_pl hm hfit) fun h => hok (ok_pl hm.symm h)).mono ?_) fun w' hp => (rof_no S pv T w' hp hfit hok).mono ?_
    · rintro e w'' ⟨hf, h⟩
      exact ⟨hf, [], none, 0, h, hnil _, rfl, fnil⟩
    · rintro e w'' ⟨hf, h⟩
      exact ⟨hf, [], none, 0, h, hnil _, rfl⟩
end
end Go.Proofs.Ytjkfieilaahejaa
