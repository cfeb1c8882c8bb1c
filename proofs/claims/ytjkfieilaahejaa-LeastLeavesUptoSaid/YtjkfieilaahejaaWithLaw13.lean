/-
  LeastWithout walked.
-/
import Derived.Test.YtjkfieilaahejaaWithNo13
import Derived.Test.YtjkfieilaahejaaRWith13
import Derived.Test.YtjkfieilaahejaaPlain
import Derived.Test.YtjkfieilaahejaaHead13
import Derived.Test.YtjkfieilaahejaaRefCheckC
import Derived.Test.YtjkfieilaahejaaTot
namespace Go.Proofs.Ytjkfieilaahejaa
open Go.RowKit
set_option linter.unusedVariables false
set_option linter.unusedSimpArgs false
theorem outT_pl {E : Nat → Bool} {T T' : List Tr} (h : T'.map pl = T.map pl) (x : Int × List Sy) : x ∈ outT E T' → x ∈ outT E T := fun hx => by
  obtain ⟨t, ht, h1, h2, h3⟩ := outT_mem.1 hx
  obtain ⟨u, hu, e1, e2⟩ := pl_some h ht
  exact outT_mem.2 ⟨u, hu, by rw [e1]; exact h1, h2, by rw [e2]; exact h3⟩
theorem far_twelve {E : Nat → Bool} {T T' : List Tr} (h : T'.map pl = T.map pl) : (∃ t ∈ T', 12 < (placesF E 0 t.2.2).length) → ∃ t ∈ T, 12 < (placesF E 0 t.2.2).length := fun ⟨t, ht, hl⟩ => by
  obtain ⟨u, hu, e1, e2⟩ := pl_some h ht
  exact ⟨u, hu, by rw [e2]; exact hl⟩
theorem same_empty {T T1 : List Tr} (hm : T1.map pl = T.map pl) {E E2 : Nat → Bool} {s : Nat → Int} (h1 : ClosedG goodE T1 E) (h2 : LeastG goodE T1 E) (he : E2 = fun k => (s k == 0)) (h3 : ClosedS T s) (h4 : LeastS T s) : E = E2 := by
  rw [he]
  funext k
  rw [Bool.eq_iff_iff, empty_iff h3 h4 (pl_closedG hm.symm h1) (pl_leastG hm h2) k]
  simp
section
set_option maxHeartbeats 8000000
set_option maxRecDepth 100000
theorem withlaw_no (S : Int) (pv : Value) (T : List Tr) (w : World) (hP : Prods w pv T) (hs : T.length ≤ 1048576) (hs2 : ∀ t ∈ T, t.2.2.length ≤ 1048576) (hok : ¬ CnfOK S T) :
    Calls Try.prog 4 #[.agg #[.int .i64 S, pv]] w fun e w' => e = .returned (.bool true) ∧ Far (fun _ => False) w w' := by
  obtain ⟨h0, hh0⟩ : ∃ h, h = w.heap.size := ⟨_, rfl⟩
  obtain ⟨ao, ac, rfl⟩ := Src.form hP.1
  obtain ⟨W, hW⟩ : ∃ W, W = w.alloc (.cells #[.int .i64 S, .slice ao T.length ac] 24) := ⟨_, rfl⟩
  have hF : Far (fun _ => False) w W := hW ▸ alloc_far0 _ _
  have hX : Bk W h0 24 #[.int .i64 S, .slice ao T.length ac] := hW ▸ Bk.new hh0
  have hPW := hP.move hF
  have HK := Lib.hid (fun w' (hf : Far (fun _ => False) W w') => (show w'.cell? ⟨h0, 0, none⟩ = some (.int .i64 S) ∧ w'.cell? ⟨h0, 1, none⟩ = some (.slice ao T.length ac) from ⟨(hX.far' hf id).cell 0, (hX.far' hf id).cell 1⟩))
  have CP := copy_any S (.slice ao T.length ac) T W hPW (by omega) (fun t ht => by have := hs2 t ht; omega)
  have RC := Lib.hid (fun w' (hf : Far (fun _ => False) W w') => rcheck_any S (.slice ao T.length ac) T w' (hPW.move hf) (by unfold maxLen; omega) (fun t ht => by have := hs2 t ht; unfold maxLen; omega))
  rw [pcode_no hok] at RC
  have LW := Lib.hid (fun pv' T' w' (hp : Prods w' pv' T') (hm : T'.map pl = T.map pl) => without_no S pv' T' w' hp (by have h9 := congrArg List.length hm; simp only [List.length_map] at h9; unfold maxLen; omega) (fun t ht => by obtain ⟨u, hu, _, e2⟩ := pl_some hm ht; have := hs2 u hu; rw [← e2]; unfold maxLen; omega) fun hk => hok (pl_ok hm.symm hk))
  obtain ⟨a0, a1⟩ := HK.out W (Far.refl _ _)
  have hF' := Lib.hid hF
  have hh0' := Lib.hid hh0
  have hW' := Lib.hid hW
  have CP' := Lib.hid CP
  clear hP hs hs2 hok hh0 hW hF hX hPW CP
  go_enter Try.func4, Try.ntmps4
  go_upto_region 1 with fail
  rw [← hh0'.out, ← hW'.out]
  go_wp2_with fail
  refine CP'.out.mono ?_
  rintro e w1 ⟨pv1, T1, rfl, ho1, hm1, hf1⟩
  have E1 := LW.out pv1 T1 w1 ho1.prods hm1
  have hf1' := Lib.hid hf1
  clear ho1 hm1 hf1 a0 a1
  go_wp2_with fail
  refine E1.mono ?_
  rintro e w2 ⟨hf2, rfl⟩
  obtain ⟨kD, hkD⟩ : ∃ k, k = w2.heap.size := ⟨_, rfl⟩
  obtain ⟨W3, hW3⟩ : ∃ W, W = w2.alloc (.cells #[.int .i64 0, .slice none 0 0] 24) := ⟨_, rfl⟩
  have hf2' := Lib.hid (hf1'.out.then (hf2.then (hW3 ▸ alloc_far0 _ _)))
  have hkD' := Lib.hid hkD
  have hW3' := Lib.hid hW3
  clear E1 hf2 hkD hW3
  go_wp2_with fail
  rw [← hkD'.out, ← hW3'.out]
  refine (head13_any _).mono ?_
  rintro e w7 ⟨rfl, hf7⟩
  have hf7' := Lib.hid (hf2'.out.then hf7)
  obtain ⟨a0, a1⟩ := HK.out w7 hf7'.out
  have R7 := RC.out w7 hf7'.out
  clear hf7
  go_wp2_with fail
  refine R7.mono ?_
  rintro e w8 ⟨rfl, hf8⟩
  have hf8' := Lib.hid (hf7'.out.then hf8)
  clear R7 hf8 a0 a1
  go_wp2_with fail
  go_ret
  exact ⟨rfl, hF'.out.then hf8'.out⟩
theorem withlaw_yes (S : Nat) (pv : Value) (T : List Tr) (w : World) (hP : Prods w pv T) (hs : T.length ≤ 1048576) (hs2 : ∀ t ∈ T, t.2.2.length ≤ 1048576) (hcp : ∀ t ∈ T, Capd t.2.1) (hok : CnfOK (S : Int) T) :
    Calls Try.prog 4 #[.agg #[.int .i64 (S : Int), pv]] w fun e w' => e = .returned (.bool true) ∧ Far (fun _ => False) w w' := by
  obtain ⟨h0, hh0⟩ : ∃ h, h = w.heap.size := ⟨_, rfl⟩
  obtain ⟨ao, ac, rfl⟩ := Src.form hP.1
  obtain ⟨W, hW⟩ : ∃ W, W = w.alloc (.cells #[.int .i64 (S : Int), .slice ao T.length ac] 24) := ⟨_, rfl⟩
  have hF : Far (fun _ => False) w W := hW ▸ alloc_far0 _ _
  have hX : Bk W h0 24 #[.int .i64 (S : Int), .slice ao T.length ac] := hW ▸ Bk.new hh0
  have hPW := hP.move hF
  have HK := Lib.hid (fun w' (hf : Far (fun _ => False) W w') => (show w'.cell? ⟨h0, 0, none⟩ = some (.int .i64 (S : Int)) ∧ w'.cell? ⟨h0, 1, none⟩ = some (.slice ao T.length ac) from ⟨(hX.far' hf id).cell 0, (hX.far' hf id).cell 1⟩))
  have CP := copy_any (S : Int) (.slice ao T.length ac) T W hPW (by omega) (fun t ht => by have := hs2 t ht; omega)
  have RC := Lib.hid (fun w' (hf : Far (fun _ => False) W w') => rcheck_any (S : Int) (.slice ao T.length ac) T w' (hPW.move hf) (by unfold maxLen; omega) (fun t ht => by have := hs2 t ht; unfold maxLen; omega))
  rw [pcode_yes hok] at RC
  have LW := Lib.hid (fun pv' T' w' (hp : Prods w' pv' T') (hm : T'.map pl = T.map pl) => without_yes S pv' T' w' hp (by have h9 := congrArg List.length hm; simp only [List.length_map] at h9; omega) (fun t ht => by obtain ⟨u, hu, _, e2⟩ := pl_some hm ht; have := hs2 u hu; rw [← e2]; exact this) (pl_ok hm hok))
  have RW' := Lib.hid (fun w' (hf : Far (fun _ => False) W w') => rwithout_any S (.slice ao T.length ac) T w' (hPW.move hf) hs hs2 hcp hok)
  obtain ⟨a0, a1⟩ := HK.out W (Far.refl _ _)
  have hF' := Lib.hid hF
  have hh0' := Lib.hid hh0
  have hW' := Lib.hid hW
  have CP' := Lib.hid CP
  clear hP hs hs2 hok hh0 hW hF hX hPW CP hcp
  go_enter Try.func4, Try.ntmps4
  go_upto_region 1 with fail
  rw [← hh0'.out, ← hW'.out]
  go_wp2_with fail
  refine CP'.out.mono ?_
  rintro e w1 ⟨pv1, T1, rfl, ho1, hm1, hf1⟩
  have E1 := LW.out pv1 T1 w1 ho1.prods hm1
  have hf1' := Lib.hid hf1
  have hm1' := Lib.hid hm1
  clear ho1 hm1 hf1 a0 a1
  go_wp2_with fail
  refine E1.mono ?_
  rintro e w2 ⟨hf2, E, hcE, hlE, hcase⟩
  have hcE' := Lib.hid hcE
  have hlE' := Lib.hid hlE
  have hf2a := Lib.hid hf2
  clear E1 hcE hlE hf2
  obtain ⟨kD, hkD⟩ : ∃ k, k = w2.heap.size := ⟨_, rfl⟩
  rcases hcase with ⟨hbad, rfl⟩ | ⟨hall, R, ro, rc, rfl, hpo, hup, hmem, hfR, hokR⟩
  · have hbad' := Lib.hid hbad
    clear hbad
    obtain ⟨W3, hW3⟩ : ∃ W, W = w2.alloc (.cells #[.int .i64 0, .slice none 0 0] 24) := ⟨_, rfl⟩
    have hD3 := Lib.hid (hW3 ▸ Bk.new hkD : Bk W3 kD 24 #[.int .i64 0, .slice none 0 0])
    have hf2' := Lib.hid (hf1'.out.then (hf2a.out.then (hW3 ▸ alloc_far0 _ _)))
    have hkD' := Lib.hid hkD
    have hW3' := Lib.hid hW3
    clear hkD hW3
    go_wp2_with fail
    rw [← hkD'.out, ← hW3'.out]
    refine (head13_any _).mono ?_
    rintro e w7 ⟨rfl, hf7⟩
    have hf37 := Lib.hid hf7
    have hf7' := Lib.hid (hf2'.out.then hf7)
    obtain ⟨a0, a1⟩ := HK.out w7 hf7'.out
    have R7 := RC.out w7 hf7'.out
    clear hf7
    go_wp2_with fail
    refine R7.mono ?_
    rintro e w8 ⟨rfl, hf8⟩
    have hf39 := Lib.hid (hf37.out.then hf8)
    have hf8' := Lib.hid (hf7'.out.then hf8)
    clear R7 hf8 a0 a1
    obtain ⟨a0, a1⟩ := HK.out w8 hf8'.out
    have W8 := RW'.out w8 hf8'.out
    go_wp2_with fail
    refine W8.mono ?_
    rintro e w9 ⟨hf9, E2, s, hE2, hcs, hls, hrg, hcase⟩
    have hD9 := (hD3.out.far' hf39.out id).far' hf9 id
    have hEE := same_empty hm1'.out hcE'.out hlE'.out hE2 hcs hls
    clear W8 a0 a1 hE2 hcs hls hrg
    rcases hcase with ⟨hb2, rfl⟩ | ⟨hall, _⟩
    · obtain ⟨kE, hkE⟩ : ∃ k, k = w9.heap.size := ⟨_, rfl⟩
      obtain ⟨W5, hW5⟩ : ∃ W, W = w9.alloc (.cells #[.int .i64 0, .slice none 0 0] 24) := ⟨_, rfl⟩
      have hE5 := hW5 ▸ Bk.new hkE
      have hf5 : Far (fun _ => False) w9 W5 := hW5 ▸ alloc_far0 _ _
      have hD5 := hD9.far' hf5 id
      have hkl : kD < w9.heap.size := hD9.lt
      have v0 : w9.cell? ⟨kD, 0, none⟩ = some (.int .i64 0) := hD9.cell 0
      have v1 : w9.cell? ⟨kD, 1, none⟩ = some (.slice none 0 0) := hD9.cell 1
      have SM := Lib.hid (same_yes 0 (.slice none 0 0) (.slice none 0 0) [] [] W5 ⟨Src.nil _ _, fun t ht => by cases ht⟩ ⟨Src.nil _ _, fun t ht => by cases ht⟩ rfl (fits_of (by simp) fun t ht => by cases ht))
      have hf9' := Lib.hid (hf8'.out.then (hf9.then hf5))
      have hkE' := Lib.hid hkE
      have hW5' := Lib.hid hW5
      clear hf9 hf5 hD5 hD9 hkE hW5 hE5
      go_wp2_with (go_at_call 15; rw [← hW5'.out]; refine SM.out.mono ?_; rintro e w10 ⟨rfl, hf10⟩; have hf10' := Lib.hid (hf9'.out.then hf10); clear hf10)
      go_ret
      exact ⟨rfl, hF'.out.then hf10'.out⟩
    · obtain ⟨t, ht, hl⟩ := far_twelve hm1'.out hbad'.out
      rw [hEE] at hl
      have := hall t ht
      omega
  · obtain ⟨W3, hW3⟩ : ∃ W, W = w2.alloc (.cells #[.int .i64 (S : Int), .slice ro R.length rc] 24) := ⟨_, rfl⟩
    have hfA : Far (fun _ => False) w2 W3 := hW3 ▸ alloc_far0 _ _
    have hD3 := Lib.hid (hW3 ▸ Bk.new hkD : Bk W3 kD 24 #[.int .i64 (S : Int), .slice ro R.length rc])
    have hf2' := Lib.hid (hf1'.out.then (hf2a.out.then hfA))
    have hpo' := Lib.hid (hpo.1.move hfA)
    have hall' := Lib.hid hall
    have hup' := Lib.hid hup
    have hmem' := Lib.hid hmem
    have hfR' := Lib.hid hfR
    have hkD' := Lib.hid hkD
    have hW3' := Lib.hid hW3
    clear hkD hW3 hpo hall hup hmem hfR hokR hfA
    go_wp2_with fail
    rw [← hkD'.out, ← hW3'.out]
    refine (head13_any _).mono ?_
    rintro e w7 ⟨rfl, hf7⟩
    have hf37 := Lib.hid hf7
    have hf7' := Lib.hid (hf2'.out.then hf7)
    obtain ⟨a0, a1⟩ := HK.out w7 hf7'.out
    have R7 := RC.out w7 hf7'.out
    clear hf7
    go_wp2_with fail
    refine R7.mono ?_
    rintro e w8 ⟨rfl, hf8⟩
    have hf39 := Lib.hid (hf37.out.then hf8)
    have hf8' := Lib.hid (hf7'.out.then hf8)
    clear R7 hf8 a0 a1
    obtain ⟨a0, a1⟩ := HK.out w8 hf8'.out
    have W8 := RW'.out w8 hf8'.out
    go_wp2_with fail
    refine W8.mono ?_
    rintro e w9 ⟨hf9, E2, s, hE2, hcs, hls, hrg, hcase⟩
    have hD9 := (hD3.out.far' hf39.out id).far' hf9 id
    have hEE := same_empty hm1'.out hcE'.out hlE'.out hE2 hcs hls
    clear W8 a0 a1 hE2 hcs hls hrg
    rcases hcase with ⟨hb2, _⟩ | ⟨_, R2, so, sc, rfl, hp2, hrw⟩
    · obtain ⟨t, ht, hl⟩ := far_twelve hm1'.out.symm (hEE ▸ hb2)
      have := hall'.out t ht
      omega
    · obtain ⟨kE, hkE⟩ : ∃ k, k = w9.heap.size := ⟨_, rfl⟩
      obtain ⟨W5, hW5⟩ : ∃ W, W = w9.alloc (.cells #[.int .i64 (S : Int), .slice so R2.length sc] 24) := ⟨_, rfl⟩
      have hE5 : Bk W5 kE 24 #[.int .i64 (S : Int), .slice so R2.length sc] := hW5 ▸ Bk.new hkE
      have hf5 : Far (fun _ => False) w9 W5 := hW5 ▸ alloc_far0 _ _
      have hD5 := hD9.far' hf5 id
      have hkl : kD < w9.heap.size := hD9.lt
      have v0 : w9.cell? ⟨kD, 0, none⟩ = some (.int .i64 (S : Int)) := hD9.cell 0
      have v1 : w9.cell? ⟨kD, 1, none⟩ = some (.slice ro R.length rc) := hD9.cell 1
      have hEq : R2.map pl = R.map pl := up_same hrw.2.2.1 hup'.out fun x => (hrw.2.2.2 x).trans (by rw [List.take_length, ← hEE]; exact ⟨fun h => (hmem'.out x).2 (outT_pl hm1'.out.symm x h), fun h => outT_pl hm1'.out x ((hmem'.out x).1 h)⟩)
      have SM := Lib.hid (same_yes (S : Int) (.slice ro R.length rc) (.slice so R2.length sc) R R2 W5 ((hpo'.out.move hf39.out).move (hf9.then hf5)) (hp2.move hf5) hEq hfR'.out)
      have hf9' := Lib.hid (hf8'.out.then (hf9.then hf5))
      have hkE' := Lib.hid hkE
      have hW5' := Lib.hid hW5
      clear hf9 hf5 hD5 hD9 hkE hW5 hE5 hp2 hrw hEq hEE
      go_wp2_with (go_at_call 15; rw [← hW5'.out]; refine SM.out.mono ?_; rintro e w10 ⟨rfl, hf10⟩; have hf10' := Lib.hid (hf9'.out.then hf10); clear hf10)
      go_ret
      exact ⟨rfl, hF'.out.then hf10'.out⟩
theorem withlaw (S : Int) (pv : Value) (T : List Tr) (w : World) (hP : Prods w pv T) (hcp : ∀ t ∈ T, Capd t.2.1) (hl : T.length ≤ 1048576) (hN : tot T ≤ 1048576) :
    Calls Try.prog 4 #[.agg #[.int .i64 S, pv]] w fun e w' => e = .returned (.bool true) ∧ Far (fun _ => False) w w' := by
  have hs2 : ∀ t ∈ T, t.2.2.length ≤ 1048576 := fun t ht => by have := tot_mem ht; omega
  by_cases hok : CnfOK S T
  · obtain ⟨m, rfl⟩ : ∃ m : Nat, S = (m : Int) := ⟨S.toNat, by have := hok.1.1; omega⟩
    exact withlaw_yes m pv T w hP hl hs2 hcp hok
  · exact withlaw_no S pv T w hP hl hs2 hok
end
end Go.Proofs.Ytjkfieilaahejaa
