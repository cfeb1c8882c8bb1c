/-
  LeastLeaves walked.
-/
import Derived.Test.YtjkfieilaahejaaWithLaw13
import Derived.Test.YtjkfieilaahejaaLeavesM13
import Derived.Test.YtjkfieilaahejaaShort13
import Derived.Test.YtjkfieilaahejaaMadeE13
namespace Go.Proofs.Ytjkfieilaahejaa
open Go.RowKit
set_option linter.unusedVariables false
set_option linter.unusedSimpArgs false
section
set_option maxHeartbeats 8000000
set_option maxRecDepth 100000
theorem leaveslaw_no (S : Int) (pv : Value) (T : List Tr) (w : World) (hP : Prods w pv T) (hs : T.length ≤ 1048576) (hs2 : ∀ t ∈ T, t.2.2.length ≤ 1048576) (hok : ¬ CnfOK S T) :
    Calls Try.prog 3 #[.agg #[.int .i64 S, pv]] w fun e w' => e = .returned (.bool true) ∧ Far (fun _ => False) w w' := by
  obtain ⟨h0, hh0⟩ : ∃ h, h = w.heap.size := ⟨_, rfl⟩
  obtain ⟨ao, ac, rfl⟩ := Src.form hP.1
  obtain ⟨W, hW⟩ : ∃ W, W = w.alloc (.cells #[.int .i64 S, .slice ao T.length ac] 24) := ⟨_, rfl⟩
  have hF : Far (fun _ => False) w W := hW ▸ alloc_far0 _ _
  have hX : Bk W h0 24 #[.int .i64 S, .slice ao T.length ac] := hW ▸ Bk.new hh0
  have hPW := hP.move hF
  have HK := Lib.hid (fun w' (hf : Far (fun _ => False) W w') => (show w'.cell? ⟨h0, 0, none⟩ = some (.int .i64 S) ∧ w'.cell? ⟨h0, 1, none⟩ = some (.slice ao T.length ac) from ⟨(hX.far' hf id).cell 0, (hX.far' hf id).cell 1⟩))
  have CP := copy_any S (.slice ao T.length ac) T W hPW (by omega) (fun t ht => by have := hs2 t ht; omega)
  have LW := Lib.hid (fun pv' T' w' (hp : Prods w' pv' T') (hm : T'.map pl = T.map pl) => without_no S pv' T' w' hp (by have h9 := congrArg List.length hm; simp only [List.length_map] at h9; unfold maxLen; omega) (fun t ht => by obtain ⟨u, hu, _, e2⟩ := pl_some hm ht; have := hs2 u hu; rw [← e2]; unfold maxLen; omega) fun hk => hok (pl_ok hm.symm hk))
  obtain ⟨a0, a1⟩ := HK.out W (Far.refl _ _)
  have hF' := Lib.hid hF
  have hh0' := Lib.hid hh0
  have hW' := Lib.hid hW
  have CP' := Lib.hid CP
  clear hP hs hs2 hok hh0 hW hF hX hPW CP
  go_enter Try.func3, Try.ntmps3
  go_upto_region 1 with fail
  rw [← hh0'.out, ← hW'.out]
  go_wp2_with fail
  refine CP'.out.mono ?_
  rintro e w1 ⟨pv1, T1, rfl, ho1, hm1, hf1⟩
  have E1 := LW.out pv1 T1 w1 ho1.prods hm1
  have hf1' := Lib.hid hf1
  clear ho1 hm1 hf1 a0 a1
  go_wp2_with fail
  refine E1.mono ?_
  rintro e w2 ⟨hf2, rfl⟩
  have hf2a := Lib.hid hf2
  obtain ⟨kD, hkD⟩ : ∃ k, k = w2.heap.size := ⟨_, rfl⟩
  clear E1 hf2
  obtain ⟨W3, hW3⟩ : ∃ W, W = w2.alloc (.cells #[.int .i64 0, .slice none 0 0] 24) := ⟨_, rfl⟩
  have hf2' := Lib.hid (hf1'.out.then (hf2a.out.then (hW3 ▸ alloc_far0 _ _)))
  have hkD' := Lib.hid hkD
  have hW3' := Lib.hid hW3
  clear hkD hW3
  go_wp2_with fail
  rw [← hkD'.out, ← hW3'.out]
  refine (head13_any _).mono ?_
  rintro e w7 ⟨rfl, hf7⟩
  have hf7' := Lib.hid (hf2'.out.then hf7)
  clear hf7
  go_wp2_with fail
  go_ret
  exact ⟨rfl, hF'.out.then hf7'.out⟩
theorem leaveslaw_yes (S : Nat) (pv : Value) (T : List Tr) (w : World) (hP : Prods w pv T) (hs : T.length ≤ 1048576) (hs2 : ∀ t ∈ T, t.2.2.length ≤ 1048576) (hok : CnfOK (S : Int) T) :
    Calls Try.prog 3 #[.agg #[.int .i64 (S : Int), pv]] w fun e w' => e = .returned (.bool true) ∧ Far (fun _ => False) w w' := by
  have hS2 : S ≤ 1024 := by have := hok.1.2; omega
  obtain ⟨h0, hh0⟩ : ∃ h, h = w.heap.size := ⟨_, rfl⟩
  obtain ⟨ao, ac, rfl⟩ := Src.form hP.1
  obtain ⟨W, hW⟩ : ∃ W, W = w.alloc (.cells #[.int .i64 (S : Int), .slice ao T.length ac] 24) := ⟨_, rfl⟩
  have hF : Far (fun _ => False) w W := hW ▸ alloc_far0 _ _
  have hX : Bk W h0 24 #[.int .i64 (S : Int), .slice ao T.length ac] := hW ▸ Bk.new hh0
  have hPW := hP.move hF
  have HK := Lib.hid (fun w' (hf : Far (fun _ => False) W w') => (show w'.cell? ⟨h0, 0, none⟩ = some (.int .i64 (S : Int)) ∧ w'.cell? ⟨h0, 1, none⟩ = some (.slice ao T.length ac) from ⟨(hX.far' hf id).cell 0, (hX.far' hf id).cell 1⟩))
  have CP := copy_any (S : Int) (.slice ao T.length ac) T W hPW (by omega) (fun t ht => by have := hs2 t ht; omega)
  have LW := Lib.hid (fun pv' T' w' (hp : Prods w' pv' T') (hm : T'.map pl = T.map pl) => without_yes S pv' T' w' hp (by have h9 := congrArg List.length hm; simp only [List.length_map] at h9; omega) (fun t ht => by obtain ⟨u, hu, _, e2⟩ := pl_some hm ht; have := hs2 u hu; rw [← e2]; exact this) (pl_ok hm hok))
  have SC := Lib.hid (fun w' (hf : Far (fun _ => False) W w') => shortest_yes S (.slice ao T.length ac) T w' (hPW.move hf) (by omega) (fun t ht => by have := hs2 t ht; unfold maxLen; omega) hok)
  have hs' := Lib.hid hs
  have hs2' := Lib.hid hs2
  obtain ⟨a0, a1⟩ := HK.out W (Far.refl _ _)
  have hF' := Lib.hid hF
  have hh0' := Lib.hid hh0
  have hW' := Lib.hid hW
  have CP' := Lib.hid CP
  clear hP hs hs2 hok hh0 hW hF hX hPW CP
  go_enter Try.func3, Try.ntmps3
  go_upto_region 1 with fail
  rw [← hh0'.out, ← hW'.out]
  go_wp2_with fail
  refine CP'.out.mono ?_
  rintro e w1 ⟨pv1, T1, rfl, ho1, hm1, hf1⟩
  have E1 := LW.out pv1 T1 w1 ho1.prods hm1
  have hf1' := Lib.hid hf1
  have hm1' := Lib.hid hm1
  clear ho1 hm1 hf1 a0 a1
  go_wp2_with fail
  refine E1.mono ?_
  rintro e w2 ⟨hf2, E, hcE, hlE, hcase⟩
  have hcE' := Lib.hid (pl_closedG hm1'.out.symm hcE)
  have hlE' := Lib.hid (pl_leastG hm1'.out hlE)
  have hf2a := Lib.hid hf2
  clear E1 hcE hlE hf2
  obtain ⟨kD, hkD⟩ : ∃ k, k = w2.heap.size := ⟨_, rfl⟩
  rcases hcase with ⟨hbad, rfl⟩ | ⟨hall, R, ro, rc, rfl, hpo, hup, hmem, hfR, hokR⟩
  · clear hbad
    obtain ⟨W3, hW3⟩ : ∃ W, W = w2.alloc (.cells #[.int .i64 0, .slice none 0 0] 24) := ⟨_, rfl⟩
    have hf2' := Lib.hid (hf1'.out.then (hf2a.out.then (hW3 ▸ alloc_far0 _ _)))
    have hkD' := Lib.hid hkD
    have hW3' := Lib.hid hW3
    clear hkD hW3
    go_wp2_with fail
    rw [← hkD'.out, ← hW3'.out]
    refine (head13_any _).mono ?_
    rintro e w7 ⟨rfl, hf7⟩
    have hf7' := Lib.hid (hf2'.out.then hf7)
    clear hf7
    go_wp2_with fail
    go_ret
    exact ⟨rfl, hF'.out.then hf7'.out⟩
  · obtain ⟨W3, hW3⟩ : ∃ W, W = w2.alloc (.cells #[.int .i64 (S : Int), .slice ro R.length rc] 24) := ⟨_, rfl⟩
    have hfA : Far (fun _ => False) w2 W3 := hW3 ▸ alloc_far0 _ _
    have hD3 := Lib.hid (hW3 ▸ Bk.new hkD : Bk W3 kD 24 #[.int .i64 (S : Int), .slice ro R.length rc])
    have hf2' := Lib.hid (hf1'.out.then (hf2a.out.then hfA))
    have hpo' := Lib.hid (hpo.1.move hfA)
    have hmem' := Lib.hid (show ∀ x, x ∈ R.map pl ↔ x ∈ outT E T from fun x => (hmem x).trans ⟨outT_pl hm1'.out x, outT_pl hm1'.out.symm x⟩)
    have hfR' := Lib.hid hfR
    have hokR' := Lib.hid hokR
    have hkD' := Lib.hid hkD
    have hW3' := Lib.hid hW3
    have hRl : R.length ≤ 4398046510976 := by have := hfR.1.1; omega
    have LE := Lib.hid (fun w' (hf : Far (fun _ => False) W3 w') => leastE_yes S (.slice ro R.length rc) R w' (hpo'.out.move hf) hRl hfR'.out.2.2 hokR'.out)
    have SD := Lib.hid (fun w' (hf : Far (fun _ => False) W3 w') => shortest_yes S (.slice ro R.length rc) R w' (hpo'.out.move hf) hRl hfR'.out.2.2 hokR'.out)
    have HD := Lib.hid (fun w' (hf : Far (fun _ => False) W3 w') => (show w'.cell? ⟨kD, 0, none⟩ = some (.int .i64 (S : Int)) ∧ w'.cell? ⟨kD, 1, none⟩ = some (.slice ro R.length rc) from ⟨(hD3.out.far' hf id).cell 0, (hD3.out.far' hf id).cell 1⟩))
    clear hkD hW3 hpo hall hup hmem hfR hokR hfA
    go_wp2_with fail
    rw [← hkD'.out, ← hW3'.out]
    refine (head13_any _).mono ?_
    rintro e w7 ⟨rfl, hf7⟩
    have hf7a := Lib.hid hf7
    have hf7' := Lib.hid (hf2'.out.then hf7)
    obtain ⟨d0, d1⟩ := HD.out w7 hf7
    have L7 := LE.out w7 hf7
    clear hf7
    go_wp2_with fail
    refine L7.mono ?_
    rintro e w8 ⟨hf8, gE, fE, rfl, hgE, hrE, hcF, hlF⟩
    have hf8a := Lib.hid (hf7a.out.then hf8)
    have hf8' := Lib.hid (hf7'.out.then hf8)
    have hrE' := Lib.hid hrE
    have hno := Lib.hid (fun n => noempty hmem'.out hlF n)
    clear L7 d0 d1 hgE hcF hlF hrE
    obtain ⟨a0, a1⟩ := HK.out w8 hf8'.out
    obtain ⟨d0, d1⟩ := HD.out w8 hf8a.out
    clear hf8
    have S8 := SC.out w8 hf8'.out
    go_wp2_with fail
    refine S8.mono ?_
    rintro e w9 ⟨hf9, gS, s, rfl, hgS, hrS, hsh⟩
    have hrE9 : Hid (BRow w9 gE S fE) := Lib.hid (Bk.far' hrE'.out hf9 id)
    have hf9a := Lib.hid (hf8a.out.then hf9)
    have hf9' := Lib.hid (hf8'.out.then hf9)
    have hrS' := Lib.hid hrS
    have hsh' := Lib.hid hsh
    clear S8 a0 a1 d0 d1 hgS hrS hsh hf9
    obtain ⟨d0, d1⟩ := HD.out w9 hf9a.out
    have S9 := SD.out w9 hf9a.out
    go_wp2_with fail
    refine S9.mono ?_
    rintro e w10 ⟨hf10, gT, t, rfl, hgT, hrT, hth⟩
    have hrE10 : Hid (BRow w10 gE S fE) := Lib.hid (Bk.far' hrE9.out hf10 id)
    have hrS10 : Hid (IRow w10 gS S s) := Lib.hid (Bk.far' hrS'.out hf10 id)
    have hrT' : Hid (IRow w10 gT S t) := Lib.hid hrT
    have hf10' := Lib.hid (hf9'.out.then hf10)
    have hM := Lib.hid (fun n => leaves (fun k => empty_iff hsh'.out.1 hsh'.out.2.2.1 hcE'.out hlE'.out k) hmem'.out hsh'.out.1 hsh'.out.2.2.1 hth.1 hth.2.2.1 n)
    clear S9 d0 d1 hgT hrT hth hf10
    obtain ⟨a0, a1⟩ := HK.out w10 hf10'.out
    go_wp2_with fail
    clear a0 a1
    go_loopw [11] (fun iv wr => ∃ n : Nat, iv = .int .i64 n ∧ n ≤ S ∧ Far (fun _ => False) w10 wr) (fun iv _ => S - (intOf iv).toNat)
    case atStart => exact ⟨0, rfl, Nat.zero_le _, Far.refl _ _⟩
    case round =>
      obtain ⟨n, rfl, hn, hfw⟩ := hrel
      obtain ⟨a0, a1⟩ := HK.out wr (hf10'.out.then hfw)
      have hfw' := Lib.hid hfw
      by_cases hlt : n < S
      · have e1 : decide ((n : Int) < (S : Int)) = true := by rw [decide_eq_true_eq]; omega
        have hii : (n : Int) < (S : Int) := by omega
        have rE : wr.cell? ⟨gE, n, none⟩ = some (.bool false) := hno.out n ▸ BRow.at (show BRow wr gE S fE from Bk.far' hrE10.out hfw id) hlt
        have rS : wr.cell? ⟨gS, n, none⟩ = some (.int .i64 (s n)) := IRow.at (show IRow wr gS S s from Bk.far' hrS10.out hfw id) hlt
        have rT0 := Lib.hid (IRow.at (show IRow wr gT S t from Bk.far' hrT'.out hfw id) hlt)
        have hm := Lib.hid (hM.out n)
        clear hfw
        rcases Int.lt_trichotomy (s n) 0 with hc | hc | hc
        · have rT : wr.cell? ⟨gT, n, none⟩ = some (.int .i64 (t n)) := rT0.out
          have ht := hm.out.2 hc
          have b0 : decide (0 < s n) = false := decide_eq_false (by omega)
          have b1 : decide (s n > 0) = false := decide_eq_false (by omega)
          have b2 : decide (s n < 0) = true := decide_eq_true hc
          have b3 : decide (0 ≤ t n) = false := decide_eq_false (by omega)
          have b4 : decide (t n ≥ 0) = false := decide_eq_false (by omega)
          clear hc ht
          go_wp2_with fail
          go_quiet (fail)
          go_wp2_with fail
          go_roundw
          case rel => exact ⟨n + 1, by go_num, by omega, hfw'.out.drewN _⟩
          case measure => simp [intOf]; omega
        · have rT : wr.cell? ⟨gT, n, none⟩ = some (.int .i64 (t n)) := rT0.out
          have b0 : decide (0 < s n) = false := decide_eq_false (by omega)
          have b1 : decide (s n > 0) = false := decide_eq_false (by omega)
          have b2 : decide (s n < 0) = false := decide_eq_false (by omega)
          clear hc
          go_wp2_with fail
          go_quiet (fail)
          go_wp2_with fail
          go_roundw
          case rel => exact ⟨n + 1, by go_num, by omega, hfw'.out.drewN _⟩
          case measure => simp [intOf]; omega
        · have rT : wr.cell? ⟨gT, n, none⟩ = some (.int .i64 (s n)) := hm.out.1 hc ▸ rT0.out
          have b0 : decide (0 < s n) = true := decide_eq_true hc
          have b1 : decide (s n > 0) = true := decide_eq_true hc
          have b2 : decide (s n < 0) = false := decide_eq_false (by omega)
          clear hc
          go_wp2_with fail
          go_quiet (fail)
          go_wp2_with fail
          go_roundw
          case rel => exact ⟨n + 1, by go_num, by omega, hfw'.out.drewN _⟩
          case measure => simp [intOf]; omega
      · have e1 : decide ((n : Int) < (S : Int)) = false := by rw [decide_eq_false_iff_not]; omega
        clear hfw
        go_wp2_with fail
        go_ret
        exact ⟨rfl, hF'.out.then (hf10'.out.then hfw'.out)⟩
theorem leaveslaw (S : Int) (pv : Value) (T : List Tr) (w : World) (hP : Prods w pv T) (hl : T.length ≤ 1048576) (hN : tot T ≤ 1048576) :
    Calls Try.prog 3 #[.agg #[.int .i64 S, pv]] w fun e w' => e = .returned (.bool true) ∧ Far (fun _ => False) w w' := by
  have hs2 : ∀ t ∈ T, t.2.2.length ≤ 1048576 := fun t ht => by have := tot_mem ht; omega
  by_cases hok : CnfOK S T
  · obtain ⟨m, rfl⟩ : ∃ m : Nat, S = (m : Int) := ⟨S.toNat, by have := hok.1.1; omega⟩
    exact leaveslaw_yes m pv T w hP hl hs2 hok
  · exact leaveslaw_no S pv T w hP hl hs2 hok
end
end Go.Proofs.Ytjkfieilaahejaa
