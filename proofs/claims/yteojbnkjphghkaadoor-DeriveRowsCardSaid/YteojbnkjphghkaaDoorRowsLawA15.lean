/-
  DeriveRows walked.
-/
import Derived.Test.YteojbnkjphghkaaDoorRowMath15
import Derived.Test.YteojbnkjphghkaaDoorPWho15
import Derived.Deep.RegionHeld3
namespace Go.Proofs.YteojbnkjphghkaaDoor
open Go.RowKit
set_option linter.unusedVariables false
set_option linter.unusedSimpArgs false
theorem code_nil (S : Int) (T : List Tr) : (WeakP S T ∧ codeL S T [] ([] : List Int).length = 0) ∨ (¬ WeakP S T ∧ (codeL S T [] ([] : List Int).length = 220 ∨ codeL S T [] ([] : List Int).length = 250)) := by
  by_cases h1 : CnfOK S T
  · by_cases h2 : WeakP S T
    · exact .inl ⟨h2, code_ok h2 (fun ⟨x, hx, _⟩ => by cases hx) (by simp)⟩
    · exact .inr ⟨h2, .inr (code_weak h1 h2)⟩
  · exact .inr ⟨fun h => h1 h.1, .inl (code_prods h1)⟩
section
set_option maxHeartbeats 8000000
set_option maxRecDepth 100000
theorem short_some (S : Int) (pv : Value) (T : List Tr) (w : World) (hP : Prods w pv T) (hs : T.length ≤ 4398046510976) (hs2 : ∀ t ∈ T, t.2.2.length ≤ maxLen) :
    Calls Tryd.prog 20 #[.agg #[.int .i64 S, pv]] w fun e w' => (∃ v d, e = .returned (.tuple #[v, .int .i64 d])) ∧ Far (fun _ => False) w w' := by
  by_cases hok : CnfOK S T
  · obtain ⟨Sn, rfl⟩ : ∃ n : Nat, S = (n : Int) := ⟨S.toNat, by have := hok.1; omega⟩
    exact (shortest_yes Sn pv T w hP hs hs2 hok).mono fun e w' ⟨h1, gR, s, h2, _⟩ => ⟨⟨_, _, h2⟩, h1⟩
  · exact (shortest_no S pv T w hP (Nat.le_trans hs (by decide)) hs2 hok).mono fun e w' ⟨h1, h2⟩ => ⟨⟨_, _, h2⟩, h1⟩
theorem phas_ok (S : Int) (pv wv : Value) (T : List Tr) (nt : Int) (Wo : List Int) (w : World) (hP : Prods w pv T) (hw : WdM w wv Wo) (hs : T.length ≤ 4398046510976) (hs2 : ∀ t ∈ T, t.2.2.length ≤ maxLen) (hT : Tab w) (hok : WeakP S T) (hnt : 0 ≤ nt ∧ nt < S) (hn : Wo.length ≤ 64) :
    Calls Tryd.prog 13 #[.agg #[.int .i64 S, pv], .int .i64 nt, wv] w fun e w' => (∃ b : Bool, e = .returned (.tuple #[.bool b, .int .i64 0]) ∧ (b = true ↔ Der (T.map pl) Wo nt 0 Wo.length)) ∧ Far (fun _ => False) w w' := by
  have hc : codeL S T [nt] Wo.length = 0 := code_ok hok (fun ⟨x, hx, q⟩ => by rw [List.mem_singleton.1 hx] at q; omega) hn
  refine (phas_word S pv wv T nt Wo w hP hw hs hs2 hT).mono ?_
  rintro e w' ⟨⟨b, he, hb⟩, hf⟩
  rw [hc] at he
  exact ⟨⟨b, he, hb.trans ⟨fun q => q.2, fun q => ⟨hc, q⟩⟩⟩, hf⟩
theorem rows_bad (S : Int) (pv av bv : Value) (T : List Tr) (k : Int) (A B : List Int) (w : World) (hP : Prods w pv T) (hA : WdM w av A) (hB : WdM w bv B) (hs : T.length * 32 ≤ 140737488351232) (hs2 : ∀ t ∈ T, t.2.2.length * 16 ≤ 140737488351232) (hal : A.length * 8 ≤ 140737488351232) (hbl : B.length * 8 ≤ 140737488351232) (hT : Tab w) (c : Int) (hcode : codeL S T [] ([] : List Int).length = c) (hcc : c = 220 ∨ c = 250) :
    Calls Tryd.prog 6 #[.agg #[.int .i64 S, pv], .int .i64 k, av, bv] w fun e w' => e = .returned (.bool true) ∧ Below w.heap.size w w' := by
  have hcode := Lib.hid hcode
  have hcc' := Lib.hid hcc
  clear hcc
  obtain ⟨h, hh⟩ : ∃ h, h = w.heap.size := ⟨_, rfl⟩
  obtain ⟨ao, pc, rfl⟩ := Src.form hP.1
  obtain ⟨xo, xc, rfl⟩ := Src.form hA
  obtain ⟨yo, yc, rfl⟩ := Src.form hB
  obtain ⟨w1, hw1⟩ : ∃ w1, w1 = w.alloc (.cells #[.int .i64 S, .slice ao T.length pc] 24) := ⟨_, rfl⟩
  have hX : Bk w1 h 24 #[.int .i64 S, .slice ao T.length pc] := hw1 ▸ Bk.new hh
  have hF : Far (fun _ => False) w w1 := hw1 ▸ (Far.refl _ w).alloc _
  have hn1 : T.length ≤ 4398046510976 := by omega
  have hn2 : ∀ t ∈ T, t.2.2.length ≤ maxLen := fun t ht => by have := hs2 t ht; unfold maxLen; omega
  have hF0 := Lib.hid hF
  have hT' := Lib.hid (fun w' (hf : Far (fun _ => False) w1 w') => hT.stays ((hF.then hf).below (Nat.le_refl _) fun _ _ h => h))
  have hP' := Lib.hid (hP.move hF)
  have hA' := Lib.hid (hA.move hF)
  have hB' := Lib.hid (hB.move hF)
  have hc' := Lib.hid (fun w' (hf : Far (fun _ => False) w1 w') => (⟨(hX.far' hf id).cell 0, (hX.far' hf id).cell 1⟩ : w'.cell? ⟨h, 0, none⟩ = some (.int .i64 S) ∧ w'.cell? ⟨h, 1, none⟩ = some (.slice ao T.length pc)))
  have HD := head15_any w1 (hT'.out w1 (Far.refl _ _))
  have hn2' := Lib.hid hn2
  have hh' := Lib.hid (show w.heap.size = h by omega)
  have hw1' := Lib.hid hw1
  clear hP hA hB hh hw1 hX hF hT hs2 hn2
  go_enter Tryd.func6, Tryd.ntmps6
  go_upto_region 1 with fail
  rw [hh'.out, ← hw1'.out]
  go_wp2_with fail
  refine HD.mono ?_
  rintro e w2 ⟨rfl, hf2⟩
  have hf2' := Lib.hid hf2
  obtain ⟨a0, a1⟩ := hc'.out w2 hf2
  have WH := pwho_any S (.slice ao T.length pc) (.slice none 0 0) T [] w2 (hP'.out.move hf2) (Src.nil _ _) hn1 hn2'.out (hT'.out w2 hf2)
  rw [hcode.out] at WH
  clear HD hf2
  go_wp2_with fail
  refine WH.mono ?_
  rintro e w3 ⟨⟨v3, xs3, rfl, _, _⟩, hf3⟩
  have hf3' := Lib.hid (hf2'.out.then hf3)
  obtain ⟨a0, a1⟩ := hc'.out w3 hf3'.out
  have SH := short_some S (.slice ao T.length pc) T w3 (hP'.out.move hf3'.out) hn1 hn2'.out
  clear WH hf3
  go_wp2_with fail
  refine SH.mono ?_
  rintro e w4 ⟨⟨v4, d4, rfl⟩, hf4⟩
  have hf4' := Lib.hid (hf3'.out.then hf4)
  clear SH hf4 a0 a1
  rcases hcc'.out with rfl | rfl
  · go_wp2_with fail
    go_ret
    exact ⟨rfl, (hF0.out.then hf4'.out).below (Nat.le_refl _) fun _ _ h => h⟩
  · go_wp2_with fail
    go_ret
    exact ⟨rfl, (hF0.out.then hf4'.out).below (Nat.le_refl _) fun _ _ h => h⟩
theorem rows_triv (Sn : Nat) (pv av bv : Value) (T : List Tr) (k : Int) (A B : List Int) (w : World) (hP : Prods w pv T) (hA : WdM w av A) (hB : WdM w bv B) (hs : T.length * 32 ≤ 140737488351232) (hs2 : ∀ t ∈ T, t.2.2.length * 16 ≤ 140737488351232) (hal : A.length * 8 ≤ 140737488351232) (hbl : B.length * 8 ≤ 140737488351232) (hT : Tab w) (hok : WeakP (Sn : Int) T) (hcode : codeL (Sn : Int) T [] ([] : List Int).length = 0) (hk : k < 0 ∨ (T.length : Int) ≤ k ∨ (∃ t, 0 ≤ k ∧ k < T.length ∧ T[k.toNat]? = some t ∧ (t.2.2.length ≠ 2 ∨ 64 < A.length + B.length))) :
    Calls Tryd.prog 6 #[.agg #[.int .i64 (Sn : Int), pv], .int .i64 k, av, bv] w fun e w' => e = .returned (.bool true) ∧ Below w.heap.size w w' := by
  have hcode := Lib.hid hcode
  have hok' := Lib.hid hok
  have hk' := Lib.hid hk
  clear hok hk
  obtain ⟨h, hh⟩ : ∃ h, h = w.heap.size := ⟨_, rfl⟩
  obtain ⟨ao, pc, rfl⟩ := Src.form hP.1
  obtain ⟨xo, xc, rfl⟩ := Src.form hA
  obtain ⟨yo, yc, rfl⟩ := Src.form hB
  obtain ⟨w1, hw1⟩ : ∃ w1, w1 = w.alloc (.cells #[.int .i64 (Sn : Int), .slice ao T.length pc] 24) := ⟨_, rfl⟩
  have hX : Bk w1 h 24 #[.int .i64 (Sn : Int), .slice ao T.length pc] := hw1 ▸ Bk.new hh
  have hF : Far (fun _ => False) w w1 := hw1 ▸ (Far.refl _ w).alloc _
  have hn1 : T.length ≤ 4398046510976 := by omega
  have hn2 : ∀ t ∈ T, t.2.2.length ≤ maxLen := fun t ht => by have := hs2 t ht; unfold maxLen; omega
  have hF0 := Lib.hid hF
  have hT' := Lib.hid (fun w' (hf : Far (fun _ => False) w1 w') => hT.stays ((hF.then hf).below (Nat.le_refl _) fun _ _ h => h))
  have hP' := Lib.hid (hP.move hF)
  have hA' := Lib.hid (hA.move hF)
  have hB' := Lib.hid (hB.move hF)
  have hc' := Lib.hid (fun w' (hf : Far (fun _ => False) w1 w') => (⟨(hX.far' hf id).cell 0, (hX.far' hf id).cell 1⟩ : w'.cell? ⟨h, 0, none⟩ = some (.int .i64 (Sn : Int)) ∧ w'.cell? ⟨h, 1, none⟩ = some (.slice ao T.length pc)))
  have HD := head15_any w1 (hT'.out w1 (Far.refl _ _))
  have hn2' := Lib.hid hn2
  have hh' := Lib.hid (show w.heap.size = h by omega)
  have hw1' := Lib.hid hw1
  clear hP hA hB hh hw1 hX hF hT hs2 hn2
  go_enter Tryd.func6, Tryd.ntmps6
  go_upto_region 1 with fail
  rw [hh'.out, ← hw1'.out]
  go_wp2_with fail
  refine HD.mono ?_
  rintro e w2 ⟨rfl, hf2⟩
  have hf2' := Lib.hid hf2
  obtain ⟨a0, a1⟩ := hc'.out w2 hf2
  have WH := pwho_any (Sn : Int) (.slice ao T.length pc) (.slice none 0 0) T [] w2 (hP'.out.move hf2) (Src.nil _ _) hn1 hn2'.out (hT'.out w2 hf2)
  rw [hcode.out] at WH
  clear HD hf2
  go_wp2_with fail
  refine WH.mono ?_
  rintro e w3 ⟨⟨v3, xs3, rfl, _, _⟩, hf3⟩
  have hf3' := Lib.hid (hf2'.out.then hf3)
  obtain ⟨a0, a1⟩ := hc'.out w3 hf3'.out
  have SH := shortest_yes Sn (.slice ao T.length pc) T w3 (hP'.out.move hf3'.out) hn1 hn2'.out hok'.out.1
  clear WH hf3
  go_wp2_with fail
  refine SH.mono ?_
  rintro e w4 ⟨hf4, gR, s, rfl, hgR, hsr, hsh⟩
  have hf4' := Lib.hid (hf3'.out.then hf4)
  clear SH hf4 a0 a1
  have hsr' := Lib.hid hsr
  have hsh' := Lib.hid hsh
  have hgR' := Lib.hid hgR
  obtain ⟨a0, a1⟩ := hc'.out w4 hf4'.out
  have en : ((Sn : Int) != (Sn : Int)) = false := by simp
  clear hsr hsh hgR
  rcases hk'.out with hk | hk | ⟨t, hk0, hk1, ht, hk⟩
  · have e1 : decide (k < 0) = true := by rw [decide_eq_true_eq]; exact hk
    clear hk
    go_wp2_with fail
    go_ret
    exact ⟨rfl, (hF0.out.then hf4'.out).below (Nat.le_refl _) fun _ _ h => h⟩
  · have e1 : decide (k < 0) = false := by rw [decide_eq_false_iff_not]; omega
    have e2 : decide ((T.length : Int) ≤ k) = true := by rw [decide_eq_true_eq]; exact hk
    clear hk
    go_wp2_with fail
    go_ret
    exact ⟨rfl, (hF0.out.then hf4'.out).below (Nat.le_refl _) fun _ _ h => h⟩
  · obtain ⟨n, rfl⟩ : ∃ n : Nat, k = (n : Int) := ⟨k.toNat, by omega⟩
    rw [show (n : Int).toNat = n from rfl] at ht
    have e1 : decide ((n : Int) < 0) = false := by rw [decide_eq_false_iff_not]; omega
    have e2 : decide ((T.length : Int) ≤ (n : Int)) = false := by rw [decide_eq_false_iff_not]; omega
    obtain ⟨b, off, c, he, hbl, c0, c1, hbd⟩ := (hP'.out.move hf4'.out).prod ht
    simp only [Value.slice.injEq] at he
    obtain ⟨rfl, _, rfl⟩ := he
    obtain ⟨hd, tv, l⟩ := t
    simp only at c0 c1 hbd hk
    obtain ⟨bo, bc, rfl⟩ := Src.form hbd
    have hk' := Lib.hid hk
    by_cases hl : l.length = 2
    · have hg : 64 < A.length + B.length := hk.resolve_left fun q => q hl
      have e3 : ((l.length : Int) != 2) = false := by simp; omega
      have e4 : decide ((64 : Int) < (A.length : Int) + (B.length : Int)) = true := by rw [decide_eq_true_eq]; omega
      clear hk hl hbd ht
      go_wp2_with fail
      go_ret
      exact ⟨rfl, (hF0.out.then hf4'.out).below (Nat.le_refl _) fun _ _ h => h⟩
    · have e3 : ((l.length : Int) != 2) = true := by simp; omega
      clear hk hl hbd ht
      go_wp2_with fail
      go_ret
      exact ⟨rfl, (hF0.out.then hf4'.out).below (Nat.le_refl _) fun _ _ h => h⟩
end
end Go.Proofs.YteojbnkjphghkaaDoor
