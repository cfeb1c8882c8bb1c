/-
  The document's Has.
-/
import Derived.Test.YteojbnkjphghkaaDoorRTabW15
import Derived.Test.YteojbnkjphghkaaDoorCheck15
namespace Go.Proofs.YteojbnkjphghkaaDoor
open Go.RowKit
set_option linter.unusedVariables false
set_option linter.unusedSimpArgs false
theorem code_zero {S : Int} {T : List Tr} {nts : List Int} {n : Nat} : codeL S T nts n = 0 ↔ WeakP S T ∧ (¬ ∃ x ∈ nts, x < 0 ∨ S ≤ x) ∧ n ≤ 64 := by
  refine ⟨fun h => ?_, fun ⟨h1, h2, h3⟩ => code_ok h1 h2 h3⟩
  by_cases h1 : CnfOK S T
  · by_cases h2 : WeakP S T
    · by_cases h3 : ∃ x ∈ nts, x < 0 ∨ S ≤ x
      · rw [code_arg h2 h3] at h; cases h
      · by_cases h4 : n ≤ 64
        · exact ⟨h2, h3, h4⟩
        · rw [code_long h2 h3 (by omega)] at h; cases h
    · rw [code_weak h1 h2] at h; cases h
  · rw [code_prods h1] at h; cases h
/-- Is the word in the language, and may one ask? -/
def ansP (S : Int) (T : List Tr) (nt : Int) (Wo : List Int) : Prop := codeL S T [nt] Wo.length = 0 ∧ Der (T.map pl) Wo nt 0 Wo.length
section
set_option maxHeartbeats 4000000
set_option maxRecDepth 100000
theorem rhas_any (S : Int) (pv wv : Value) (T : List Tr) (nt : Int) (Wo : List Int) (w : World) (hP : Prods w pv T) (hw : WdM w wv Wo) (hs : T.length ≤ 4398046510976) (hs2 : ∀ t ∈ T, t.2.2.length ≤ maxLen) :
    Calls Tryd.prog 14 #[.agg #[.int .i64 S, pv], .int .i64 nt, wv] w fun e w' => (∃ b : Bool, e = .returned (.tuple #[.bool b, .int .i64 (codeL S T [nt] Wo.length)]) ∧ (b = true ↔ ansP S T nt Wo)) ∧ Far (fun _ => False) w w' := by
  obtain ⟨h, hh⟩ : ∃ h, h = w.heap.size := ⟨_, rfl⟩
  obtain ⟨ao, pc, rfl⟩ := Src.form hP.1
  obtain ⟨wo, wc, rfl⟩ := Src.form hw
  obtain ⟨w1, hw1⟩ : ∃ w1, w1 = w.alloc (.cells #[.int .i64 S, .slice ao T.length pc] 24) := ⟨_, rfl⟩
  have hA : Bk w1 h 24 #[.int .i64 S, .slice ao T.length pc] := hw1 ▸ Bk.new hh
  have hF : Far (fun _ => False) w w1 := hw1 ▸ (Far.refl _ w).alloc _
  have a0 : w1.cell? ⟨h, 0, none⟩ = some (.int .i64 S) := hA.cell 0
  have a1 : w1.cell? ⟨h, 1, none⟩ = some (.slice ao T.length pc) := hA.cell 1
  have CK := wrong_any S (.slice ao T.length pc) T nt Wo.length w1 (hP.move hF) (Nat.le_trans hs (by decide)) hs2
  have hh' := Lib.hid (show w.heap.size = h by omega)
  have hw1' := Lib.hid hw1
  have hF' := Lib.hid hF
  have hA' := Lib.hid hA
  have hP' := Lib.hid hP
  have hw' := Lib.hid hw
  have hs' := Lib.hid hs
  obtain ⟨c, hc⟩ : ∃ c, c = codeL S T [nt] Wo.length := ⟨_, rfl⟩
  rw [← hc] at CK ⊢
  clear hP hw hh hw1 hF hA hs hs2
  by_cases hz : c = 0
  · obtain ⟨hok, hnt, hn⟩ := code_zero.1 (hc.symm.trans hz)
    have hnt2 : 0 ≤ nt ∧ nt < S := by
      refine ⟨?_, ?_⟩
      · exact Int.not_lt.1 fun q => hnt ⟨nt, by simp, .inl q⟩
      · exact Int.not_le.1 fun q => hnt ⟨nt, by simp, .inr q⟩
    obtain ⟨Sn, rfl⟩ : ∃ n : Nat, S = (n : Int) := ⟨S.toNat, by omega⟩
    obtain ⟨a, rfl⟩ : ∃ n : Nat, nt = (n : Int) := ⟨nt.toNat, by omega⟩
    have ha : a < Sn := by omega
    have hS2 : Sn ≤ 1024 := by have := hok.1.1; omega
    subst hz
    have hc' := Lib.hid hc.symm
    have TB := Lib.hid (fun w' (hf : Far (fun _ => False) w1 w') => table_any Sn (.slice ao T.length pc) (.slice wo Wo.length wc) T Wo w' ((hP'.out.move hF'.out).move hf) ((hw'.out.move hF'.out).move hf) hok hn hs'.out)
    clear hok hnt hc hnt2
    go_enter Tryd.func14, Tryd.ntmps14
    go_upto_region 1 with fail
    rw [hh'.out, ← hw1'.out]
    go_wp2_with fail
    refine CK.mono ?_
    rintro e w2 ⟨rfl, hf2⟩
    have hf2' := Lib.hid hf2
    have a0 : w2.cell? ⟨h, 0, none⟩ = some (.int .i64 (Sn : Int)) := (hA'.out.far' hf2 id).cell 0
    have a1 : w2.cell? ⟨h, 1, none⟩ = some (.slice ao T.length pc) := (hA'.out.far' hf2 id).cell 1
    have TB2 := TB.out w2 hf2
    clear CK hf2
    go_wp2_with fail
    refine TB2.mono ?_
    rintro e w3 ⟨g, N, f, rfl, hN, hk, hf, hf3⟩
    have hf3' := Lib.hid (hf2'.out.then hf3)
    have hf' := Lib.hid hf
    clear TB2 hf3 hf a0 a1
    obtain ⟨n, hn0⟩ : ∃ n, n = Wo.length + 1 := ⟨_, rfl⟩
    have AT : ∀ w' : World, Calls Tryd.prog 32 #[.int .i64 (a : Int), .int .i64 0, .int .i64 (Wo.length : Int), .int .i64 (n : Int)] w' fun e w2 => e = .returned (.int .i64 (atN n a 0 Wo.length : Int)) ∧ w' = w2 := fun w' => at_any n a 0 Wo.length w' (by omega) (by omega) (by omega) (by omega)
    have lt := atN_lt (n := n) ha (i := 0) (j := Wo.length) (by omega) (by omega)
    obtain ⟨q, hq⟩ : ∃ q, q = atN n a 0 Wo.length := ⟨_, rfl⟩
    rw [← hq] at AT lt
    have ltN : q < N := by rw [hN, ← hn0]; exact lt
    have ltI : (q : Int) < (N : Int) := by omega
    have fq := hk.at ltN
    have hwn : IntKind.i64.wrap (n : Int) = (n : Int) := IntWalk.i64_in _ (by omega)
    have hnW : (Wo.length : Int) + 1 = (n : Int) := by omega
    have hr := Lib.hid (show f q = true ↔ ansP (Sn : Int) T (a : Int) Wo from by
      rw [hq, hn0, hf'.out a 0 Wo.length ha (Nat.zero_le _) (Nat.le_refl _)]
      exact ⟨fun h => ⟨hc'.out, h⟩, fun h => h.2⟩)
    clear hN hk lt hq hn0
    go_wp2_with (go_at_call 32; with_reducible refine (AT _).mono ?_; rintro e w2 ⟨rfl, hw2⟩; subst hw2)
    exact bodyPost_ret (v := .tuple #[.bool (f q), .int .i64 0]) (by simp [results, Tryd.f14, go_sem]) rfl ⟨⟨_, rfl, hr.out⟩, hF'.out.then hf3'.out⟩
  · have e1 : (c != 0) = true := by simpa using hz
    have hr := Lib.hid (show ¬ ansP S T nt Wo from fun q => hz (hc.trans q.1))
    clear hz hc
    go_enter Tryd.func14, Tryd.ntmps14
    go_upto_region 1 with fail
    rw [hh'.out, ← hw1'.out]
    go_wp2_with fail
    refine CK.mono ?_
    rintro e w2 ⟨rfl, hf2⟩
    have hf2' := Lib.hid hf2
    clear CK hf2 a0 a1
    go_wp2_with fail
    refine bodyPost_ret (v := .tuple #[.bool false, .int .i64 c]) (by simp [results, Tryd.f14, go_sem]) rfl ?_
    exact ⟨⟨false, rfl, (fun h => by cases h), fun h => absurd h hr.out⟩, hF'.out.then hf2'.out⟩
end
end Go.Proofs.YteojbnkjphghkaaDoor
