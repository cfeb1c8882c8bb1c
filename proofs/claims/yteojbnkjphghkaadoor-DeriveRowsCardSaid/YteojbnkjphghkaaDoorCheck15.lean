/-
  derive: what may not be asked; the program's check, the document's Wrong.
-/
import Derived.Test.YteojbnkjphghkaaDoorPartsR
import Derived.Test.YteojbnkjphghkaaDoorMakes15
import Derived.Test.YteojbnkjphghkaaDoorRefCheckC
namespace Go.Proofs.YteojbnkjphghkaaDoor
open Go.RowKit
set_option linter.unusedVariables false
set_option linter.unusedSimpArgs false
noncomputable def codeL (S : Int) (T : List Tr) (nts : List Int) (n : Nat) : Int := open Classical in
  if ¬ CnfOK S T then 220 else if ¬ WeakP S T then 250 else if ∃ x ∈ nts, x < 0 ∨ S ≤ x then 2 else if 64 < n then 3 else 0
theorem code_prods {S : Int} {T : List Tr} {nts : List Int} {n : Nat} (h : ¬ CnfOK S T) : codeL S T nts n = 220 := by unfold codeL; rw [if_pos h]
theorem code_weak {S : Int} {T : List Tr} {nts : List Int} {n : Nat} (h : CnfOK S T) (h2 : ¬ WeakP S T) : codeL S T nts n = 250 := by unfold codeL; rw [if_neg (fun q => q h), if_pos h2]
theorem code_arg {S : Int} {T : List Tr} {nts : List Int} {n : Nat} (h : WeakP S T) (h3 : ∃ x ∈ nts, x < 0 ∨ S ≤ x) : codeL S T nts n = 2 := by unfold codeL; rw [if_neg (fun q => q h.1), if_neg (fun q => q h), if_pos h3]
theorem code_long {S : Int} {T : List Tr} {nts : List Int} {n : Nat} (h : WeakP S T) (h3 : ¬ ∃ x ∈ nts, x < 0 ∨ S ≤ x) (h4 : 64 < n) : codeL S T nts n = 3 := by unfold codeL; rw [if_neg (fun q => q h.1), if_neg (fun q => q h), if_neg h3, if_pos h4]
theorem code_ok {S : Int} {T : List Tr} {nts : List Int} {n : Nat} (h : WeakP S T) (h3 : ¬ ∃ x ∈ nts, x < 0 ∨ S ≤ x) (h4 : n ≤ 64) : codeL S T nts n = 0 := by unfold codeL; rw [if_neg (fun q => q h.1), if_neg (fun q => q h), if_neg h3, if_neg (by omega)]
section
set_option maxHeartbeats 4000000
set_option maxRecDepth 100000
theorem chk_any (S : Int) (pv wv nv : Value) (T : List Tr) (nts : List Int) (n : Nat) (wo : Option Addr) (wc : Nat) (w : World) (hP : Prods w pv T) (hs : T.length ≤ maxLen) (hs2 : ∀ t ∈ T, t.2.2.length ≤ maxLen) (hN : WdM w nv nts) (hwv : wv = .slice wo n wc) (hnl : nts.length ≤ 1) :
    Calls Tryd.prog 25 #[.agg #[.int .i64 S, pv], wv, nv] w fun e w' => e = .returned (.int .i64 (codeL S T nts n)) ∧ Far (fun _ => False) w w' := by
  subst hwv
  obtain ⟨h, hh⟩ : ∃ h, h = w.heap.size := ⟨_, rfl⟩
  obtain ⟨ao, pc, rfl⟩ := Src.form hP.1
  obtain ⟨no, nc, rfl⟩ := Src.form hN
  obtain ⟨w1, hw1⟩ : ∃ w1, w1 = w.alloc (.cells #[.int .i64 S, .slice ao T.length pc] 24) := ⟨_, rfl⟩
  have hA : Bk w1 h 24 #[.int .i64 S, .slice ao T.length pc] := hw1 ▸ Bk.new hh
  have hF : Far (fun _ => False) w w1 := hw1 ▸ (Far.refl _ w).alloc _
  have a0 : w1.cell? ⟨h, 0, none⟩ = some (.int .i64 S) := hA.cell 0
  have a1 : w1.cell? ⟨h, 1, none⟩ = some (.slice ao T.length pc) := hA.cell 1
  have CK := check_any S (.slice ao T.length pc) T w1 (hP.move hF) hs hs2
  have IS := Lib.hid (fun w' (hf : Far (fun _ => False) w1 w') => is_any S (.slice ao T.length pc) T w' ((hP.move hF).move hf) hs hs2)
  have hN1 := Lib.hid (hN.move hF)
  have hh' := Lib.hid (show w.heap.size = h by omega)
  have hw1' := Lib.hid hw1
  have hF' := Lib.hid hF
  have hA' := Lib.hid hA
  clear hP hN hh hw1 hF hA hs hs2
  by_cases hM : CnfOK S T
  · rw [pcode_yes hM] at CK
    have hM' := Lib.hid hM
    clear hM
    go_enter Tryd.func25, Tryd.ntmps25
    go_upto_region 1 with fail
    rw [hh'.out, ← hw1'.out]
    go_wp2_with fail
    refine CK.mono ?_
    rintro e w2 ⟨rfl, hf2⟩
    have hf2' := Lib.hid hf2
    have a0 : w2.cell? ⟨h, 0, none⟩ = some (.int .i64 S) := (hA'.out.far' hf2 id).cell 0
    have a1 : w2.cell? ⟨h, 1, none⟩ = some (.slice ao T.length pc) := (hA'.out.far' hf2 id).cell 1
    have IS2 := IS.out w2 hf2
    clear CK hf2
    go_wp2_with fail
    refine IS2.mono ?_
    rintro e w3 ⟨⟨b, rfl, hb⟩, hf3⟩
    have hf3' := Lib.hid (hf2'.out.then hf3)
    have hb' := Lib.hid hb
    clear IS2 hf3 hb a0 a1
    cases b with
    | false =>
      have hr := Lib.hid (code_weak (nts := nts) (n := n) hM'.out (fun h => by have := hb'.out.2 h; cases this))
      go_wp2_with fail
      go_ret
      exact ⟨by rw [hr.out]; rfl, hF'.out.then hf3'.out⟩
    | true =>
      have hW := Lib.hid (hb'.out.1 rfl)
      have a0 : w3.cell? ⟨h, 0, none⟩ = some (.int .i64 S) := (hA'.out.far' hf3'.out id).cell 0
      have hN3 := Lib.hid (hN1.out.move hf3'.out)
      have hA3 := Lib.hid (hA'.out.far' hf3'.out id)
      clear a0
      go_wp2_with fail
      go_loopw [20] (fun iv wr => ∃ i : Nat, iv = .int .i64 i ∧ i ≤ nts.length ∧ w3 = wr ∧ ∀ k x, k < i → nts[k]? = some x → ¬ (x < 0 ∨ S ≤ x)) (fun iv _ => nts.length - (intOf iv).toNat)
      case atStart => exact ⟨0, rfl, Nat.zero_le _, rfl, fun k x h => absurd h (Nat.not_lt_zero _)⟩
      case round =>
        obtain ⟨i, rfl, hi, rfl, hgood⟩ := hrel
        have hgood' := Lib.hid hgood
        clear hgood
        by_cases hlt : i < nts.length
        · have e1 : decide ((i : Int) < (nts.length : Int)) = true := by rw [decide_eq_true_eq]; omega
          have hii : (i : Int) < (nts.length : Int) := by omega
          obtain ⟨x, hx⟩ : ∃ x, nts[i]? = some x := ⟨nts[i], List.getElem?_eq_getElem hlt⟩
          obtain ⟨b, off, c, he, hbl, c0⟩ := hN3.out.at hx
          simp only [Value.slice.injEq] at he
          obtain ⟨rfl, _, rfl⟩ := he
          have a0 : w3.cell? ⟨h, 0, none⟩ = some (.int .i64 S) := hA3.out.cell 0
          have hxm := Lib.hid (List.mem_of_getElem? hx)
          have hx' := Lib.hid hx
          clear hx
          by_cases hneg : x < 0
          · have e2 : decide (x < 0) = true := by rw [decide_eq_true_eq]; exact hneg
            have hr := Lib.hid (code_arg (n := n) hW.out ⟨x, hxm.out, .inl hneg⟩)
            go_wp2_with fail
            refine bodyPost_ret (v := .int .i64 2) (by simp [results, Tryd.f25, go_sem]) rfl ?_
            exact ⟨by rw [hr.out], hF'.out.then hf3'.out⟩
          · have e2 : decide (x < 0) = false := by rw [decide_eq_false_iff_not]; exact hneg
            by_cases hbig : S ≤ x
            · have e3 : decide (x ≥ S) = true := by rw [decide_eq_true_eq]; exact hbig
              have e4 : decide (S ≤ x) = true := by rw [decide_eq_true_eq]; exact hbig
              have hr := Lib.hid (code_arg (n := n) hW.out ⟨x, hxm.out, .inr hbig⟩)
              go_wp2_with fail
              refine bodyPost_ret (v := .int .i64 2) (by simp [results, Tryd.f25, go_sem]) rfl ?_
              exact ⟨by rw [hr.out], hF'.out.then hf3'.out⟩
            · have e3 : decide (x ≥ S) = false := by rw [decide_eq_false_iff_not]; exact hbig
              have e4 : decide (S ≤ x) = false := by rw [decide_eq_false_iff_not]; exact hbig
              have hnx := Lib.hid (show ¬ (x < 0 ∨ S ≤ x) from fun q => q.elim hneg hbig)
              go_wp2_with fail
              go_roundw
              case rel => exact ⟨i + 1, by go_num, by omega, by trivial, fun k y hk hy => by
                by_cases e : k = i
                · subst e
                  rw [hx'.out] at hy
                  cases hy
                  exact hnx.out
                · exact hgood'.out k y (by omega) hy⟩
              case measure => simp [intOf]; omega
        · have e1 : decide ((i : Int) < (nts.length : Int)) = false := by rw [decide_eq_false_iff_not]; omega
          have e2 : decide (i < nts.length) = false := by rw [decide_eq_false_iff_not]; exact hlt
          have hno := Lib.hid (show ¬ ∃ x ∈ nts, x < 0 ∨ S ≤ x from fun ⟨x, hx, hb⟩ => by
            obtain ⟨k, hk, e⟩ := List.getElem_of_mem hx
            exact hgood'.out k x (by omega) (by rw [List.getElem?_eq_getElem hk, e]) hb)
          by_cases hn : n ≤ 64
          · have e3 : decide ((n : Int) > 64) = false := by rw [decide_eq_false_iff_not]; omega
            have e4 : decide ((64 : Int) < (n : Int)) = false := by rw [decide_eq_false_iff_not]; omega
            have hr := Lib.hid (code_ok (S := S) (T := T) hW.out hno.out hn)
            go_wp2_with fail
            go_ret
            exact ⟨by rw [hr.out]; rfl, hF'.out.then hf3'.out⟩
          · have e3 : decide ((n : Int) > 64) = true := by rw [decide_eq_true_eq]; omega
            have e4 : decide ((64 : Int) < (n : Int)) = true := by rw [decide_eq_true_eq]; omega
            have hr := Lib.hid (code_long (S := S) (T := T) hW.out hno.out (show 64 < n by omega))
            go_wp2_with fail
            go_ret
            exact ⟨by rw [hr.out]; rfl, hF'.out.then hf3'.out⟩
  · rw [pcode_no hM] at CK
    have hr := Lib.hid (code_prods (nts := nts) (n := n) hM)
    clear hM
    go_enter Tryd.func25, Tryd.ntmps25
    go_upto_region 1 with fail
    rw [hh'.out, ← hw1'.out]
    go_wp2_with fail
    refine CK.mono ?_
    rintro e w2 ⟨rfl, hf2⟩
    have hf2' := Lib.hid hf2
    clear CK hf2 a0 a1
    go_wp2_with fail
    go_ret
    exact ⟨by rw [hr.out]; rfl, hF'.out.then hf2'.out⟩
theorem wrong_any (S : Int) (pv : Value) (T : List Tr) (nt : Int) (n : Nat) (w : World) (hP : Prods w pv T) (hs : T.length ≤ maxLen) (hs2 : ∀ t ∈ T, t.2.2.length ≤ maxLen) :
    Calls Tryd.prog 28 #[.agg #[.int .i64 S, pv], .int .i64 nt, .int .i64 (n : Int)] w fun e w' => e = .returned (.int .i64 (codeL S T [nt] n)) ∧ Far (fun _ => False) w w' := by
  obtain ⟨h, hh⟩ : ∃ h, h = w.heap.size := ⟨_, rfl⟩
  obtain ⟨ao, pc, rfl⟩ := Src.form hP.1
  obtain ⟨w1, hw1⟩ : ∃ w1, w1 = w.alloc (.cells #[.int .i64 S, .slice ao T.length pc] 24) := ⟨_, rfl⟩
  have hA : Bk w1 h 24 #[.int .i64 S, .slice ao T.length pc] := hw1 ▸ Bk.new hh
  have hF : Far (fun _ => False) w w1 := hw1 ▸ (Far.refl _ w).alloc _
  have a0 : w1.cell? ⟨h, 0, none⟩ = some (.int .i64 S) := hA.cell 0
  have a1 : w1.cell? ⟨h, 1, none⟩ = some (.slice ao T.length pc) := hA.cell 1
  have CK := rcheck_any S (.slice ao T.length pc) T w1 (hP.move hF) hs hs2
  have IS := Lib.hid (fun w' (hf : Far (fun _ => False) w1 w') => ris_any S (.slice ao T.length pc) T w' ((hP.move hF).move hf) hs hs2)
  have hh' := Lib.hid (show w.heap.size = h by omega)
  have hw1' := Lib.hid hw1
  have hF' := Lib.hid hF
  have hA' := Lib.hid hA
  clear hP hh hw1 hF hA hs hs2
  by_cases hM : CnfOK S T
  · rw [pcode_yes hM] at CK
    have hM' := Lib.hid hM
    clear hM
    go_enter Tryd.func28, Tryd.ntmps28
    go_upto_region 1 with fail
    rw [hh'.out, ← hw1'.out]
    go_wp2_with fail
    refine CK.mono ?_
    rintro e w2 ⟨rfl, hf2⟩
    have hf2' := Lib.hid hf2
    have a0 : w2.cell? ⟨h, 0, none⟩ = some (.int .i64 S) := (hA'.out.far' hf2 id).cell 0
    have a1 : w2.cell? ⟨h, 1, none⟩ = some (.slice ao T.length pc) := (hA'.out.far' hf2 id).cell 1
    have IS2 := IS.out w2 hf2
    clear CK hf2
    go_wp2_with fail
    refine IS2.mono ?_
    rintro e w3 ⟨⟨b, rfl, hb⟩, hf3⟩
    have hf3' := Lib.hid (hf2'.out.then hf3)
    have hb' := Lib.hid hb
    clear IS2 hf3 hb a0 a1
    cases b with
    | false =>
      have hr := Lib.hid (code_weak (nts := [nt]) (n := n) hM'.out (fun h => by have := hb'.out.2 h; cases this))
      go_wp2_with fail
      go_ret
      exact ⟨by rw [hr.out]; rfl, hF'.out.then hf3'.out⟩
    | true =>
      have hW := Lib.hid (hb'.out.1 rfl)
      have a0 : w3.cell? ⟨h, 0, none⟩ = some (.int .i64 S) := (hA'.out.far' hf3'.out id).cell 0
      by_cases hneg : nt < 0
      · have e2 : decide (nt < 0) = true := by rw [decide_eq_true_eq]; exact hneg
        have hr := Lib.hid (code_arg (n := n) hW.out ⟨nt, List.mem_singleton.2 rfl, .inl hneg⟩)
        go_wp2_with fail
        go_ret
        exact ⟨by rw [hr.out]; rfl, hF'.out.then hf3'.out⟩
      · have e2 : decide (nt < 0) = false := by rw [decide_eq_false_iff_not]; exact hneg
        by_cases hbig : S ≤ nt
        · have e3 : decide (nt ≥ S) = true := by rw [decide_eq_true_eq]; exact hbig
          have e4 : decide (S ≤ nt) = true := by rw [decide_eq_true_eq]; exact hbig
          have hr := Lib.hid (code_arg (n := n) hW.out ⟨nt, List.mem_singleton.2 rfl, .inr hbig⟩)
          go_wp2_with fail
          go_ret
          exact ⟨by rw [hr.out]; rfl, hF'.out.then hf3'.out⟩
        · have e3 : decide (nt ≥ S) = false := by rw [decide_eq_false_iff_not]; exact hbig
          have e4 : decide (S ≤ nt) = false := by rw [decide_eq_false_iff_not]; exact hbig
          have hno := Lib.hid (show ¬ ∃ x ∈ [nt], x < 0 ∨ S ≤ x from fun ⟨x, hx, hb⟩ => by
            rw [List.mem_singleton.1 hx] at hb
            exact hb.elim hneg hbig)
          by_cases hn : n ≤ 64
          · have e5 : decide ((n : Int) > 64) = false := by rw [decide_eq_false_iff_not]; omega
            have e6 : decide ((64 : Int) < (n : Int)) = false := by rw [decide_eq_false_iff_not]; omega
            have hr := Lib.hid (code_ok (S := S) (T := T) hW.out hno.out hn)
            go_wp2_with fail
            go_ret
            exact ⟨by rw [hr.out]; rfl, hF'.out.then hf3'.out⟩
          · have e5 : decide ((n : Int) > 64) = true := by rw [decide_eq_true_eq]; omega
            have e6 : decide ((64 : Int) < (n : Int)) = true := by rw [decide_eq_true_eq]; omega
            have hr := Lib.hid (code_long (S := S) (T := T) hW.out hno.out (show 64 < n by omega))
            go_wp2_with fail
            go_ret
            exact ⟨by rw [hr.out]; rfl, hF'.out.then hf3'.out⟩
  · rw [pcode_no hM] at CK
    have hr := Lib.hid (code_prods (nts := [nt]) (n := n) hM)
    clear hM
    go_enter Tryd.func28, Tryd.ntmps28
    go_upto_region 1 with fail
    rw [hh'.out, ← hw1'.out]
    go_wp2_with fail
    refine CK.mono ?_
    rintro e w2 ⟨rfl, hf2⟩
    have hf2' := Lib.hid hf2
    clear CK hf2 a0 a1
    go_wp2_with fail
    go_ret
    exact ⟨by rw [hr.out]; rfl, hF'.out.then hf2'.out⟩
end
end Go.Proofs.YteojbnkjphghkaaDoor
