/-
  Is: the document's.
-/
import Derived.Test.YteojbnkjphghkaaDoorParts
import Derived.Test.YteojbnkjphghkaaDoorWeakR
namespace Go.Proofs.YteojbnkjphghkaaDoor
open Go.RowKit
set_option linter.unusedVariables false
set_option linter.unusedSimpArgs false
section
set_option maxHeartbeats 4000000
set_option maxRecDepth 100000
theorem ris_any (S : Int) (pv : Value) (T : List Tr) (w : World) (hP : Prods w pv T) (hs : T.length ≤ maxLen) (hs2 : ∀ t ∈ T, t.2.2.length ≤ maxLen) :
    Calls Tryd.prog 45 #[.agg #[.int .i64 S, pv]] w fun e w' => (∃ b : Bool, e = .returned (.bool b) ∧ (b = true ↔ WeakP S T)) ∧ Far (fun _ => False) w w' := by
  obtain ⟨h, hh⟩ : ∃ h, h = w.heap.size := ⟨_, rfl⟩
  obtain ⟨ao, pc, rfl⟩ := Src.form hP.1
  obtain ⟨w1, hw1⟩ : ∃ w1, w1 = w.alloc (.cells #[.int .i64 S, .slice ao T.length pc] 24) := ⟨_, rfl⟩
  have hA : Bk w1 h 24 #[.int .i64 S, .slice ao T.length pc] := hw1 ▸ Bk.new hh
  have hF : Far (fun _ => False) w w1 := hw1 ▸ (Far.refl _ w).alloc _
  have a0 : w1.cell? ⟨h, 0, none⟩ = some (.int .i64 S) := hA.cell 0
  have a1 : w1.cell? ⟨h, 1, none⟩ = some (.slice ao T.length pc) := hA.cell 1
  have CK := rcheck_any S (.slice ao T.length pc) T w1 (hP.move hF) hs hs2
  have hP1 := Lib.hid (hP.move hF)
  have hs2' := Lib.hid hs2
  have hh' := Lib.hid hh
  have hw1' := Lib.hid hw1
  have hF' := Lib.hid hF
  have hA' := Lib.hid hA
  unfold maxLen at hs
  clear hP hs2 hh hw1 hF hA
  by_cases hM : CnfOK S T
  · rw [pcode_yes hM] at CK
    have hM' := Lib.hid hM
    clear hM
    go_enter Tryd.func45, Tryd.ntmps45
    go_upto_region 1 with fail
    rw [← hh'.out, ← hw1'.out]
    go_wp2_with fail
    refine CK.mono ?_
    rintro e w2 ⟨rfl, hf2⟩
    have hf2' := Lib.hid hf2
    clear a0 a1 CK hf2
    go_wp2_with fail
    go_loopw [3] (fun iv wr => ∃ i : Nat, iv = .int .i64 i ∧ i ≤ T.length ∧ (∀ k, k < i → ∀ t, T[k]? = some t → weakB t.2.2 = true) ∧ Far (fun _ => False) w1 wr) (fun iv _ => T.length - (intOf iv).toNat)
    case atStart => exact ⟨0, rfl, Nat.zero_le _, fun j h => absurd h (Nat.not_lt_zero _), hf2'.out⟩
    case round =>
      obtain ⟨i, rfl, hi, hgood, hfw⟩ := hrel
      have a1 : wr.cell? ⟨h, 1, none⟩ = some (.slice ao T.length pc) := (hA'.out.far' hfw id).cell 1
      by_cases hlt : i < T.length
      · have e1 : decide ((i : Int) < (T.length : Int)) = true := by rw [decide_eq_true_eq]; omega
        have hii : (i : Int) < (T.length : Int) := by omega
        obtain ⟨t, ht⟩ : ∃ t, T[i]? = some t := ⟨T[i], List.getElem?_eq_getElem hlt⟩
        obtain ⟨b, off, c, he, hbl, c0, c1, hbd⟩ := (hP1.out.move hfw).prod ht
        simp only [Value.slice.injEq] at he
        obtain ⟨rfl, _, rfl⟩ := he
        obtain ⟨h0, tv, l⟩ := t
        simp only [] at c0 c1 hbd
        have WA := weak_any tv l wr hbd (hs2'.out _ (List.mem_of_getElem? ht))
        have hgood' := Lib.hid hgood
        have hfw' := Lib.hid hfw
        have ht' := Lib.hid ht
        clear hgood hfw hbd ht hbl
        cases hb : weakB l with
        | true =>
          rw [hb] at WA
          have hb' := Lib.hid hb
          clear hb
          go_wp2_with fail
          refine WA.mono ?_
          rintro e w2 ⟨rfl, rfl⟩
          clear WA
          go_wp2_with fail
          go_roundw
          case rel => exact ⟨i + 1, by go_num, by omega, upto_succ hgood'.out ht'.out hb'.out, hfw'.out⟩
          case measure => simp [intOf]; omega
        | false =>
          rw [hb] at WA
          have hno := Lib.hid (show ¬ WeakP S T from fun h => by have := h.2 _ (List.mem_of_getElem? ht'.out); rw [hb] at this; cases this)
          clear hb
          go_wp2_with fail
          refine WA.mono ?_
          rintro e w2 ⟨rfl, rfl⟩
          clear WA
          go_wp2_with fail
          go_ret
          exact ⟨⟨false, rfl, fun h => (by cases h), fun h => absurd h hno.out⟩, hF'.out.then hfw'.out⟩
      · have e1 : decide ((i : Int) < (T.length : Int)) = false := by rw [decide_eq_false_iff_not]; omega
        have hall := Lib.hid (show WeakP S T from ⟨hM'.out, all_upto fun k hk => hgood k (by omega)⟩)
        have hfw' := Lib.hid hfw
        clear hgood hfw
        go_wp2_with fail
        go_ret
        exact ⟨⟨true, rfl, fun _ => hall.out, fun _ => rfl⟩, hF'.out.then hfw'.out⟩
  · rw [pcode_no hM] at CK
    have hM' := Lib.hid hM
    clear hM
    go_enter Tryd.func45, Tryd.ntmps45
    go_upto_region 1 with fail
    rw [← hh'.out, ← hw1'.out]
    go_wp2_with fail
    refine CK.mono ?_
    rintro e w2 ⟨rfl, hf2⟩
    have hf2' := Lib.hid hf2
    clear a0 a1 CK hf2
    go_wp2_with fail
    go_ret
    exact ⟨⟨false, rfl, fun h => (by cases h), fun h => absurd h.1 hM'.out⟩, hF'.out.then hf2'.out⟩
end
end Go.Proofs.YteojbnkjphghkaaDoor
