/-
  Productions looked through by the document.
-/
import Derived.Test.YteojbnkjphghkaaDoorCheckC
namespace Go.Proofs.YteojbnkjphghkaaDoor
open Go.RowKit
set_option linter.unusedVariables false
set_option linter.unusedSimpArgs false
section
set_option maxHeartbeats 4000000
set_option maxRecDepth 100000
theorem rcheck_any (S : Int) (pv : Value) (T : List Tr) (w : World) (hP : Prods w pv T) (hs : T.length ≤ maxLen) (hs2 : ∀ t ∈ T, t.2.2.length ≤ maxLen) :
    Calls Tryd.prog 44 #[.agg #[.int .i64 S, pv]] w fun e w' => e = .returned (.int .i64 (pcode (CnfOK S T))) ∧ Far (fun _ => False) w w' := by
  obtain ⟨h, hh⟩ : ∃ h, h = w.heap.size := ⟨_, rfl⟩
  obtain ⟨ao, pc, rfl⟩ := Src.form hP.1
  obtain ⟨w1, hw1⟩ : ∃ w1, w1 = w.alloc (.cells #[.int .i64 S, .slice ao T.length pc] 24) := ⟨_, rfl⟩
  have hA : Bk w1 h 24 #[.int .i64 S, .slice ao T.length pc] := hw1 ▸ Bk.new hh
  have hF : Far (fun _ => False) w w1 := hw1 ▸ (Far.refl _ w).alloc _
  have a0 : w1.cell? ⟨h, 0, none⟩ = some (.int .i64 S) := hA.cell 0
  have a1 : w1.cell? ⟨h, 1, none⟩ = some (.slice ao T.length pc) := hA.cell 1
  have hP1 := Lib.hid (hP.move hF)
  have hs2' := Lib.hid hs2
  have hh' := Lib.hid hh
  have hw1' := Lib.hid hw1
  have hA' := Lib.hid hA
  have hF' := Lib.hid hF
  unfold maxLen at hs
  clear hP hs2 hh hw1 hA hF
  by_cases hS : 1 ≤ S ∧ S ≤ 1024
  · obtain ⟨hS1, hS2⟩ := hS
    have d1 : decide (S < 1) = false := decide_eq_false (by omega)
    have d2 : decide (1024 < S) = false := decide_eq_false (by omega)
    go_enter Tryd.func44, Tryd.ntmps44
    go_upto_region 1 with fail
    rw [← hh'.out, ← hw1'.out]
    go_wp2_with fail
    clear a0 a1
    go_loopw [3] (fun iv wr => ∃ i : Nat, iv = .int .i64 i ∧ i ≤ T.length ∧ (∀ k, k < i → ∀ t, T[k]? = some t → prodOK S t) ∧ Far (fun _ => False) w1 wr) (fun iv _ => T.length - (intOf iv).toNat)
    case atStart => exact ⟨0, rfl, Nat.zero_le _, fun j h => absurd h (Nat.not_lt_zero _), Far.refl _ _⟩
    case round =>
      obtain ⟨i, rfl, hi, hgood, hfw⟩ := hrel
      have ha1 : wr.cell? ⟨h, 1, none⟩ = some (.slice ao T.length pc) := (hA'.out.far' hfw id).cell 1
      by_cases hlt : i < T.length
      · have e1 : decide ((i : Int) < (T.length : Int)) = true := by rw [decide_eq_true_eq]; omega
        have hii : (i : Int) < (T.length : Int) := by omega
        obtain ⟨t, ht⟩ : ∃ t, T[i]? = some t := ⟨T[i], List.getElem?_eq_getElem hlt⟩
        obtain ⟨b, off, c, he, hbl, c0, c1, hbd⟩ := (hP1.out.move hfw).prod ht
        simp only [Value.slice.injEq] at he
        obtain ⟨rfl, _, rfl⟩ := he
        have hll := hs2'.out t (List.mem_of_getElem? ht)
        unfold maxLen at hll
        obtain ⟨h0, v, l⟩ := t
        simp only [] at c0 c1 hbd hll
        obtain ⟨lo, lc, rfl⟩ := Src.form hbd
        obtain ⟨ax, hax⟩ : ∃ ax, ax = wr.heap.size := ⟨_, rfl⟩
        obtain ⟨w2, hw2⟩ : ∃ w2, w2 = wr.alloc (.cells #[.int .i64 h0, .slice lo l.length lc] 48) := ⟨_, rfl⟩
        have hfa : Far (fun _ => False) wr w2 := hw2 ▸ (Far.refl _ wr).alloc _
        have hX : Bk w2 ax 48 #[.int .i64 h0, .slice lo l.length lc] := hw2 ▸ Bk.new hax
        have x0 : w2.cell? ⟨ax, 0, none⟩ = some (.int .i64 h0) := hX.cell 0
        have x1 : w2.cell? ⟨ax, 1, none⟩ = some (.slice lo l.length lc) := hX.cell 1
        have hf2 := hfw.then hfa
        have a0 : w2.cell? ⟨h, 0, none⟩ = some (.int .i64 S) := (hA'.out.far' hf2 id).cell 0
        have hb2 := Lib.hid (hbd.move hfa)
        have hX' := Lib.hid hX
        have hf2' := Lib.hid hf2
        have hax' := Lib.hid hax
        have hw2' := Lib.hid hw2
        have hgood' := Lib.hid hgood
        have ht' := Lib.hid ht
        clear hgood hfw hfa hX hf2 hax hw2 hbd ht hbl
        go_upto_region 7 with fail
        rw [← hax'.out, ← hw2'.out]
        clear c0 c1
        by_cases hh0 : 0 ≤ h0 ∧ h0 < S
        · have g1 : decide (h0 < 0) = false := decide_eq_false (by omega)
          have g2 : decide (S ≤ h0) = false := decide_eq_false (by omega)
          have hh0' := Lib.hid hh0
          clear hh0
          go_wp2_with fail
          clear x0 x1 a0 g1 g2
          go_loopw [5] (fun iv wr => ∃ j : Nat, iv = .int .i64 j ∧ j ≤ l.length ∧ (∀ k, k < j → ∀ s, l[k]? = some s → symOK S s) ∧ Far (fun _ => False) w2 wr) (fun iv _ => l.length - (intOf iv).toNat)
          case atStart => exact ⟨0, rfl, Nat.zero_le _, fun j h => absurd h (Nat.not_lt_zero _), Far.refl _ _⟩
          case round =>
            obtain ⟨j, rfl, hj, hgs, hfs⟩ := hrel
            have hx1 : wr.cell? ⟨ax, 1, none⟩ = some (.slice lo l.length lc) := (hX'.out.far' hfs id).cell 1
            by_cases hlt2 : j < l.length
            · have e2 : decide ((j : Int) < (l.length : Int)) = true := by rw [decide_eq_true_eq]; omega
              have hjj : (j : Int) < (l.length : Int) := by omega
              obtain ⟨s, hs0⟩ : ∃ s, l[j]? = some s := ⟨l[j], List.getElem?_eq_getElem hlt2⟩
              obtain ⟨b2, off2, c2, he2, hbl2, s0, s1⟩ := (hb2.out.move hfs).sym hs0
              simp only [Value.slice.injEq] at he2
              obtain ⟨rfl, _, rfl⟩ := he2
              obtain ⟨lb, nn⟩ := s
              simp only [] at s0 s1
              obtain ⟨ay, hay⟩ : ∃ ay, ay = wr.heap.size := ⟨_, rfl⟩
              obtain ⟨w3, hw3⟩ : ∃ w3, w3 = wr.alloc (.cells #[.bool lb, .int .i64 nn] 50) := ⟨_, rfl⟩
              have hfa : Far (fun _ => False) wr w3 := hw3 ▸ (Far.refl _ wr).alloc _
              have hY : Bk w3 ay 50 #[.bool lb, .int .i64 nn] := hw3 ▸ Bk.new hay
              have y0 : w3.cell? ⟨ay, 0, none⟩ = some (.bool lb) := hY.cell 0
              have y1 : w3.cell? ⟨ay, 1, none⟩ = some (.int .i64 nn) := hY.cell 1
              have hf3 := hfs.then hfa
              have a0 : w3.cell? ⟨h, 0, none⟩ = some (.int .i64 S) := (hA'.out.far' (hf2'.out.then hf3) id).cell 0
              have hf3' := Lib.hid hf3
              have hay' := Lib.hid hay
              have hw3' := Lib.hid hw3
              have hgs' := Lib.hid hgs
              have hs' := Lib.hid hs0
              clear hgs hfs hfa hY hf3 hay hw3 hs0 hbl2
              go_upto_region 13 with fail
              rw [← hay'.out, ← hw3'.out]
              clear s0 s1
              cases lb with
              | true =>
                by_cases hn : 0 ≤ nn ∧ nn < 16
                · have g1 : decide (nn < 0) = false := decide_eq_false (by omega)
                  have g2 : decide (16 ≤ nn) = false := decide_eq_false (by omega)
                  have hok := Lib.hid (show symOK S (true, nn) from ⟨hn.1, fun _ => hn.2, fun h => by cases h⟩)
                  clear hn
                  go_wp2_with fail
                  go_roundw
                  case rel => exact ⟨j + 1, by go_num, by omega, upto_succ hgs'.out hs'.out hok.out, hf3'.out⟩
                  case measure => simp [intOf]; omega
                · have hno := Lib.hid (pcode_no (show ¬ CnfOK S T from fun hc => hn (by
                    have := (hc.2 _ (List.mem_of_getElem? ht'.out)).2 _ (List.mem_of_getElem? hs'.out)
                    exact ⟨this.1, this.2.1 rfl⟩)))
                  by_cases hg : nn < 0
                  · have g1 : decide (nn < 0) = true := decide_eq_true hg
                    clear hn hg
                    go_wp2_with fail
                    go_ret
                    exact ⟨by rw [hno.out]; rfl, hF'.out.then (hf2'.out.then hf3'.out)⟩
                  · have g1 : decide (nn < 0) = false := decide_eq_false hg
                    have g2 : decide (16 ≤ nn) = true := decide_eq_true (by omega)
                    clear hn hg
                    go_wp2_with fail
                    go_ret
                    exact ⟨by rw [hno.out]; rfl, hF'.out.then (hf2'.out.then hf3'.out)⟩
              | false =>
                by_cases hn : 0 ≤ nn ∧ nn < S
                · have g1 : decide (nn < 0) = false := decide_eq_false (by omega)
                  have g2 : decide (S ≤ nn) = false := decide_eq_false (by omega)
                  have hok := Lib.hid (show symOK S (false, nn) from ⟨hn.1, fun h => (by cases h), fun _ => hn.2⟩)
                  clear hn
                  go_wp2_with fail
                  go_roundw
                  case rel => exact ⟨j + 1, by go_num, by omega, upto_succ hgs'.out hs'.out hok.out, hf3'.out⟩
                  case measure => simp [intOf]; omega
                · have hno := Lib.hid (pcode_no (show ¬ CnfOK S T from fun hc => hn (by
                    have := (hc.2 _ (List.mem_of_getElem? ht'.out)).2 _ (List.mem_of_getElem? hs'.out)
                    exact ⟨this.1, this.2.2 rfl⟩)))
                  by_cases hg : nn < 0
                  · have g1 : decide (nn < 0) = true := decide_eq_true hg
                    clear hn hg
                    go_wp2_with fail
                    go_ret
                    exact ⟨by rw [hno.out]; rfl, hF'.out.then (hf2'.out.then hf3'.out)⟩
                  · have g1 : decide (nn < 0) = false := decide_eq_false hg
                    have g2 : decide (S ≤ nn) = true := decide_eq_true (by omega)
                    clear hn hg
                    go_wp2_with fail
                    go_ret
                    exact ⟨by rw [hno.out]; rfl, hF'.out.then (hf2'.out.then hf3'.out)⟩
            · have e2 : decide ((j : Int) < (l.length : Int)) = false := by rw [decide_eq_false_iff_not]; omega
              have hall := Lib.hid (show prodOK S (h0, .slice lo l.length lc, l) from ⟨hh0'.out, all_upto (l := l) fun k hk => hgs k (by omega)⟩)
              have hfs' := Lib.hid hfs
              clear hgs hfs
              go_wp2_with fail
              go_roundw
              case rel => exact ⟨i + 1, by go_num, by omega, upto_succ hgood'.out ht'.out hall.out, hf2'.out.then hfs'.out⟩
              case measure => simp [intOf]; omega
        · have hno := Lib.hid (pcode_no (show ¬ CnfOK S T from fun hc => hh0 (hc.2 _ (List.mem_of_getElem? ht'.out)).1))
          by_cases hg : h0 < 0
          · have g1 : decide (h0 < 0) = true := decide_eq_true hg
            clear hh0 hg
            go_wp2_with fail
            go_ret
            exact ⟨by rw [hno.out]; rfl, hF'.out.then hf2'.out⟩
          · have g1 : decide (h0 < 0) = false := decide_eq_false hg
            have g2 : decide (S ≤ h0) = true := decide_eq_true (by omega)
            clear hh0 hg
            go_wp2_with fail
            go_ret
            exact ⟨by rw [hno.out]; rfl, hF'.out.then hf2'.out⟩
      · have e1 : decide ((i : Int) < (T.length : Int)) = false := by rw [decide_eq_false_iff_not]; omega
        have hyes := Lib.hid (pcode_yes (show CnfOK S T from ⟨⟨hS1, hS2⟩, all_upto fun k hk => hgood k (by omega)⟩))
        have hfw' := Lib.hid hfw
        clear hgood hfw
        go_wp2_with fail
        go_ret
        exact ⟨by rw [hyes.out]; rfl, hF'.out.then hfw'.out⟩
  · have hno := Lib.hid (pcode_no (show ¬ CnfOK S T from fun hc => hS hc.1))
    by_cases h1 : S < 1
    · have d1 : decide (S < 1) = true := decide_eq_true h1
      clear hS h1
      go_enter Tryd.func44, Tryd.ntmps44
      go_upto_region 1 with fail
      rw [← hh'.out, ← hw1'.out]
      go_wp2_with fail
      go_ret
      exact ⟨by rw [hno.out]; rfl, hF'.out⟩
    · have d1 : decide (S < 1) = false := decide_eq_false h1
      have d2 : decide (1024 < S) = true := decide_eq_true (by omega)
      clear hS h1
      go_enter Tryd.func44, Tryd.ntmps44
      go_upto_region 1 with fail
      rw [← hh'.out, ← hw1'.out]
      go_wp2_with fail
      go_ret
      exact ⟨by rw [hno.out]; rfl, hF'.out⟩
end
end Go.Proofs.YteojbnkjphghkaaDoor
