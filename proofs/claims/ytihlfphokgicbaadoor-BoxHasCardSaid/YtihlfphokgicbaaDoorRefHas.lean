/-
  The document's Has of an automaton.
-/
import Derived.Test.YtihlfphokgicbaaDoorHasWord
import Derived.Test.YtihlfphokgicbaaDoorRefCheck
namespace Go.Proofs.YtihlfphokgicbaaDoor
open Go.RowKit
set_option linter.unusedVariables false
set_option linter.unusedSimpArgs false
section
set_option maxHeartbeats 2000000
set_option maxRecDepth 100000
theorem rhas_no (S : Int) (fo : Option Addr) (n fc : Nat) (f : Nat → Int) (ao : Option Addr) (m ac : Nat) (g : Nat → Ar) (qo : Option Addr) (wl qc : Nat) (w : World) (hI : Ints w fo n f) (hA : Arcs w ao m g) (hn : n ≤ maxLen) (hm : m ≤ maxLen) (hno : ¬ MayBe S n f m g) :
    Calls Tryd.prog 10 #[.agg #[.int .i64 S, .slice fo n fc, .slice ao m ac], .slice qo wl qc] w fun e w' => e = .returned (.tuple #[.bool false, .int .i64 200]) ∧ Far (fun _ => False) w w' := by
  obtain ⟨h, hh⟩ : ∃ h, h = w.heap.size := ⟨_, rfl⟩
  obtain ⟨w1, hw1⟩ : ∃ w1, w1 = w.alloc (.cells #[.int .i64 S, .slice fo n fc, .slice ao m ac] 25) := ⟨_, rfl⟩
  have hB : Bk w1 h 25 #[.int .i64 S, .slice fo n fc, .slice ao m ac] := hw1 ▸ Bk.new hh
  have hF : Far (fun _ => False) w w1 := hw1 ▸ (Far.refl _ w).alloc _
  have b0 : w1.cell? ⟨h, 0, none⟩ = some (.int .i64 S) := hB.cell 0
  have b1 : w1.cell? ⟨h, 1, none⟩ = some (.slice fo n fc) := hB.cell 1
  have b2 : w1.cell? ⟨h, 2, none⟩ = some (.slice ao m ac) := hB.cell 2
  have CK := rcheck_any S fo n fc f ao m ac g w1 (hI.move hF) (hA.move hF) hn hm
  rw [code_no hno] at CK
  have hh' := Lib.hid hh
  have hw1' := Lib.hid hw1
  have hF' := Lib.hid hF
  clear hI hA hn hm hno hh hw1 hB hF
  go_enter Tryd.func10, Tryd.ntmps10
  go_upto_region 1 with fail
  rw [← hh'.out, ← hw1'.out]
  go_wp2_with fail
  refine CK.mono ?_
  rintro e w2 ⟨rfl, hf2⟩
  have hf2' := Lib.hid hf2
  clear hf2 CK
  go_wp2_with fail
  exact bodyPost_ret (v := .tuple #[.bool false, .int .i64 200]) (by simp [results, Tryd.f10, go_sem]) rfl ⟨rfl, hF'.out.then hf2'.out⟩
theorem rhas_long (S : Int) (fo : Option Addr) (n fc : Nat) (f : Nat → Int) (ao : Option Addr) (m ac : Nat) (g : Nat → Ar) (qo : Option Addr) (wl qc : Nat) (w : World) (hI : Ints w fo n f) (hA : Arcs w ao m g) (hn : n ≤ maxLen) (hm : m ≤ maxLen) (hM : MayBe S n f m g) (hl : 64 < wl) :
    Calls Tryd.prog 10 #[.agg #[.int .i64 S, .slice fo n fc, .slice ao m ac], .slice qo wl qc] w fun e w' => e = .returned (.tuple #[.bool false, .int .i64 3]) ∧ Far (fun _ => False) w w' := by
  obtain ⟨h, hh⟩ : ∃ h, h = w.heap.size := ⟨_, rfl⟩
  obtain ⟨w1, hw1⟩ : ∃ w1, w1 = w.alloc (.cells #[.int .i64 S, .slice fo n fc, .slice ao m ac] 25) := ⟨_, rfl⟩
  have hB : Bk w1 h 25 #[.int .i64 S, .slice fo n fc, .slice ao m ac] := hw1 ▸ Bk.new hh
  have hF : Far (fun _ => False) w w1 := hw1 ▸ (Far.refl _ w).alloc _
  have b0 : w1.cell? ⟨h, 0, none⟩ = some (.int .i64 S) := hB.cell 0
  have b1 : w1.cell? ⟨h, 1, none⟩ = some (.slice fo n fc) := hB.cell 1
  have b2 : w1.cell? ⟨h, 2, none⟩ = some (.slice ao m ac) := hB.cell 2
  have CK := rcheck_any S fo n fc f ao m ac g w1 (hI.move hF) (hA.move hF) hn hm
  rw [code_yes hM] at CK
  have e0 : decide ((64 : Int) < (wl : Int)) = true := by rw [decide_eq_true_eq]; omega
  have e0' : decide (64 < wl) = true := by rw [decide_eq_true_eq]; omega
  have hh' := Lib.hid hh
  have hw1' := Lib.hid hw1
  have hF' := Lib.hid hF
  clear hI hA hn hm hM hh hw1 hB hF hl
  go_enter Tryd.func10, Tryd.ntmps10
  go_upto_region 1 with fail
  rw [← hh'.out, ← hw1'.out]
  go_wp2_with fail
  refine CK.mono ?_
  rintro e w2 ⟨rfl, hf2⟩
  have hf2' := Lib.hid hf2
  clear hf2 CK
  go_wp2_with fail
  exact bodyPost_ret (v := .tuple #[.bool false, .int .i64 3]) (by simp [results, Tryd.f10, go_sem]) rfl ⟨rfl, hF'.out.then hf2'.out⟩
theorem rhas_yes (sn : Nat) (fo : Option Addr) (n fc : Nat) (f : Nat → Int) (ao : Option Addr) (m ac : Nat) (g : Nat → Ar) (qo : Option Addr) (wl qc : Nat) (wd : Nat → Bool × Int) (w : World) (hI : Ints w fo n f) (hA : Arcs w ao m g) (hQ : Syms w qo wl wd) (hn : n ≤ maxLen) (hm : m ≤ maxLen) (hM : MayBe (sn : Int) n f m g) (hl : wl ≤ 64) :
    Calls Tryd.prog 10 #[.agg #[.int .i64 (sn : Int), .slice fo n fc, .slice ao m ac], .slice qo wl qc] w fun e w' => (∃ b : Bool, e = .returned (.tuple #[.bool b, .int .i64 0]) ∧ (b = true ↔ hasP g m wd wl n f)) ∧ Far (fun _ => False) w w' := by
  obtain ⟨h, hh⟩ : ∃ h, h = w.heap.size := ⟨_, rfl⟩
  obtain ⟨w1, hw1⟩ : ∃ w1, w1 = w.alloc (.cells #[.int .i64 (sn : Int), .slice fo n fc, .slice ao m ac] 25) := ⟨_, rfl⟩
  have hB : Bk w1 h 25 #[.int .i64 (sn : Int), .slice fo n fc, .slice ao m ac] := hw1 ▸ Bk.new hh
  have hF : Far (fun _ => False) w w1 := hw1 ▸ (Far.refl _ w).alloc _
  have b0 : w1.cell? ⟨h, 0, none⟩ = some (.int .i64 (sn : Int)) := hB.cell 0
  have b1 : w1.cell? ⟨h, 1, none⟩ = some (.slice fo n fc) := hB.cell 1
  have b2 : w1.cell? ⟨h, 2, none⟩ = some (.slice ao m ac) := hB.cell 2
  have CK := rcheck_any (sn : Int) fo n fc f ao m ac g w1 (hI.move hF) (hA.move hF) hn hm
  rw [code_yes hM] at CK
  have e0 : decide ((64 : Int) < (wl : Int)) = false := by rw [decide_eq_false_iff_not]; omega
  have e0' : decide (64 < wl) = false := by rw [decide_eq_false_iff_not]; omega
  have hS65 : sn ≤ 65 := by have := hM.2.1; omega
  have hS1 : 1 ≤ sn := by have := hM.1; omega
  have hfb : ∀ k, k < n → 0 ≤ f k ∧ f k < (sn : Int) := fun k hk => by have := hM.2.2.1 k hk; unfold finAt at this; omega
  have hgb : ∀ k, k < m → (0 ≤ (g k).1 ∧ (g k).1 < sn) ∧ 0 ≤ (g k).2.2.2 ∧ (g k).2.2.2 < sn := fun k hk => by
    obtain ⟨a1, a2, a3, a4, _⟩ := hM.2.2.2 k hk
    omega
  have hQ1 := Lib.hid (hQ.move hF)
  have hI1 := Lib.hid (hI.move hF)
  have RS := Lib.hid (fun gF fB s1 s2 w' (hb : BRow w' gF sn fB) (hf : Far (fun _ => False) w1 w') => rstep_any sn fo n fc ao m ac g gF fB s1 s2 w' hS65 hm ((hA.move hF).move hf) hb hgb)
  have hMK := Lib.hid (make_bools sn hS65)
  have hfb' := Lib.hid hfb
  have hh' := Lib.hid hh
  have hw1' := Lib.hid hw1
  have hF' := Lib.hid hF
  have hB' := Lib.hid hB
  unfold maxLen at hn
  clear hI hA hm hM hh hw1 hB hF hQ hfb hgb
  go_enter Tryd.func10, Tryd.ntmps10
  go_upto_region 1 with fail
  rw [← hh'.out, ← hw1'.out]
  go_wp2_with fail
  refine CK.mono ?_
  rintro e w2 ⟨rfl, hf2⟩
  have hf2' := Lib.hid hf2
  clear hf2 CK b0 b1 b2
  have b0 : w2.cell? ⟨h, 0, none⟩ = some (.int .i64 (sn : Int)) := (hB'.out.far' hf2'.out id).cell 0
  have mk := hMK.out
  obtain ⟨gS, hgS⟩ : ∃ k, k = w2.heap.size := ⟨_, rfl⟩
  obtain ⟨w5, hw5⟩ : ∃ w5, w5 = w2.alloc (.cells (bcells sn (fun _ => false)) 4) := ⟨_, rfl⟩
  have hR5 : BRow w5 gS sn (fun _ => false) := hw5 ▸ Bk.new hgS
  have hf5 : Far (fun _ => False) w1 w5 := hw5 ▸ hf2'.out.alloc _
  have hgS1 : w1.heap.size ≤ gS := hgS ▸ hf2'.out.size
  have hR6 := Lib.hid (hR5.put 0)
  have hf6 := Lib.hid (hf5.set ⟨gS, 0, none⟩ (.bool true) (fun h => absurd h (Nat.not_lt.2 hgS1)))
  have s0 : w5.cell? ⟨gS, 0, none⟩ = some (.bool false) := hR5.get 0 (by omega)
  have z0 : w5.frozen? ⟨gS, 0, none⟩ = false := Bk.free hR5 0
  have i0 : (0 : Int) < (sn : Int) := by omega
  have i0' : 0 < sn := by omega
  have hgS' := Lib.hid hgS
  have hw5' := Lib.hid hw5
  clear hgS hw5 hR5 hf5 hgS1
  go_upto_region 6 with fail
  rw [← hgS'.out, ← hw5'.out]
  clear mk b0
  go_wp2_with fail
  clear s0 z0
  generalize w5.setCell ⟨gS, 0, none⟩ (.bool true) = w6 at *
  go_loopw [6, 7] (fun av iv wr => ∃ (i gT : Nat) (fB : Nat → Bool), av = .slice (some ⟨gT, 0, none⟩) sn sn ∧ iv = .int .i64 i ∧ i ≤ wl ∧ BRow wr gT sn fB ∧ (∀ p, fB p = true ↔ inAt g m wd i p) ∧ Far (fun _ => False) w1 wr) (fun _ iv _ => wl - (intOf iv).toNat)
  case atStart => exact ⟨0, gS, setB (fun _ => false) 0, rfl, rfl, Nat.zero_le _, hR6.out, fun p => by show _ ↔ p = 0; unfold setB; split <;> simp_all, hf6.out⟩
  case round =>
    obtain ⟨i, gT, fB, rfl, rfl, hi, hRr, hmem, hfx⟩ := hrel
    have hBr := hB'.out.far' hfx id
    have b0 : wr.cell? ⟨h, 0, none⟩ = some (.int .i64 (sn : Int)) := hBr.cell 0
    have b1 : wr.cell? ⟨h, 1, none⟩ = some (.slice fo n fc) := hBr.cell 1
    have b2 : wr.cell? ⟨h, 2, none⟩ = some (.slice ao m ac) := hBr.cell 2
    have hfx' := Lib.hid hfx
    by_cases hlt : i < wl
    · have e1 : decide ((i : Int) < (wl : Int)) = true := by rw [decide_eq_true_eq]; omega
      have hii : (i : Int) < (wl : Int) := by omega
      obtain ⟨gb, off, rfl, hgb, hcs⟩ := (hQ1.out.move hfx) (by omega)
      obtain ⟨c0, c1⟩ := hcs i hlt
      have hRST := Lib.hid (RS.out gT fB (wd i).1 (wd i).2 wr.drew hRr (hfx.drew))
      have hi1 := Lib.hid (fun (f' : Nat → Bool) (h' : ∀ p, f' p = true ↔ ∃ k, k < m ∧ leadsB g fB (wd i).1 (wd i).2 k p) => inAt_stepB hmem h')
      have HK := Lib.hid (show ∀ w2, Far (fun _ => False) wr w2 → w2.cell? ⟨h, 0, none⟩ = some (.int .i64 (sn : Int)) ∧ w2.cell? ⟨h, 1, none⟩ = some (.slice fo n fc) ∧ w2.cell? ⟨h, 2, none⟩ = some (.slice ao m ac) ∧ w2.cell? ⟨gb, off + i * 2, none⟩ = some (.bool (wd i).1) ∧ w2.cell? ⟨gb, off + i * 2 + 1, none⟩ = some (.int .i64 (wd i).2) from fun w2 hf => ⟨(hBr.far' hf id).cell 0, (hBr.far' hf id).cell 1, (hBr.far' hf id).cell 2, (hf.cell hgb).trans c0, (hf.cell hgb).trans c1⟩)
      generalize hq1 : (wd i).1 = q1 at *
      generalize hq2 : (wd i).2 = q2 at *
      clear hq1 hq2
      clear hcs hmem hfx hBr hRr
      go_wp2_with fail
      go_region_held3 (fun w' => w'.cell? ⟨h, 0, none⟩ = some (.int .i64 (sn : Int)) ∧ w'.cell? ⟨h, 1, none⟩ = some (.slice fo n fc) ∧ w'.cell? ⟨h, 2, none⟩ = some (.slice ao m ac) ∧ w'.cell? ⟨gb, off + i * 2, none⟩ = some (.bool q1) ∧ w'.cell? ⟨gb, off + i * 2 + 1, none⟩ = some (.int .i64 q2)) (go_keep)
        (first
          | (go_at_call 12; refine hRST.out.mono ?_; rintro e w7 ⟨gU, f', rfl, hgU, hRU, hf', hf7⟩; obtain ⟨r0, r1, r2, r3, r4⟩ := HK.out w7 ((drew_far wr).then hf7); have hRU' := Lib.hid hRU; have hf'' := Lib.hid hf'; have hf7' := Lib.hid ((drew_far wr).then hf7); clear hgU hRU hf' hf7))
      all_goals
        go_wp2_with fail
        go_roundw
        case rel => exact ⟨i + 1, gU, f', rfl, by go_num, by omega, hRU'.out, hi1.out f' hf''.out, hfx'.out.then hf7'.out⟩
        case measure => simp [intOf]; omega
    · have e1 : decide ((i : Int) < (wl : Int)) = false := by rw [decide_eq_false_iff_not]; omega
      have hin : i = wl := by omega
      have hm2 := Lib.hid (show ∀ p, fB p = true ↔ inAt g m wd wl p from hin ▸ hmem)
      have hRr' := Lib.hid hRr
      have hIr := Lib.hid (hI1.out.move hfx)
      obtain ⟨w3, hw3⟩ : ∃ w3, w3 = wr := ⟨_, rfl⟩
      rw [← hw3] at hfx' b0 b1 b2 hRr' hIr ⊢
      have hB3 := Lib.hid (hw3 ▸ hBr : Bk w3 h 25 #[.int .i64 (sn : Int), .slice fo n fc, .slice ao m ac])
      clear hmem hfx hBr hRr hin hw3
      go_wp2_with fail
      clear b0 b1 b2
      go_loopw [8] (fun iv wr => ∃ j : Nat, iv = .int .i64 j ∧ j ≤ n ∧ (∀ k, k < j → ¬ inAt g m wd wl (f k).toNat) ∧ wr = w3) (fun iv _ => n - (intOf iv).toNat)
      case atStart => exact ⟨0, rfl, Nat.zero_le _, fun k h => absurd h (Nat.not_lt_zero _), rfl⟩
      case round =>
        obtain ⟨j, rfl, hj, hnone, rfl⟩ := hrel
        have b1 : wr.cell? ⟨h, 1, none⟩ = some (.slice fo n fc) := hB3.out.cell 1
        by_cases hlt2 : j < n
        · have e2 : decide ((j : Int) < (n : Int)) = true := by rw [decide_eq_true_eq]; omega
          have hjj : (j : Int) < (n : Int) := by omega
          obtain ⟨gb, off, rfl, hgb, hcs⟩ := hIr.out (by omega)
          have ci : wr.cell? ⟨gb, off + j, none⟩ = some (.int .i64 (f j)) := hcs j hlt2
          have h0 := hfb'.out j hlt2
          obtain ⟨p, hp⟩ : ∃ p : Nat, f j = (p : Int) := ⟨(f j).toNat, by omega⟩
          have hpt : (f j).toNat = p := by omega
          have hps : p < sn := by omega
          have hpi : (p : Int) < (sn : Int) := by omega
          rw [hp] at ci
          have cf := hRr'.out.get p hps
          have hpt' := Lib.hid hpt
          have hnone' := Lib.hid hnone
          cases hb : fB p with
          | true =>
            rw [hb] at cf
            have hyes := Lib.hid (show hasP g m wd wl n f from ⟨j, hlt2, by rw [hpt]; exact (hm2.out p).1 hb⟩)
            clear hcs hnone h0 hp hpt hb
            go_wp2_with fail
            exact bodyPost_ret (v := .tuple #[.bool true, .int .i64 0]) (by simp [results, Tryd.f10, go_sem]) rfl ⟨⟨true, rfl, fun _ => hyes.out, fun _ => rfl⟩, hF'.out.then hfx'.out⟩
          | false =>
            rw [hb] at cf
            have hno := Lib.hid (show ¬ inAt g m wd wl (f j).toNat from fun h => by rw [hpt, ← hm2.out p, hb] at h; cases h)
            clear hcs hnone h0 hp hpt hb
            go_wp2_with fail
            go_roundw
            case rel => exact ⟨j + 1, by go_num, by omega, fun k hk => by
              rcases Nat.lt_or_ge k j with h | h
              · exact hnone'.out k h
              · have : k = j := by omega
                subst this
                exact hno.out, trivial⟩
            case measure => simp [intOf]; omega
        · have e2 : decide ((j : Int) < (n : Int)) = false := by rw [decide_eq_false_iff_not]; omega
          have hall := Lib.hid (show ¬ hasP g m wd wl n f from fun ⟨k, hk, h⟩ => hnone k (by omega) h)
          clear hnone
          go_wp2_with fail
          exact bodyPost_ret (v := .tuple #[.bool false, .int .i64 0]) (by simp [results, Tryd.f10, go_sem]) rfl ⟨⟨false, rfl, fun h => (by cases h), fun h => absurd h hall.out⟩, hF'.out.then hfx'.out⟩
end
end Go.Proofs.YtihlfphokgicbaaDoor
