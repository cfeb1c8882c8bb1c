/-
  The document's sameness of productions.
-/
import Derived.Test.YtfgoghmhjbhbiaaChk12Law
import Derived.Test.YtfgoghmhjbhbiaaSameBody
import Derived.Test.YtfgoghmhjbhbiaaWcnfLaw
namespace Go.Proofs.Ytfgoghmhjbhbiaa
open Go.RowKit
set_option linter.unusedVariables false
set_option linter.unusedSimpArgs false
section
set_option maxHeartbeats 4000000
set_option maxRecDepth 100000
theorem same_yes (S : Int) (v1 v2 : Value) (T1 T2 : List Tr) (w : World) (hP1 : Prods w v1 T1) (hP2 : Prods w v2 T2) (hpl : T2.map pl = T1.map pl) (hfit : Fits T1) :
    Calls Try.prog 14 #[.agg #[.int .i64 S, v1], .agg #[.int .i64 S, v2]] w fun e w' => e = .returned (.bool true) ∧ Far (fun _ => False) w w' := by
  obtain ⟨h, hh⟩ : ∃ h, h = w.heap.size := ⟨_, rfl⟩
  obtain ⟨k, hk⟩ : ∃ k, k = h + 1 := ⟨_, rfl⟩
  have hlen : T2.length = T1.length := by have := congrArg List.length hpl; simpa using this
  obtain ⟨ao, pc, rfl⟩ := Src.form hP1.1
  obtain ⟨bo, qc, hv2⟩ := Src.form hP2.1
  rw [hlen] at hv2
  subst hv2
  obtain ⟨w0, hw0⟩ : ∃ w0, w0 = w.alloc (.cells #[.int .i64 S, .slice ao T1.length pc] 24) := ⟨_, rfl⟩
  obtain ⟨w1, hw1⟩ : ∃ w1, w1 = w0.alloc (.cells #[.int .i64 S, .slice bo T1.length qc] 24) := ⟨_, rfl⟩
  have hz0 : w0.heap.size = k := by rw [hw0]; simp [hk, hh]
  have hA : Bk w1 h 24 #[.int .i64 S, .slice ao T1.length pc] := hw1 ▸ ((hw0 ▸ Bk.new hh : Bk w0 h 24 #[.int .i64 S, .slice ao T1.length pc]).alloc _)
  have hB : Bk w1 k 24 #[.int .i64 S, .slice bo T1.length qc] := hw1 ▸ Bk.new hz0.symm
  have hF : Far (fun _ => False) w w1 := hw1 ▸ (hw0 ▸ (Far.refl _ w).alloc _ : Far (fun _ => False) w w0).alloc _
  have a0 : w1.cell? ⟨h, 0, none⟩ = some (.int .i64 S) := hA.cell 0
  have a1 : w1.cell? ⟨h, 1, none⟩ = some (.slice ao T1.length pc) := hA.cell 1
  have b0 : w1.cell? ⟨k, 0, none⟩ = some (.int .i64 S) := hB.cell 0
  have b1 : w1.cell? ⟨k, 1, none⟩ = some (.slice bo T1.length qc) := hB.cell 1
  have hQ1 := Lib.hid (hP1.move hF)
  have hQ2 := Lib.hid (hP2.move hF)
  have hfit' := Lib.hid hfit
  have hpl' := Lib.hid hpl
  have hh' := Lib.hid hh
  have hk' := Lib.hid hk
  have hw0' := Lib.hid hw0
  have hw1' := Lib.hid hw1
  have hz0' := Lib.hid hz0
  have hA' := Lib.hid hA
  have hB' := Lib.hid hB
  have hF' := Lib.hid hF
  have hs1 : T1.length ≤ 4398046510976 := by have := hfit.1.1; omega
  have g0 : (S == S) = true := by simp
  have g1 : ((T1.length : Int) == (T1.length : Int)) = true := by simp
  clear hP1 hP2 hh hk hw0 hw1 hz0 hA hB hF hfit hlen hpl
  go_enter Try.func14, Try.ntmps14
  go_upto_region 1 with fail
  rw [← hh'.out, ← hk'.out, ← hw0'.out, ← hw1'.out]
  go_wp2_with fail
  clear a0 a1 b0 b1
  go_loopw [5] (fun iv wr => ∃ i : Nat, iv = .int .i64 i ∧ i ≤ T1.length ∧ Far (fun _ => False) w1 wr) (fun iv _ => T1.length - (intOf iv).toNat)
  case atStart => exact ⟨0, rfl, Nat.zero_le _, Far.refl _ _⟩
  case round =>
    obtain ⟨i, rfl, hi, hfw⟩ := hrel
    have a1 : wr.cell? ⟨h, 1, none⟩ = some (.slice ao T1.length pc) := (hA'.out.far' hfw id).cell 1
    have b1 : wr.cell? ⟨k, 1, none⟩ = some (.slice bo T1.length qc) := (hB'.out.far' hfw id).cell 1
    by_cases hlt : i < T1.length
    · have e1 : decide ((i : Int) < (T1.length : Int)) = true := by rw [decide_eq_true_eq]; omega
      have hii : (i : Int) < (T1.length : Int) := by omega
      obtain ⟨t, ht⟩ : ∃ t, T1[i]? = some t := ⟨T1[i], List.getElem?_eq_getElem hlt⟩
      have hx : (T2.map pl)[i]? = some (pl t) := by rw [hpl'.out, List.getElem?_map, ht]; rfl
      obtain ⟨t2, ht2, e2⟩ := map_at rfl hx
      obtain ⟨ga, oa, ca, ea, hga, c0, c1, cb⟩ := (hQ1.out.move hfw).prod ht
      obtain ⟨gb, ob, cb', eb, hgb, d0, d1, db⟩ := (hQ2.out.move hfw).prod ht2
      simp only [Value.slice.injEq] at ea eb
      obtain ⟨rfl, _, rfl⟩ := ea
      obtain ⟨rfl, hT, rfl⟩ := eb
      clear hT
      rw [show t2.1 = t.1 from show (pl t2).1 = (pl t).1 by rw [e2]] at d0
      rw [show t2.2.2 = t.2.2 from show (pl t2).2 = (pl t).2 by rw [e2]] at db
      obtain ⟨uo, uc, eu⟩ := Src.form cb
      obtain ⟨vo, vc, ev⟩ := Src.form db
      rw [eu] at c1 cb
      rw [ev] at d1 db
      have SB := Lib.hid (fun w' (hf : Far (fun _ => False) wr w') => sameBody_yes (.slice uo t.2.2.length uc) (.slice vo t.2.2.length vc) t.2.2 w' (hfit'.out.2.2 t (List.mem_of_getElem? ht)) (cb.move hf) (db.move hf))
      have hAr := hA'.out.far' hfw id
      have hBr := hB'.out.far' hfw id
      have HK := Lib.hid (show ∀ w2, Far (fun _ => False) wr w2 → w2.cell? ⟨h, 1, none⟩ = some (.slice (some ⟨ga, oa, none⟩) T1.length pc) ∧ w2.cell? ⟨k, 1, none⟩ = some (.slice (some ⟨gb, ob, none⟩) T1.length qc) ∧ w2.cell? ⟨ga, oa + i * 2, none⟩ = some (.int .i64 t.1) ∧ w2.cell? ⟨ga, oa + i * 2 + 1, none⟩ = some (.slice uo t.2.2.length uc) ∧ w2.cell? ⟨gb, ob + i * 2, none⟩ = some (.int .i64 t.1) ∧ w2.cell? ⟨gb, ob + i * 2 + 1, none⟩ = some (.slice vo t.2.2.length vc) from fun w2 hf => ⟨(hAr.far' hf id).cell 1, (hBr.far' hf id).cell 1, (hf.cell hga).trans c0, (hf.cell hga).trans c1, (hf.cell hgb).trans d0, (hf.cell hgb).trans d1⟩)
      have g3 : (t.1 == t.1) = true := by simp
      have hfw' := Lib.hid hfw
      clear hfw ht ht2 e2 hx cb db hAr hBr eu ev
      generalize t.2.2.length = tl at *
      go_wp2_with fail
      go_region_held3 (fun w' => w'.cell? ⟨h, 1, none⟩ = some (.slice (some ⟨ga, oa, none⟩) T1.length pc) ∧ w'.cell? ⟨k, 1, none⟩ = some (.slice (some ⟨gb, ob, none⟩) T1.length qc) ∧ w'.cell? ⟨ga, oa + i * 2, none⟩ = some (.int .i64 t.1) ∧ w'.cell? ⟨ga, oa + i * 2 + 1, none⟩ = some (.slice uo tl uc) ∧ w'.cell? ⟨gb, ob + i * 2, none⟩ = some (.int .i64 t.1) ∧ w'.cell? ⟨gb, ob + i * 2 + 1, none⟩ = some (.slice vo tl vc)) (go_keep)
        (first
          | (go_at_call 18; refine (SB.out _ (drew_far wr)).mono ?_; rintro e w9 ⟨rfl, hf9⟩; obtain ⟨r0, r1, r2, r3, r4, r5⟩ := HK.out w9 ((drew_far wr).then hf9); have hf9' := Lib.hid ((drew_far wr).then hf9); clear hf9))
      all_goals
        go_wp2_with fail
        go_roundw
        case rel => exact ⟨i + 1, by go_num, by omega, hfw'.out.then hf9'.out⟩
        case measure => simp [intOf]; omega
    · have e1 : decide ((i : Int) < (T1.length : Int)) = false := by rw [decide_eq_false_iff_not]; omega
      have hfw' := Lib.hid hfw
      clear hfw
      go_wp2_with fail
      go_ret
      exact ⟨rfl, hF'.out.then hfw'.out⟩
end
end Go.Proofs.Ytfgoghmhjbhbiaa
