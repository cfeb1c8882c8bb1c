/-
  Productions that are the same but for where their bodies lie: bounds, Check, the document's Same.
-/
import Derived.Test.YtjkfieilaahejaaCheckC
import Derived.Test.YtjkfieilaahejaaCopy
import Derived.Laws.StructEq
import Derived.Deep.DeepCutAuto
import Derived.Deep.RegionHeld3
namespace Go.Proofs.Ytjkfieilaahejaa
open Go.RowKit
set_option linter.unusedVariables false
set_option linter.unusedSimpArgs false
theorem ok_pl {S : Int} {T T' : List Tr} (h : T'.map pl = T.map pl) (hw : CnfOK S T) : CnfOK S T' := by
  refine ⟨hw.1, fun t ht => ?_⟩
  have : pl t ∈ T.map pl := by rw [← h]; exact List.mem_map_of_mem ht
  obtain ⟨u, hu, e⟩ := List.mem_map.1 this
  have h1 : u.1 = t.1 := show (pl u).1 = (pl t).1 by rw [e]
  have h2 : u.2.2 = t.2.2 := show (pl u).2 = (pl t).2 by rw [e]
  have := hw.2 u hu
  unfold prodOK at *
  rwa [h1, h2] at this
theorem pcode_pl {S : Int} {T T' : List Tr} (h : T'.map pl = T.map pl) : pcode (CnfOK S T') = pcode (CnfOK S T) := by
  by_cases hw : CnfOK S T
  · rw [pcode_yes hw, pcode_yes (ok_pl h hw)]
  · rw [pcode_no hw, pcode_no fun h' => hw (ok_pl h.symm h')]
/-- The bounds of productions, of their copies too. -/
def Fits (T : List Tr) : Prop := (T.length * 32 ≤ 140737488351232 ∧ ∀ t ∈ T, t.2.2.length * 16 ≤ 140737488351232) ∧ T.length ≤ maxLen ∧ ∀ t ∈ T, t.2.2.length ≤ maxLen
theorem fits_of {T : List Tr} (hs : T.length * 32 ≤ 140737488351232) (hs2 : ∀ t ∈ T, t.2.2.length * 16 ≤ 140737488351232) : Fits T :=
  ⟨⟨hs, hs2⟩, by unfold maxLen; omega, fun t ht => by have := hs2 t ht; unfold maxLen; omega⟩
theorem fits_pl {T T' : List Tr} (h : T'.map pl = T.map pl) (hf : Fits T) : Fits T' := by
  refine fits_of ?_ fun t ht => ?_
  · have := congrArg List.length h; simp only [List.length_map] at this; rw [this]; exact hf.1.1
  · have : pl t ∈ T.map pl := by rw [← h]; exact List.mem_map_of_mem ht
    obtain ⟨u, hu, e⟩ := List.mem_map.1 this
    have h2 : u.2.2 = t.2.2 := show (pl u).2 = (pl t).2 by rw [e]
    rw [← h2]; exact hf.1.2 u hu
theorem map_at {T6 : List Tr} {L : List (Int × List Sy)} {j : Nat} {x : Int × List Sy} (h : T6.map pl = L) (hx : L[j]? = some x) : ∃ t6, T6[j]? = some t6 ∧ pl t6 = x := by
  rw [← h, List.getElem?_map] at hx
  cases h6 : T6[j]? with
  | none => rw [h6] at hx; cases hx
  | some t6 => rw [h6] at hx; exact ⟨t6, rfl, Option.some.inj hx⟩
theorem symStruct : Try.prog.underlying 50 = some (.struct (Try.prog.fieldsOf 50)) := by kernel_rfl
theorem size_bool (w : World) : (sizeOf 4).run Try.prog w = .ok 1 w := by
  have : (Try.prog.info? 4).map (fun i => (i.zero, i.size, i.bytes)) = some (some (.bool false), 1, 1) := by kernel_rfl
  obtain ⟨i, hi, _, h1, _⟩ := info_parts this
  simp [sizeOf, typeInfo, hi, h1]
theorem size_int (w : World) : (sizeOf 3).run Try.prog w = .ok 1 w := by
  have : (Try.prog.info? 3).map (fun i => (i.zero, i.size, i.bytes)) = some (some (.int .i64 0), 1, 8) := by kernel_rfl
  obtain ⟨i, hi, _, h1, _⟩ := info_parts this
  simp [sizeOf, typeInfo, hi, h1]
theorem eq_sym (l : Bool) (n : Int) (l' : Bool) (n' : Int) (w : World) : (Op.equalIn 10000 50 (.agg #[.bool l, .int .i64 n]) (.agg #[.bool l', .int .i64 n'])).run Try.prog w = .ok (l == l' && n == n') w := by
  have wb : Try.prog.underlying 4 = some .bool := by kernel_rfl
  have wd : Try.prog.underlying 3 = some (.int .i64) := by kernel_rfl
  show (Op.equalIn (9998 + 1 + 1) _ _ _).run Try.prog w = _
  generalize 9998 = d
  rw [run_equalIn_struct w _ _ _ _ symStruct (by kernel_rfl)]
  have e1 := run_equalIn_bool' (P := Try.prog) w d 4 l l' wb
  have e2 := run_equalIn_int (P := Try.prog) w d 3 .i64 .i64 n n' wd
  have s1 := size_bool w
  have s2 := size_int w
  cases h1 : l == l' <;> cases h2 : n == n' <;> simp [Program.fieldsOf, Try.underlying50, Op.eqFields, Sem.run_bind, part, e1, e2, h1, h2, s1, s2, Result.andThen]
section
set_option maxHeartbeats 2000000
set_option maxRecDepth 100000
theorem sameBody_yes (v1 v2 : Value) (l : List Sy) (w : World) (hn : l.length ≤ maxLen) (h1 : Body w v1 l) (h2 : Body w v2 l) :
    Calls Try.prog 32 #[v1, v2] w fun e w' => e = .returned (.bool true) ∧ Far (fun _ => False) w w' := by
  unfold maxLen at hn
  obtain ⟨ao, ac, rfl⟩ := Src.form h1
  obtain ⟨bo, bc, rfl⟩ := Src.form h2
  have hA := Lib.hid h1
  have hB := Lib.hid h2
  clear h1 h2
  go_enter Try.func32, Try.ntmps32
  go_wp2_with fail
  go_loopw [5] (fun iv wr => ∃ i : Nat, iv = .int .i64 i ∧ i ≤ l.length ∧ Far (fun _ => False) w wr) (fun iv _ => l.length - (intOf iv).toNat)
  case atStart => exact ⟨0, rfl, Nat.zero_le _, Far.refl _ _⟩
  case round =>
    obtain ⟨i, rfl, hi, hfw⟩ := hrel
    by_cases hlt : i < l.length
    · have e1 : decide ((i : Int) < (l.length : Int)) = true := by rw [decide_eq_true_eq]; omega
      have hii : (i : Int) < (l.length : Int) := by omega
      obtain ⟨s, hs⟩ : ∃ s, l[i]? = some s := ⟨l[i], List.getElem?_eq_getElem hlt⟩
      obtain ⟨ga, oa, ca, ea, hga, a0, a1⟩ := (hA.out.move hfw).sym hs
      obtain ⟨gb, ob, cb, eb, hgb, b0, b1⟩ := (hB.out.move hfw).sym hs
      simp only [Value.slice.injEq] at ea eb
      obtain ⟨rfl, _, rfl⟩ := ea
      obtain ⟨rfl, _, rfl⟩ := eb
      obtain ⟨s0, s1⟩ := s
      simp only [] at a0 a1 b0 b1
      have EQ := eq_sym s0 s1 s0 s1
      rw [show (s0 == s0 && s1 == s1) = true by simp] at EQ
      have hfw' := Lib.hid hfw
      clear hfw hs
      go_wp2_with fail
      go_quiet (fail)
      go_wp2_with fail
      go_roundw
      case rel => exact ⟨i + 1, by go_num, by omega, hfw'.out.drewN _⟩
      case measure => simp [intOf]; omega
    · have e1 : decide ((i : Int) < (l.length : Int)) = false := by rw [decide_eq_false_iff_not]; omega
      have hfw' := Lib.hid hfw
      clear hfw
      go_wp2_with fail
      go_ret
      exact ⟨rfl, hfw'.out⟩
end
section
set_option maxHeartbeats 4000000
set_option maxRecDepth 100000
theorem same_yes (S : Int) (v1 v2 : Value) (T1 T2 : List Tr) (w : World) (hP1 : Prods w v1 T1) (hP2 : Prods w v2 T2) (hpl : T2.map pl = T1.map pl) (hfit : Fits T1) :
    Calls Try.prog 15 #[.agg #[.int .i64 S, v1], .agg #[.int .i64 S, v2]] w fun e w' => e = .returned (.bool true) ∧ Far (fun _ => False) w w' := by
  obtain ⟨h, hh⟩ : ∃ h, h = w.heap.size := ⟨_, rfl⟩
  obtain ⟨k, hk⟩ : ∃ k, k = h + 1 := ⟨_, rfl⟩
  have hlen : T2.length = T1.length := by have := congrArg List.length hpl; simpa using this
  obtain ⟨ao, pc, rfl⟩ := Src.form hP1.1
  obtain ⟨bo, qc, hv2⟩ := Src.form hP2.1
  rw [hlen] at hv2
  subst hv2
  obtain ⟨w0, hw0⟩ : ∃ w0, w0 = w.alloc (.cells #[.int .i64 S, .slice ao T1.length pc] 24) := ⟨_, rfl⟩
  obtain ⟨w1, hw1⟩ : ∃ w1, w1 = w0.alloc (.cells #[.int .i64 S, .slice bo T1.length qc] 24) := ⟨_, rfl⟩
  have hz0 : w0.heap.size = k := by rw [hw0]; simp [hk, hh]
  have hA : Bk w1 h 24 #[.int .i64 S, .slice ao T1.length pc] := hw1 ▸ ((hw0 ▸ Bk.new hh : Bk w0 h 24 #[.int .i64 S, .slice ao T1.length pc]).alloc _)
  have hB : Bk w1 k 24 #[.int .i64 S, .slice bo T1.length qc] := hw1 ▸ Bk.new hz0.symm
  have hF : Far (fun _ => False) w w1 := hw1 ▸ (hw0 ▸ (Far.refl _ w).alloc _ : Far (fun _ => False) w w0).alloc _
  have a0 : w1.cell? ⟨h, 0, none⟩ = some (.int .i64 S) := hA.cell 0
  have a1 : w1.cell? ⟨h, 1, none⟩ = some (.slice ao T1.length pc) := hA.cell 1
  have b0 : w1.cell? ⟨k, 0, none⟩ = some (.int .i64 S) := hB.cell 0
  have b1 : w1.cell? ⟨k, 1, none⟩ = some (.slice bo T1.length qc) := hB.cell 1
  have hQ1 := Lib.hid (hP1.move hF)
  have hQ2 := Lib.hid (hP2.move hF)
  have hfit' := Lib.hid hfit
  have hpl' := Lib.hid hpl
  have hh' := Lib.hid hh
  have hk' := Lib.hid hk
  have hw0' := Lib.hid hw0
  have hw1' := Lib.hid hw1
  have hz0' := Lib.hid hz0
  have hA' := Lib.hid hA
  have hB' := Lib.hid hB
  have hF' := Lib.hid hF
  have hs1 : T1.length ≤ 4398046510976 := by have := hfit.1.1; omega
  have g0 : (S == S) = true := by simp
  have g1 : ((T1.length : Int) == (T1.length : Int)) = true := by simp
  clear hP1 hP2 hh hk hw0 hw1 hz0 hA hB hF hfit hlen hpl
  go_enter Try.func15, Try.ntmps15
  go_upto_region 1 with fail
  rw [← hh'.out, ← hk'.out, ← hw0'.out, ← hw1'.out]
  go_wp2_with fail
  clear a0 a1 b0 b1
  go_loopw [5] (fun iv wr => ∃ i : Nat, iv = .int .i64 i ∧ i ≤ T1.length ∧ Far (fun _ => False) w1 wr) (fun iv _ => T1.length - (intOf iv).toNat)
  case atStart => exact ⟨0, rfl, Nat.zero_le _, Far.refl _ _⟩
  case round =>
    obtain ⟨i, rfl, hi, hfw⟩ := hrel
    have a1 : wr.cell? ⟨h, 1, none⟩ = some (.slice ao T1.length pc) := (hA'.out.far' hfw id).cell 1
    have b1 : wr.cell? ⟨k, 1, none⟩ = some (.slice bo T1.length qc) := (hB'.out.far' hfw id).cell 1
    by_cases hlt : i < T1.length
    · have e1 : decide ((i : Int) < (T1.length : Int)) = true := by rw [decide_eq_true_eq]; omega
      have hii : (i : Int) < (T1.length : Int) := by omega
      obtain ⟨t, ht⟩ : ∃ t, T1[i]? = some t := ⟨T1[i], List.getElem?_eq_getElem hlt⟩
      have hx : (T2.map pl)[i]? = some (pl t) := by rw [hpl'.out, List.getElem?_map, ht]; rfl
      obtain ⟨t2, ht2, e2⟩ := map_at rfl hx
      obtain ⟨ga, oa, ca, ea, hga, c0, c1, cb⟩ := (hQ1.out.move hfw).prod ht
      obtain ⟨gb, ob, cb', eb, hgb, d0, d1, db⟩ := (hQ2.out.move hfw).prod ht2
      simp only [Value.slice.injEq] at ea eb
      obtain ⟨rfl, _, rfl⟩ := ea
      obtain ⟨rfl, hT, rfl⟩ := eb
      clear hT
      rw [show t2.1 = t.1 from show (pl t2).1 = (pl t).1 by rw [e2]] at d0
      rw [show t2.2.2 = t.2.2 from show (pl t2).2 = (pl t).2 by rw [e2]] at db
      obtain ⟨uo, uc, eu⟩ := Src.form cb
      obtain ⟨vo, vc, ev⟩ := Src.form db
      rw [eu] at c1 cb
      rw [ev] at d1 db
      have SB := Lib.hid (fun w' (hf : Far (fun _ => False) wr w') => sameBody_yes (.slice uo t.2.2.length uc) (.slice vo t.2.2.length vc) t.2.2 w' (hfit'.out.2.2 t (List.mem_of_getElem? ht)) (cb.move hf) (db.move hf))
      have hAr := hA'.out.far' hfw id
      have hBr := hB'.out.far' hfw id
      have HK := Lib.hid (show ∀ w2, Far (fun _ => False) wr w2 → w2.cell? ⟨h, 1, none⟩ = some (.slice (some ⟨ga, oa, none⟩) T1.length pc) ∧ w2.cell? ⟨k, 1, none⟩ = some (.slice (some ⟨gb, ob, none⟩) T1.length qc) ∧ w2.cell? ⟨ga, oa + i * 2, none⟩ = some (.int .i64 t.1) ∧ w2.cell? ⟨ga, oa + i * 2 + 1, none⟩ = some (.slice uo t.2.2.length uc) ∧ w2.cell? ⟨gb, ob + i * 2, none⟩ = some (.int .i64 t.1) ∧ w2.cell? ⟨gb, ob + i * 2 + 1, none⟩ = some (.slice vo t.2.2.length vc) from fun w2 hf => ⟨(hAr.far' hf id).cell 1, (hBr.far' hf id).cell 1, (hf.cell hga).trans c0, (hf.cell hga).trans c1, (hf.cell hgb).trans d0, (hf.cell hgb).trans d1⟩)
      have g3 : (t.1 == t.1) = true := by simp
      have hfw' := Lib.hid hfw
      clear hfw ht ht2 e2 hx cb db hAr hBr eu ev
      generalize t.2.2.length = tl at *
      go_wp2_with fail
      go_region_held3 (fun w' => w'.cell? ⟨h, 1, none⟩ = some (.slice (some ⟨ga, oa, none⟩) T1.length pc) ∧ w'.cell? ⟨k, 1, none⟩ = some (.slice (some ⟨gb, ob, none⟩) T1.length qc) ∧ w'.cell? ⟨ga, oa + i * 2, none⟩ = some (.int .i64 t.1) ∧ w'.cell? ⟨ga, oa + i * 2 + 1, none⟩ = some (.slice uo tl uc) ∧ w'.cell? ⟨gb, ob + i * 2, none⟩ = some (.int .i64 t.1) ∧ w'.cell? ⟨gb, ob + i * 2 + 1, none⟩ = some (.slice vo tl vc)) (go_keep)
        (first
          | (go_at_call 32; refine (SB.out _ (drew_far wr)).mono ?_; rintro e w9 ⟨rfl, hf9⟩; obtain ⟨r0, r1, r2, r3, r4, r5⟩ := HK.out w9 ((drew_far wr).then hf9); have hf9' := Lib.hid ((drew_far wr).then hf9); clear hf9))
      all_goals
        go_wp2_with fail
        go_roundw
        case rel => exact ⟨i + 1, by go_num, by omega, hfw'.out.then hf9'.out⟩
        case measure => simp [intOf]; omega
    · have e1 : decide ((i : Int) < (T1.length : Int)) = false := by rw [decide_eq_false_iff_not]; omega
      have hfw' := Lib.hid hfw
      clear hfw
      go_wp2_with fail
      go_ret
      exact ⟨rfl, hF'.out.then hfw'.out⟩
end
end Go.Proofs.Ytjkfieilaahejaa
