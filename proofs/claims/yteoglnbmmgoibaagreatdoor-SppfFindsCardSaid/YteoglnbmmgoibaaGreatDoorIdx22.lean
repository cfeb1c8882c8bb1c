/-
  The place of a fact in a forest: the document's, the program's.
-/
import Derived.Test.YteoglnbmmgoibaaGreatDoorChk22Law
import Derived.Laws.StructEq
namespace Go.Proofs.YteoglnbmmgoibaaGreatDoor
open Go.RowKit
set_option linter.unusedVariables false
set_option linter.unusedSimpArgs false
theorem factStruct : Tryz.prog.underlying 33 = some (.struct (Tryz.prog.fieldsOf 33)) := by kernel_rfl
theorem packStruct : Tryz.prog.underlying 42 = some (.struct (Tryz.prog.fieldsOf 42)) := by kernel_rfl
theorem size_int (w : World) : (sizeOf 3).run Tryz.prog w = .ok 1 w := by
  have : (Tryz.prog.info? 3).map (fun i => (i.zero, i.size, i.bytes)) = some (some (.int .i64 0), 1, 8) := by kernel_rfl
  obtain ⟨i, hi, _, h1, _⟩ := info_parts this
  simp [sizeOf, typeInfo, hi, h1]
set_option maxRecDepth 100000 in
theorem eq_fact (a b c a' b' c' : Int) (w : World) : (Op.equalIn 10000 33 (.agg #[.int .i64 a, .int .i64 b, .int .i64 c]) (.agg #[.int .i64 a', .int .i64 b', .int .i64 c'])).run Tryz.prog w = .ok (((a, b, c) : Fc) == (a', b', c')) w := by
  have wd : Tryz.prog.underlying 3 = some (.int .i64) := by kernel_rfl
  show (Op.equalIn (9998 + 1 + 1) _ _ _).run Tryz.prog w = .ok (a == a' && (b == b' && c == c')) w
  generalize 9998 = d
  rw [run_equalIn_struct w _ _ _ _ factStruct (by kernel_rfl)]
  have e1 := run_equalIn_int (P := Tryz.prog) w d 3 .i64 .i64 a a' wd
  have e2 := run_equalIn_int (P := Tryz.prog) w d 3 .i64 .i64 b b' wd
  have e3 := run_equalIn_int (P := Tryz.prog) w d 3 .i64 .i64 c c' wd
  have s2 := size_int w
  cases h1 : a == a' <;> cases h2 : b == b' <;> cases h3 : c == c' <;> simp [Program.fieldsOf, Tryz.underlying33, Op.eqFields, Sem.run_bind, part, e1, e2, e3, h1, h2, h3, s2, Result.andThen]
set_option maxRecDepth 100000 in
theorem eq_pack (a b c d' f a' b' c' d2 f' : Int) (w : World) : (Op.equalIn 10000 42 (.agg #[.int .i64 a, .int .i64 b, .int .i64 c, .int .i64 d', .int .i64 f]) (.agg #[.int .i64 a', .int .i64 b', .int .i64 c', .int .i64 d2, .int .i64 f'])).run Tryz.prog w = .ok (((a, b, c, d', f) : Pk) == (a', b', c', d2, f')) w := by
  have wd : Tryz.prog.underlying 3 = some (.int .i64) := by kernel_rfl
  show (Op.equalIn (9998 + 1 + 1) _ _ _).run Tryz.prog w = .ok (a == a' && (b == b' && (c == c' && (d' == d2 && f == f')))) w
  generalize 9998 = d
  rw [run_equalIn_struct w _ _ _ _ packStruct (by kernel_rfl)]
  have e1 := run_equalIn_int (P := Tryz.prog) w d 3 .i64 .i64 a a' wd
  have e2 := run_equalIn_int (P := Tryz.prog) w d 3 .i64 .i64 b b' wd
  have e3 := run_equalIn_int (P := Tryz.prog) w d 3 .i64 .i64 c c' wd
  have e4 := run_equalIn_int (P := Tryz.prog) w d 3 .i64 .i64 d' d2 wd
  have e5 := run_equalIn_int (P := Tryz.prog) w d 3 .i64 .i64 f f' wd
  have s2 := size_int w
  cases h1 : a == a' <;> cases h2 : b == b' <;> cases h3 : c == c' <;> cases h4 : d' == d2 <;> cases h5 : f == f' <;> simp [Program.fieldsOf, Tryz.underlying42, Op.eqFields, Sem.run_bind, part, e1, e2, e3, e4, e5, h1, h2, h3, h4, h5, s2, Result.andThen]
/-- r is the first place of f, or -1. -/
def IsIdx (F : List Fc) (f : Fc) (r : Int) : Prop := (r = -1 ∧ ∀ k : Nat, F[k]? ≠ some f) ∨ ∃ k : Nat, r = k ∧ F[k]? = some f ∧ ∀ j : Nat, j < k → F[j]? ≠ some f
theorem isIdx_ex (f : Fc) : ∀ F : List Fc, ∃ r, IsIdx F f r
  | [] => ⟨-1, .inl ⟨rfl, fun k => by simp⟩⟩
  | x :: F => by
    by_cases hx : x = f
    · exact ⟨0, .inr ⟨0, rfl, by simp [hx], fun j hj => absurd hj (Nat.not_lt_zero _)⟩⟩
    · obtain ⟨r, ⟨_, h⟩ | ⟨k, _, h1, h2⟩⟩ := isIdx_ex f F
      · refine ⟨-1, .inl ⟨rfl, fun k => ?_⟩⟩
        cases k with
        | zero => simpa using hx
        | succ k => simpa using h k
      · refine ⟨(k + 1 : Nat), .inr ⟨k + 1, rfl, by simpa using h1, fun j hj => ?_⟩⟩
        cases j with
        | zero => simpa using hx
        | succ j => simpa using h2 j (by omega)
theorem isIdx_hit {F : List Fc} {f : Fc} {r : Int} {i : Nat} (h : IsIdx F f r) (h1 : F[i]? = some f) (h2 : ∀ j : Nat, j < i → F[j]? ≠ some f) : r = i := by
  rcases h with ⟨_, h⟩ | ⟨k, rfl, h3, h4⟩
  · exact absurd h1 (h i)
  · have a : ¬ i < k := fun hk => h4 i hk h1
    have b : ¬ k < i := fun hk => h2 k hk h3
    omega
theorem isIdx_no {F : List Fc} {f : Fc} {r : Int} (h : IsIdx F f r) (h2 : ∀ j : Nat, j < F.length → F[j]? ≠ some f) : r = -1 := by
  rcases h with ⟨rfl, h⟩ | ⟨k, rfl, h3, h4⟩
  · rfl
  · exact absurd h3 (h2 k (List.getElem?_eq_some_iff.1 h3).1)
section
set_option maxHeartbeats 4000000
set_option maxRecDepth 100000
theorem sidx_any (v : Value) (F : List Fc) (f0 f1 f2 r : Int) (w : World) (hF : Facts w v F) (hs : F.length * 24 ≤ 140737488351232) (hr : IsIdx F (f0, f1, f2) r) :
    Calls Tryz.prog 21 #[v, .agg #[.int .i64 f0, .int .i64 f1, .int .i64 f2]] w fun e w' => e = .returned (.int .i64 r) ∧ Far (fun _ => False) w w' := by
  obtain ⟨h, hh⟩ : ∃ h, h = w.heap.size := ⟨_, rfl⟩
  obtain ⟨ao, ac, rfl⟩ := Src.form hF
  obtain ⟨W, hW⟩ : ∃ W, W = w.alloc (.cells #[.int .i64 f0, .int .i64 f1, .int .i64 f2] 33) := ⟨_, rfl⟩
  have hA : Bk W h 33 #[.int .i64 f0, .int .i64 f1, .int .i64 f2] := hW ▸ Bk.new hh
  have hFW : Far (fun _ => False) w W := hW ▸ (Far.refl _ w).alloc _
  have hF1 := Lib.hid (hF.move hFW)
  have hs' : F.length ≤ 5864062014640 := by omega
  have hr' := Lib.hid hr
  have hh' := Lib.hid hh
  have hW' := Lib.hid hW
  have hA' := Lib.hid hA
  have hFW' := Lib.hid hFW
  clear hF hr hh hW hA hFW hs
  go_enter Tryz.func21, Tryz.ntmps21
  go_upto_region 1 with fail
  rw [← hh'.out, ← hW'.out]
  go_wp2_with fail
  go_loopw [8] (fun iv wr => ∃ i : Nat, iv = .int .i64 i ∧ i ≤ F.length ∧ Hid (∀ j : Nat, j < i → F[j]? ≠ some (f0, f1, f2)) ∧ Far (fun _ => False) W wr) (fun iv _ => F.length - (intOf iv).toNat)
  case atStart => exact ⟨0, rfl, Nat.zero_le _, Lib.hid (fun j hj => absurd hj (Nat.not_lt_zero _)), Far.refl _ _⟩
  case round =>
    obtain ⟨i, rfl, hi, hno, hfw⟩ := hrel
    by_cases hlt : i < F.length
    · have e1 : decide ((i : Int) < (F.length : Int)) = true := by rw [decide_eq_true_eq]; omega
      have hii : (i : Int) < (F.length : Int) := by omega
      obtain ⟨q, hq⟩ : ∃ q, F[i]? = some q := ⟨F[i], List.getElem?_eq_getElem hlt⟩
      obtain ⟨b, off, c, he, hb, c0, c1, c2⟩ := (hF1.out.move hfw).fact hq
      simp only [Value.slice.injEq] at he
      obtain ⟨rfl, _, rfl⟩ := he
      have a0 : wr.cell? ⟨h, 0, none⟩ = some (.int .i64 f0) := (hA'.out.far' hfw id).cell 0
      have a1 : wr.cell? ⟨h, 1, none⟩ = some (.int .i64 f1) := (hA'.out.far' hfw id).cell 1
      have a2 : wr.cell? ⟨h, 2, none⟩ = some (.int .i64 f2) := (hA'.out.far' hfw id).cell 2
      obtain ⟨q0, q1, q2⟩ := q
      dsimp only at c0 c1 c2
      have EQ := eq_fact f0 f1 f2 q0 q1 q2
      have hfw' := Lib.hid hfw
      by_cases heq : ((f0, f1, f2) : Fc) = (q0, q1, q2)
      · rw [beq_iff_eq.2 heq] at EQ
        have hri := Lib.hid (isIdx_hit hr'.out (heq ▸ hq) hno.out)
        clear heq hq hfw
        go_wp2_with fail
        go_quiet (fail)
        go_wp2_with fail
        go_ret
        exact ⟨by rw [hri.out]; rfl, hFW'.out.then (hfw'.out.drewN _)⟩
      · rw [beq_eq_false_iff_ne.2 heq] at EQ
        have hno' : Hid (∀ j : Nat, j < i + 1 → F[j]? ≠ some (f0, f1, f2)) := Lib.hid (fun j hj => by
          by_cases hji : j < i
          · exact hno.out j hji
          · obtain rfl : j = i := by omega
            rw [hq]
            exact fun e => heq (Option.some.inj e).symm)
        clear heq hq hfw hno
        go_wp2_with fail
        go_quiet (fail)
        go_wp2_with fail
        go_roundw
        case rel => exact ⟨i + 1, by go_num, by omega, hno', hfw'.out.drewN _⟩
        case measure => simp [intOf]; omega
    · have e1 : decide ((i : Int) < (F.length : Int)) = false := by rw [decide_eq_false_iff_not]; omega
      have hri := Lib.hid (isIdx_no hr'.out (fun j hj => hno.out j (by omega)))
      have hfw' := Lib.hid hfw
      clear hfw
      go_wp2_with fail
      go_ret
      exact ⟨by rw [hri.out]; rfl, hFW'.out.then hfw'.out⟩
theorem ridx_any (v : Value) (F : List Fc) (f0 f1 f2 r : Int) (w : World) (hF : Facts w v F) (hs : F.length * 24 ≤ 140737488351232) (hr : IsIdx F (f0, f1, f2) r) :
    Calls Tryz.prog 10 #[v, .agg #[.int .i64 f0, .int .i64 f1, .int .i64 f2]] w fun e w' => e = .returned (.int .i64 r) ∧ Far (fun _ => False) w w' := by
  obtain ⟨h, hh⟩ : ∃ h, h = w.heap.size := ⟨_, rfl⟩
  obtain ⟨ao, ac, rfl⟩ := Src.form hF
  obtain ⟨W, hW⟩ : ∃ W, W = w.alloc (.cells #[.int .i64 f0, .int .i64 f1, .int .i64 f2] 33) := ⟨_, rfl⟩
  have hA : Bk W h 33 #[.int .i64 f0, .int .i64 f1, .int .i64 f2] := hW ▸ Bk.new hh
  have hFW : Far (fun _ => False) w W := hW ▸ (Far.refl _ w).alloc _
  have hF1 := Lib.hid (hF.move hFW)
  have hs' : F.length ≤ 5864062014640 := by omega
  have hr' := Lib.hid hr
  have hh' := Lib.hid hh
  have hW' := Lib.hid hW
  have hA' := Lib.hid hA
  have hFW' := Lib.hid hFW
  clear hF hr hh hW hA hFW hs
  go_enter Tryz.func10, Tryz.ntmps10
  go_upto_region 1 with fail
  rw [← hh'.out, ← hW'.out]
  go_wp2_with fail
  go_loopw [5] (fun iv wr => ∃ i : Nat, iv = .int .i64 i ∧ i ≤ F.length ∧ Hid (∀ j : Nat, j < i → F[j]? ≠ some (f0, f1, f2)) ∧ Far (fun _ => False) W wr) (fun iv _ => F.length - (intOf iv).toNat)
  case atStart => exact ⟨0, rfl, Nat.zero_le _, Lib.hid (fun j hj => absurd hj (Nat.not_lt_zero _)), Far.refl _ _⟩
  case round =>
    obtain ⟨i, rfl, hi, hno, hfw⟩ := hrel
    by_cases hlt : i < F.length
    · have e1 : decide ((i : Int) < (F.length : Int)) = true := by rw [decide_eq_true_eq]; omega
      have hii : (i : Int) < (F.length : Int) := by omega
      obtain ⟨q, hq⟩ : ∃ q, F[i]? = some q := ⟨F[i], List.getElem?_eq_getElem hlt⟩
      obtain ⟨b, off, c, he, hb, c0, c1, c2⟩ := (hF1.out.move hfw).fact hq
      simp only [Value.slice.injEq] at he
      obtain ⟨rfl, _, rfl⟩ := he
      have a0 : wr.cell? ⟨h, 0, none⟩ = some (.int .i64 f0) := (hA'.out.far' hfw id).cell 0
      have a1 : wr.cell? ⟨h, 1, none⟩ = some (.int .i64 f1) := (hA'.out.far' hfw id).cell 1
      have a2 : wr.cell? ⟨h, 2, none⟩ = some (.int .i64 f2) := (hA'.out.far' hfw id).cell 2
      obtain ⟨q0, q1, q2⟩ := q
      dsimp only at c0 c1 c2
      have EQ := eq_fact q0 q1 q2 f0 f1 f2
      have hfw' := Lib.hid hfw
      by_cases heq : ((q0, q1, q2) : Fc) = (f0, f1, f2)
      · rw [beq_iff_eq.2 heq] at EQ
        have hri := Lib.hid (isIdx_hit hr'.out (heq ▸ hq) hno.out)
        clear heq hq hfw
        go_wp2_with fail
        go_quiet (fail)
        go_wp2_with fail
        go_ret
        exact ⟨by rw [hri.out]; rfl, hFW'.out.then (hfw'.out.drewN _)⟩
      · rw [beq_eq_false_iff_ne.2 heq] at EQ
        have hno' : Hid (∀ j : Nat, j < i + 1 → F[j]? ≠ some (f0, f1, f2)) := Lib.hid (fun j hj => by
          by_cases hji : j < i
          · exact hno.out j hji
          · obtain rfl : j = i := by omega
            rw [hq]
            exact fun e => heq (Option.some.inj e))
        clear heq hq hfw hno
        go_wp2_with fail
        go_quiet (fail)
        go_wp2_with fail
        go_roundw
        case rel => exact ⟨i + 1, by go_num, by omega, hno', hfw'.out.drewN _⟩
        case measure => simp [intOf]; omega
    · have e1 : decide ((i : Int) < (F.length : Int)) = false := by rw [decide_eq_false_iff_not]; omega
      have hri := Lib.hid (isIdx_no hr'.out (fun j hj => hno.out j (by omega)))
      have hfw' := Lib.hid hfw
      clear hfw
      go_wp2_with fail
      go_ret
      exact ⟨by rw [hri.out]; rfl, hFW'.out.then hfw'.out⟩
theorem find22_any (v pv : Value) (F : List Fc) (f0 f1 f2 r : Int) (w : World) (hF : Facts w v F) (hs : F.length * 24 ≤ 140737488351232) (hr : IsIdx F (f0, f1, f2) r) :
    Calls Tryz.prog 9 #[.agg #[v, pv], .agg #[.int .i64 f0, .int .i64 f1, .int .i64 f2]] w fun e w' => e = .returned (.tuple #[.int .i64 (if r < 0 then 0 else r), .bool (decide (0 ≤ r))]) ∧ Far (fun _ => False) w w' := by
  generalize hrv : (if r < 0 then 0 else r) = rv
  generalize hrb : decide (0 ≤ r) = rb
  have hrv' := Lib.hid hrv
  have hrb' := Lib.hid hrb
  obtain ⟨h0, hh0⟩ : ∃ h, h = w.heap.size := ⟨_, rfl⟩
  obtain ⟨h1, hh1⟩ : ∃ h, h = h0 + 1 := ⟨_, rfl⟩
  obtain ⟨ao, ac, rfl⟩ := Src.form hF
  obtain ⟨w0, hw0⟩ : ∃ w0, w0 = w.alloc (.cells #[.slice ao F.length ac, pv] 25) := ⟨_, rfl⟩
  obtain ⟨W, hW⟩ : ∃ W, W = w0.alloc (.cells #[.int .i64 f0, .int .i64 f1, .int .i64 f2] 33) := ⟨_, rfl⟩
  have hz0 : w0.heap.size = h1 := by rw [hw0]; simp [hh1, hh0]
  have hA : Bk W h0 25 #[.slice ao F.length ac, pv] := hW ▸ ((hw0 ▸ Bk.new hh0 : Bk w0 h0 25 #[.slice ao F.length ac, pv]).alloc _)
  have hB : Bk W h1 33 #[.int .i64 f0, .int .i64 f1, .int .i64 f2] := hW ▸ Bk.new hz0.symm
  have hFW : Far (fun _ => False) w W := hW ▸ (hw0 ▸ (Far.refl _ w).alloc _ : Far (fun _ => False) w w0).alloc _
  have SI := sidx_any (.slice ao F.length ac) F f0 f1 f2 r W (hF.move hFW) hs hr
  have a0 : W.cell? ⟨h0, 0, none⟩ = some (.slice ao F.length ac) := hA.cell 0
  have b0 : W.cell? ⟨h1, 0, none⟩ = some (.int .i64 f0) := hB.cell 0
  have b1 : W.cell? ⟨h1, 1, none⟩ = some (.int .i64 f1) := hB.cell 1
  have b2 : W.cell? ⟨h1, 2, none⟩ = some (.int .i64 f2) := hB.cell 2
  have hh0' := Lib.hid hh0
  have hh1' := Lib.hid hh1
  have hw0' := Lib.hid hw0
  have hW' := Lib.hid hW
  have hFW' := Lib.hid hFW
  clear hF hr hs hrv hrb hh0 hh1 hw0 hW hz0 hA hB hFW
  go_enter Tryz.func9, Tryz.ntmps9
  go_upto_region 1 with fail
  rw [← hh0'.out, ← hh1'.out, ← hw0'.out, ← hW'.out]
  go_wp2_with fail
  refine SI.mono ?_
  rintro e w2 ⟨rfl, hf2⟩
  have hf2' := Lib.hid (hFW'.out.then hf2)
  clear SI hf2 a0 b0 b1 b2
  by_cases hr : r < 0
  · have d0 : decide (r < 0) = true := decide_eq_true hr
    have d1 : decide (0 ≤ r) = false := decide_eq_false (by omega)
    have hv := Lib.hid (show rv = 0 ∧ rb = false from ⟨by rw [← hrv'.out, if_pos hr], by rw [← hrb'.out, d1]⟩)
    clear hr d1
    go_wp2_with fail
    exact bodyPost_ret (v := .tuple #[.int .i64 0, .bool false]) (by simp [results, Tryz.f9, go_sem]) rfl ⟨by rw [hv.out.1, hv.out.2], hf2'.out⟩
  · have d0 : decide (r < 0) = false := decide_eq_false hr
    have d1 : decide (0 ≤ r) = true := decide_eq_true (by omega)
    have hv := Lib.hid (show rv = r ∧ rb = true from ⟨by rw [← hrv'.out, if_neg hr], by rw [← hrb'.out, d1]⟩)
    clear hr d1
    go_wp2_with fail
    exact bodyPost_ret (v := .tuple #[.int .i64 r, .bool true]) (by simp [results, Tryz.f9, go_sem]) rfl ⟨by rw [hv.out.1, hv.out.2], hf2'.out⟩
end
end Go.Proofs.YteoglnbmmgoibaaGreatDoor
