/-
  made, has: nodes made first; how often a meeting is in a list.
-/
import Derived.Test.YthpkbeooplpinaaMeetMath
import Derived.Laws.StructEq
namespace Go.Proofs.Ythpkbeooplpinaa
open Go.RowKit
set_option linter.unusedVariables false
set_option linter.unusedSimpArgs false
theorem metStruct : Try.prog.underlying 66 = some (.struct (Try.prog.fieldsOf 66)) := by kernel_rfl
theorem frameStruct : Try.prog.underlying 38 = some (.struct (Try.prog.fieldsOf 38)) := by kernel_rfl
theorem eq_frame (d : Nat) (a b a' b' : Int) (w : World) : (Op.equalIn (d + 1 + 1) 38 (.agg #[.int .i64 a, .int .i64 b]) (.agg #[.int .i64 a', .int .i64 b'])).run Try.prog w = .ok (a == a' && b == b') w := by
  have wd : Try.prog.underlying 3 = some (.int .i64) := by kernel_rfl
  rw [run_equalIn_struct w _ _ _ _ frameStruct (by kernel_rfl)]
  have e1 := run_equalIn_int (P := Try.prog) w d 3 .i64 .i64 a a' wd
  have e2 := run_equalIn_int (P := Try.prog) w d 3 .i64 .i64 b b' wd
  have hs : (sizeOf 3).run Try.prog w = .ok 1 w := by
    obtain ⟨i, hi, _, h1, _⟩ := info_parts info_int
    simp [sizeOf, typeInfo, hi, h1]
  cases h1 : a == a' <;> cases h2 : b == b' <;> simp [Program.fieldsOf, Try.underlying38, Op.eqFields, Sem.run_bind, part, e1, e2, h1, h2, hs, Result.andThen]
theorem eq_met (k p x y k' p' x' y' : Int) (w : World) : (Op.equalIn 10000 66 (.agg #[.int .i64 k, .int .i64 p, .int .i64 x, .int .i64 y]) (.agg #[.int .i64 k', .int .i64 p', .int .i64 x', .int .i64 y'])).run Try.prog w = .ok (k == k' && (p == p' && (x == x' && y == y'))) w := by
  have wd : Try.prog.underlying 3 = some (.int .i64) := by kernel_rfl
  show (Op.equalIn (9997 + 1 + 1 + 1) _ _ _).run Try.prog w = _
  generalize 9997 = d
  rw [run_equalIn_struct w _ _ _ _ metStruct (by kernel_rfl)]
  have e1 := run_equalIn_int (P := Try.prog) w (d + 1) 3 .i64 .i64 k k' wd
  have e2 := run_equalIn_int (P := Try.prog) w (d + 1) 3 .i64 .i64 p p' wd
  have e3 := eq_frame d x y x' y' w
  have hs : (sizeOf 3).run Try.prog w = .ok 1 w := by
    obtain ⟨i, hi, _, h1, _⟩ := info_parts info_int
    simp [sizeOf, typeInfo, hi, h1]
  have hf : (sizeOf 38).run Try.prog w = .ok 2 w := by
    obtain ⟨i, hi, _, h1, _⟩ := info_parts info_frame
    simp [sizeOf, typeInfo, hi, h1]
  cases h1 : k == k' <;> cases h2 : p == p' <;> simp [Program.fieldsOf, Try.underlying66, Op.eqFields, Sem.run_bind, part, e1, e2, e3, h1, h2, hs, hf, Result.andThen]
  cases h3 : (x == x' && y == y') <;> simp [Program.fieldsOf, Try.underlying66, Op.eqFields, Sem.run_bind, part, e1, e2, e3, h1, h2, h3, hs, hf, Result.andThen] <;> simpa using h3
theorem count_take (l : List Mt) (m x : Mt) (j : Nat) (hx : l[j]? = some x) : (l.take (j + 1)).count m = (l.take j).count m + if x = m then 1 else 0 := by
  have hj : j < l.length := (List.getElem?_eq_some_iff.1 hx).1
  have he : l[j] = x := by have := List.getElem?_eq_getElem hj; rw [hx] at this; exact (Option.some.inj this).symm
  rw [List.take_succ_eq_append_getElem hj, List.count_append, he]
  simp [List.count_cons]
section
set_option maxHeartbeats 2000000
set_option maxRecDepth 100000
theorem made_any (n : Nat) (hn : n < 1000) (w : World) : Calls Try.prog 22 #[.int .i64 n] w fun e w' => ∃ B F, e = .returned (.pointer (some ⟨B, 0, none⟩)) ∧ Stk w' B n (mk n) F ∧ (∀ k, F k → w.heap.size ≤ k) ∧ Far (fun _ => False) w w' := by
  go_enter Try.func22, Try.ntmps22
  go_wp2_with fail
  refine (new_stk _).mono ?_
  rintro e w1 ⟨rfl, F0, hS0, hF0, hf0⟩
  generalize w.heap.size + 3 = B at hS0 ⊢
  go_wp2_with fail
  go_loopw [4] (fun iv wr => ∃ (i : Nat) (F : Nat → Prop), iv = .int .i64 i ∧ i ≤ n ∧ Stk wr B i (mk i) F ∧ (∀ k, F k → w.heap.size ≤ k) ∧ Far (fun _ => False) w wr) (fun iv _ => n - (intOf iv).toNat)
  case atStart => exact ⟨0, F0, rfl, Nat.zero_le _, hS0, hF0, hf0⟩
  case round =>
    clear hS0 hF0 hf0
    obtain ⟨i, F, rfl, hi, hS, hF, hf⟩ := hrel
    by_cases hlt : i < n
    · have d1 : decide ((i : Int) < (n : Int)) = true := by rw [decide_eq_true_eq]; omega
      have NC := node_new_stk hS (by omega) (a := (i : Int)) (b := -(i : Int)) (by unfold Fit; omega) (by unfold Fit; omega) (mk_look i)
      have hF' := Lib.hid hF
      have hf' := Lib.hid hf
      clear hS hF hf
      go_wp2_with fail
      refine NC.mono ?_
      rintro e w2 ⟨rfl, F2, hS2, hM2⟩
      have hS2' := Lib.hid hS2
      have hM2' := Lib.hid hM2
      clear hS2 hM2 NC
      go_wp2_with fail
      go_roundw
      case rel => exact ⟨i + 1, F2, by go_num, by omega, by rw [mk_succ]; exact hS2'.out, fun k hk => (hM2'.out.more k hk).elim (hF'.out k) fun h => Nat.le_trans hf'.out.size h, hf'.out.trans hM2'.out.far fun k hk h => by have := hF'.out k h; omega⟩
      case measure => simp [intOf]; omega
    · have d1 : decide ((i : Int) < (n : Int)) = false := by rw [decide_eq_false_iff_not]; omega
      have hin : i = n := by omega
      subst hin
      have hS' := Lib.hid hS
      have hF' := Lib.hid hF
      have hf' := Lib.hid hf
      clear hS hF hf
      go_wp2_with fail
      go_ret
      exact ⟨B, F, rfl, hS'.out, hF'.out, hf'.out⟩
theorem has_any (out : List Mt) (m : Mt) (base : Nat) (so : Option Addr) (cap : Nat) (w : World) (hl : out.length < 1000000) (hO : w.ownsRow base 66 4 (.slice so out.length cap) out.length (mcells out)) :
    Calls Try.prog 24 #[.slice so out.length cap, .agg #[.int .i64 (m.1 : Int), .int .i64 m.2.1, .int .i64 m.2.2.1, .int .i64 m.2.2.2]] w fun e w' => e = .returned (.int .i64 (out.count m : Nat)) ∧ Far (fun _ => False) w w' := by
  have HO := Lib.hid hO
  clear hO
  go_enter Try.func24, Try.ntmps24
  go_wp2_with fail
  go_loopw [5, 6] (fun nv jv wr => ∃ (j : Nat), nv = .int .i64 ((out.take j).count m : Nat) ∧ jv = .int .i64 j ∧ j ≤ out.length ∧ Far (fun _ => False) (w.alloc (.cells #[.int .i64 (m.1 : Int), .int .i64 m.2.1, .int .i64 m.2.2.1, .int .i64 m.2.2.2] 66)) wr) (fun _ jv _ => out.length - (intOf jv).toNat)
  case atStart => exact ⟨0, by simp, rfl, Nat.zero_le _, Far.refl _ _⟩
  case round =>
    obtain ⟨j, rfl, rfl, hj, hf⟩ := hrel
    by_cases hlt : j < out.length
    · have d1 : decide ((j : Int) < (out.length : Int)) = true := by rw [decide_eq_true_eq]; omega
      obtain ⟨x, hx⟩ : ∃ x, out[j]? = some x := ⟨out[j], by simp [hlt]⟩
      have hOr := row_same (HO.out.alloc (.cells #[.int .i64 (m.1 : Int), .int .i64 m.2.1, .int .i64 m.2.2.1, .int .i64 m.2.2.2] 66)) fun k _ hk' => hf.block k hk' id
      obtain ⟨g, cap', hso, _⟩ := hOr.form (by omega)
      simp only [Value.slice.injEq] at hso
      obtain ⟨rfl, _, rfl⟩ := hso
      obtain ⟨c0, c1, c2, c3⟩ := mcells_get hx
      have k0 : wr.cell? ⟨g, j * 4, none⟩ = some (.int .i64 (x.1 : Int)) := by rw [hOr.cellAt _ (by omega)]; exact c0
      have k1 : wr.cell? ⟨g, j * 4 + 1, none⟩ = some (.int .i64 x.2.1) := by rw [hOr.cellAt _ (by omega)]; exact c1
      have k2 : wr.cell? ⟨g, j * 4 + 2, none⟩ = some (.int .i64 x.2.2.1) := by rw [hOr.cellAt _ (by omega)]; exact c2
      have k3 : wr.cell? ⟨g, j * 4 + 3, none⟩ = some (.int .i64 x.2.2.2) := by rw [hOr.cellAt _ (by omega)]; exact c3
      have hB : Bk wr w.heap.size 66 #[.int .i64 (m.1 : Int), .int .i64 m.2.1, .int .i64 m.2.2.1, .int .i64 m.2.2.2] := (Bk.new rfl).far' hf id
      have b0 := hB.cell 0
      have b1 := hB.cell 1
      have b2 := hB.cell 2
      have b3 := hB.cell 3
      simp only [List.getElem?_toArray, List.getElem?_cons_zero, List.getElem?_cons_succ] at b0 b1 b2 b3
      have hji : (j : Int) < (out.length : Int) := by omega
      have EQ := eq_met x.1 x.2.1 x.2.2.1 x.2.2.2 m.1 m.2.1 m.2.2.1 m.2.2.2
      have hct := count_take out m x j hx
      have hcl : (out.take j).count m ≤ j := Nat.le_trans List.count_le_length (by simp; omega)
      have hbe : ((x.1 : Int) == (m.1 : Int) && (x.2.1 == m.2.1 && (x.2.2.1 == m.2.2.1 && x.2.2.2 == m.2.2.2))) = decide (x = m) := by
        obtain ⟨a, b, c, d⟩ := x
        obtain ⟨a', b', c', d'⟩ := m
        rw [Bool.eq_iff_iff]
        simp
        omega
      rw [hbe] at EQ
      have hf' := Lib.hid hf
      have hct' := Lib.hid hct
      clear hf hct hbe hOr c0 c1 c2 c3 hx hB
      by_cases hxm : x = m
      · rw [decide_eq_true hxm] at EQ
        have hxm' := Lib.hid hxm
        clear hxm
        go_wp2_with fail
        go_quiet (fail)
        go_wp2_with fail
        go_roundw
        case rel => exact ⟨j + 1, by rw [hct'.out, if_pos hxm'.out]; go_num, by go_num, by omega, hf'.out.drewN _⟩
        case measure => simp [intOf]; omega
      · rw [decide_eq_false hxm] at EQ
        have hxm' := Lib.hid hxm
        clear hxm
        go_wp2_with fail
        go_quiet (fail)
        go_wp2_with fail
        go_roundw
        case rel => exact ⟨j + 1, by rw [hct'.out, if_neg hxm'.out]; rfl, by go_num, by omega, hf'.out.drewN _⟩
        case measure => simp [intOf]; omega
    · have d1 : decide ((j : Int) < (out.length : Int)) = false := by rw [decide_eq_false_iff_not]; omega
      have hjl : j = out.length := by omega
      subst hjl
      have hf' := Lib.hid hf
      clear hf
      go_wp2_with fail
      go_ret
      exact ⟨by rw [List.take_of_length_le (Nat.le_refl _)]; rfl, ((Far.refl _ w).alloc _).trans hf'.out fun _ _ h => h⟩
end
end Go.Proofs.Ythpkbeooplpinaa
