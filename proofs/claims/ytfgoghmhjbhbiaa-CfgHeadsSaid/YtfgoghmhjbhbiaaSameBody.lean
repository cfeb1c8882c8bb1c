/-
  Bodies, the same.
-/
import Derived.Test.YtfgoghmhjbhbiaaPartsFn
import Derived.Laws.StructEq
namespace Go.Proofs.Ytfgoghmhjbhbiaa
open Go.RowKit
set_option linter.unusedVariables false
set_option linter.unusedSimpArgs false
theorem symStruct : Try.prog.underlying 47 = some (.struct (Try.prog.fieldsOf 47)) := by kernel_rfl
theorem size_bool (w : World) : (sizeOf 4).run Try.prog w = .ok 1 w := by
  have : (Try.prog.info? 4).map (fun i => (i.zero, i.size, i.bytes)) = some (some (.bool false), 1, 1) := by kernel_rfl
  obtain ⟨i, hi, _, h1, _⟩ := info_parts this
  simp [sizeOf, typeInfo, hi, h1]
theorem size_int (w : World) : (sizeOf 3).run Try.prog w = .ok 1 w := by
  have : (Try.prog.info? 3).map (fun i => (i.zero, i.size, i.bytes)) = some (some (.int .i64 0), 1, 8) := by kernel_rfl
  obtain ⟨i, hi, _, h1, _⟩ := info_parts this
  simp [sizeOf, typeInfo, hi, h1]
theorem eq_sym (l : Bool) (n : Int) (l' : Bool) (n' : Int) (w : World) : (Op.equalIn 10000 47 (.agg #[.bool l, .int .i64 n]) (.agg #[.bool l', .int .i64 n'])).run Try.prog w = .ok (l == l' && n == n') w := by
  have wb : Try.prog.underlying 4 = some .bool := by kernel_rfl
  have wd : Try.prog.underlying 3 = some (.int .i64) := by kernel_rfl
  show (Op.equalIn (9998 + 1 + 1) _ _ _).run Try.prog w = _
  generalize 9998 = d
  rw [run_equalIn_struct w _ _ _ _ symStruct (by kernel_rfl)]
  have e1 := run_equalIn_bool' (P := Try.prog) w d 4 l l' wb
  have e2 := run_equalIn_int (P := Try.prog) w d 3 .i64 .i64 n n' wd
  have s1 := size_bool w
  have s2 := size_int w
  cases h1 : l == l' <;> cases h2 : n == n' <;> simp [Program.fieldsOf, Try.underlying47, Op.eqFields, Sem.run_bind, part, e1, e2, h1, h2, s1, s2, Result.andThen]
section
set_option maxHeartbeats 2000000
set_option maxRecDepth 100000
theorem sameBody_yes (v1 v2 : Value) (l : List Sy) (w : World) (hn : l.length ≤ maxLen) (h1 : Body w v1 l) (h2 : Body w v2 l) :
    Calls Try.prog 18 #[v1, v2] w fun e w' => e = .returned (.bool true) ∧ Far (fun _ => False) w w' := by
  unfold maxLen at hn
  obtain ⟨ao, ac, rfl⟩ := Src.form h1
  obtain ⟨bo, bc, rfl⟩ := Src.form h2
  have hA := Lib.hid h1
  have hB := Lib.hid h2
  clear h1 h2
  go_enter Try.func18, Try.ntmps18
  go_wp2_with fail
  go_loopw [5] (fun iv wr => ∃ i : Nat, iv = .int .i64 i ∧ i ≤ l.length ∧ Far (fun _ => False) w wr) (fun iv _ => l.length - (intOf iv).toNat)
  case atStart => exact ⟨0, rfl, Nat.zero_le _, Far.refl _ _⟩
  case round =>
    obtain ⟨i, rfl, hi, hfw⟩ := hrel
    by_cases hlt : i < l.length
    · have e1 : decide ((i : Int) < (l.length : Int)) = true := by rw [decide_eq_true_eq]; omega
      have hii : (i : Int) < (l.length : Int) := by omega
      obtain ⟨s, hs⟩ : ∃ s, l[i]? = some s := ⟨l[i], List.getElem?_eq_getElem hlt⟩
      obtain ⟨ga, oa, ca, ea, hga, a0, a1⟩ := (hA.out.move hfw).sym hs
      obtain ⟨gb, ob, cb, eb, hgb, b0, b1⟩ := (hB.out.move hfw).sym hs
      simp only [Value.slice.injEq] at ea eb
      obtain ⟨rfl, _, rfl⟩ := ea
      obtain ⟨rfl, _, rfl⟩ := eb
      obtain ⟨s0, s1⟩ := s
      simp only [] at a0 a1 b0 b1
      have EQ := eq_sym s0 s1 s0 s1
      rw [show (s0 == s0 && s1 == s1) = true by simp] at EQ
      have hfw' := Lib.hid hfw
      clear hfw hs
      go_wp2_with fail
      go_quiet (fail)
      go_wp2_with fail
      go_roundw
      case rel => exact ⟨i + 1, by go_num, by omega, hfw'.out.drewN _⟩
      case measure => simp [intOf]; omega
    · have e1 : decide ((i : Int) < (l.length : Int)) = false := by rw [decide_eq_false_iff_not]; omega
      have hfw' := Lib.hid hfw
      clear hfw
      go_wp2_with fail
      go_ret
      exact ⟨rfl, hfw'.out⟩
end
end Go.Proofs.Ytfgoghmhjbhbiaa
