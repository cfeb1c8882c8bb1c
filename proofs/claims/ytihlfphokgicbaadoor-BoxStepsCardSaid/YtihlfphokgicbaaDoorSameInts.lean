/-
  Lists of numbers, the same.
-/
import Derived.Test.YtihlfphokgicbaaDoorBoolRow
namespace Go.Proofs.YtihlfphokgicbaaDoor
open Go.RowKit
set_option linter.unusedVariables false
set_option linter.unusedSimpArgs false
/-- A list that the call has made, as one that was handed in. -/
theorem own_ints {w : World} {B : Nat} {so : Option Addr} {cap : Nat} {l : List Nat} (h : w.ownsRow B 3 1 (.slice so l.length cap) l.length (icells l)) : Ints w so l.length (fun k => ((l.getD k 0 : Nat) : Int)) := fun hn => by
  obtain ⟨h1, h2⟩ := h
  rcases h2 with ⟨e, h0⟩ | ⟨g, cap', cur, e, hb, hg, hcap, hmax, hcs, hcur⟩
  · omega
  · simp only [Value.slice.injEq] at e
    obtain ⟨rfl, _, rfl⟩ := e
    refine ⟨g, 0, rfl, (Array.getElem?_eq_some_iff.1 hg).1, fun k hk => ?_⟩
    rw [Nat.zero_add]
    have hc := cell_of_row w g k cur 3 (0, 0) hg
    rw [hc]
    have : (cur.toList.take (l.length * 1))[k]? = (icells l)[k]? := by rw [hcur]
    rw [List.getElem?_take, if_pos (by omega)] at this
    rw [← Array.getElem?_toList, this]
    simp [icells, hk]
section
set_option maxHeartbeats 2000000
set_option maxRecDepth 100000
theorem sameInts_yes (ao bo : Option Addr) (n ac bc : Nat) (f : Nat → Int) (w : World) (hn : n ≤ maxLen) (hA : Ints w ao n f) (hB : Ints w bo n f) :
    Calls Tryd.prog 13 #[.slice ao n ac, .slice bo n bc] w fun e w' => e = .returned (.bool true) ∧ Far (fun _ => False) w w' := by
  unfold maxLen at hn
  have hA' := Lib.hid hA
  have hB' := Lib.hid hB
  clear hA hB
  go_enter Tryd.func13, Tryd.ntmps13
  go_wp2_with fail
  go_loopw [5] (fun iv wr => ∃ i : Nat, iv = .int .i64 i ∧ i ≤ n ∧ Far (fun _ => False) w wr) (fun iv _ => n - (intOf iv).toNat)
  case atStart => exact ⟨0, rfl, Nat.zero_le _, Far.refl _ _⟩
  case round =>
    obtain ⟨i, rfl, hi, hfw⟩ := hrel
    by_cases hlt : i < n
    · have e1 : decide ((i : Int) < (n : Int)) = true := by rw [decide_eq_true_eq]; omega
      have hii : (i : Int) < (n : Int) := by omega
      obtain ⟨ga, oa, rfl, hga, hca⟩ := (hA'.out.move hfw) (by omega)
      obtain ⟨gb, ob, rfl, hgb, hcb⟩ := (hB'.out.move hfw) (by omega)
      have ca := hca i hlt
      have cb := hcb i hlt
      have hfw' := Lib.hid hfw
      have hne : (f i != f i) = false := by simp
      clear hca hcb hfw
      go_wp2_with fail
      go_quiet (fail)
      go_wp2_with fail
      go_roundw
      case rel => exact ⟨i + 1, by go_num, by omega, hfw'.out.drewN _⟩
      case measure => simp [intOf]; omega
    · have e1 : decide ((i : Int) < (n : Int)) = false := by rw [decide_eq_false_iff_not]; omega
      have hfw' := Lib.hid hfw
      clear hfw
      go_wp2_with fail
      go_ret
      exact ⟨rfl, hfw'.out⟩
end
end Go.Proofs.YtihlfphokgicbaaDoor
