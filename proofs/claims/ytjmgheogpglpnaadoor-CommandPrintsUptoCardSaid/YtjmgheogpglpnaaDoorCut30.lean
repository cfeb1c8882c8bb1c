/-
  The library's strings.Cut at a blank, for every text.
-/
import Derived.Test.YtjmgheogpglpnaaDoorSplit30
import Derived.Test.YtjmgheogpglpnaaDoorQuietFar
import Derived.Lib.Bytealg
import Derived.Lib.Walk
import Derived.Lib.Strings
namespace Go.Proofs.YtjmgheogpglpnaaDoor
open Go.RowKit
set_option linter.unusedVariables false
set_option linter.unusedSimpArgs false
theorem byte32 : ((32 : Int).toNat.toUInt8) = 32 := by decide
theorem indexByte_index (l : Tx) : Lib.indexByte l 32 = Lib.index l [32] := by
  induction l with
  | nil => rfl
  | cons c l ih =>
    unfold Lib.indexByte Lib.index
    rw [ih]
    by_cases h : c = 32
    · simp [h, List.isPrefixOf]
    · have h' : (32 : UInt8) ≠ c := fun e => h e.symm
      simp [h, h', List.isPrefixOf]
section
set_option maxHeartbeats 1000000
set_option maxRecDepth 100000
theorem indexByte_any (s : ByteArray) (w : World) :
    Calls Tryd.prog 65 #[.string s, .int .u8 32] w fun e w' => e = .returned (.int .i64 (Lib.index s.data.toList [32])) ∧ w' = w := by
  go_enter Tryd.func65, Tryd.ntmps65
  go_wp2
  rw [run_callFunc_extern Tryd.func77 (by kernel_rfl) (by kernel_rfl) (by kernel_rfl) (e := Extern.BytealgIndexByte.indexByte) (by kernel_rfl), Lib.run_indexByteString]
  simp only [Result.andThen]
  rw [Oper.upon_value]
  go_wp2
  go_ret
  exact ⟨by rw [← indexByte_index]; rfl, rfl⟩
theorem index1_any (s : ByteArray) (w : World) :
    Calls Tryd.prog 60 #[.string s, .string ⟨#[32]⟩] w fun e w' => e = .returned (.int .i64 (Lib.index s.data.toList [32])) ∧ w' = w := by
  cases hq : ([32] == s.toList)
  · go_enter Tryd.func60, Tryd.ntmps60
    go_wp2_with (refine (indexByte_any s _).mono ?_; rintro e w' ⟨rfl, rfl⟩)
    go_ret
    exact ⟨rfl, rfl⟩
  · have hs : s.data.toList = [32] := by
      have h1 : s.toList = [32] := (beq_iff_eq.1 hq).symm
      rw [← h1, ByteArray.toList_eq]
    go_enter Tryd.func60, Tryd.ntmps60
    go_wp2_with fail
    go_ret
    exact ⟨by rw [hs]; rfl, rfl⟩
theorem ba_eq (s : ByteArray) : s = ⟨s.data.toList.toArray⟩ := by cases s; simp
theorem cutLite_any (l : Tx) (w : World) (hs : l.length ≤ 140737488351232) :
    Calls Tryd.prog 47 #[st l, .string ⟨#[32]⟩] w fun e w' => e = .returned (.tuple #[st (cutT l).1, st (cutT l).2.1, .bool (cutT l).2.2]) ∧ ∃ n, w' = w.drewN n := by
  have IX := fun w => index1_any ⟨l.toArray⟩ w
  unfold st
  rcases blank_cases l with h | ⟨a, b, rfl, h⟩
  · have hi : Lib.index l [32] = -1 := by
      rcases Lib.index_spec l [32] with ⟨h1, _⟩ | ⟨i, h1, h2, h3, _⟩
      · exact h1
      · rw [occ1] at h3
        exact absurd (List.mem_of_getElem? (of_decide_eq_true h3)) h
    rw [cutT_no h]
    dsimp only at IX
    rw [hi] at IX
    dsimp only
    go_enter Tryd.func47, Tryd.ntmps47
    go_wp2_with (refine (IX _).mono ?_; rintro e w' ⟨rfl, rfl⟩)
    go_ret3
    exact ⟨rfl, 0, rfl⟩
  · have hi : Lib.index (a ++ 32 :: b) [32] = (a.length : Int) := by
      refine Lib.index_first (by simp) ?_ ?_
      · rw [occ1]; simp
      · intro j hj
        rw [occ1, List.getElem?_append_left hj]
        simp only [decide_eq_false_iff_not]
        intro he
        exact h (List.mem_of_getElem? he)
    rw [cutT_yes h]
    dsimp only at IX
    rw [hi] at IX
    dsimp only
    have hsz : (⟨(a ++ 32 :: b).toArray⟩ : ByteArray).size = a.length + (b.length + 1) := by simp [ByteArray.size]
    have hl : (a ++ 32 :: b).length = a.length + (b.length + 1) := by simp
    obtain ⟨s, hS⟩ : ∃ s : ByteArray, s = ⟨(a ++ 32 :: b).toArray⟩ := ⟨_, rfl⟩
    have e1 : s.extract 0 a.length = ⟨a.toArray⟩ := by rw [hS]; apply ByteArray.ext; simp
    have e2 : s.extract (a.length + 1) s.size = ⟨b.toArray⟩ := by rw [hS]; apply ByteArray.ext; simp [ByteArray.size]; rw [show a.length + (b.length + 1) - (a.length + 1) = b.length by omega, List.take_length]
    rw [← hS] at IX hsz ⊢
    rw [hl] at hs
    obtain ⟨n, hn⟩ : ∃ n, n = a.length := ⟨_, rfl⟩
    rw [← hn] at IX hsz hs e1 e2
    rw [← e1, ← e2]
    clear hS e1 e2 hi h hl
    have c1 : (0 : Int) ≤ ↑n := by omega
    have c2 : (↑n : Int) ≤ ↑s.size := by omega
    have c3 : (0 : Int) ≤ ↑n + 1 := by omega
    have c4 : (↑n + 1 : Int) ≤ ↑s.size := by omega
    clear hn hsz
    go_enter Tryd.func47, Tryd.ntmps47
    go_wp2_with (refine (IX _).mono ?_; rintro e w' ⟨rfl, rfl⟩)
    go_region
    go_wp2
    go_ret3
    exact ⟨rfl, 1, rfl⟩
theorem cut_any (l : Tx) (w : World) (hs : l.length ≤ 140737488351232) :
    Calls Tryd.prog 34 #[st l, .string ⟨#[32]⟩] w fun e w' => e = .returned (.tuple #[st (cutT l).1, st (cutT l).2.1, .bool (cutT l).2.2]) ∧ Far (fun _ => False) w w' := by
  have CL := fun w => cutLite_any l w hs
  generalize cutT l = c at *
  unfold st at *
  go_enter Tryd.func34, Tryd.ntmps34
  go_wp2_with (refine (CL _).mono ?_; rintro e w' ⟨rfl, n, rfl⟩)
  go_ret3
  exact ⟨rfl, (Far.refl _ w).drewN n⟩
end
end Go.Proofs.YtjmgheogpglpnaaDoor
