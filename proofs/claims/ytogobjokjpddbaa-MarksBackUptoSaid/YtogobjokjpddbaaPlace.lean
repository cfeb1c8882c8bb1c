/-
  Place, the program's and the reference's.
-/
import Derived.Test.YtogobjokjpddbaaListM
import Derived.Test.YtogobjokjpddbaaShelf
namespace Go.Proofs.Ytogobjokjpddbaa
open Go.RowKit Go.Shelf
set_option linter.unusedVariables false
set_option linter.unusedSimpArgs false
/-- The line and the column of a place. -/
def lc (s : ByteArray) : Nat → Nat × Nat
  | 0 => (0, 0)
  | k + 1 => if byt s k = 10 then ((lc s k).1 + 1, 0) else ((lc s k).1, (lc s k).2 + 1)
theorem lc_succ (s : ByteArray) (k : Nat) : lc s (k + 1) = if byt s k = 10 then ((lc s k).1 + 1, 0) else ((lc s k).1, (lc s k).2 + 1) := rfl
theorem lc_le (s : ByteArray) : ∀ k, (lc s k).1 ≤ k ∧ (lc s k).2 ≤ k
  | 0 => ⟨Nat.le_refl _, Nat.le_refl _⟩
  | k + 1 => by have := lc_le s k; rw [lc_succ]; split <;> dsimp only <;> omega
theorem take_byte {s : ByteArray} {k : Nat} (h : k < s.size) : s.data.toList.take (k + 1) = s.data.toList.take k ++ [s[k]] := by
  rw [List.take_succ_eq_append_getElem (by simpa using h)]; rfl
theorem lc_count (s : ByteArray) : ∀ k, k ≤ s.size → Lib.countByte (s.data.toList.take k) 10 = (lc s k).1
  | 0, _ => by simp [Lib.countByte, lc]
  | k + 1, h => by
    have ih := lc_count s k (by omega)
    unfold Lib.countByte at *
    rw [take_byte (by omega), List.count_append, ih]
    have hb := byt_eq (s := s) (k := k) (by omega)
    rw [lc_succ]
    by_cases e : byt s k = 10
    · rw [if_pos e]
      have : s[k] = 10 := by apply UInt8.toNat.inj; rw [hb, e]; rfl
      rw [this]; rfl
    · rw [if_neg e]
      have : s[k] ≠ 10 := fun h => e (by rw [← hb, h]; rfl)
      simp [this]
theorem lc_last (s p : ByteArray) (a : Nat) (ha : a ≤ s.size) (hp : p = s.extract 0 a) : ∀ k, k ≤ a → Lib.lastIdx p 10 k = (k : Int) - 1 - ((lc s k).2 : Int)
  | 0, _ => by simp [Lib.lastIdx, lc]
  | k + 1, h => by
    have ih := lc_last s p a ha hp k (by omega)
    have hb := byt_eq (s := s) (k := k) (by omega)
    have hpk : ((p.data[k]!).toNat : Int) = (byt s k : Int) := by
      have hk : k < p.data.size := by rw [hp]; simp; have : s.data.size = s.size := rfl; omega
      rw [getElem!_pos p.data k hk, ← hb]
      subst hp
      simp [ByteArray.extract, ByteArray.copySlice]
      rfl
    unfold Lib.lastIdx
    rw [lc_succ, hpk, ih]
    by_cases e : byt s k = 10
    · rw [if_pos e, if_pos (by omega)]; dsimp only; omega
    · rw [if_neg e, if_neg (by omega)]; dsimp only; omega
theorem lastOf (s : ByteArray) (a : Nat) (ha : a ≤ s.size) : Lib.lastIndexByte (s.extract 0 a) 10 = (a : Int) - 1 - ((lc s a).2 : Int) := by
  unfold Lib.lastIndexByte
  rw [ByteArray.size_extract, show min a s.size - 0 = a by omega]
  exact lc_last s _ a ha rfl a (Nat.le_refl _)
theorem countOf (s : ByteArray) (a : Nat) (ha : a ≤ s.size) : Lib.countByte (s.extract 0 a).data.toList 10 = (lc s a).1 := by
  rw [show (s.extract 0 a).data.toList = s.data.toList.take a by simp [ByteArray.extract, ByteArray.copySlice]]
  exact lc_count s a ha
section
set_option maxHeartbeats 1000000
set_option maxRecDepth 100000
theorem place_ok (s : ByteArray) (a : Nat) (w : World) (hs : s.size ≤ 140737488351232) (ha : a ≤ s.size) :
    Calls Try.prog 19 #[.string s, .int .i64 a] w fun e w' => e = .returned (.tuple #[.int .i64 (lc s a).1, .int .i64 (lc s a).2, .int .i64 0]) ∧ w = w' := by
  have hl := lc_le s a
  have hc := countOf s a ha
  have hi := lastOf s a ha
  have hz : (s.extract 0 a).size < 4611686018427387904 := by rw [ByteArray.size_extract]; omega
  have hd : decide ((s.size : Int) < (a : Int)) = false := by rw [decide_eq_false_iff_not]; omega
  generalize (lc s a).1 = l1 at *
  generalize (lc s a).2 = l2 at *
  have HC := Lib.hid hc
  have HI := Lib.hid hi
  clear hc hi
  go_enter Try.func19, Try.ntmps19
  go_wp2_with fail
  refine (Try.strings_Count_one _ _ _).mono ?_
  rintro e w1 ⟨rfl, rfl⟩
  rw [HC.out]
  go_wp2_with fail
  refine (Try.strings_LastIndex_one _ _ rfl hz _).mono ?_
  rintro e w2 ⟨rfl, rfl⟩
  have hq : ((((⟨#[10]⟩ : ByteArray)[0]'(by decide)).toNat : Int)) = 10 := rfl
  rw [hq, HI.out]
  clear hq
  have h1 : (a : Int) - 1 - ((a : Int) - 1 - (l2 : Int)) = (l2 : Int) := by omega
  generalize ht : (a : Int) - 1 - (l2 : Int) = t at *
  have ht1 : -1 ≤ t := by omega
  have ht2 : t ≤ (a : Int) - 1 := by omega
  have H1 := Lib.hid h1
  clear h1 ht HC HI
  go_wp2_with fail
  go_ret3
  exact ⟨ret3 rfl (vint H1.out) rfl, rfl⟩
theorem place_bad (s : ByteArray) (a : Int) (w : World) (ha : a < 0 ∨ s.size < a) :
    Calls Try.prog 19 #[.string s, .int .i64 a] w fun e w' => e = .returned (.tuple #[.int .i64 0, .int .i64 0, .int .i64 2]) ∧ w = w' := by
  by_cases h0 : a < 0
  · clear ha
    go_enter Try.func19, Try.ntmps19
    go_wp2_with fail
    go_ret3
    exact ⟨rfl, rfl⟩
  · have h1 : (s.size : Int) < a := by omega
    have h2 : 0 ≤ a := by omega
    have hd : decide ((s.size : Int) < a) = true := by rw [decide_eq_true_eq]; omega
    have hd2 : decide (a < 0) = false := by rw [decide_eq_false_iff_not]; omega
    clear ha
    go_enter Try.func19, Try.ntmps19
    go_wp2_with fail
    go_ret3
    exact ⟨rfl, rfl⟩
theorem rplace_ok (s : ByteArray) (a : Nat) (w : World) (hs : s.size ≤ 140737488351232) (ha : a ≤ s.size) :
    Calls Try.prog 20 #[.string s, .int .i64 a] w fun e w' => e = .returned (.tuple #[.int .i64 (lc s a).1, .int .i64 (lc s a).2, .int .i64 0]) ∧ w = w' := by
  have hd : decide ((s.size : Int) < (a : Int)) = false := by rw [decide_eq_false_iff_not]; omega
  have hd' : decide (s.size < a) = false := by rw [decide_eq_false_iff_not]; omega
  have hge : a ≤ s.size := ha
  go_enter Try.func20, Try.ntmps20
  go_wp2_with fail
  go_loop [7, 8, 9] (fun l c i => ∃ k : Nat, k ≤ a ∧ i = .int .i64 k ∧ l = .int .i64 (lc s k).1 ∧ c = .int .i64 (lc s k).2) (fun _ _ i => a - (intOf i).toNat)
  case atStart => exact ⟨0, Nat.zero_le _, rfl, rfl, rfl⟩
  case round =>
    obtain ⟨k, hk, rfl, rfl, rfl⟩ := hrel
    have hl := lc_le s k
    by_cases hlt : k < a
    · have hdk : decide ((k : Int) < (a : Int)) = true := by rw [decide_eq_true_eq]; omega
      have hks : k < s.size := by omega
      have hb := byt_eq hks
      have hsu := lc_succ s k
      have HS := Lib.hid hsu
      clear hsu
      by_cases he : byt s k = 10
      · have hq : ((s[k].toNat : Int) == 10) = true := by rw [hb, he]; rfl
        have HE := Lib.hid he
        clear hb he
        generalize hx : lc s k = x at *
        clear hx
        go_wp2_with fail
        go_round
        case rel => exact ⟨k + 1, by omega, by go_num, by rw [HS.out, if_pos HE.out]; go_num, by rw [HS.out, if_pos HE.out]; rfl⟩
        case measure => simp [intOf]; omega
      · have hq : ((s[k].toNat : Int) == 10) = false := by rw [hb]; simp; omega
        have HE := Lib.hid he
        clear hb he
        generalize hx : lc s k = x at *
        clear hx
        go_wp2_with fail
        go_round
        case rel => exact ⟨k + 1, by omega, by go_num, by rw [HS.out, if_neg HE.out], by rw [HS.out, if_neg HE.out]; go_num⟩
        case measure => simp [intOf]; omega
    · have e : k = a := by omega
      subst e
      go_wp2_with fail
      go_ret3
      exact ⟨rfl, rfl⟩
theorem rplace_bad (s : ByteArray) (a : Int) (w : World) (ha : a < 0 ∨ s.size < a) :
    Calls Try.prog 20 #[.string s, .int .i64 a] w fun e w' => e = .returned (.tuple #[.int .i64 0, .int .i64 0, .int .i64 2]) ∧ w = w' := by
  by_cases h0 : a < 0
  · clear ha
    go_enter Try.func20, Try.ntmps20
    go_wp2_with fail
    go_ret3
    exact ⟨rfl, rfl⟩
  · have h1 : (s.size : Int) < a := by omega
    have h2 : 0 ≤ a := by omega
    have hd : decide ((s.size : Int) < a) = true := by rw [decide_eq_true_eq]; omega
    have hd2 : decide (a < 0) = false := by rw [decide_eq_false_iff_not]; omega
    clear ha
    go_enter Try.func20, Try.ntmps20
    go_wp2_with fail
    go_ret3
    exact ⟨rfl, rfl⟩
end
end Go.Proofs.Ytogobjokjpddbaa
