/-
  The reference's Of, and both on an empty list.
-/
import Derived.Test.YtbcklcikmhpclaaDoorLaw
import Derived.Test.YtbcklcikmhpclaaDoorOf
namespace Go.Proofs.YtbcklcikmhpclaaDoor
open Go.RowKit
set_option linter.unusedVariables false
set_option linter.unusedSimpArgs false
theorem in_ok {x : Int} (h : Ok x) (w : World) : Calls Tryd.prog 25 #[.int .i64 x] w fun e w' => e = .returned (.bool true) ∧ w = w' := by
  have h' : x = ((x.toNat : Nat) : Int) := by unfold Ok at h; omega
  rw [h']
  exact in_yes _ w (by unfold Ok at h; omega)
section
set_option maxHeartbeats 1000000
set_option maxRecDepth 100000
theorem of_none (a : Option Addr) (cap : Nat) (w : World) :
    Calls Tryd.prog 8 #[.slice a 0 cap] w fun e w' => e = .returned (.tuple #[.agg (Rw fun _ => 0), .int .i64 0]) ∧ Below w.heap.size w w' := by
  have hz : ∀ w, (zeroValue 25).run Tryd.prog w = .ok (.agg (Rw fun _ => 0)) w := (zero_of_info blockZero).1
  go_enter Tryd.func8, Tryd.ntmps8
  go_wp2_with fail
  go_loopw [9] (fun i wr => i = .int .i64 0 ∧ wr = (w.alloc (.cells (Rw fun _ => 0) 25)).alloc (.cells (Rw fun _ => 0) 25)) (fun _ _ => 0)
  case atStart => exact ⟨rfl, rfl⟩
  case round =>
    obtain ⟨rfl, rfl⟩ := hrel
    go_wp2_with (first | (apply wpList_ld rfl _ rfl _ rfl; focus ((repeat' (first | (with_reducible assumption) | ((with_reducible refine Hold.new ?_); first | (with_reducible rfl) | (simp; done)) | (with_reducible apply Hold.alloc) | (with_reducible apply Hold.row) | ((with_reducible apply Hold.other); rotate_left; focus (first | omega | (simp; omega))))); done)) | (apply wpList_st rfl _ _ rfl _ rfl _ rfl; focus ((repeat' (first | (with_reducible assumption) | ((with_reducible refine Hold.new ?_); first | (with_reducible rfl) | (simp; done)) | (with_reducible apply Hold.alloc) | (with_reducible apply Hold.row) | ((with_reducible apply Hold.other); rotate_left; focus (first | omega | (simp; omega))))); done)) | (refine wpList_bd rfl rfl ?_))
    exact ret_blk2 rfl w.heap.size rfl (Hold.row ((Hold.new rfl).alloc _) _) rfl ⟨rfl, Below.row (((Below.refl _ _).alloc (Nat.le_refl _) _).alloc (by simp) _) (Nat.le_refl _) _⟩
theorem rof_none (a : Option Addr) (cap : Nat) (w : World) :
    Calls Tryd.prog 9 #[.slice a 0 cap] w fun e w' => e = .returned (.tuple #[.agg (Rw fun _ => 0), .int .i64 0]) ∧ Below w.heap.size w w' := by
  have hz : ∀ w, (zeroValue 25).run Tryd.prog w = .ok (.agg (Rw fun _ => 0)) w := (zero_of_info blockZero).1
  go_enter Tryd.func9, Tryd.ntmps9
  go_wp2_with fail
  go_loopw [4] (fun i wr => i = .int .i64 0 ∧ wr = w.alloc (.cells (Rw fun _ => 0) 25)) (fun _ _ => 0)
  case atStart => exact ⟨rfl, rfl⟩
  case round =>
    obtain ⟨rfl, rfl⟩ := hrel
    go_wp2_with fail
    refine (fold_empty a cap _).mono ?_
    rintro e w1 ⟨rfl, hb1⟩
    have d : Hold w1 w.heap.size (Rw fun _ => 0) := Hold.below (Hold.new rfl) hb1 (by simp)
    have db := ((Below.refl w.heap.size w).alloc (Nat.le_refl _) (.cells (Rw fun _ => 0) 25)).trans (hb1.mono (by simp))
    clear hb1
    go_wp2_with (first | (apply wpList_ld rfl _ rfl _ rfl; focus ((repeat' (first | (with_reducible assumption) | ((with_reducible refine Hold.new ?_); first | (with_reducible rfl) | (simp; done)) | (with_reducible apply Hold.alloc) | (with_reducible apply Hold.row) | ((with_reducible apply Hold.other); rotate_left; focus (first | omega | (simp; omega))))); done)) | (apply wpList_st rfl _ _ rfl _ rfl _ rfl; focus ((repeat' (first | (with_reducible assumption) | ((with_reducible refine Hold.new ?_); first | (with_reducible rfl) | (simp; done)) | (with_reducible apply Hold.alloc) | (with_reducible apply Hold.row) | ((with_reducible apply Hold.other); rotate_left; focus (first | omega | (simp; omega))))); done)) | (refine wpList_bd rfl rfl ?_))
    exact ret_blk2 rfl w.heap.size rfl (Hold.row d _) rfl ⟨rfl, Below.row db (Nat.le_refl _) _⟩
theorem rof_ok (R C : Nat → Int) (b off n cap : Nat) (w : World) (hn : n ≤ 9223372036854775807) (hb : b < w.heap.size)
    (hc : ∀ k, k < n → w.cell? ⟨b, off + k * 2, none⟩ = some (.int .i64 (R k)) ∧ w.cell? ⟨b, off + k * 2 + 1, none⟩ = some (.int .i64 (C k)))
    (hok : ∀ k, k < n → Ok (R k) ∧ Ok (C k)) :
    Calls Tryd.prog 9 #[.slice (some ⟨b, off, none⟩) n cap] w fun e w' => e = .returned (.tuple #[.agg (Rw (foldB R C n)), .int .i64 0]) ∧ Below w.heap.size w w' := by
  have hz : ∀ w, (zeroValue 25).run Tryd.prog w = .ok (.agg (Rw fun _ => 0)) w := (zero_of_info blockZero).1
  have HC := Lib.hid hc
  have HO := Lib.hid hok
  clear hc hok
  go_enter Tryd.func9, Tryd.ntmps9
  go_wp2_with fail
  go_loopw [4] (fun i wr => ∃ k : Nat, k ≤ n ∧ i = .int .i64 k ∧ Hold wr w.heap.size (Rw fun _ => 0) ∧ Below w.heap.size w wr) (fun i _ => n - (intOf i).toNat)
  case atStart => exact ⟨0, Nat.zero_le _, rfl, Hold.new rfl, (Below.refl _ _).alloc (Nat.le_refl _) _⟩
  case round =>
    obtain ⟨k, hk, rfl, h0, hbl⟩ := hrel
    by_cases hlt : k < n
    · obtain ⟨c0', c1'⟩ := HC.out k hlt
      obtain ⟨ok0, ok1⟩ := HO.out k hlt
      have e0 : wr.cell? ⟨b, off + k * 2, none⟩ = some (.int .i64 (R k)) := (hbl.cell (p := ⟨b, off + k * 2, none⟩) hb).trans c0'
      have e1 : wr.cell? ⟨b, off + k * 2 + 1, none⟩ = some (.int .i64 (C k)) := (hbl.cell (p := ⟨b, off + k * 2 + 1, none⟩) hb).trans c1'
      have HI := Lib.hid (in_ok ok0)
      have HJ := Lib.hid (in_ok ok1)
      clear c0' c1' ok0 ok1
      have hb0 := hbl.size
      go_wp2_with fail
      refine (HI.out _).mono ?_
      rintro e w1 ⟨rfl, rfl⟩
      go_wp2_with fail
      refine (HJ.out _).mono ?_
      rintro e w1 ⟨rfl, rfl⟩
      go_wp2_with fail
      go_roundw
      case rel => exact ⟨k + 1, by omega, by go_num, h0, hbl⟩
      case measure => simp [intOf]; omega
    · have e : k = n := by omega
      subst e
      go_wp2_with fail
      refine (fold_some R C b off k cap _ hn (Nat.lt_of_lt_of_le hb hbl.size) (fun j hj => ⟨(hbl.cell (p := ⟨b, off + j * 2, none⟩) hb).trans (HC.out j hj).1, (hbl.cell (p := ⟨b, off + j * 2 + 1, none⟩) hb).trans (HC.out j hj).2⟩)).mono ?_
      rintro e w1 ⟨rfl, hb1⟩
      have d := h0.below hb1 h0.lt
      have db := hbl.trans (hb1.mono hbl.size)
      clear hb1 h0 hbl
      go_wp2_with (first | (apply wpList_ld rfl _ rfl _ rfl; focus ((repeat' (first | (with_reducible assumption) | ((with_reducible refine Hold.new ?_); first | (with_reducible rfl) | (simp; done)) | (with_reducible apply Hold.alloc) | (with_reducible apply Hold.row) | ((with_reducible apply Hold.other); rotate_left; focus (first | omega | (simp; omega))))); done)) | (apply wpList_st rfl _ _ rfl _ rfl _ rfl; focus ((repeat' (first | (with_reducible assumption) | ((with_reducible refine Hold.new ?_); first | (with_reducible rfl) | (simp; done)) | (with_reducible apply Hold.alloc) | (with_reducible apply Hold.row) | ((with_reducible apply Hold.other); rotate_left; focus (first | omega | (simp; omega))))); done)) | (refine wpList_bd rfl rfl ?_))
      exact ret_blk2 rfl w.heap.size rfl (Hold.row d _) rfl ⟨rfl, Below.row db (Nat.le_refl _) _⟩
theorem rof_bad (R C : Nat → Int) (b off n cap m : Nat) (w : World) (hn : n ≤ 9223372036854775807) (hb : b < w.heap.size)
    (hc : ∀ k, k < n → w.cell? ⟨b, off + k * 2, none⟩ = some (.int .i64 (R k)) ∧ w.cell? ⟨b, off + k * 2 + 1, none⟩ = some (.int .i64 (C k)))
    (hm : m < n) (hok : ∀ k, k < m → Ok (R k) ∧ Ok (C k)) (hbad : R m < 0 ∨ 64 ≤ R m ∨ C m < 0 ∨ 64 ≤ C m) :
    Calls Tryd.prog 9 #[.slice (some ⟨b, off, none⟩) n cap] w fun e w' => e = .returned (.tuple #[.agg (Rw fun _ => 0), .int .i64 2]) ∧ Below w.heap.size w w' := by
  have hz : ∀ w, (zeroValue 25).run Tryd.prog w = .ok (.agg (Rw fun _ => 0)) w := (zero_of_info blockZero).1
  have HC := Lib.hid hc
  have HO := Lib.hid hok
  have HB := Lib.hid hbad
  clear hc hok hbad
  go_enter Tryd.func9, Tryd.ntmps9
  go_wp2_with fail
  go_loopw [4] (fun i wr => ∃ k : Nat, k ≤ m ∧ i = .int .i64 k ∧ Hold wr w.heap.size (Rw fun _ => 0) ∧ Below w.heap.size w wr) (fun i _ => n - (intOf i).toNat)
  case atStart => exact ⟨0, Nat.zero_le _, rfl, Hold.new rfl, (Below.refl _ _).alloc (Nat.le_refl _) _⟩
  case round =>
    obtain ⟨k, hk, rfl, h0, hbl⟩ := hrel
    have hkn : k < n := by omega
    obtain ⟨c0', c1'⟩ := HC.out k hkn
    have e0 : wr.cell? ⟨b, off + k * 2, none⟩ = some (.int .i64 (R k)) := (hbl.cell (p := ⟨b, off + k * 2, none⟩) hb).trans c0'
    have e1 : wr.cell? ⟨b, off + k * 2 + 1, none⟩ = some (.int .i64 (C k)) := (hbl.cell (p := ⟨b, off + k * 2 + 1, none⟩) hb).trans c1'
    clear c0' c1'
    have hb0 := hbl.size
    by_cases hlt : k < m
    · obtain ⟨ok0, ok1⟩ := HO.out k hlt
      have HI := Lib.hid (in_ok ok0)
      have HJ := Lib.hid (in_ok ok1)
      clear ok0 ok1
      go_wp2_with fail
      refine (HI.out _).mono ?_
      rintro e w1 ⟨rfl, rfl⟩
      go_wp2_with fail
      refine (HJ.out _).mono ?_
      rintro e w1 ⟨rfl, rfl⟩
      go_wp2_with fail
      go_roundw
      case rel => exact ⟨k + 1, by omega, by go_num, h0, hbl⟩
      case measure => simp [intOf]; omega
    · have e : k = m := by omega
      subst e
      by_cases hR : Ok (R k)
      · have HI := Lib.hid (in_ok hR)
        have HJ := Lib.hid (fun w => in_no (C k) w (by have := HB.out; unfold Ok at hR; omega))
        clear hR
        go_wp2_with fail
        refine (HI.out _).mono ?_
        rintro e w1 ⟨rfl, rfl⟩
        go_wp2_with fail
        refine (HJ.out _).mono ?_
        rintro e w1 ⟨rfl, rfl⟩
        go_wp2_with (first | (apply wpList_ld rfl _ rfl _ rfl; focus ((repeat' (first | (with_reducible assumption) | ((with_reducible refine Hold.new ?_); first | (with_reducible rfl) | (simp; done)) | (with_reducible apply Hold.alloc) | (with_reducible apply Hold.row) | ((with_reducible apply Hold.other); rotate_left; focus (first | omega | (simp; omega))))); done)) | (apply wpList_st rfl _ _ rfl _ rfl _ rfl; focus ((repeat' (first | (with_reducible assumption) | ((with_reducible refine Hold.new ?_); first | (with_reducible rfl) | (simp; done)) | (with_reducible apply Hold.alloc) | (with_reducible apply Hold.row) | ((with_reducible apply Hold.other); rotate_left; focus (first | omega | (simp; omega))))); done)) | (refine wpList_bd rfl rfl ?_))
        exact ret_blk2 rfl w.heap.size rfl (Hold.row h0 _) rfl ⟨rfl, Below.row hbl (Nat.le_refl _) _⟩
      · have HI := Lib.hid (fun w => in_no (R k) w (by unfold Ok at hR; omega))
        clear hR
        go_wp2_with fail
        refine (HI.out _).mono ?_
        rintro e w1 ⟨rfl, rfl⟩
        go_wp2_with (first | (apply wpList_ld rfl _ rfl _ rfl; focus ((repeat' (first | (with_reducible assumption) | ((with_reducible refine Hold.new ?_); first | (with_reducible rfl) | (simp; done)) | (with_reducible apply Hold.alloc) | (with_reducible apply Hold.row) | ((with_reducible apply Hold.other); rotate_left; focus (first | omega | (simp; omega))))); done)) | (apply wpList_st rfl _ _ rfl _ rfl _ rfl; focus ((repeat' (first | (with_reducible assumption) | ((with_reducible refine Hold.new ?_); first | (with_reducible rfl) | (simp; done)) | (with_reducible apply Hold.alloc) | (with_reducible apply Hold.row) | ((with_reducible apply Hold.other); rotate_left; focus (first | omega | (simp; omega))))); done)) | (refine wpList_bd rfl rfl ?_))
        exact ret_blk2 rfl w.heap.size rfl (Hold.row h0 _) rfl ⟨rfl, Below.row hbl (Nat.le_refl _) _⟩
end
/-- The first cell that is none, or none. -/
theorem first_bad (R C : Nat → Int) : ∀ n, (∀ k, k < n → Ok (R k) ∧ Ok (C k)) ∨ ∃ m, m < n ∧ (∀ k, k < m → Ok (R k) ∧ Ok (C k)) ∧ (R m < 0 ∨ 64 ≤ R m ∨ C m < 0 ∨ 64 ≤ C m)
  | 0 => .inl fun _ h => absurd h (Nat.not_lt_zero _)
  | n + 1 => by
    rcases first_bad R C n with h | ⟨m, hm, h, hb⟩
    · by_cases hk : Ok (R n) ∧ Ok (C n)
      · exact .inl fun k hk' => by
          rcases Nat.lt_succ_iff_lt_or_eq.1 hk' with h' | rfl
          · exact h k h'
          · exact hk
      · exact .inr ⟨n, Nat.lt_succ_self _, h, by unfold Ok at hk; omega⟩
    · exact .inr ⟨m, by omega, h, hb⟩
/-- Both answer the same, on any two lists of the same cells. -/
theorem of_both (n : Nat) (R C : Nat → Int) (hn : n ≤ 9223372036854775807) : ∃ (f : Nat → Nat) (k : Int), Wf f ∧
    (∀ w v, IsCells w v n R C → Calls Tryd.prog 8 #[v] w fun e w' => e = .returned (.tuple #[.agg (Rw f), .int .i64 k]) ∧ Below w.heap.size w w') ∧
    (∀ w v, IsCells w v n R C → Calls Tryd.prog 9 #[v] w fun e w' => e = .returned (.tuple #[.agg (Rw f), .int .i64 k]) ∧ Below w.heap.size w w') := by
  by_cases h0 : n = 0
  · subst h0
    refine ⟨fun _ => 0, 0, fun _ _ => (by show 0 < 18446744073709551616; decide), fun w v h => ?_, fun w v h => ?_⟩
    · rcases h with ⟨_, a, cap, rfl⟩ | ⟨b, off, cap, rfl, _⟩ <;> exact of_none _ _ w
    · rcases h with ⟨_, a, cap, rfl⟩ | ⟨b, off, cap, rfl, _⟩ <;> exact rof_none _ _ w
  · rcases first_bad R C n with hok | ⟨m, hm, hok, hbad⟩
    · refine ⟨foldB R C n, 0, foldB_wf R C n, fun w v h => ?_, fun w v h => ?_⟩
      · rcases h with ⟨h, _⟩ | ⟨b, off, cap, rfl, hb, hc⟩
        · exact absurd h h0
        · exact of_ok R C b off n cap w hn hb hc hok
      · rcases h with ⟨h, _⟩ | ⟨b, off, cap, rfl, hb, hc⟩
        · exact absurd h h0
        · exact rof_ok R C b off n cap w hn hb hc hok
    · refine ⟨fun _ => 0, 2, fun _ _ => (by show 0 < 18446744073709551616; decide), fun w v h => ?_, fun w v h => ?_⟩
      · rcases h with ⟨h, _⟩ | ⟨b, off, cap, rfl, hb, hc⟩
        · exact absurd h h0
        · exact of_bad R C b off n cap m w hn hb hc hm hok hbad
      · rcases h with ⟨h, _⟩ | ⟨b, off, cap, rfl, hb, hc⟩
        · exact absurd h h0
        · exact rof_bad R C b off n cap m w hn hb hc hm hok hbad
end Go.Proofs.YtbcklcikmhpclaaDoor
