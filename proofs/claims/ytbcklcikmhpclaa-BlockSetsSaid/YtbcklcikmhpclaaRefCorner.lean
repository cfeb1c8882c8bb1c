/-
  The reference's Corner.
-/
import Derived.Test.YtbcklcikmhpclaaCorner
namespace Go.Proofs.Ytbcklcikmhpclaa
open Go.RowKit
set_option linter.unusedVariables false
set_option linter.unusedSimpArgs false
theorem upto_nextAt (S : Nat → Nat → Bool) (r c : Nat) (h : ∀ j, c ≤ j → S r j = false) : Rw (blk (upto S r c)) = Rw (blk (upto S (r + 1) 0)) :=
  blk_congr fun i j hi hj => by
    unfold upto
    by_cases e : i = r ∧ c ≤ j
    · obtain ⟨rfl, e2⟩ := e; rw [h j e2, Bool.and_false, Bool.and_false]
    · congr 1
      rw [Bool.eq_iff_iff]; simp; omega
theorem upto_endAt (S : Nat → Nat → Bool) (n : Nat) (h : ∀ i j, n ≤ i → S i j = false) : Rw (blk (upto S n 0)) = Rw (blk S) :=
  blk_congr fun i j hi hj => by
    unfold upto
    by_cases e : i < n
    · simp [e]
    · rw [h i j (by omega), Bool.and_false]
section
set_option maxHeartbeats 1600000
set_option maxRecDepth 100000
theorem rcorner_no (f : Nat → Nat) (r c : Int) (w : World) (h : r < 0 ∨ 64 < r ∨ c < 0 ∨ 64 < c) :
    Calls Try.prog 17 #[.agg (Rw f), .int .i64 r, .int .i64 c] w fun e w' => e = .returned (.tuple #[.agg (Rw fun _ => 0), .int .i64 2]) ∧ Below w.heap.size w w' := by
  have hz : ∀ w, (zeroValue 25).run Try.prog w = .ok (.agg (Rw fun _ => 0)) w := (zero_of_info blockZero).1
  by_cases h1 : r < 0
  · have d1 : decide (r < 0) = true := by rw [decide_eq_true_eq]; omega
    clear h
    go_enter Try.func17, Try.ntmps17
    go_wp2_with (first | (apply wpList_ld rfl _ rfl _ rfl; focus ((repeat' (first | (with_reducible assumption) | ((with_reducible refine Hold.new ?_); first | (with_reducible rfl) | (simp; done)) | (with_reducible apply Hold.alloc) | (with_reducible apply Hold.row) | ((with_reducible apply Hold.other); rotate_left; focus (first | omega | (simp; omega))))); done)) | (apply wpList_st rfl _ _ rfl _ rfl _ rfl; focus ((repeat' (first | (with_reducible assumption) | ((with_reducible refine Hold.new ?_); first | (with_reducible rfl) | (simp; done)) | (with_reducible apply Hold.alloc) | (with_reducible apply Hold.row) | ((with_reducible apply Hold.other); rotate_left; focus (first | omega | (simp; omega))))); done)) | (refine wpList_bd rfl rfl ?_))
    exact ret_blk2 rfl (w.heap.size + 1) rfl (Hold.row (Hold.new (by simp)) _) rfl ⟨rfl, Below.row (((Below.refl _ _).alloc (Nat.le_refl _) _).alloc (by simp) _) (by omega) _⟩
  · have d1 : decide (r < 0) = false := by rw [decide_eq_false_iff_not]; omega
    by_cases h2 : c < 0
    · have d2 : decide (c < 0) = true := by rw [decide_eq_true_eq]; omega
      clear h
      go_enter Try.func17, Try.ntmps17
      go_wp2_with (first | (apply wpList_ld rfl _ rfl _ rfl; focus ((repeat' (first | (with_reducible assumption) | ((with_reducible refine Hold.new ?_); first | (with_reducible rfl) | (simp; done)) | (with_reducible apply Hold.alloc) | (with_reducible apply Hold.row) | ((with_reducible apply Hold.other); rotate_left; focus (first | omega | (simp; omega))))); done)) | (apply wpList_st rfl _ _ rfl _ rfl _ rfl; focus ((repeat' (first | (with_reducible assumption) | ((with_reducible refine Hold.new ?_); first | (with_reducible rfl) | (simp; done)) | (with_reducible apply Hold.alloc) | (with_reducible apply Hold.row) | ((with_reducible apply Hold.other); rotate_left; focus (first | omega | (simp; omega))))); done)) | (refine wpList_bd rfl rfl ?_))
      exact ret_blk2 rfl (w.heap.size + 1) rfl (Hold.row (Hold.new (by simp)) _) rfl ⟨rfl, Below.row (((Below.refl _ _).alloc (Nat.le_refl _) _).alloc (by simp) _) (by omega) _⟩
    · have d2 : decide (c < 0) = false := by rw [decide_eq_false_iff_not]; omega
      by_cases h3 : 64 < r
      · have d3 : decide (64 < r) = true := by rw [decide_eq_true_eq]; omega
        clear h
        go_enter Try.func17, Try.ntmps17
        go_wp2_with (first | (apply wpList_ld rfl _ rfl _ rfl; focus ((repeat' (first | (with_reducible assumption) | ((with_reducible refine Hold.new ?_); first | (with_reducible rfl) | (simp; done)) | (with_reducible apply Hold.alloc) | (with_reducible apply Hold.row) | ((with_reducible apply Hold.other); rotate_left; focus (first | omega | (simp; omega))))); done)) | (apply wpList_st rfl _ _ rfl _ rfl _ rfl; focus ((repeat' (first | (with_reducible assumption) | ((with_reducible refine Hold.new ?_); first | (with_reducible rfl) | (simp; done)) | (with_reducible apply Hold.alloc) | (with_reducible apply Hold.row) | ((with_reducible apply Hold.other); rotate_left; focus (first | omega | (simp; omega))))); done)) | (refine wpList_bd rfl rfl ?_))
        exact ret_blk2 rfl (w.heap.size + 1) rfl (Hold.row (Hold.new (by simp)) _) rfl ⟨rfl, Below.row (((Below.refl _ _).alloc (Nat.le_refl _) _).alloc (by simp) _) (by omega) _⟩
      · have d3 : decide (64 < r) = false := by rw [decide_eq_false_iff_not]; omega
        have h4 : 64 < c := by omega
        have d4 : decide (64 < c) = true := by rw [decide_eq_true_eq]; omega
        clear h
        go_enter Try.func17, Try.ntmps17
        go_wp2_with (first | (apply wpList_ld rfl _ rfl _ rfl; focus ((repeat' (first | (with_reducible assumption) | ((with_reducible refine Hold.new ?_); first | (with_reducible rfl) | (simp; done)) | (with_reducible apply Hold.alloc) | (with_reducible apply Hold.row) | ((with_reducible apply Hold.other); rotate_left; focus (first | omega | (simp; omega))))); done)) | (apply wpList_st rfl _ _ rfl _ rfl _ rfl; focus ((repeat' (first | (with_reducible assumption) | ((with_reducible refine Hold.new ?_); first | (with_reducible rfl) | (simp; done)) | (with_reducible apply Hold.alloc) | (with_reducible apply Hold.row) | ((with_reducible apply Hold.other); rotate_left; focus (first | omega | (simp; omega))))); done)) | (refine wpList_bd rfl rfl ?_))
        exact ret_blk2 rfl (w.heap.size + 1) rfl (Hold.row (Hold.new (by simp)) _) rfl ⟨rfl, Below.row (((Below.refl _ _).alloc (Nat.le_refl _) _).alloc (by simp) _) (by omega) _⟩
theorem rcorner_yes (f : Nat → Nat) (rows cols : Nat) (w : World) (hf : Wf f) (hr : rows ≤ 64) (hc : cols ≤ 64) :
    Calls Try.prog 17 #[.agg (Rw f), .int .i64 rows, .int .i64 cols] w fun e w' => e = .returned (.tuple #[.agg (Rw (blk (cutS f rows cols))), .int .i64 0]) ∧ Below w.heap.size w w' := by
  have hz : ∀ w, (zeroValue 25).run Try.prog w = .ok (.agg (Rw fun _ => 0)) w := (zero_of_info blockZero).1
  obtain ⟨S, hS⟩ : ∃ S : Nat → Nat → Bool, S = cutS f rows cols := ⟨_, rfl⟩
  rw [← hS]
  have hS1 : ∀ i j, rows ≤ i → S i j = false := fun i j h => by rw [hS]; unfold cutS; simp; omega
  have hS2 : ∀ i j, cols ≤ j → S i j = false := fun i j h => by rw [hS]; unfold cutS; simp; omega
  have hS3 : ∀ i j, i < rows → j < cols → (f i).testBit j = S i j := fun i j h1 h2 => by rw [hS]; unfold cutS bt; simp [h1, h2]
  have H1 := Lib.hid hS1
  have H2 := Lib.hid hS2
  have H3 := Lib.hid hS3
  clear hS hS1 hS2 hS3
  have d1 : decide ((rows : Int) < 0) = false := by rw [decide_eq_false_iff_not]; omega
  have d2 : decide ((cols : Int) < 0) = false := by rw [decide_eq_false_iff_not]; omega
  have d3 : decide (64 < (rows : Int)) = false := by rw [decide_eq_false_iff_not]; omega
  have d4 : decide (64 < (cols : Int)) = false := by rw [decide_eq_false_iff_not]; omega
  go_enter Try.func17, Try.ntmps17
  go_wp2_with fail
  go_loopw [9] (fun i wr => ∃ k : Nat, k ≤ rows ∧ i = .int .i64 k ∧ Hold wr (w.heap.size + 2) (Rw (blk (upto S k 0))) ∧ Hold wr w.heap.size (Rw f) ∧ Hold wr (w.heap.size + 1) (Rw fun _ => 0) ∧ Below w.heap.size w wr) (fun i _ => 64 - (intOf i).toNat)
  case atStart => exact ⟨0, Nat.zero_le _, rfl, by rw [← upto_zero]; exact Hold.new (by simp), ((Hold.new rfl).alloc _).alloc _, (Hold.new (by simp)).alloc _, (((Below.refl _ _).alloc (Nat.le_refl _) _).alloc (by simp) _).alloc (by simp; omega) _⟩
  case round =>
    obtain ⟨k, hk, rfl, d, d0, e1, db⟩ := hrel
    by_cases hlt : k < rows
    · obtain ⟨wo, rfl⟩ : ∃ wo : World, wo = wr := ⟨_, rfl⟩
      have hk6 : k < 64 := by omega
      have hdk : decide ((k : Int) < (rows : Int)) = true := by rw [decide_eq_true_eq]; omega
      have hdk2 : decide (k < rows) = true := by rw [decide_eq_true_eq]; omega
      go_wp2_with fail
      go_loopw [10] (fun j wr => ∃ c : Nat, c ≤ cols ∧ j = .int .i64 c ∧ Hold wr (w.heap.size + 2) (Rw (blk (upto S k c))) ∧ Hold wr w.heap.size (Rw f) ∧ Hold wr (w.heap.size + 1) (Rw fun _ => 0) ∧ Below w.heap.size w wr) (fun j _ => 64 - (intOf j).toNat)
      case atStart => exact ⟨0, Nat.zero_le _, rfl, d, d0, e1, db⟩
      case round =>
        clear d d0 e1 db
        obtain ⟨c, hcc, rfl, d, d0, e1, db⟩ := hrel
        by_cases hct : c < cols
        · have hc6 : c < 64 := by omega
          have Hv := Lib.hid (H3.out k c hlt hct)
          cases hb : S k c
          · go_wp2_with (first | (apply wpList_ld rfl _ rfl _ rfl; focus ((repeat' (first | (with_reducible assumption) | ((with_reducible refine Hold.new ?_); first | (with_reducible rfl) | (simp; done)) | (with_reducible apply Hold.alloc) | (with_reducible apply Hold.row) | ((with_reducible apply Hold.other); rotate_left; focus (first | omega | (simp; omega))))); done)) | (apply wpList_st rfl _ _ rfl _ rfl _ rfl; focus ((repeat' (first | (with_reducible assumption) | ((with_reducible refine Hold.new ?_); first | (with_reducible rfl) | (simp; done)) | (with_reducible apply Hold.alloc) | (with_reducible apply Hold.row) | ((with_reducible apply Hold.other); rotate_left; focus (first | omega | (simp; omega))))); done)) | (refine wpList_bd rfl rfl ?_))
            refine (has_any f k c _ hk6 hc6).mono ?_
            rintro e w1 ⟨rfl, rfl⟩
            rw [Hv.out, hb]
            rw [upto_miss S k c hb] at d
            go_wp2_with fail
            go_roundw
            case rel => exact ⟨c + 1, by omega, by go_num, d.alloc _, d0.alloc _, e1.alloc _, db.alloc db.size _⟩
            case measure => simp [intOf]; omega
          · go_wp2_with (first | (apply wpList_ld rfl _ rfl _ rfl; focus ((repeat' (first | (with_reducible assumption) | ((with_reducible refine Hold.new ?_); first | (with_reducible rfl) | (simp; done)) | (with_reducible apply Hold.alloc) | (with_reducible apply Hold.row) | ((with_reducible apply Hold.other); rotate_left; focus (first | omega | (simp; omega))))); done)) | (apply wpList_st rfl _ _ rfl _ rfl _ rfl; focus ((repeat' (first | (with_reducible assumption) | ((with_reducible refine Hold.new ?_); first | (with_reducible rfl) | (simp; done)) | (with_reducible apply Hold.alloc) | (with_reducible apply Hold.row) | ((with_reducible apply Hold.other); rotate_left; focus (first | omega | (simp; omega))))); done)) | (refine wpList_bd rfl rfl ?_))
            refine (has_any f k c _ hk6 hc6).mono ?_
            rintro e w1 ⟨rfl, rfl⟩
            rw [Hv.out, hb]
            go_wp2_with (first | (apply wpList_ld rfl _ rfl _ rfl; focus ((repeat' (first | (with_reducible assumption) | ((with_reducible refine Hold.new ?_); first | (with_reducible rfl) | (simp; done)) | (with_reducible apply Hold.alloc) | (with_reducible apply Hold.row) | ((with_reducible apply Hold.other); rotate_left; focus (first | omega | (simp; omega))))); done)) | (apply wpList_st rfl _ _ rfl _ rfl _ rfl; focus ((repeat' (first | (with_reducible assumption) | ((with_reducible refine Hold.new ?_); first | (with_reducible rfl) | (simp; done)) | (with_reducible apply Hold.alloc) | (with_reducible apply Hold.row) | ((with_reducible apply Hold.other); rotate_left; focus (first | omega | (simp; omega))))); done)) | (refine wpList_bd rfl rfl ?_))
            refine (put_any _ k c _ hk6 hc6 (blk_wf _ k hk6)).mono ?_
            rintro e w2 ⟨rfl, hb2⟩
            have l2 := d.lt
            have x2 := Hold.below (d.alloc _) hb2 (by simp; omega)
            have x0 := Hold.below (d0.alloc _) hb2 (by simp; omega)
            have x1 := Hold.below (e1.alloc _) hb2 (by simp; omega)
            have xb : Below w.heap.size w w2 := (db.alloc db.size _).trans (hb2.mono (by simp; have := db.size; omega))
            clear d d0 e1 db hb2
            rw [upto_hit S k c hk6 hc6 hb]
            go_wp2_with (first | (apply wpList_ld rfl _ rfl _ rfl; focus ((repeat' (first | (with_reducible assumption) | ((with_reducible refine Hold.new ?_); first | (with_reducible rfl) | (simp; done)) | (with_reducible apply Hold.alloc) | (with_reducible apply Hold.row) | ((with_reducible apply Hold.other); rotate_left; focus (first | omega | (simp; omega))))); done)) | (apply wpList_st rfl _ _ rfl _ rfl _ rfl; focus ((repeat' (first | (with_reducible assumption) | ((with_reducible refine Hold.new ?_); first | (with_reducible rfl) | (simp; done)) | (with_reducible apply Hold.alloc) | (with_reducible apply Hold.row) | ((with_reducible apply Hold.other); rotate_left; focus (first | omega | (simp; omega))))); done)) | (refine wpList_bd rfl rfl ?_))
            go_roundw
            case rel => exact ⟨c + 1, by omega, by go_num, x2.row _, x0.other (by omega) _, x1.other (by omega) _, Below.row xb (by omega) _⟩
            case measure => simp [intOf]; omega
        · have e : c = cols := by omega
          subst e
          rw [upto_nextAt S k c (fun j hj => H2.out k j hj)] at d
          go_wp2_with fail
          go_roundw
          case rel => exact ⟨k + 1, by omega, by go_num, d, d0, e1, db⟩
          case measure => simp [intOf]; omega
    · have e : k = rows := by omega
      subst e
      rw [upto_endAt S k H1.out] at d
      go_wp2_with (first | (apply wpList_ld rfl _ rfl _ rfl; focus ((repeat' (first | (with_reducible assumption) | ((with_reducible refine Hold.new ?_); first | (with_reducible rfl) | (simp; done)) | (with_reducible apply Hold.alloc) | (with_reducible apply Hold.row) | ((with_reducible apply Hold.other); rotate_left; focus (first | omega | (simp; omega))))); done)) | (apply wpList_st rfl _ _ rfl _ rfl _ rfl; focus ((repeat' (first | (with_reducible assumption) | ((with_reducible refine Hold.new ?_); first | (with_reducible rfl) | (simp; done)) | (with_reducible apply Hold.alloc) | (with_reducible apply Hold.row) | ((with_reducible apply Hold.other); rotate_left; focus (first | omega | (simp; omega))))); done)) | (refine wpList_bd rfl rfl ?_))
      exact ret_blk2 rfl (w.heap.size + 1) rfl (Hold.row e1 _) rfl ⟨rfl, Below.row db (by omega) _⟩
end
end Go.Proofs.Ytbcklcikmhpclaa
