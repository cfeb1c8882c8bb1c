/-
  The reference's Turn and One.
-/
import Derived.Test.YtbcklcikmhpclaaFold
import Derived.Test.YtbcklcikmhpclaaMath
namespace Go.Proofs.Ytbcklcikmhpclaa
open Go.RowKit
set_option linter.unusedVariables false
set_option linter.unusedSimpArgs false
/-- The bits of One. -/
def diag (r c : Nat) : Bool := decide (r = c)
section
set_option maxHeartbeats 400000
set_option maxRecDepth 100000
theorem rturn_any (f : Nat → Nat) (w : World) (hf : Wf f) :
    Calls Try.prog 22 #[.agg (Rw f)] w fun e w' => e = .returned (.agg (Rw (blk fun r c => bt f c r))) ∧ Below w.heap.size w w' := by
  have hz : ∀ w, (zeroValue 25).run Try.prog w = .ok (.agg (Rw fun _ => 0)) w := (zero_of_info blockZero).1
  obtain ⟨S, hS⟩ : ∃ S : Nat → Nat → Bool, S = fun r c => bt f c r := ⟨_, rfl⟩
  rw [← hS]
  have HS := Lib.hid hS
  clear hS
  go_enter Try.func22, Try.ntmps22
  go_wp2_with fail
  go_loopw [4] (fun i wr => ∃ k : Nat, k ≤ 64 ∧ i = .int .i64 k ∧ Hold wr (w.heap.size + 2) (Rw (blk (upto S k 0))) ∧ Hold wr w.heap.size (Rw f) ∧ Hold wr (w.heap.size + 1) (Rw fun _ => 0) ∧ Below w.heap.size w wr) (fun i _ => 64 - (intOf i).toNat)
  case atStart => exact ⟨0, Nat.zero_le _, rfl, by rw [← upto_zero]; exact Hold.new (by simp), ((Hold.new rfl).alloc _).alloc _, (Hold.new (by simp)).alloc _, (((Below.refl _ _).alloc (Nat.le_refl _) _).alloc (by simp) _).alloc (by simp; omega) _⟩
  case round =>
    obtain ⟨k, hk, rfl, d, d0, d1, db⟩ := hrel
    by_cases hlt : k < 64
    · obtain ⟨wo, rfl⟩ : ∃ wo : World, wo = wr := ⟨_, rfl⟩
      have hdk : decide ((k : Int) < 64) = true := by rw [decide_eq_true_eq]; omega
      go_wp2_with fail
      go_loopw [5] (fun j wr => ∃ c : Nat, c ≤ 64 ∧ j = .int .i64 c ∧ Hold wr (w.heap.size + 2) (Rw (blk (upto S k c))) ∧ Hold wr w.heap.size (Rw f) ∧ Hold wr (w.heap.size + 1) (Rw fun _ => 0) ∧ Below w.heap.size w wr) (fun j _ => 64 - (intOf j).toNat)
      case atStart => exact ⟨0, Nat.zero_le _, rfl, d, d0, d1, db⟩
      case round =>
        clear d d0 d1 db
        obtain ⟨c, hc, rfl, d, d0, d1, db⟩ := hrel
        by_cases hct : c < 64
        · have hval : (f c).testBit k = S k c := by rw [HS.out]; rfl
          have Hv := Lib.hid hval
          clear hval
          cases hb : S k c
          · go_wp2_with (first | (apply wpList_ld rfl _ rfl _ rfl; focus ((repeat' (first | (with_reducible assumption) | (refine Hold.new ?_; first | rfl | (simp; done)) | (refine Hold.alloc ?_ _) | (apply Hold.row) | (refine Hold.other ?_ ?_ _; rotate_left; focus (first | omega | (simp; omega))))); done)) | (apply wpList_st rfl _ _ rfl _ rfl _ rfl; focus ((repeat' (first | (with_reducible assumption) | (refine Hold.new ?_; first | rfl | (simp; done)) | (refine Hold.alloc ?_ _) | (apply Hold.row) | (refine Hold.other ?_ ?_ _; rotate_left; focus (first | omega | (simp; omega))))); done)) | (refine wpList_bd rfl rfl ?_))
            refine (has_any f c k _ hct hlt).mono ?_
            rintro e w1 ⟨rfl, rfl⟩
            rw [Hv.out, hb]
            rw [upto_miss S k c hb] at d
            go_wp2_with fail
            go_roundw
            case rel => exact ⟨c + 1, by omega, by go_num, d.alloc _, d0.alloc _, d1.alloc _, db.alloc db.size _⟩
            case measure => simp [intOf]; omega
          · go_wp2_with (first | (apply wpList_ld rfl _ rfl _ rfl; focus ((repeat' (first | (with_reducible assumption) | (refine Hold.new ?_; first | rfl | (simp; done)) | (refine Hold.alloc ?_ _) | (apply Hold.row) | (refine Hold.other ?_ ?_ _; rotate_left; focus (first | omega | (simp; omega))))); done)) | (apply wpList_st rfl _ _ rfl _ rfl _ rfl; focus ((repeat' (first | (with_reducible assumption) | (refine Hold.new ?_; first | rfl | (simp; done)) | (refine Hold.alloc ?_ _) | (apply Hold.row) | (refine Hold.other ?_ ?_ _; rotate_left; focus (first | omega | (simp; omega))))); done)) | (refine wpList_bd rfl rfl ?_))
            refine (has_any f c k _ hct hlt).mono ?_
            rintro e w1 ⟨rfl, rfl⟩
            rw [Hv.out, hb]
            go_wp2_with (first | (apply wpList_ld rfl _ rfl _ rfl; focus ((repeat' (first | (with_reducible assumption) | (refine Hold.new ?_; first | rfl | (simp; done)) | (refine Hold.alloc ?_ _) | (apply Hold.row) | (refine Hold.other ?_ ?_ _; rotate_left; focus (first | omega | (simp; omega))))); done)) | (apply wpList_st rfl _ _ rfl _ rfl _ rfl; focus ((repeat' (first | (with_reducible assumption) | (refine Hold.new ?_; first | rfl | (simp; done)) | (refine Hold.alloc ?_ _) | (apply Hold.row) | (refine Hold.other ?_ ?_ _; rotate_left; focus (first | omega | (simp; omega))))); done)) | (refine wpList_bd rfl rfl ?_))
            refine (put_any _ k c _ hlt hct (blk_wf _ k hlt)).mono ?_
            rintro e w2 ⟨rfl, hb2⟩
            have l2 := d.lt
            have e2 := Hold.below (d.alloc _) hb2 (by simp; omega)
            have e0 := Hold.below (d0.alloc _) hb2 (by simp; omega)
            have e1 := Hold.below (d1.alloc _) hb2 (by simp; omega)
            have eb : Below w.heap.size w w2 := (db.alloc db.size _).trans (hb2.mono (by simp; have := db.size; omega))
            clear d d0 d1 db hb2
            rw [upto_hit S k c hlt hct hb]
            go_wp2_with (first | (apply wpList_ld rfl _ rfl _ rfl; focus ((repeat' (first | (with_reducible assumption) | (refine Hold.new ?_; first | rfl | (simp; done)) | (refine Hold.alloc ?_ _) | (apply Hold.row) | (refine Hold.other ?_ ?_ _; rotate_left; focus (first | omega | (simp; omega))))); done)) | (apply wpList_st rfl _ _ rfl _ rfl _ rfl; focus ((repeat' (first | (with_reducible assumption) | (refine Hold.new ?_; first | rfl | (simp; done)) | (refine Hold.alloc ?_ _) | (apply Hold.row) | (refine Hold.other ?_ ?_ _; rotate_left; focus (first | omega | (simp; omega))))); done)) | (refine wpList_bd rfl rfl ?_))
            go_roundw
            case rel => exact ⟨c + 1, by omega, by go_num, e2.row _, e0.other (by omega) _, e1.other (by omega) _, Below.row eb (by omega) _⟩
            case measure => simp [intOf]; omega
        · have e : c = 64 := by omega
          subst e
          rw [upto_next] at d
          go_wp2_with fail
          go_roundw
          case rel => exact ⟨k + 1, by omega, by go_num, d, d0, d1, db⟩
          case measure => simp [intOf]; omega
    · have e : k = 64 := by omega
      subst e
      rw [upto_end] at d
      go_wp2_with (first | (apply wpList_ld rfl _ rfl _ rfl; focus ((repeat' (first | (with_reducible assumption) | (refine Hold.new ?_; first | rfl | (simp; done)) | (refine Hold.alloc ?_ _) | (apply Hold.row) | (refine Hold.other ?_ ?_ _; rotate_left; focus (first | omega | (simp; omega))))); done)) | (apply wpList_st rfl _ _ rfl _ rfl _ rfl; focus ((repeat' (first | (with_reducible assumption) | (refine Hold.new ?_; first | rfl | (simp; done)) | (refine Hold.alloc ?_ _) | (apply Hold.row) | (refine Hold.other ?_ ?_ _; rotate_left; focus (first | omega | (simp; omega))))); done)) | (refine wpList_bd rfl rfl ?_))
      exact ret_blk rfl (w.heap.size + 1) rfl (Hold.row d1 _) rfl ⟨rfl, Below.row db (by omega) _⟩
end
end Go.Proofs.Ytbcklcikmhpclaa
