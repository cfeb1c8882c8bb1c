/-
  The law BlockTurned, walked.
-/
import Derived.Test.YtbcklcikmhpclaaDoorAlg
import Derived.Test.YtbcklcikmhpclaaDoorQuiet
import Derived.Test.YtbcklcikmhpclaaDoorAwake
import Derived.Test.YtbcklcikmhpclaaDoorTurned
namespace Go.Proofs.YtbcklcikmhpclaaDoor
open Go.RowKit
set_option linter.unusedVariables false
set_option linter.unusedSimpArgs false
theorem tmod_bit (x c : Nat) : ((x : Int) / 2 ^ c).tmod 2 = if x.testBit c then 1 else 0 := by
  have h1 : ((x : Int) / 2 ^ c) = ((x / 2 ^ c : Nat) : Int) := by simp
  rw [h1, Int.tmod_eq_emod_of_nonneg (Int.natCast_nonneg _), Nat.testBit_eq_decide_div_mod_eq]
  have h2 : x / 2 ^ c % 2 = 0 ∨ x / 2 ^ c % 2 = 1 := by omega
  rcases h2 with h2 | h2
  · rw [h2]; simp; omega
  · rw [h2]; simp; omega
theorem u64_small (c : Nat) (hc : c < 64) : IntKind.u64.wrap (c : Int) = c := wrap_u64_nat c (by omega)
section
set_option maxHeartbeats 8000000
set_option maxRecDepth 100000
theorem turned_law (v1 v2 : Value) (n1 n2 : Nat) (R1 C1 R2 C2 : Nat → Int) (w : World) (hT : Tab w)
    (h1 : IsCells w v1 n1 R1 C1) (h2 : IsCells w v2 n2 R2 C2) (k1 : n1 ≤ 9223372036854775807) (k2 : n2 ≤ 9223372036854775807) :
    Calls Tryd.prog 6 #[v1, v2] w fun e w' => e = .returned (.bool true) ∧ Below w.heap.size w w' := by
  have hz : ∀ w, (zeroValue 25).run Tryd.prog w = .ok (.agg (Rw fun _ => 0)) w := (zero_of_info blockZero).1
  have F1 := Lib.hid (fold_of h1 k1)
  have F2 := Lib.hid fun w' (hb : Below w.heap.size w w') => fold_of (h2.stays hb) k2
  have HT := Lib.hid hT
  have ha := foldB_wf R1 C1 n1
  have hb := foldB_wf R2 C2 n2
  clear h1 h2 hT
  generalize foldB R1 C1 n1 = a at *
  generalize foldB R2 C2 n2 = b at *
  go_enter Tryd.func6, Tryd.ntmps6
  go_wp2_with fail
  refine F1.out.mono ?_
  rintro e w1 ⟨rfl, hb1⟩
  go_wp2_with fail
  refine (F2.out w1 hb1).mono ?_
  rintro e w3 ⟨rfl, hb2⟩
  have db3 := hb1.trans (hb2.mono hb1.size)
  have s3 := db3.size
  clear hb1 hb2
  go_wp2_with (first | (apply wpList_ld rfl _ rfl _ rfl; focus ((repeat' (first | (with_reducible assumption) | ((with_reducible refine Hold.new ?_); first | (with_reducible rfl) | (simp; done)) | (with_reducible apply Hold.alloc) | (with_reducible apply Hold.row) | ((with_reducible apply Hold.other); rotate_left; focus (first | omega | (simp; omega))))); done)) | (apply wpList_st rfl _ _ rfl _ rfl _ rfl; focus ((repeat' (first | (with_reducible assumption) | ((with_reducible refine Hold.new ?_); first | (with_reducible rfl) | (simp; done)) | (with_reducible apply Hold.alloc) | (with_reducible apply Hold.row) | ((with_reducible apply Hold.other); rotate_left; focus (first | omega | (simp; omega))))); done)) | (refine wpList_bd rfl rfl ?_))
  refine (turn_blk a _ ha).mono ?_
  rintro e w5 ⟨rfl, hb5⟩
  have a5 : Hold w5 w3.heap.size (Rw a) := Hold.below (Hold.other (Hold.row ((Hold.new rfl).alloc _) _) (by omega) _) hb5 (by simp; omega)
  have b5 : Hold w5 (w3.heap.size + 1) (Rw b) := Hold.below (Hold.row (Hold.other (Hold.new (by simp)) (by omega) _) _) hb5 (by simp)
  have db5 : Below w.heap.size w w5 := (Below.row (Below.row ((db3.alloc s3 _).alloc (by simp; omega) _) s3 _) (by omega) _).trans (hb5.mono (by simp; omega))
  clear hb5 db3
  have l5 := b5.lt
  have s5 := db5.size
  go_wp2_with (first | (apply wpList_ld rfl _ rfl _ rfl; focus ((repeat' (first | (with_reducible assumption) | ((with_reducible refine Hold.new ?_); first | (with_reducible rfl) | (simp; done)) | (with_reducible apply Hold.alloc) | (with_reducible apply Hold.row) | ((with_reducible apply Hold.other); rotate_left; focus (first | omega | (simp; omega))))); done)) | (apply wpList_st rfl _ _ rfl _ rfl _ rfl; focus ((repeat' (first | (with_reducible assumption) | ((with_reducible refine Hold.new ?_); first | (with_reducible rfl) | (simp; done)) | (with_reducible apply Hold.alloc) | (with_reducible apply Hold.row) | ((with_reducible apply Hold.other); rotate_left; focus (first | omega | (simp; omega))))); done)) | (refine wpList_bd rfl rfl ?_))
  have a6 : Hold ((w5.alloc (.cells (Rw fun _ => 0) 25)).setRow w5.heap.size (Rw (trn a))) w3.heap.size (Rw a) := (a5.alloc _).other (by omega) _
  have b6 : Hold ((w5.alloc (.cells (Rw fun _ => 0) 25)).setRow w5.heap.size (Rw (trn a))) (w3.heap.size + 1) (Rw b) := (b5.alloc _).other (by omega) _
  have t6 : Hold ((w5.alloc (.cells (Rw fun _ => 0) 25)).setRow w5.heap.size (Rw (trn a))) w5.heap.size (Rw (trn a)) := Hold.row (Hold.new rfl) _
  have db6 := Below.row (db5.alloc s5 (.cells (Rw fun _ => 0) 25)) s5 (Rw (trn a))
  clear a5 b5 db5
  generalize (w5.alloc (.cells (Rw fun _ => 0) 25)).setRow w5.heap.size (Rw (trn a)) = W at *
  go_loopw [8] (fun i wr => ∃ k : Nat, k ≤ 4096 ∧ i = .int .i64 k ∧ Below W.heap.size W wr) (fun i _ => 4096 - (intOf i).toNat)
  case atStart => exact ⟨0, Nat.zero_le _, rfl, Below.refl _ _⟩
  case round =>
    obtain ⟨k, hk, rfl, hbW⟩ := hrel
    by_cases hlt : k < 4096
    · obtain ⟨r, hr⟩ : ∃ r, r = k / 64 := ⟨_, rfl⟩
      obtain ⟨c, hc⟩ : ∃ c, c = k % 64 := ⟨_, rfl⟩
      have hr6 : r < 64 := by omega
      have hc6 : c < 64 := by omega
      have hq1 : (k : Int) / 64 = (r : Int) := by omega
      have hq2 : (k : Int) % 64 = (c : Int) := by omega
      have hri : (r : Int) < 64 := by omega
      have hci : (c : Int) < 64 := by omega
      have hE : (((a r : Int) / 2 ^ c).tmod 2 != (((trn a) c : Int) / 2 ^ r).tmod 2) = false := by
        rw [tmod_bit, tmod_bit, show (trn a c).testBit r = (a r).testBit c from blk_bit _ _ _ hr6]
        simp
      have hwc := u64_small c hc6
      have hwr := u64_small r hr6
      clear hr hc
      go_wp2_with fail
      refine still_all (by kernel_rfl) (by kernel_rfl) fun wd hwd => ?_
      have db := Below.drew_eq hbW hwd
      have c1 := (a6.below db a6.lt).cell (Rw_get _ r hr6)
      have c2 := (t6.below db t6.lt).cell (Rw_get _ c hc6)
      clear hwd hbW
      repeat still_step
      refine wpStill_nil ?_
      go_wp2_with fail
      go_roundw
      case rel => exact ⟨k + 1, by omega, by go_num, db⟩
      case measure => simp [intOf]; omega
    · have e : k = 4096 := by omega
      subst e
      have LA := fun w' (h : Below W.heap.size W w') => Hold.below a6 h a6.lt
      have LB := fun w' (h : Below W.heap.size W w') => Hold.below b6 h b6.lt
      have LT := fun w' (h : Below W.heap.size W w') => Hold.below t6 h t6.lt
      have T6 := HT.out.stays db6
      have MM := fun (f g : Nat → Nat) (hf : Wf f) (hg : Wf g) w' (h : Below W.heap.size W w') => in_class h (mul_any f g w' hf hg (T6.stays h)) h.size
      have TT := fun (f : Nat → Nat) (hf : Wf f) w' (h : Below W.heap.size W w') => in_class h (turn_blk f w' hf) h.size
      have AW := fun w' (h : Below W.heap.size W w') => in_class h (awake_any w') h.size
      have E1 := eq_blk (trn_trn a ha)
      have E2 := eq_blk (trn_prod a b)
      go_wp2_with fail
      refine quiet_reg hbW (by kernel_rfl) (by kernel_rfl) ?_
      clear hbW
      refine wpQuiet_step (fun K hK => ?_); refine k_ld rfl _ rfl _ rfl LT ?_; go_simp; refine hK _ ?_; clear hK K
      refine wpQuiet_step (fun K hK => ?_); refine k_call _ _ _ rfl (fun w' => by go_simp) (TT (trn a) (blk_wf _)) ?_; go_simp; refine hK _ ?_; clear hK K
      refine wpQuiet_step (fun K hK => ?_); refine k_ld rfl _ rfl _ rfl LA ?_; go_simp; refine hK _ ?_; clear hK K
      refine wpQuiet_step (fun K hK => ?_); refine k_val (.bool true) rfl (fun w' _ => by go_simp) ?_; go_simp; refine hK _ ?_; clear hK K
      refine wpQuiet_step (fun K hK => ?_); refine k_val (.bool true) rfl (fun w' _ => by go_simp) ?_; go_simp; refine hK _ ?_; clear hK K
      refine wpQuiet_step (fun K hK => ?_); refine k_ld rfl _ rfl _ rfl LA ?_; go_simp; refine hK _ ?_; clear hK K
      refine wpQuiet_step (fun K hK => ?_); refine k_ld rfl _ rfl _ rfl LB ?_; go_simp; refine hK _ ?_; clear hK K
      refine wpQuiet_step (fun K hK => ?_); refine k_call _ _ _ rfl (fun w' => by go_simp) (MM a b ha hb) ?_; go_simp; refine hK _ ?_; clear hK K
      refine wpQuiet_step (fun K hK => ?_); refine k_call _ _ _ rfl (fun w' => by go_simp) (TT (prod a b) (blk_wf _)) ?_; go_simp; refine hK _ ?_; clear hK K
      refine wpQuiet_step (fun K hK => ?_); refine k_ld rfl _ rfl _ rfl LB ?_; go_simp; refine hK _ ?_; clear hK K
      refine wpQuiet_step (fun K hK => ?_); refine k_call _ _ _ rfl (fun w' => by go_simp) (TT b hb) ?_; go_simp; refine hK _ ?_; clear hK K
      refine wpQuiet_step (fun K hK => ?_); refine k_ld rfl _ rfl _ rfl LT ?_; go_simp; refine hK _ ?_; clear hK K
      refine wpQuiet_step (fun K hK => ?_); refine k_call _ _ _ rfl (fun w' => by go_simp) (MM (trn b) (trn a) (blk_wf _) (blk_wf _)) ?_; go_simp; refine hK _ ?_; clear hK K
      refine wpQuiet_step (fun K hK => ?_); refine k_val (.bool true) rfl (fun w' _ => by go_simp) ?_; go_simp; refine hK _ ?_; clear hK K
      refine wpQuiet_step (fun K hK => ?_); refine k_val (.bool true) rfl (fun w' _ => by go_simp) ?_; go_simp; refine hK _ ?_; clear hK K
      refine wpQuiet_step (fun K hK => ?_); refine k_val (.bool true) rfl (fun w' _ => by go_simp) ?_; go_simp; refine hK _ ?_; clear hK K
      refine wpQuiet_step (fun K hK => ?_); refine k_call _ _ _ rfl (fun w' => by go_simp) (AW) ?_; go_simp; refine hK _ ?_; clear hK K
      refine wpQuiet_step (fun K hK => ?_); refine k_val (.bool true) rfl (fun w' _ => by go_simp) ?_; go_simp; refine hK _ ?_; clear hK K
      refine wpQuiet_step (fun K hK => ?_); refine k_val (.bool true) rfl (fun w' _ => by go_simp) ?_; go_simp; refine hK _ ?_; clear hK K
      refine wpQuiet_nil ?_
      intro w9 hb9
      have db9 := db6.trans (hb9.mono db6.size)
      clear hb9 db6
      go_wp2_with fail
      go_ret
      exact ⟨rfl, db9⟩
end
end Go.Proofs.YtbcklcikmhpclaaDoor
