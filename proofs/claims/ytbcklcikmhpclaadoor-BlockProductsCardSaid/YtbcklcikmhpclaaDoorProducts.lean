/-
  The law BlockProducts, walked.
-/
import Derived.Test.YtbcklcikmhpclaaDoorQuiet
import Derived.Test.YtbcklcikmhpclaaDoorClose
import Derived.Test.YtbcklcikmhpclaaDoorRefClose
import Derived.Test.YtbcklcikmhpclaaDoorAwake
namespace Go.Proofs.YtbcklcikmhpclaaDoor
open Go.RowKit
set_option linter.unusedVariables false
set_option linter.unusedSimpArgs false
section
set_option maxHeartbeats 8000000
set_option maxRecDepth 100000
theorem products_law (v1 v2 : Value) (n1 n2 : Nat) (R1 C1 R2 C2 : Nat → Int) (w : World) (hT : Tab w)
    (h1 : IsCells w v1 n1 R1 C1) (h2 : IsCells w v2 n2 R2 C2) (k1 : n1 ≤ 9223372036854775807) (k2 : n2 ≤ 9223372036854775807) :
    Calls Tryd.prog 4 #[v1, v2] w fun e w' => e = .returned (.bool true) ∧ Below w.heap.size w w' := by
  have hz : ∀ w, (zeroValue 25).run Tryd.prog w = .ok (.agg (Rw fun _ => 0)) w := (zero_of_info blockZero).1
  have F1 := Lib.hid (fold_of h1 k1)
  have F2 := Lib.hid fun w' (hb : Below w.heap.size w w') => fold_of (h2.stays hb) k2
  have HT := Lib.hid hT
  have ha := foldB_wf R1 C1 n1
  have hb := foldB_wf R2 C2 n2
  clear h1 h2 hT
  generalize foldB R1 C1 n1 = a at *
  generalize foldB R2 C2 n2 = b at *
  go_enter Tryd.func4, Tryd.ntmps4
  go_wp2_with fail
  refine F1.out.mono ?_
  rintro e w1 ⟨rfl, hb1⟩
  go_wp2_with fail
  refine (F2.out w1 hb1).mono ?_
  rintro e w3 ⟨rfl, hb2⟩
  have db3 := hb1.trans (hb2.mono hb1.size)
  have s3 := db3.size
  clear hb1 hb2
  go_wp2_with (first | (apply wpList_ld rfl _ rfl _ rfl; focus ((repeat' (first | (with_reducible assumption) | ((with_reducible refine Hold.new ?_); first | (with_reducible rfl) | (simp; done)) | (with_reducible apply Hold.alloc) | (with_reducible apply Hold.row) | ((with_reducible apply Hold.other); rotate_left; focus (first | omega | (simp; omega))))); done)) | (apply wpList_st rfl _ _ rfl _ rfl _ rfl; focus ((repeat' (first | (with_reducible assumption) | ((with_reducible refine Hold.new ?_); first | (with_reducible rfl) | (simp; done)) | (with_reducible apply Hold.alloc) | (with_reducible apply Hold.row) | ((with_reducible apply Hold.other); rotate_left; focus (first | omega | (simp; omega))))); done)) | (refine wpList_bd rfl rfl ?_))
  have aW : Hold ((((w3.alloc (.cells (Rw fun _ => 0) 25)).alloc (.cells (Rw fun _ => 0) 25)).setRow w3.heap.size (Rw a)).setRow (w3.heap.size + 1) (Rw b)) w3.heap.size (Rw a) := Hold.other (Hold.row ((Hold.new rfl).alloc _) _) (by omega) _
  have bW : Hold ((((w3.alloc (.cells (Rw fun _ => 0) 25)).alloc (.cells (Rw fun _ => 0) 25)).setRow w3.heap.size (Rw a)).setRow (w3.heap.size + 1) (Rw b)) (w3.heap.size + 1) (Rw b) := Hold.row (Hold.other (Hold.new (by simp)) (by omega) _) _
  have dbW := Below.row (Below.row ((db3.alloc s3 (.cells (Rw fun _ => 0) 25)).alloc (by simp; omega) (.cells (Rw fun _ => 0) 25)) s3 (Rw a)) (by omega : w.heap.size ≤ w3.heap.size + 1) (Rw b)
  clear db3
  generalize (((w3.alloc (.cells (Rw fun _ => 0) 25)).alloc (.cells (Rw fun _ => 0) 25)).setRow w3.heap.size (Rw a)).setRow (w3.heap.size + 1) (Rw b) = W at *
  have LA := fun w' (h : Below W.heap.size W w') => Hold.below aW h aW.lt
  have LB := fun w' (h : Below W.heap.size W w') => Hold.below bW h bW.lt
  have TW := HT.out.stays dbW
  have MM := fun w' (h : Below W.heap.size W w') => in_class h (mul_any a b w' ha hb (TW.stays h)) h.size
  have MR := fun w' (h : Below W.heap.size W w') => in_class h (rmul_any a b w' ha hb) h.size
  have CC := fun w' (h : Below W.heap.size W w') => in_class h (close_any a w' ha (TW.stays h)) h.size
  have CR := fun w' (h : Below W.heap.size W w') => in_class h (rclose_any a w' ha) h.size
  have AW := fun w' (h : Below W.heap.size W w') => in_class h (awake_any w') h.size
  have E1 := eq_self (blk (mulS a b))
  have E2 := eq_self (blk (closS a))
  clear aW bW
  go_wp2_with fail
  refine quiet_reg (show Below W.heap.size W W from Below.refl _ W) (by kernel_rfl) (by kernel_rfl) ?_
  refine wpQuiet_step (fun K hK => ?_); refine k_ld rfl _ rfl _ rfl LA ?_; go_simp; refine hK _ ?_; clear hK K
  refine wpQuiet_step (fun K hK => ?_); refine k_ld rfl _ rfl _ rfl LB ?_; go_simp; refine hK _ ?_; clear hK K
  refine wpQuiet_step (fun K hK => ?_); refine k_call _ _ _ rfl (fun w' => by go_simp) (MM) ?_; go_simp; refine hK _ ?_; clear hK K
  refine wpQuiet_step (fun K hK => ?_); refine k_ld rfl _ rfl _ rfl LA ?_; go_simp; refine hK _ ?_; clear hK K
  refine wpQuiet_step (fun K hK => ?_); refine k_ld rfl _ rfl _ rfl LB ?_; go_simp; refine hK _ ?_; clear hK K
  refine wpQuiet_step (fun K hK => ?_); refine k_call _ _ _ rfl (fun w' => by go_simp) (MR) ?_; go_simp; refine hK _ ?_; clear hK K
  refine wpQuiet_step (fun K hK => ?_); refine k_val (.bool true) rfl (fun w' _ => by go_simp) ?_; go_simp; refine hK _ ?_; clear hK K
  refine wpQuiet_step (fun K hK => ?_); refine k_val (.bool true) rfl (fun w' _ => by go_simp) ?_; go_simp; refine hK _ ?_; clear hK K
  refine wpQuiet_step (fun K hK => ?_); refine k_ld rfl _ rfl _ rfl LA ?_; go_simp; refine hK _ ?_; clear hK K
  refine wpQuiet_step (fun K hK => ?_); refine k_call _ _ _ rfl (fun w' => by go_simp) (CC) ?_; go_simp; refine hK _ ?_; clear hK K
  refine wpQuiet_step (fun K hK => ?_); refine k_ld rfl _ rfl _ rfl LA ?_; go_simp; refine hK _ ?_; clear hK K
  refine wpQuiet_step (fun K hK => ?_); refine k_call _ _ _ rfl (fun w' => by go_simp) (CR) ?_; go_simp; refine hK _ ?_; clear hK K
  refine wpQuiet_step (fun K hK => ?_); refine k_val (.bool true) rfl (fun w' _ => by go_simp) ?_; go_simp; refine hK _ ?_; clear hK K
  refine wpQuiet_step (fun K hK => ?_); refine k_val (.bool true) rfl (fun w' _ => by go_simp) ?_; go_simp; refine hK _ ?_; clear hK K
  refine wpQuiet_step (fun K hK => ?_); refine k_val (.bool true) rfl (fun w' _ => by go_simp) ?_; go_simp; refine hK _ ?_; clear hK K
  refine wpQuiet_step (fun K hK => ?_); refine k_call _ _ _ rfl (fun w' => by go_simp) (AW) ?_; go_simp; refine hK _ ?_; clear hK K
  refine wpQuiet_step (fun K hK => ?_); refine k_val (.bool true) rfl (fun w' _ => by go_simp) ?_; go_simp; refine hK _ ?_; clear hK K
  refine wpQuiet_step (fun K hK => ?_); refine k_val (.bool true) rfl (fun w' _ => by go_simp) ?_; go_simp; refine hK _ ?_; clear hK K
  refine wpQuiet_nil ?_
  intro wz hbz
  have dbz := dbW.trans (hbz.mono dbW.size)
  clear hbz dbW
  go_wp2_with fail
  go_ret
  exact ⟨rfl, dbz⟩
end
end Go.Proofs.YtbcklcikmhpclaaDoor
