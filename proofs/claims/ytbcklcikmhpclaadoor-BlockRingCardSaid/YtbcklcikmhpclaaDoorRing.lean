/-
  The law BlockRing, walked.
-/
import Derived.Test.YtbcklcikmhpclaaDoorAlg
import Derived.Test.YtbcklcikmhpclaaDoorQuiet
import Derived.Test.YtbcklcikmhpclaaDoorAwake
namespace Go.Proofs.YtbcklcikmhpclaaDoor
open Go.RowKit
set_option linter.unusedVariables false
set_option linter.unusedSimpArgs false
section
set_option maxHeartbeats 8000000
set_option maxRecDepth 100000
theorem ring_law (v1 v2 v3 : Value) (n1 n2 n3 : Nat) (R1 C1 R2 C2 R3 C3 : Nat → Int) (w : World) (hT : Tab w)
    (h1 : IsCells w v1 n1 R1 C1) (h2 : IsCells w v2 n2 R2 C2) (h3 : IsCells w v3 n3 R3 C3) (k1 : n1 ≤ 9223372036854775807) (k2 : n2 ≤ 9223372036854775807) (k3 : n3 ≤ 9223372036854775807) :
    Calls Tryd.prog 5 #[v1, v2, v3] w fun e w' => e = .returned (.bool true) ∧ Below w.heap.size w w' := by
  have hz : ∀ w, (zeroValue 25).run Tryd.prog w = .ok (.agg (Rw fun _ => 0)) w := (zero_of_info blockZero).1
  have F1 := Lib.hid (fold_of h1 k1)
  have F2 := Lib.hid fun w' (hb : Below w.heap.size w w') => fold_of (h2.stays hb) k2
  have F3 := Lib.hid fun w' (hb : Below w.heap.size w w') => fold_of (h3.stays hb) k3
  have HT := Lib.hid hT
  have ha := foldB_wf R1 C1 n1
  have hb := foldB_wf R2 C2 n2
  have hc := foldB_wf R3 C3 n3
  clear h1 h2 h3 hT
  generalize foldB R1 C1 n1 = a at *
  generalize foldB R2 C2 n2 = b at *
  generalize foldB R3 C3 n3 = c at *
  go_enter Tryd.func5, Tryd.ntmps5
  go_wp2_with fail
  refine F1.out.mono ?_
  rintro e w1 ⟨rfl, hb1⟩
  go_wp2_with fail
  refine (F2.out w1 hb1).mono ?_
  rintro e w2 ⟨rfl, hb2⟩
  have db2 := hb1.trans (hb2.mono hb1.size)
  clear hb1 hb2
  go_wp2_with fail
  refine (F3.out w2 db2).mono ?_
  rintro e w3 ⟨rfl, hb3⟩
  have db3 := db2.trans (hb3.mono db2.size)
  have s3 := db3.size
  clear db2 hb3
  go_wp2_with (first | (apply wpList_ld rfl _ rfl _ rfl; focus ((repeat' (first | (with_reducible assumption) | (refine Hold.new ?_; first | rfl | (simp; done)) | (refine Hold.alloc ?_ _) | (apply Hold.row) | (refine Hold.other ?_ ?_ _; rotate_left; focus (first | omega | (simp; omega))))); done)) | (apply wpList_st rfl _ _ rfl _ rfl _ rfl; focus ((repeat' (first | (with_reducible assumption) | (refine Hold.new ?_; first | rfl | (simp; done)) | (refine Hold.alloc ?_ _) | (apply Hold.row) | (refine Hold.other ?_ ?_ _; rotate_left; focus (first | omega | (simp; omega))))); done)) | (refine wpList_bd rfl rfl ?_))
  refine (one_any _).mono ?_
  rintro e w5 ⟨rfl, hb5⟩
  have a5 : Hold w5 w3.heap.size (Rw a) := Hold.below (Hold.other (Hold.other (Hold.row (((Hold.new rfl).alloc _).alloc _) _) (by omega) _) (by omega) _) hb5 (by simp; omega)
  have b5 : Hold w5 (w3.heap.size + 1) (Rw b) := Hold.below (Hold.other (Hold.row (Hold.other ((Hold.new (by simp)).alloc _) (by omega) _) _) (by omega) _) hb5 (by simp)
  have c5 : Hold w5 (w3.heap.size + 2) (Rw c) := Hold.below (Hold.row (Hold.other (Hold.other (Hold.new (by simp)) (by omega) _) (by omega) _) _) hb5 (by simp)
  have db5 : Below w.heap.size w w5 := (Below.row (Below.row (Below.row (((db3.alloc s3 _).alloc (by simp; omega) _).alloc (by simp; omega) _) s3 _) (by omega) _) (by omega) _).trans (hb5.mono (by simp; omega))
  clear hb5 db3
  have l5 := c5.lt
  have s5 := db5.size
  go_wp2_with (first | (apply wpList_ld rfl _ rfl _ rfl; focus ((repeat' (first | (with_reducible assumption) | (refine Hold.new ?_; first | rfl | (simp; done)) | (refine Hold.alloc ?_ _) | (apply Hold.row) | (refine Hold.other ?_ ?_ _; rotate_left; focus (first | omega | (simp; omega))))); done)) | (apply wpList_st rfl _ _ rfl _ rfl _ rfl; focus ((repeat' (first | (with_reducible assumption) | (refine Hold.new ?_; first | rfl | (simp; done)) | (refine Hold.alloc ?_ _) | (apply Hold.row) | (refine Hold.other ?_ ?_ _; rotate_left; focus (first | omega | (simp; omega))))); done)) | (refine wpList_bd rfl rfl ?_))
  have a6 : Hold ((w5.alloc (.cells (Rw fun _ => 0) 25)).setRow w5.heap.size (Rw pw)) w3.heap.size (Rw a) := (a5.alloc _).other (by omega) _
  have b6 : Hold ((w5.alloc (.cells (Rw fun _ => 0) 25)).setRow w5.heap.size (Rw pw)) (w3.heap.size + 1) (Rw b) := (b5.alloc _).other (by omega) _
  have c6 : Hold ((w5.alloc (.cells (Rw fun _ => 0) 25)).setRow w5.heap.size (Rw pw)) (w3.heap.size + 2) (Rw c) := (c5.alloc _).other (by omega) _
  have o6 : Hold ((w5.alloc (.cells (Rw fun _ => 0) 25)).setRow w5.heap.size (Rw pw)) w5.heap.size (Rw pw) := Hold.row (Hold.new rfl) _
  have db6 := Below.row (db5.alloc s5 (.cells (Rw fun _ => 0) 25)) s5 (Rw pw)
  clear a5 b5 c5 db5
  generalize (w5.alloc (.cells (Rw fun _ => 0) 25)).setRow w5.heap.size (Rw pw) = W at *
  have T6 := HT.out.stays db6
  have LA := fun w' (h : Below W.heap.size W w') => Hold.below a6 h a6.lt
  have LB := fun w' (h : Below W.heap.size W w') => Hold.below b6 h b6.lt
  have LC := fun w' (h : Below W.heap.size W w') => Hold.below c6 h c6.lt
  have LO := fun w' (h : Below W.heap.size W w') => Hold.below o6 h o6.lt
  have MM := fun (f g : Nat → Nat) (hf : Wf f) (hg : Wf g) w' (h : Below W.heap.size W w') => in_class h (mul_any f g w' hf hg (T6.stays h)) h.size
  have OO := fun (f g : Nat → Nat) (hf : Wf f) (hg : Wf g) w' (h : Below W.heap.size W w') => in_class h (or_any f g w' hf hg) h.size
  have E1 := eq_blk (prod_assoc a b c)
  have E2 := eq_blk (prod_one_left a ha)
  have E3 := eq_blk (prod_one_right a ha)
  have E4 := eq_blk (prod_uni_right a b c)
  have E5 := eq_blk (prod_uni_left a b c)
  refine quiet_reg (Below.refl W.heap.size W) (by kernel_rfl) (by kernel_rfl) ?_
  refine wpQuiet_step (fun K hK => ?_); refine k_ld rfl _ rfl _ rfl LA ?_; go_simp; refine hK _ ?_; clear hK K
  refine wpQuiet_step (fun K hK => ?_); refine k_ld rfl _ rfl _ rfl LB ?_; go_simp; refine hK _ ?_; clear hK K
  refine wpQuiet_step (fun K hK => ?_); refine k_call _ _ _ rfl (fun w' => by go_simp) (MM (a) (b) (ha) (hb)) ?_; go_simp; refine hK _ ?_; clear hK K
  refine wpQuiet_step (fun K hK => ?_); refine k_ld rfl _ rfl _ rfl LC ?_; go_simp; refine hK _ ?_; clear hK K
  refine wpQuiet_step (fun K hK => ?_); refine k_call _ _ _ rfl (fun w' => by go_simp) (MM (prod a b) (c) (blk_wf _) (hc)) ?_; go_simp; refine hK _ ?_; clear hK K
  refine wpQuiet_step (fun K hK => ?_); refine k_ld rfl _ rfl _ rfl LA ?_; go_simp; refine hK _ ?_; clear hK K
  refine wpQuiet_step (fun K hK => ?_); refine k_ld rfl _ rfl _ rfl LB ?_; go_simp; refine hK _ ?_; clear hK K
  refine wpQuiet_step (fun K hK => ?_); refine k_ld rfl _ rfl _ rfl LC ?_; go_simp; refine hK _ ?_; clear hK K
  refine wpQuiet_step (fun K hK => ?_); refine k_call _ _ _ rfl (fun w' => by go_simp) (MM (b) (c) (hb) (hc)) ?_; go_simp; refine hK _ ?_; clear hK K
  refine wpQuiet_step (fun K hK => ?_); refine k_call _ _ _ rfl (fun w' => by go_simp) (MM (a) (prod b c) (ha) (blk_wf _)) ?_; go_simp; refine hK _ ?_; clear hK K
  refine wpQuiet_step (fun K hK => ?_); refine k_val (.bool false) rfl (fun w' _ => by go_simp) ?_; go_simp; refine hK _ ?_; clear hK K
  refine wpQuiet_step (fun K hK => ?_); refine k_val (.bool false) rfl (fun w' _ => by go_simp) ?_; go_simp; refine hK _ ?_; clear hK K
  refine wpQuiet_step (fun K hK => ?_); refine k_ld rfl _ rfl _ rfl LO ?_; go_simp; refine hK _ ?_; clear hK K
  refine wpQuiet_step (fun K hK => ?_); refine k_ld rfl _ rfl _ rfl LA ?_; go_simp; refine hK _ ?_; clear hK K
  refine wpQuiet_step (fun K hK => ?_); refine k_call _ _ _ rfl (fun w' => by go_simp) (MM (pw) (a) (pw_wf) (ha)) ?_; go_simp; refine hK _ ?_; clear hK K
  refine wpQuiet_step (fun K hK => ?_); refine k_ld rfl _ rfl _ rfl LA ?_; go_simp; refine hK _ ?_; clear hK K
  refine wpQuiet_step (fun K hK => ?_); refine k_val (.bool false) rfl (fun w' _ => by go_simp) ?_; go_simp; refine hK _ ?_; clear hK K
  refine wpQuiet_step (fun K hK => ?_); refine k_val (.bool false) rfl (fun w' _ => by go_simp) ?_; go_simp; refine hK _ ?_; clear hK K
  refine wpQuiet_step (fun K hK => ?_); refine k_val (.bool false) rfl (fun w' _ => by go_simp) ?_; go_simp; refine hK _ ?_; clear hK K
  refine wpQuiet_step (fun K hK => ?_); refine k_ld rfl _ rfl _ rfl LA ?_; go_simp; refine hK _ ?_; clear hK K
  refine wpQuiet_step (fun K hK => ?_); refine k_ld rfl _ rfl _ rfl LO ?_; go_simp; refine hK _ ?_; clear hK K
  refine wpQuiet_step (fun K hK => ?_); refine k_call _ _ _ rfl (fun w' => by go_simp) (MM (a) (pw) (ha) (pw_wf)) ?_; go_simp; refine hK _ ?_; clear hK K
  refine wpQuiet_step (fun K hK => ?_); refine k_ld rfl _ rfl _ rfl LA ?_; go_simp; refine hK _ ?_; clear hK K
  refine wpQuiet_step (fun K hK => ?_); refine k_val (.bool false) rfl (fun w' _ => by go_simp) ?_; go_simp; refine hK _ ?_; clear hK K
  refine wpQuiet_step (fun K hK => ?_); refine k_val (.bool false) rfl (fun w' _ => by go_simp) ?_; go_simp; refine hK _ ?_; clear hK K
  refine wpQuiet_nil ?_
  intro w7 hb7
  go_wp2_with fail
  refine quiet_reg hb7 (by kernel_rfl) (by kernel_rfl) ?_
  clear hb7
  refine wpQuiet_step (fun K hK => ?_); refine k_ld rfl _ rfl _ rfl LA ?_; go_simp; refine hK _ ?_; clear hK K
  refine wpQuiet_step (fun K hK => ?_); refine k_ld rfl _ rfl _ rfl LB ?_; go_simp; refine hK _ ?_; clear hK K
  refine wpQuiet_step (fun K hK => ?_); refine k_ld rfl _ rfl _ rfl LC ?_; go_simp; refine hK _ ?_; clear hK K
  refine wpQuiet_step (fun K hK => ?_); refine k_call _ _ _ rfl (fun w' => by go_simp) (OO (b) (c) (hb) (hc)) ?_; go_simp; refine hK _ ?_; clear hK K
  refine wpQuiet_step (fun K hK => ?_); refine k_call _ _ _ rfl (fun w' => by go_simp) (MM (a) (uni b c) (ha) (uni_wf hb hc)) ?_; go_simp; refine hK _ ?_; clear hK K
  refine wpQuiet_step (fun K hK => ?_); refine k_ld rfl _ rfl _ rfl LA ?_; go_simp; refine hK _ ?_; clear hK K
  refine wpQuiet_step (fun K hK => ?_); refine k_ld rfl _ rfl _ rfl LB ?_; go_simp; refine hK _ ?_; clear hK K
  refine wpQuiet_step (fun K hK => ?_); refine k_call _ _ _ rfl (fun w' => by go_simp) (MM (a) (b) (ha) (hb)) ?_; go_simp; refine hK _ ?_; clear hK K
  refine wpQuiet_step (fun K hK => ?_); refine k_ld rfl _ rfl _ rfl LA ?_; go_simp; refine hK _ ?_; clear hK K
  refine wpQuiet_step (fun K hK => ?_); refine k_ld rfl _ rfl _ rfl LC ?_; go_simp; refine hK _ ?_; clear hK K
  refine wpQuiet_step (fun K hK => ?_); refine k_call _ _ _ rfl (fun w' => by go_simp) (MM (a) (c) (ha) (hc)) ?_; go_simp; refine hK _ ?_; clear hK K
  refine wpQuiet_step (fun K hK => ?_); refine k_call _ _ _ rfl (fun w' => by go_simp) (OO (prod a b) (prod a c) (blk_wf _) (blk_wf _)) ?_; go_simp; refine hK _ ?_; clear hK K
  refine wpQuiet_step (fun K hK => ?_); refine k_val (.bool true) rfl (fun w' _ => by go_simp) ?_; go_simp; refine hK _ ?_; clear hK K
  refine wpQuiet_step (fun K hK => ?_); refine k_val (.bool true) rfl (fun w' _ => by go_simp) ?_; go_simp; refine hK _ ?_; clear hK K
  refine wpQuiet_nil ?_
  intro w8 hb8
  go_wp2_with fail
  refine quiet_reg hb8 (by kernel_rfl) (by kernel_rfl) ?_
  clear hb8
  refine wpQuiet_step (fun K hK => ?_); refine k_ld rfl _ rfl _ rfl LA ?_; go_simp; refine hK _ ?_; clear hK K
  refine wpQuiet_step (fun K hK => ?_); refine k_ld rfl _ rfl _ rfl LB ?_; go_simp; refine hK _ ?_; clear hK K
  refine wpQuiet_step (fun K hK => ?_); refine k_call _ _ _ rfl (fun w' => by go_simp) (OO (a) (b) (ha) (hb)) ?_; go_simp; refine hK _ ?_; clear hK K
  refine wpQuiet_step (fun K hK => ?_); refine k_ld rfl _ rfl _ rfl LC ?_; go_simp; refine hK _ ?_; clear hK K
  refine wpQuiet_step (fun K hK => ?_); refine k_call _ _ _ rfl (fun w' => by go_simp) (MM (uni a b) (c) (uni_wf ha hb) (hc)) ?_; go_simp; refine hK _ ?_; clear hK K
  refine wpQuiet_step (fun K hK => ?_); refine k_ld rfl _ rfl _ rfl LA ?_; go_simp; refine hK _ ?_; clear hK K
  refine wpQuiet_step (fun K hK => ?_); refine k_ld rfl _ rfl _ rfl LC ?_; go_simp; refine hK _ ?_; clear hK K
  refine wpQuiet_step (fun K hK => ?_); refine k_call _ _ _ rfl (fun w' => by go_simp) (MM (a) (c) (ha) (hc)) ?_; go_simp; refine hK _ ?_; clear hK K
  refine wpQuiet_step (fun K hK => ?_); refine k_ld rfl _ rfl _ rfl LB ?_; go_simp; refine hK _ ?_; clear hK K
  refine wpQuiet_step (fun K hK => ?_); refine k_ld rfl _ rfl _ rfl LC ?_; go_simp; refine hK _ ?_; clear hK K
  refine wpQuiet_step (fun K hK => ?_); refine k_call _ _ _ rfl (fun w' => by go_simp) (MM (b) (c) (hb) (hc)) ?_; go_simp; refine hK _ ?_; clear hK K
  refine wpQuiet_step (fun K hK => ?_); refine k_call _ _ _ rfl (fun w' => by go_simp) (OO (prod a c) (prod b c) (blk_wf _) (blk_wf _)) ?_; go_simp; refine hK _ ?_; clear hK K
  refine wpQuiet_step (fun K hK => ?_); refine k_val (.bool true) rfl (fun w' _ => by go_simp) ?_; go_simp; refine hK _ ?_; clear hK K
  refine wpQuiet_step (fun K hK => ?_); refine k_val (.bool true) rfl (fun w' _ => by go_simp) ?_; go_simp; refine hK _ ?_; clear hK K
  refine wpQuiet_nil ?_
  intro w9 hb9
  have db9 := db6.trans (hb9.mono db6.size)
  clear hb9 db6
  go_wp2_with fail
  refine (awake_any _).mono ?_
  rintro e w10 ⟨rfl, hb10⟩
  have db10 := db9.trans (hb10.mono db9.size)
  go_wp2_with fail
  go_ret
  exact ⟨rfl, db10⟩
end
end Go.Proofs.YtbcklcikmhpclaaDoor
