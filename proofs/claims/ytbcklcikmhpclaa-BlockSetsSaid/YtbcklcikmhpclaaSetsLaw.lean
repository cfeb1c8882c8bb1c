/-
  The law BlockSets, walked.
-/
import Derived.Test.YtbcklcikmhpclaaQuiet
import Derived.Test.YtbcklcikmhpclaaRefSets
import Derived.Test.YtbcklcikmhpclaaRefCorner
import Derived.Test.YtbcklcikmhpclaaRefTurn
import Derived.Test.YtbcklcikmhpclaaTurned
import Derived.Test.YtbcklcikmhpclaaAwake
namespace Go.Proofs.Ytbcklcikmhpclaa
open Go.RowKit
set_option linter.unusedVariables false
set_option linter.unusedSimpArgs false
theorem corner_both (f : Nat → Nat) (hf : Wf f) (r c : Int) : ∃ (g : Nat → Nat) (k : Int),
    (∀ w : World, Calls Try.prog 16 #[.agg (Rw f), .int .i64 r, .int .i64 c] w fun e w' => e = .returned (.tuple #[.agg (Rw g), .int .i64 k]) ∧ Below w.heap.size w w') ∧
    (∀ w : World, Calls Try.prog 17 #[.agg (Rw f), .int .i64 r, .int .i64 c] w fun e w' => e = .returned (.tuple #[.agg (Rw g), .int .i64 k]) ∧ Below w.heap.size w w') := by
  by_cases h : r < 0 ∨ 64 < r ∨ c < 0 ∨ 64 < c
  · exact ⟨_, _, fun w => corner_no f r c w h, fun w => rcorner_no f r c w h⟩
  · obtain ⟨r, rfl⟩ : ∃ n : Nat, r = n := ⟨r.toNat, by omega⟩
    obtain ⟨c, rfl⟩ : ∃ n : Nat, c = n := ⟨c.toNat, by omega⟩
    exact ⟨_, _, fun w => corner_yes f r c w hf (by omega) (by omega), fun w => rcorner_yes f r c w hf (by omega) (by omega)⟩
theorem or_blk {f g : Nat → Nat} (hf : Wf f) (hg : Wf g) : Rw (fun i => f i ||| g i) = Rw (blk fun r c => bt f r c || bt g r c) :=
  Rw_blk (fun i hi => Nat.or_lt_two_pow (n := 64) (hf i hi) (hg i hi)) fun r c _ _ => Nat.testBit_or _ _ _
theorem and_blk {f g : Nat → Nat} (hf : Wf f) (hg : Wf g) : Rw (fun i => f i &&& g i) = Rw (blk fun r c => bt f r c && bt g r c) :=
  Rw_blk (fun i hi => Nat.lt_of_le_of_lt Nat.and_le_left (hf i hi)) fun r c _ _ => Nat.testBit_and _ _ _
theorem less_blk {f g : Nat → Nat} (hf : Wf f) (hg : Wf g) : Rw (fun i => less (f i) (g i)) = Rw (blk fun r c => bt f r c && !bt g r c) :=
  Rw_blk (fun i hi => Nat.lt_of_le_of_lt Nat.and_le_left (hf i hi)) fun r c _ hc => by
    unfold less bt
    rw [Nat.testBit_and, Nat.testBit_xor, show (18446744073709551615 : Nat) = 2 ^ 64 - 1 from rfl, Nat.testBit_two_pow_sub_one]
    simp [hc]
section
set_option maxHeartbeats 8000000
set_option maxRecDepth 100000
theorem sets_law (v1 v2 : Value) (n1 n2 : Nat) (R1 C1 R2 C2 : Nat → Int) (r c : Int) (w : World)
    (h1 : IsCells w v1 n1 R1 C1) (h2 : IsCells w v2 n2 R2 C2) (k1 : n1 ≤ 9223372036854775807) (k2 : n2 ≤ 9223372036854775807) :
    Calls Try.prog 4 #[v1, v2, .int .i64 r, .int .i64 c] w fun e w' => e = .returned (.bool true) ∧ Below w.heap.size w w' := by
  have hz : ∀ w, (zeroValue 25).run Try.prog w = .ok (.agg (Rw fun _ => 0)) w := (zero_of_info blockZero).1
  have F1 := Lib.hid (fold_of h1 k1)
  have F2 := Lib.hid fun w' (hb : Below w.heap.size w w') => fold_of (h2.stays hb) k2
  have ha := foldB_wf R1 C1 n1
  have hb := foldB_wf R2 C2 n2
  clear h1 h2
  generalize foldB R1 C1 n1 = a at *
  generalize foldB R2 C2 n2 = b at *
  obtain ⟨g, k, q1, q2⟩ := corner_both a ha r c
  have G1 := Lib.hid q1
  have G2 := Lib.hid q2
  clear q1 q2
  go_enter Try.func4, Try.ntmps4
  go_wp2_with fail
  refine F1.out.mono ?_
  rintro e w1 ⟨rfl, hb1⟩
  go_wp2_with fail
  refine (F2.out w1 hb1).mono ?_
  rintro e w3 ⟨rfl, hb2⟩
  have db3 := hb1.trans (hb2.mono hb1.size)
  have s3 := db3.size
  clear hb1 hb2
  go_wp2_with (first | (apply wpList_ld rfl _ rfl _ rfl; focus ((repeat' (first | (with_reducible assumption) | ((with_reducible refine Hold.new ?_); first | (with_reducible rfl) | (simp; done)) | (with_reducible apply Hold.alloc) | (with_reducible apply Hold.row) | ((with_reducible apply Hold.other); rotate_left; focus (first | omega | (simp; omega))))); done)) | (apply wpList_st rfl _ _ rfl _ rfl _ rfl; focus ((repeat' (first | (with_reducible assumption) | ((with_reducible refine Hold.new ?_); first | (with_reducible rfl) | (simp; done)) | (with_reducible apply Hold.alloc) | (with_reducible apply Hold.row) | ((with_reducible apply Hold.other); rotate_left; focus (first | omega | (simp; omega))))); done)) | (refine wpList_bd rfl rfl ?_))
  refine (sets_any a b _ ha hb).mono ?_
  rintro e w5 ⟨rfl, hb5⟩
  have a5 : Hold w5 w3.heap.size (Rw a) := Hold.below (Hold.other (Hold.row ((Hold.new rfl).alloc _) _) (by omega) _) hb5 (by simp; omega)
  have b5 : Hold w5 (w3.heap.size + 1) (Rw b) := Hold.below (Hold.row (Hold.other (Hold.new (by simp)) (by omega) _) _) hb5 (by simp)
  have db5 : Below w.heap.size w w5 := (Below.row (Below.row ((db3.alloc s3 _).alloc (by simp; omega) _) s3 _) (by omega) _).trans (hb5.mono (by simp; omega))
  clear hb5 db3
  have l5 := b5.lt
  have s5 := db5.size
  go_wp2_with (first | (apply wpList_ld rfl _ rfl _ rfl; focus ((repeat' (first | (with_reducible assumption) | ((with_reducible refine Hold.new ?_); first | (with_reducible rfl) | (simp; done)) | (with_reducible apply Hold.alloc) | (with_reducible apply Hold.row) | ((with_reducible apply Hold.other); rotate_left; focus (first | omega | (simp; omega))))); done)) | (apply wpList_st rfl _ _ rfl _ rfl _ rfl; focus ((repeat' (first | (with_reducible assumption) | ((with_reducible refine Hold.new ?_); first | (with_reducible rfl) | (simp; done)) | (with_reducible apply Hold.alloc) | (with_reducible apply Hold.row) | ((with_reducible apply Hold.other); rotate_left; focus (first | omega | (simp; omega))))); done)) | (refine wpList_bd rfl rfl ?_))
  refine (G1.out _).mono ?_
  rintro e w7 ⟨rfl, hb7⟩
  have a7 : Hold w7 w3.heap.size (Rw a) := Hold.below (Hold.other (Hold.other (Hold.other (((a5.alloc _).alloc _).alloc _) (by omega) _) (by omega) _) (by omega) _) hb7 (by simp; omega)
  have b7 : Hold w7 (w3.heap.size + 1) (Rw b) := Hold.below (Hold.other (Hold.other (Hold.other (((b5.alloc _).alloc _).alloc _) (by omega) _) (by omega) _) (by omega) _) hb7 (by simp; omega)
  have o7 : Hold w7 w5.heap.size (Rw (blk fun r c => bt a r c || bt b r c)) := Hold.below (Hold.other (Hold.other (Hold.row (((Hold.new rfl).alloc _).alloc _) _) (by omega) _) (by omega) _) hb7 (by simp; omega)
  have n7 : Hold w7 (w5.heap.size + 1) (Rw (blk fun r c => bt a r c && bt b r c)) := Hold.below (Hold.other (Hold.row (Hold.other (Hold.alloc (Hold.new (by simp)) _) (by omega) _) _) (by omega) _) hb7 (by simp)
  have e7 : Hold w7 (w5.heap.size + 2) (Rw (blk fun r c => bt a r c && !bt b r c)) := Hold.below (Hold.row (Hold.other (Hold.other (Hold.new (by simp)) (by omega) _) (by omega) _) _) hb7 (by simp)
  have db7 : Below w.heap.size w w7 := (Below.row (Below.row (Below.row (((db5.alloc s5 _).alloc (by simp; omega) _).alloc (by simp; omega) _) s5 _) (by omega) _) (by omega) _).trans (hb7.mono (by simp; omega))
  clear hb7 db5 a5 b5
  have l7 := e7.lt
  have s7 := db7.size
  go_wp2_with (first | (apply wpList_ld rfl _ rfl _ rfl; focus ((repeat' (first | (with_reducible assumption) | ((with_reducible refine Hold.new ?_); first | (with_reducible rfl) | (simp; done)) | (with_reducible apply Hold.alloc) | (with_reducible apply Hold.row) | ((with_reducible apply Hold.other); rotate_left; focus (first | omega | (simp; omega))))); done)) | (apply wpList_st rfl _ _ rfl _ rfl _ rfl; focus ((repeat' (first | (with_reducible assumption) | ((with_reducible refine Hold.new ?_); first | (with_reducible rfl) | (simp; done)) | (with_reducible apply Hold.alloc) | (with_reducible apply Hold.row) | ((with_reducible apply Hold.other); rotate_left; focus (first | omega | (simp; omega))))); done)) | (refine wpList_bd rfl rfl ?_))
  refine (G2.out _).mono ?_
  rintro e w9 ⟨rfl, hb9⟩
  have a9 : Hold w9 w3.heap.size (Rw a) := Hold.below (Hold.other (a7.alloc _) (by omega) _) hb9 (by simp; omega)
  have b9 : Hold w9 (w3.heap.size + 1) (Rw b) := Hold.below (Hold.other (b7.alloc _) (by omega) _) hb9 (by simp; omega)
  have o9 := Hold.below (Hold.other (o7.alloc (.cells (Rw fun _ => 0) 25)) (by omega) (Rw g)) hb9 (by simp; omega)
  have n9 := Hold.below (Hold.other (n7.alloc (.cells (Rw fun _ => 0) 25)) (by omega) (Rw g)) hb9 (by simp; omega)
  have e9 := Hold.below (Hold.other (e7.alloc (.cells (Rw fun _ => 0) 25)) (by omega) (Rw g)) hb9 (by simp; omega)
  have g9 : Hold w9 w7.heap.size (Rw g) := Hold.below (Hold.row (Hold.new rfl) _) hb9 (by simp)
  have db9 : Below w.heap.size w w9 := (Below.row (db7.alloc s7 _) s7 _).trans (hb9.mono (by simp; omega))
  clear hb9 db7 a7 b7 o7 n7 e7
  have l9 := g9.lt
  have s9 := db9.size
  go_wp2_with (first | (apply wpList_ld rfl _ rfl _ rfl; focus ((repeat' (first | (with_reducible assumption) | ((with_reducible refine Hold.new ?_); first | (with_reducible rfl) | (simp; done)) | (with_reducible apply Hold.alloc) | (with_reducible apply Hold.row) | ((with_reducible apply Hold.other); rotate_left; focus (first | omega | (simp; omega))))); done)) | (apply wpList_st rfl _ _ rfl _ rfl _ rfl; focus ((repeat' (first | (with_reducible assumption) | ((with_reducible refine Hold.new ?_); first | (with_reducible rfl) | (simp; done)) | (with_reducible apply Hold.alloc) | (with_reducible apply Hold.row) | ((with_reducible apply Hold.other); rotate_left; focus (first | omega | (simp; omega))))); done)) | (refine wpList_bd rfl rfl ?_))
  have aW := Hold.other (a9.alloc (.cells (Rw fun _ => 0) 25)) (k := w9.heap.size) (by omega) (Rw g)
  have bW := Hold.other (b9.alloc (.cells (Rw fun _ => 0) 25)) (k := w9.heap.size) (by omega) (Rw g)
  have oW := Hold.other (o9.alloc (.cells (Rw fun _ => 0) 25)) (k := w9.heap.size) (by omega) (Rw g)
  have nW := Hold.other (n9.alloc (.cells (Rw fun _ => 0) 25)) (k := w9.heap.size) (by omega) (Rw g)
  have eW := Hold.other (e9.alloc (.cells (Rw fun _ => 0) 25)) (k := w9.heap.size) (by omega) (Rw g)
  have gW := Hold.other (g9.alloc (.cells (Rw fun _ => 0) 25)) (k := w9.heap.size) (by omega) (Rw g)
  have hW : Hold ((w9.alloc (.cells (Rw fun _ => 0) 25)).setRow w9.heap.size (Rw g)) w9.heap.size (Rw g) := Hold.row (Hold.new rfl) _
  have dbW := Below.row (db9.alloc s9 (.cells (Rw fun _ => 0) 25)) s9 (Rw g)
  clear a9 b9 o9 n9 e9 g9 db9
  generalize (w9.alloc (.cells (Rw fun _ => 0) 25)).setRow w9.heap.size (Rw g) = W at *
  have LA := fun w' (h : Below W.heap.size W w') => Hold.below aW h aW.lt
  have LB := fun w' (h : Below W.heap.size W w') => Hold.below bW h bW.lt
  have L1 := fun w' (h : Below W.heap.size W w') => Hold.below oW h oW.lt
  have L2 := fun w' (h : Below W.heap.size W w') => Hold.below nW h nW.lt
  have L3 := fun w' (h : Below W.heap.size W w') => Hold.below eW h eW.lt
  have LG := fun w' (h : Below W.heap.size W w') => Hold.below gW h gW.lt
  have LH := fun w' (h : Below W.heap.size W w') => Hold.below hW h hW.lt
  have OO := fun w' (h : Below W.heap.size W w') => in_class h (or_any a b w' ha hb) h.size
  have AA := fun w' (h : Below W.heap.size W w') => in_class h (and_any a b w' ha hb) h.size
  have EE := fun w' (h : Below W.heap.size W w') => in_class h (less_any a b w' ha hb) h.size
  have TT := fun w' (h : Below W.heap.size W w') => in_class h (turn_blk a w' ha) h.size
  have TR := fun w' (h : Below W.heap.size W w') => in_class h (rturn_any a w' ha) h.size
  have O1 := fun w' (h : Below W.heap.size W w') => in_class h (one_any w') h.size
  have O2 := fun w' (h : Below W.heap.size W w') => in_class h (rone_any w') h.size
  have AW := fun w' (h : Below W.heap.size W w') => in_class h (awake_any w') h.size
  have E1 := eq_blk (or_blk ha hb)
  have E2 := eq_blk (and_blk ha hb)
  have E3 := eq_blk (less_blk ha hb)
  have E4 := eq_self (blk fun r c => bt a c r)
  have E5 := eq_self g
  have E6 := eq_self pw
  clear aW bW oW nW eW gW hW
  go_wp2_with fail
  refine quiet_reg (show Below W.heap.size W W from Below.refl _ W) (by kernel_rfl) (by kernel_rfl) ?_
  refine wpQuiet_step (fun K hK => ?_); refine k_ld rfl _ rfl _ rfl LA ?_; go_simp; refine hK _ ?_; clear hK K
  refine wpQuiet_step (fun K hK => ?_); refine k_ld rfl _ rfl _ rfl LB ?_; go_simp; refine hK _ ?_; clear hK K
  refine wpQuiet_step (fun K hK => ?_); refine k_call _ _ _ rfl (fun w' => by go_simp) (OO) ?_; go_simp; refine hK _ ?_; clear hK K
  refine wpQuiet_step (fun K hK => ?_); refine k_ld rfl _ rfl _ rfl L1 ?_; go_simp; refine hK _ ?_; clear hK K
  refine wpQuiet_step (fun K hK => ?_); refine k_val (.bool true) rfl (fun w' _ => by go_simp) ?_; go_simp; refine hK _ ?_; clear hK K
  refine wpQuiet_step (fun K hK => ?_); refine k_val (.bool true) rfl (fun w' _ => by go_simp) ?_; go_simp; refine hK _ ?_; clear hK K
  refine wpQuiet_step (fun K hK => ?_); refine k_ld rfl _ rfl _ rfl LA ?_; go_simp; refine hK _ ?_; clear hK K
  refine wpQuiet_step (fun K hK => ?_); refine k_ld rfl _ rfl _ rfl LB ?_; go_simp; refine hK _ ?_; clear hK K
  refine wpQuiet_step (fun K hK => ?_); refine k_call _ _ _ rfl (fun w' => by go_simp) (AA) ?_; go_simp; refine hK _ ?_; clear hK K
  refine wpQuiet_step (fun K hK => ?_); refine k_ld rfl _ rfl _ rfl L2 ?_; go_simp; refine hK _ ?_; clear hK K
  refine wpQuiet_step (fun K hK => ?_); refine k_val (.bool true) rfl (fun w' _ => by go_simp) ?_; go_simp; refine hK _ ?_; clear hK K
  refine wpQuiet_step (fun K hK => ?_); refine k_val (.bool true) rfl (fun w' _ => by go_simp) ?_; go_simp; refine hK _ ?_; clear hK K
  refine wpQuiet_step (fun K hK => ?_); refine k_val (.bool true) rfl (fun w' _ => by go_simp) ?_; go_simp; refine hK _ ?_; clear hK K
  refine wpQuiet_step (fun K hK => ?_); refine k_ld rfl _ rfl _ rfl LA ?_; go_simp; refine hK _ ?_; clear hK K
  refine wpQuiet_step (fun K hK => ?_); refine k_ld rfl _ rfl _ rfl LB ?_; go_simp; refine hK _ ?_; clear hK K
  refine wpQuiet_step (fun K hK => ?_); refine k_call _ _ _ rfl (fun w' => by go_simp) (EE) ?_; go_simp; refine hK _ ?_; clear hK K
  refine wpQuiet_step (fun K hK => ?_); refine k_ld rfl _ rfl _ rfl L3 ?_; go_simp; refine hK _ ?_; clear hK K
  refine wpQuiet_step (fun K hK => ?_); refine k_val (.bool true) rfl (fun w' _ => by go_simp) ?_; go_simp; refine hK _ ?_; clear hK K
  refine wpQuiet_step (fun K hK => ?_); refine k_val (.bool true) rfl (fun w' _ => by go_simp) ?_; go_simp; refine hK _ ?_; clear hK K
  refine wpQuiet_step (fun K hK => ?_); refine k_val (.bool true) rfl (fun w' _ => by go_simp) ?_; go_simp; refine hK _ ?_; clear hK K
  refine wpQuiet_step (fun K hK => ?_); refine k_ld rfl _ rfl _ rfl LA ?_; go_simp; refine hK _ ?_; clear hK K
  refine wpQuiet_step (fun K hK => ?_); refine k_call _ _ _ rfl (fun w' => by go_simp) (TT) ?_; go_simp; refine hK _ ?_; clear hK K
  refine wpQuiet_step (fun K hK => ?_); refine k_ld rfl _ rfl _ rfl LA ?_; go_simp; refine hK _ ?_; clear hK K
  refine wpQuiet_step (fun K hK => ?_); refine k_call _ _ _ rfl (fun w' => by go_simp) (TR) ?_; go_simp; refine hK _ ?_; clear hK K
  refine wpQuiet_step (fun K hK => ?_); refine k_val (.bool true) rfl (fun w' _ => by go_simp) ?_; go_simp; refine hK _ ?_; clear hK K
  refine wpQuiet_step (fun K hK => ?_); refine k_val (.bool true) rfl (fun w' _ => by go_simp) ?_; go_simp; refine hK _ ?_; clear hK K
  refine wpQuiet_step (fun K hK => ?_); refine k_val (.bool true) rfl (fun w' _ => by go_simp) ?_; go_simp; refine hK _ ?_; clear hK K
  refine wpQuiet_step (fun K hK => ?_); refine k_ld rfl _ rfl _ rfl LG ?_; go_simp; refine hK _ ?_; clear hK K
  refine wpQuiet_step (fun K hK => ?_); refine k_ld rfl _ rfl _ rfl LH ?_; go_simp; refine hK _ ?_; clear hK K
  refine wpQuiet_step (fun K hK => ?_); refine k_val (.bool true) rfl (fun w' _ => by go_simp) ?_; go_simp; refine hK _ ?_; clear hK K
  refine wpQuiet_step (fun K hK => ?_); refine k_val (.bool true) rfl (fun w' _ => by go_simp) ?_; go_simp; refine hK _ ?_; clear hK K
  refine wpQuiet_step (fun K hK => ?_); refine k_val (.bool true) rfl (fun w' _ => by go_simp) ?_; go_simp; refine hK _ ?_; clear hK K
  refine wpQuiet_step (fun K hK => ?_); refine k_val (.int .i64 k) rfl (fun w' _ => by go_simp) ?_; go_simp; refine hK _ ?_; clear hK K
  refine wpQuiet_step (fun K hK => ?_); refine k_val (.int .i64 k) rfl (fun w' _ => by go_simp) ?_; go_simp; refine hK _ ?_; clear hK K
  refine wpQuiet_step (fun K hK => ?_); refine k_val (.bool true) rfl (fun w' _ => by go_simp) ?_; go_simp; refine hK _ ?_; clear hK K
  refine wpQuiet_step (fun K hK => ?_); refine k_val (.bool true) rfl (fun w' _ => by go_simp) ?_; go_simp; refine hK _ ?_; clear hK K
  refine wpQuiet_step (fun K hK => ?_); refine k_val (.bool true) rfl (fun w' _ => by go_simp) ?_; go_simp; refine hK _ ?_; clear hK K
  refine wpQuiet_step (fun K hK => ?_); refine k_call _ _ _ rfl (fun w' => by go_simp) (O1) ?_; go_simp; refine hK _ ?_; clear hK K
  refine wpQuiet_step (fun K hK => ?_); refine k_call _ _ _ rfl (fun w' => by go_simp) (O2) ?_; go_simp; refine hK _ ?_; clear hK K
  refine wpQuiet_step (fun K hK => ?_); refine k_val (.bool true) rfl (fun w' _ => by go_simp) ?_; go_simp; refine hK _ ?_; clear hK K
  refine wpQuiet_step (fun K hK => ?_); refine k_val (.bool true) rfl (fun w' _ => by go_simp) ?_; go_simp; refine hK _ ?_; clear hK K
  refine wpQuiet_step (fun K hK => ?_); refine k_val (.bool true) rfl (fun w' _ => by go_simp) ?_; go_simp; refine hK _ ?_; clear hK K
  refine wpQuiet_step (fun K hK => ?_); refine k_call _ _ _ rfl (fun w' => by go_simp) (AW) ?_; go_simp; refine hK _ ?_; clear hK K
  refine wpQuiet_step (fun K hK => ?_); refine k_val (.bool true) rfl (fun w' _ => by go_simp) ?_; go_simp; refine hK _ ?_; clear hK K
  refine wpQuiet_step (fun K hK => ?_); refine k_val (.bool true) rfl (fun w' _ => by go_simp) ?_; go_simp; refine hK _ ?_; clear hK K
  refine wpQuiet_nil ?_
  intro wz hbz
  have dbz := dbW.trans (hbz.mono dbW.size)
  clear hbz dbW
  go_wp2_with fail
  go_ret
  exact ⟨rfl, dbz⟩
end
end Go.Proofs.Ytbcklcikmhpclaa
