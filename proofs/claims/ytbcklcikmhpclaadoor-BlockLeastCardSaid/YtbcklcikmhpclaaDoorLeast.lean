/-
  The law BlockLeast, walked.
-/
import Derived.Test.YtbcklcikmhpclaaDoorLeastMath
namespace Go.Proofs.YtbcklcikmhpclaaDoor
open Go.RowKit
set_option linter.unusedVariables false
set_option linter.unusedSimpArgs false
section
set_option maxHeartbeats 8000000
set_option maxRecDepth 100000
theorem least_law (v1 v2 : Value) (n1 n2 : Nat) (R1 C1 R2 C2 : Nat → Int) (w : World) (hT : Tab w)
    (h1 : IsCells w v1 n1 R1 C1) (h2 : IsCells w v2 n2 R2 C2) (k1 : n1 ≤ 9223372036854775807) (k2 : n2 ≤ 9223372036854775807) :
    Calls Tryd.prog 7 #[v1, v2] w fun e w' => e = .returned (.bool true) ∧ Below w.heap.size w w' := by
  have hz : ∀ w, (zeroValue 25).run Tryd.prog w = .ok (.agg (Rw fun _ => 0)) w := (zero_of_info blockZero).1
  have F1 := Lib.hid (fold_of h1 k1)
  have F2 := Lib.hid fun w' (hb : Below w.heap.size w w') => fold_of (h2.stays hb) k2
  have HT := Lib.hid hT
  have ha := foldB_wf R1 C1 n1
  have hb := foldB_wf R2 C2 n2
  clear h1 h2 hT
  generalize foldB R1 C1 n1 = a at *
  generalize foldB R2 C2 n2 = b at *
  have P1 := Lib.hid (clo_has ha)
  have P2 := Lib.hid (clo_mul a)
  have P3 := Lib.hid (clo_clo a)
  have P4 := Lib.hid fun (hd : withinB (prod (uni a b) (uni a b)) (uni a b) = true) => clo_least (f := a) (d := uni a b) (fun r c _ _ h => by rw [bt_uni, h]; rfl) hd
  have P5 := Lib.hid fun (r m : Nat) (hr : r < 64) (h : Met a r m 64) => h.row hr
  have P6 := Lib.hid fun w' (h : Below w.heap.size w w') => close_any a w' ha (HT.out.stays h)
  have hc : Wf (clo a) := blk_wf _
  generalize hcc : clo a = c at *
  have HC := Lib.hid hcc
  clear hcc
  go_enter Tryd.func7, Tryd.ntmps7
  go_wp2_with fail
  refine F1.out.mono ?_
  rintro e w1 ⟨rfl, hb1⟩
  go_wp2_with fail
  refine (F2.out w1 hb1).mono ?_
  rintro e w3 ⟨rfl, hb2⟩
  have db3 := hb1.trans (hb2.mono hb1.size)
  have s3 := db3.size
  clear hb1 hb2
  go_wp2_with (first | (apply wpList_ld rfl _ rfl _ rfl; focus ((repeat' (first | (with_reducible assumption) | ((with_reducible refine Hold.new ?_); first | (with_reducible rfl) | (simp; done)) | (with_reducible apply Hold.alloc) | (with_reducible apply Hold.row) | ((with_reducible apply Hold.other); rotate_left; focus (first | omega | (simp; omega))))); done)) | (apply wpList_st rfl _ _ rfl _ rfl _ rfl; focus ((repeat' (first | (with_reducible assumption) | ((with_reducible refine Hold.new ?_); first | (with_reducible rfl) | (simp; done)) | (with_reducible apply Hold.alloc) | (with_reducible apply Hold.row) | ((with_reducible apply Hold.other); rotate_left; focus (first | omega | (simp; omega))))); done)) | (refine wpList_bd rfl rfl ?_))
  refine (P6.out _ (Below.row (Below.row ((db3.alloc s3 _).alloc (by simp; omega) _) s3 _) (by omega) _)).mono ?_
  rintro e w5 ⟨rfl, hb5⟩
  rw [show Rw (blk (closS a)) = Rw c from congrArg Rw HC.out]
  have a5 : Hold w5 w3.heap.size (Rw a) := Hold.below (Hold.other (Hold.row ((Hold.new rfl).alloc _) _) (by omega) _) hb5 (by simp; omega)
  have b5 : Hold w5 (w3.heap.size + 1) (Rw b) := Hold.below (Hold.row (Hold.other (Hold.new (by simp)) (by omega) _) _) hb5 (by simp)
  have db5 : Below w.heap.size w w5 := (Below.row (Below.row ((db3.alloc s3 _).alloc (by simp; omega) _) s3 _) (by omega) _).trans (hb5.mono (by simp; omega))
  clear hb5 db3
  have l5 := b5.lt
  have s5 := db5.size
  go_wp2_with (first | (apply wpList_ld rfl _ rfl _ rfl; focus ((repeat' (first | (with_reducible assumption) | ((with_reducible refine Hold.new ?_); first | (with_reducible rfl) | (simp; done)) | (with_reducible apply Hold.alloc) | (with_reducible apply Hold.row) | ((with_reducible apply Hold.other); rotate_left; focus (first | omega | (simp; omega))))); done)) | (apply wpList_st rfl _ _ rfl _ rfl _ rfl; focus ((repeat' (first | (with_reducible assumption) | ((with_reducible refine Hold.new ?_); first | (with_reducible rfl) | (simp; done)) | (with_reducible apply Hold.alloc) | (with_reducible apply Hold.row) | ((with_reducible apply Hold.other); rotate_left; focus (first | omega | (simp; omega))))); done)) | (refine wpList_bd rfl rfl ?_))
  have a6 : Hold ((w5.alloc (.cells (Rw fun _ => 0) 25)).setRow w5.heap.size (Rw c)) w3.heap.size (Rw a) := (a5.alloc _).other (by omega) _
  have b6 : Hold ((w5.alloc (.cells (Rw fun _ => 0) 25)).setRow w5.heap.size (Rw c)) (w3.heap.size + 1) (Rw b) := (b5.alloc _).other (by omega) _
  have c6 : Hold ((w5.alloc (.cells (Rw fun _ => 0) 25)).setRow w5.heap.size (Rw c)) w5.heap.size (Rw c) := Hold.row (Hold.new rfl) _
  have db6 := Below.row (db5.alloc s5 (.cells (Rw fun _ => 0) 25)) s5 (Rw c)
  clear a5 b5 db5
  generalize (w5.alloc (.cells (Rw fun _ => 0) 25)).setRow w5.heap.size (Rw c) = W at *
  have LA := fun w' (h : Below W.heap.size W w') => Hold.below a6 h a6.lt
  have LC := fun w' (h : Below W.heap.size W w') => Hold.below c6 h c6.lt
  have T6 := HT.out.stays db6
  have MM := fun (f g : Nat → Nat) (hf : Wf f) (hg : Wf g) w' (h : Below W.heap.size W w') => in_class h (mul_any f g w' hf hg (T6.stays h)) h.size
  have W1 : ∀ w', Below W.heap.size W w' → Calls Tryd.prog 22 #[.agg (Rw a), .agg (Rw c)] w' fun e w'' => e = .returned (.bool true) ∧ Below W.heap.size W w'' := fun w' h => by
    have := in_class h (within_any a c w' ha hc) h.size; rw [P1.out] at this; exact this
  have W2 : ∀ w', Below W.heap.size W w' → Calls Tryd.prog 22 #[.agg (Rw (prod c c)), .agg (Rw c)] w' fun e w'' => e = .returned (.bool true) ∧ Below W.heap.size W w'' := fun w' h => by
    have := in_class h (within_any (prod c c) c w' (blk_wf _) hc) h.size; rw [P2.out] at this; exact this
  have CC : ∀ w', Below W.heap.size W w' → Calls Tryd.prog 17 #[.agg (Rw c)] w' fun e w'' => e = .returned (.agg (Rw (clo c))) ∧ Below W.heap.size W w'' := fun w' h => in_class h (close_any c w' hc (T6.stays h)) h.size
  have E1 := eq_blk P3.out
  refine quiet_reg (Below.refl W.heap.size W) (by kernel_rfl) (by kernel_rfl) ?_
  refine wpQuiet_step (fun K hK => ?_); refine k_ld rfl _ rfl _ rfl LA ?_; go_simp; refine hK _ ?_; clear hK K
  refine wpQuiet_step (fun K hK => ?_); refine k_ld rfl _ rfl _ rfl LC ?_; go_simp; refine hK _ ?_; clear hK K
  refine wpQuiet_step (fun K hK => ?_); refine k_call _ _ _ rfl (fun w' => by go_simp) (W1) ?_; go_simp; refine hK _ ?_; clear hK K
  refine wpQuiet_step (fun K hK => ?_); refine k_val (.bool false) rfl (fun w' _ => by go_simp) ?_; go_simp; refine hK _ ?_; clear hK K
  refine wpQuiet_step (fun K hK => ?_); refine k_val (.bool false) rfl (fun w' _ => by go_simp) ?_; go_simp; refine hK _ ?_; clear hK K
  refine wpQuiet_step (fun K hK => ?_); refine k_ld rfl _ rfl _ rfl LC ?_; go_simp; refine hK _ ?_; clear hK K
  refine wpQuiet_step (fun K hK => ?_); refine k_ld rfl _ rfl _ rfl LC ?_; go_simp; refine hK _ ?_; clear hK K
  refine wpQuiet_step (fun K hK => ?_); refine k_call _ _ _ rfl (fun w' => by go_simp) (MM c c hc hc) ?_; go_simp; refine hK _ ?_; clear hK K
  refine wpQuiet_step (fun K hK => ?_); refine k_ld rfl _ rfl _ rfl LC ?_; go_simp; refine hK _ ?_; clear hK K
  refine wpQuiet_step (fun K hK => ?_); refine k_call _ _ _ rfl (fun w' => by go_simp) (W2) ?_; go_simp; refine hK _ ?_; clear hK K
  refine wpQuiet_step (fun K hK => ?_); refine k_val (.bool false) rfl (fun w' _ => by go_simp) ?_; go_simp; refine hK _ ?_; clear hK K
  refine wpQuiet_step (fun K hK => ?_); refine k_val (.bool false) rfl (fun w' _ => by go_simp) ?_; go_simp; refine hK _ ?_; clear hK K
  refine wpQuiet_step (fun K hK => ?_); refine k_val (.bool false) rfl (fun w' _ => by go_simp) ?_; go_simp; refine hK _ ?_; clear hK K
  refine wpQuiet_step (fun K hK => ?_); refine k_ld rfl _ rfl _ rfl LC ?_; go_simp; refine hK _ ?_; clear hK K
  refine wpQuiet_step (fun K hK => ?_); refine k_call _ _ _ rfl (fun w' => by go_simp) (CC) ?_; go_simp; refine hK _ ?_; clear hK K
  refine wpQuiet_step (fun K hK => ?_); refine k_ld rfl _ rfl _ rfl LC ?_; go_simp; refine hK _ ?_; clear hK K
  refine wpQuiet_step (fun K hK => ?_); refine k_val (.bool false) rfl (fun w' _ => by go_simp) ?_; go_simp; refine hK _ ?_; clear hK K
  refine wpQuiet_step (fun K hK => ?_); refine k_val (.bool false) rfl (fun w' _ => by go_simp) ?_; go_simp; refine hK _ ?_; clear hK K
  refine wpQuiet_nil ?_
  intro w7 hb7
  clear LA LC MM W1 W2 CC E1 T6
  have a7 := a6.below hb7 a6.lt
  have b7 := b6.below hb7 b6.lt
  have c7 := c6.below hb7 c6.lt
  have db7 := db6.trans (hb7.mono db6.size)
  have l7 := c6.lt
  clear hb7 a6 b6 c6 db6
  go_wp2_with (first | (apply wpList_ld rfl _ rfl _ rfl; focus ((repeat' (first | (with_reducible assumption) | ((with_reducible refine Hold.new ?_); first | (with_reducible rfl) | (simp; done)) | (with_reducible apply Hold.alloc) | (with_reducible apply Hold.row) | ((with_reducible apply Hold.other); rotate_left; focus (first | omega | (simp; omega))))); done)) | (apply wpList_st rfl _ _ rfl _ rfl _ rfl; focus ((repeat' (first | (with_reducible assumption) | ((with_reducible refine Hold.new ?_); first | (with_reducible rfl) | (simp; done)) | (with_reducible apply Hold.alloc) | (with_reducible apply Hold.row) | ((with_reducible apply Hold.other); rotate_left; focus (first | omega | (simp; omega))))); done)) | (refine wpList_bd rfl rfl ?_))
  refine (or_any a b w7 ha hb).mono ?_
  rintro e w8 ⟨rfl, hb8⟩
  have a8 := a7.below hb8 a7.lt
  have b8 := b7.below hb8 b7.lt
  have c8 := c7.below hb8 c7.lt
  have db8 := db7.trans (hb8.mono db7.size)
  clear hb8 a7 b7 c7 db7
  have hd : Wf (uni a b) := uni_wf ha hb
  go_wp2_with (first | (apply wpList_ld rfl _ rfl _ rfl; focus ((repeat' (first | (with_reducible assumption) | ((with_reducible refine Hold.new ?_); first | (with_reducible rfl) | (simp; done)) | (with_reducible apply Hold.alloc) | (with_reducible apply Hold.row) | ((with_reducible apply Hold.other); rotate_left; focus (first | omega | (simp; omega))))); done)) | (apply wpList_st rfl _ _ rfl _ rfl _ rfl; focus ((repeat' (first | (with_reducible assumption) | ((with_reducible refine Hold.new ?_); first | (with_reducible rfl) | (simp; done)) | (with_reducible apply Hold.alloc) | (with_reducible apply Hold.row) | ((with_reducible apply Hold.other); rotate_left; focus (first | omega | (simp; omega))))); done)) | (refine wpList_bd rfl rfl ?_))
  have d9 : Hold (w8.setRow (w3.heap.size + 1) (Rw (uni a b))) (w3.heap.size + 1) (Rw (uni a b)) := b8.row _
  have a9 : Hold (w8.setRow (w3.heap.size + 1) (Rw (uni a b))) w3.heap.size (Rw a) := a8.other (by omega) _
  have c9 : Hold (w8.setRow (w3.heap.size + 1) (Rw (uni a b))) w5.heap.size (Rw c) := c8.other (by omega) _
  have db9 : Below w.heap.size w (w8.setRow (w3.heap.size + 1) (Rw (uni a b))) := Below.row db8 (by omega) _
  clear a8 b8 c8 db8
  generalize w8.setRow (w3.heap.size + 1) (Rw (uni a b)) = V at *
  have LA := fun w' (h : Below V.heap.size V w') => Hold.below a9 h a9.lt
  have LC := fun w' (h : Below V.heap.size V w') => Hold.below c9 h c9.lt
  have LD := fun w' (h : Below V.heap.size V w') => Hold.below d9 h d9.lt
  have T9 := HT.out.stays db9
  have MD := fun w' (h : Below V.heap.size V w') => in_class h (mul_any (uni a b) (uni a b) w' hd hd (T9.stays h)) h.size
  have WD := fun w' (h : Below V.heap.size V w') => in_class h (within_any (prod (uni a b) (uni a b)) (uni a b) w' (blk_wf _) hd) h.size
  refine quiet_reg (Below.refl V.heap.size V) (by kernel_rfl) (by kernel_rfl) ?_
  refine wpQuiet_step (fun K hK => ?_); refine k_ld rfl _ rfl _ rfl LD ?_; go_simp; refine hK _ ?_; clear hK K
  refine wpQuiet_step (fun K hK => ?_); refine k_ld rfl _ rfl _ rfl LD ?_; go_simp; refine hK _ ?_; clear hK K
  refine wpQuiet_step (fun K hK => ?_); refine k_call _ _ _ rfl (fun w' => by go_simp) (MD) ?_; go_simp; refine hK _ ?_; clear hK K
  refine wpQuiet_step (fun K hK => ?_); refine k_ld rfl _ rfl _ rfl LD ?_; go_simp; refine hK _ ?_; clear hK K
  cases hv : withinB (prod (uni a b) (uni a b)) (uni a b)
  · rw [hv] at WD
    refine wpQuiet_step (fun K hK => ?_); refine k_call _ _ _ rfl (fun w' => by go_simp) (WD) ?_; go_simp; refine hK _ ?_; clear hK K
    refine wpQuiet_step (fun K hK => ?_); refine k_val (.bool false) rfl (fun w' _ => by go_simp) ?_; go_simp; refine hK _ ?_; clear hK K
    refine wpQuiet_step (fun K hK => ?_); refine k_no rfl ?_; go_simp; refine hK _ ?_; clear hK K
    refine wpQuiet_step (fun K hK => ?_); refine k_no rfl ?_; go_simp; refine hK _ ?_; clear hK K
    refine wpQuiet_step (fun K hK => ?_); refine k_no rfl ?_; go_simp; refine hK _ ?_; clear hK K
    refine wpQuiet_step (fun K hK => ?_); refine k_no rfl ?_; go_simp; refine hK _ ?_; clear hK K
    refine wpQuiet_step (fun K hK => ?_); refine k_val (.bool false) rfl (fun w' _ => by go_simp) ?_; go_simp; refine hK _ ?_; clear hK K
    refine wpQuiet_nil ?_
    intro w9 hb9
    have la := LA w9 hb9
    have lc := LC w9 hb9
    have lb := db9.trans (hb9.mono db9.size)
    clear LA LC LD T9 MD WD hb9 hv a9 c9 d9 db9
    go_wp2_with fail
    go_loop [8] (fun i => ∃ r : Nat, r ≤ 64 ∧ i = .int .i64 r) (fun i => 64 - (intOf i).toNat)
    case atStart => exact ⟨0, Nat.zero_le _, rfl⟩
    case round =>
      obtain ⟨r, hr, rfl⟩ := hrel
      by_cases hrt : r < 64
      · have hdr : decide ((r : Int) < 64) = true := by rw [decide_eq_true_eq]; omega
        have ca := la.cell (Rw_get _ r hrt)
        have cc := lc.cell (Rw_get _ r hrt)
        go_wp2_with fail
        go_loop [9, 10] (fun m n => ∃ met k : Nat, k ≤ 64 ∧ n = .int .i64 k ∧ m = .int .u64 met ∧ Met a r met k) (fun _ n => 64 - (intOf n).toNat)
        case atStart => exact ⟨_, 0, Nat.zero_le _, rfl, rfl, Met.start ha hrt⟩
        case round =>
          obtain ⟨met, k, hk, rfl, rfl, hM⟩ := hrel
          by_cases hkt : k < 64
          · have hdk : decide ((k : Int) < 64) = true := by rw [decide_eq_true_eq]; omega
            go_wp2_with fail
            go_loop [9, 11] (fun m x => ∃ met1 j : Nat, j ≤ 64 ∧ x = .int .i64 j ∧ m = .int .u64 met1 ∧ Pass a r met met1 j) (fun _ x => 64 - (intOf x).toNat)
            case atStart => exact ⟨met, 0, Nat.zero_le _, rfl, rfl, hM.pass⟩
            case round =>
              obtain ⟨met1, j, hj, rfl, rfl, hP⟩ := hrel
              by_cases hjt : j < 64
              · have hbit := tb met1 j
                cases hb : met1.testBit j
                · rw [hb] at hbit
                  have HP := Lib.hid (hP.miss hb)
                  clear hb hP
                  go_wp2_with fail
                  go_round
                  case rel => exact ⟨met1, j + 1, by omega, by go_num, rfl, HP.out⟩
                  case measure => simp [intOf]; omega
                · rw [hb] at hbit
                  have HP := Lib.hid (hP.hit ha hjt hb)
                  have cx := la.cell (Rw_get _ j hjt)
                  have hor := bits_or64 met1 (a j) hP.lt (ha j hjt)
                  clear hb hP
                  go_wp2_with fail
                  go_round
                  case rel => exact ⟨_, j + 1, by omega, by go_num, rfl, HP.out⟩
                  case measure => simp [intOf]; omega
              · have e : j = 64 := by omega
                subst e
                have HP := Lib.hid (hP.done hM)
                go_wp2_with fail
                go_round
                case rel => exact ⟨_, k + 1, by omega, by go_num, rfl, HP.out⟩
                case measure => simp [intOf]; omega
          · have e : k = 64 := by omega
            subst e
            have hrow : met = c r := P5.out r met hrt hM
            subst hrow
            go_wp2_with fail
            go_round
            case rel => exact ⟨r + 1, by omega, by go_num⟩
            case measure => simp [intOf]; omega
      · have e : r = 64 := by omega
        subst e
        go_wp2_with fail
        refine (awake_any _).mono ?_
        rintro e w10 ⟨rfl, hb10⟩
        have db10 := lb.trans (hb10.mono lb.size)
        go_wp2_with fail
        go_ret
        exact ⟨rfl, db10⟩
  · have WC : ∀ w', Below V.heap.size V w' → Calls Tryd.prog 22 #[.agg (Rw c), .agg (Rw (uni a b))] w' fun e w'' => e = .returned (.bool true) ∧ Below V.heap.size V w'' := fun w' h => by
      have hw : withinB c (uni a b) = true := P4.out hv
      have := in_class h (within_any c (uni a b) w' hc hd) h.size; rw [hw] at this; exact this
    rw [hv] at WD
    refine wpQuiet_step (fun K hK => ?_); refine k_call _ _ _ rfl (fun w' => by go_simp) (WD) ?_; go_simp; refine hK _ ?_; clear hK K
    refine wpQuiet_step (fun K hK => ?_); refine k_val (.bool true) rfl (fun w' _ => by go_simp) ?_; go_simp; refine hK _ ?_; clear hK K
    refine wpQuiet_step (fun K hK => ?_); refine k_ld rfl _ rfl _ rfl LC ?_; go_simp; refine hK _ ?_; clear hK K
    refine wpQuiet_step (fun K hK => ?_); refine k_ld rfl _ rfl _ rfl LD ?_; go_simp; refine hK _ ?_; clear hK K
    refine wpQuiet_step (fun K hK => ?_); refine k_call _ _ _ rfl (fun w' => by go_simp) (WC) ?_; go_simp; refine hK _ ?_; clear hK K
    refine wpQuiet_step (fun K hK => ?_); refine k_val (.bool false) rfl (fun w' _ => by go_simp) ?_; go_simp; refine hK _ ?_; clear hK K
    refine wpQuiet_step (fun K hK => ?_); refine k_val (.bool false) rfl (fun w' _ => by go_simp) ?_; go_simp; refine hK _ ?_; clear hK K
    refine wpQuiet_nil ?_
    intro w9 hb9
    have la := LA w9 hb9
    have lc := LC w9 hb9
    have lb := db9.trans (hb9.mono db9.size)
    clear LA LC LD T9 MD WD WC hb9 hv a9 c9 d9 db9
    go_wp2_with fail
    go_loop [8] (fun i => ∃ r : Nat, r ≤ 64 ∧ i = .int .i64 r) (fun i => 64 - (intOf i).toNat)
    case atStart => exact ⟨0, Nat.zero_le _, rfl⟩
    case round =>
      obtain ⟨r, hr, rfl⟩ := hrel
      by_cases hrt : r < 64
      · have hdr : decide ((r : Int) < 64) = true := by rw [decide_eq_true_eq]; omega
        have ca := la.cell (Rw_get _ r hrt)
        have cc := lc.cell (Rw_get _ r hrt)
        go_wp2_with fail
        go_loop [9, 10] (fun m n => ∃ met k : Nat, k ≤ 64 ∧ n = .int .i64 k ∧ m = .int .u64 met ∧ Met a r met k) (fun _ n => 64 - (intOf n).toNat)
        case atStart => exact ⟨_, 0, Nat.zero_le _, rfl, rfl, Met.start ha hrt⟩
        case round =>
          obtain ⟨met, k, hk, rfl, rfl, hM⟩ := hrel
          by_cases hkt : k < 64
          · have hdk : decide ((k : Int) < 64) = true := by rw [decide_eq_true_eq]; omega
            go_wp2_with fail
            go_loop [9, 11] (fun m x => ∃ met1 j : Nat, j ≤ 64 ∧ x = .int .i64 j ∧ m = .int .u64 met1 ∧ Pass a r met met1 j) (fun _ x => 64 - (intOf x).toNat)
            case atStart => exact ⟨met, 0, Nat.zero_le _, rfl, rfl, hM.pass⟩
            case round =>
              obtain ⟨met1, j, hj, rfl, rfl, hP⟩ := hrel
              by_cases hjt : j < 64
              · have hbit := tb met1 j
                cases hb : met1.testBit j
                · rw [hb] at hbit
                  have HP := Lib.hid (hP.miss hb)
                  clear hb hP
                  go_wp2_with fail
                  go_round
                  case rel => exact ⟨met1, j + 1, by omega, by go_num, rfl, HP.out⟩
                  case measure => simp [intOf]; omega
                · rw [hb] at hbit
                  have HP := Lib.hid (hP.hit ha hjt hb)
                  have cx := la.cell (Rw_get _ j hjt)
                  have hor := bits_or64 met1 (a j) hP.lt (ha j hjt)
                  clear hb hP
                  go_wp2_with fail
                  go_round
                  case rel => exact ⟨_, j + 1, by omega, by go_num, rfl, HP.out⟩
                  case measure => simp [intOf]; omega
              · have e : j = 64 := by omega
                subst e
                have HP := Lib.hid (hP.done hM)
                go_wp2_with fail
                go_round
                case rel => exact ⟨_, k + 1, by omega, by go_num, rfl, HP.out⟩
                case measure => simp [intOf]; omega
          · have e : k = 64 := by omega
            subst e
            have hrow : met = c r := P5.out r met hrt hM
            subst hrow
            go_wp2_with fail
            go_round
            case rel => exact ⟨r + 1, by omega, by go_num⟩
            case measure => simp [intOf]; omega
      · have e : r = 64 := by omega
        subst e
        go_wp2_with fail
        refine (awake_any _).mono ?_
        rintro e w10 ⟨rfl, hb10⟩
        have db10 := lb.trans (hb10.mono lb.size)
        go_wp2_with fail
        go_ret
        exact ⟨rfl, db10⟩
end
end Go.Proofs.YtbcklcikmhpclaaDoor
