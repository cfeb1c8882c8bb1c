/-
  The reference's Sets.
-/
import Derived.Test.YtbcklcikmhpclaaRowwise
import Derived.Test.YtbcklcikmhpclaaQuiet
import Derived.Test.YtbcklcikmhpclaaHeld
namespace Go.Proofs.Ytbcklcikmhpclaa
open Go.RowKit
set_option linter.unusedVariables false
set_option linter.unusedSimpArgs false
/-- The eight variables of the call: two blocks that came in, three to hand back, three under way. -/
structure Env (w0 w : World) (a b : Nat → Nat) (X5 X6 X7 : Array Value) : Prop where
  h0 : Hold w w0.heap.size (Rw a)
  h1 : Hold w (w0.heap.size + 1) (Rw b)
  h2 : Hold w (w0.heap.size + 2) (Rw fun _ => 0)
  h3 : Hold w (w0.heap.size + 3) (Rw fun _ => 0)
  h4 : Hold w (w0.heap.size + 4) (Rw fun _ => 0)
  h5 : Hold w (w0.heap.size + 5) X5
  h6 : Hold w (w0.heap.size + 6) X6
  h7 : Hold w (w0.heap.size + 7) X7
  lo : Below w0.heap.size w0 w
theorem Env.below {w0 w w' : World} {a b : Nat → Nat} {X5 X6 X7 : Array Value} (h : Env w0 w a b X5 X6 X7) (hb : Below w.heap.size w w') : Env w0 w' a b X5 X6 X7 :=
  ⟨h.h0.below hb h.h0.lt, h.h1.below hb h.h1.lt, h.h2.below hb h.h2.lt, h.h3.below hb h.h3.lt, h.h4.below hb h.h4.lt, h.h5.below hb h.h5.lt, h.h6.below hb h.h6.lt, h.h7.below hb h.h7.lt, h.lo.trans (hb.mono h.lo.size)⟩
theorem Env.row5 {w0 w : World} {a b : Nat → Nat} {X5 X6 X7 : Array Value} (h : Env w0 w a b X5 X6 X7) (Y : Array Value) : Env w0 (w.setRow (w0.heap.size + 5) Y) a b Y X6 X7 :=
  ⟨h.h0.other (by omega) _, h.h1.other (by omega) _, h.h2.other (by omega) _, h.h3.other (by omega) _, h.h4.other (by omega) _, h.h5.row _, h.h6.other (by omega) _, h.h7.other (by omega) _, Below.row h.lo (by omega) _⟩
theorem Env.row6 {w0 w : World} {a b : Nat → Nat} {X5 X6 X7 : Array Value} (h : Env w0 w a b X5 X6 X7) (Y : Array Value) : Env w0 (w.setRow (w0.heap.size + 6) Y) a b X5 Y X7 :=
  ⟨h.h0.other (by omega) _, h.h1.other (by omega) _, h.h2.other (by omega) _, h.h3.other (by omega) _, h.h4.other (by omega) _, h.h5.other (by omega) _, h.h6.row _, h.h7.other (by omega) _, Below.row h.lo (by omega) _⟩
theorem Env.row7 {w0 w : World} {a b : Nat → Nat} {X5 X6 X7 : Array Value} (h : Env w0 w a b X5 X6 X7) (Y : Array Value) : Env w0 (w.setRow (w0.heap.size + 7) Y) a b X5 X6 Y :=
  ⟨h.h0.other (by omega) _, h.h1.other (by omega) _, h.h2.other (by omega) _, h.h3.other (by omega) _, h.h4.other (by omega) _, h.h5.other (by omega) _, h.h6.other (by omega) _, h.h7.row _, Below.row h.lo (by omega) _⟩
theorem Env.as5 {w0 w : World} {a b : Nat → Nat} {X5 X6 X7 Y : Array Value} (h : Env w0 w a b X5 X6 X7) (e : X5 = Y) : Env w0 w a b Y X6 X7 := by subst e; exact h
theorem Env.as6 {w0 w : World} {a b : Nat → Nat} {X5 X6 X7 Y : Array Value} (h : Env w0 w a b X5 X6 X7) (e : X6 = Y) : Env w0 w a b X5 Y X7 := by subst e; exact h
theorem Env.as7 {w0 w : World} {a b : Nat → Nat} {X5 X6 X7 Y : Array Value} (h : Env w0 w a b X5 X6 X7) (e : X7 = Y) : Env w0 w a b X5 X6 Y := by subst e; exact h
theorem has_below (f : Nat → Nat) (r c : Nat) (w : World) (hr : r < 64) (hc : c < 64) :
    Calls Try.prog 30 #[.agg (Rw f), .int .i64 r, .int .i64 c] w fun e w' => e = .returned (.bool (bt f r c)) ∧ Below w.heap.size w w' :=
  (has_any f r c w hr hc).mono fun e w' ⟨he, hw⟩ => ⟨he, by rw [← hw]; exact (Below.refl _ _).alloc (Nat.le_refl _) _⟩
/-- Three blocks are handed back out of their variables. -/
theorem ret_blk3 {f g h : Nat → Nat} {fn : Func} {p q u : Tmp} {R : Ending → World → Prop} {a : Act} {w : World} (hr : fn.results = #[.cell p 25, .cell q 25, .cell u 25]) (x y z : Nat)
    (hp : a.tmps.getD p undef = .pointer (some ⟨x, 0, none⟩)) (hq : a.tmps.getD q undef = .pointer (some ⟨y, 0, none⟩)) (hu : a.tmps.getD u undef = .pointer (some ⟨z, 0, none⟩))
    (hx : Hold w x (Rw f)) (hy : Hold w y (Rw g)) (hz : Hold w z (Rw h)) (hd : a.defers = []) (hR : R (.returned (.tuple #[.agg (Rw f), .agg (Rw g), .agg (Rw h)])) w) : bodyPost Try.prog fn R .ret a w := by
  refine bodyPost_ret (v := .tuple #[.agg (Rw f), .agg (Rw g), .agg (Rw h)]) ?_ hd hR
  have l1 := run_loadVar_row (P := Try.prog) w x 25 25 (Rw f) (0, 0) _ hx blockType rfl (by rw [blockSize, Rw_size])
  have l2 := run_loadVar_row (P := Try.prog) w y 25 25 (Rw g) (0, 0) _ hy blockType rfl (by rw [blockSize, Rw_size])
  have l3 := run_loadVar_row (P := Try.prog) w z 25 25 (Rw h) (0, 0) _ hz blockType rfl (by rw [blockSize, Rw_size])
  have e1 : a.tmps[p]?.getD undef = .pointer (some ⟨x, 0, none⟩) := by simpa using hp
  have e2 : a.tmps[q]?.getD undef = .pointer (some ⟨y, 0, none⟩) := by simpa using hq
  have e3 : a.tmps[u]?.getD undef = .pointer (some ⟨z, 0, none⟩) := by simpa using hu
  simp [results, hr, e1, e2, e3, asAddr, l1, l2, l3, Sem.run_bind, Result.andThen]
section
set_option maxHeartbeats 4000000
set_option maxRecDepth 100000
theorem sets_any (a b : Nat → Nat) (w : World) (ha : Wf a) (hb : Wf b) :
    Calls Try.prog 15 #[.agg (Rw a), .agg (Rw b)] w fun e w' => e = .returned (.tuple #[.agg (Rw (blk fun r c => bt a r c || bt b r c)), .agg (Rw (blk fun r c => bt a r c && bt b r c)), .agg (Rw (blk fun r c => bt a r c && !bt b r c))]) ∧ Below w.heap.size w w' := by
  have hz : ∀ w, (zeroValue 25).run Try.prog w = .ok (.agg (Rw fun _ => 0)) w := (zero_of_info blockZero).1
  obtain ⟨s1, e1⟩ : ∃ S : Nat → Nat → Bool, S = fun r c => bt a r c || bt b r c := ⟨_, rfl⟩
  obtain ⟨s2, e2⟩ : ∃ S : Nat → Nat → Bool, S = fun r c => bt a r c && bt b r c := ⟨_, rfl⟩
  obtain ⟨s3, e3⟩ : ∃ S : Nat → Nat → Bool, S = fun r c => bt a r c && !bt b r c := ⟨_, rfl⟩
  rw [← e1, ← e2, ← e3]
  have G1 : Hid (∀ r c, s1 r c = (bt a r c || bt b r c)) := Lib.hid fun r c => by rw [e1]
  have G2 : Hid (∀ r c, s2 r c = (bt a r c && bt b r c)) := Lib.hid fun r c => by rw [e2]
  have G3 : Hid (∀ r c, s3 r c = (bt a r c && !bt b r c)) := Lib.hid fun r c => by rw [e3]
  clear e1 e2 e3
  go_enter Try.func15, Try.ntmps15
  go_wp2_with fail
  go_loopw [10] (fun i wr => ∃ k : Nat, k ≤ 64 ∧ i = .int .i64 k ∧ Env w wr a b (Rw (blk (upto s1 k 0))) (Rw (blk (upto s2 k 0))) (Rw (blk (upto s3 k 0)))) (fun i _ => 64 - (intOf i).toNat)
  case atStart =>
    refine ⟨0, Nat.zero_le _, rfl, ?_⟩
    rw [← upto_zero, ← upto_zero, ← upto_zero]
    refine ⟨?_, ?_, ?_, ?_, ?_, ?_, ?_, ?_, ?_⟩
    · focus ((repeat' (first | (with_reducible assumption) | ((with_reducible refine Hold.new ?_); first | (with_reducible rfl) | (simp; done)) | (with_reducible apply Hold.alloc) | (with_reducible apply Hold.row) | ((with_reducible apply Hold.other); rotate_left; focus (first | omega | (simp; omega))))); done)
    · focus ((repeat' (first | (with_reducible assumption) | ((with_reducible refine Hold.new ?_); first | (with_reducible rfl) | (simp; done)) | (with_reducible apply Hold.alloc) | (with_reducible apply Hold.row) | ((with_reducible apply Hold.other); rotate_left; focus (first | omega | (simp; omega))))); done)
    · focus ((repeat' (first | (with_reducible assumption) | ((with_reducible refine Hold.new ?_); first | (with_reducible rfl) | (simp; done)) | (with_reducible apply Hold.alloc) | (with_reducible apply Hold.row) | ((with_reducible apply Hold.other); rotate_left; focus (first | omega | (simp; omega))))); done)
    · focus ((repeat' (first | (with_reducible assumption) | ((with_reducible refine Hold.new ?_); first | (with_reducible rfl) | (simp; done)) | (with_reducible apply Hold.alloc) | (with_reducible apply Hold.row) | ((with_reducible apply Hold.other); rotate_left; focus (first | omega | (simp; omega))))); done)
    · focus ((repeat' (first | (with_reducible assumption) | ((with_reducible refine Hold.new ?_); first | (with_reducible rfl) | (simp; done)) | (with_reducible apply Hold.alloc) | (with_reducible apply Hold.row) | ((with_reducible apply Hold.other); rotate_left; focus (first | omega | (simp; omega))))); done)
    · focus ((repeat' (first | (with_reducible assumption) | ((with_reducible refine Hold.new ?_); first | (with_reducible rfl) | (simp; done)) | (with_reducible apply Hold.alloc) | (with_reducible apply Hold.row) | ((with_reducible apply Hold.other); rotate_left; focus (first | omega | (simp; omega))))); done)
    · focus ((repeat' (first | (with_reducible assumption) | ((with_reducible refine Hold.new ?_); first | (with_reducible rfl) | (simp; done)) | (with_reducible apply Hold.alloc) | (with_reducible apply Hold.row) | ((with_reducible apply Hold.other); rotate_left; focus (first | omega | (simp; omega))))); done)
    · focus ((repeat' (first | (with_reducible assumption) | ((with_reducible refine Hold.new ?_); first | (with_reducible rfl) | (simp; done)) | (with_reducible apply Hold.alloc) | (with_reducible apply Hold.row) | ((with_reducible apply Hold.other); rotate_left; focus (first | omega | (simp; omega))))); done)
    · exact (((((((((Below.refl _ _).alloc (Nat.le_refl _) _).alloc (by simp) _).alloc (by simp; omega) _).alloc (by simp; omega) _).alloc (by simp; omega) _).alloc (by simp; omega) _).alloc (by simp; omega) _).alloc (by simp; omega) _)
  case round =>
    obtain ⟨k, hk, rfl, hV⟩ := hrel
    by_cases hlt : k < 64
    · obtain ⟨wo, rfl⟩ : ∃ wo : World, wo = wr := ⟨_, rfl⟩
      have hdk : decide ((k : Int) < 64) = true := by rw [decide_eq_true_eq]; omega
      go_wp2_with fail
      go_loopw [11] (fun j wr => ∃ c : Nat, c ≤ 64 ∧ j = .int .i64 c ∧ Env w wr a b (Rw (blk (upto s1 k c))) (Rw (blk (upto s2 k c))) (Rw (blk (upto s3 k c)))) (fun j _ => 64 - (intOf j).toNat)
      case atStart => exact ⟨0, Nat.zero_le _, rfl, hV⟩
      case round =>
        clear hV
        obtain ⟨c, hc, rfl, hV⟩ := hrel
        by_cases hct : c < 64
        · have LA := fun w' (h : Below wr.heap.size wr w') => Hold.below hV.h0 h hV.h0.lt
          have LB := fun w' (h : Below wr.heap.size wr w') => Hold.below hV.h1 h hV.h1.lt
          have HA := fun w' (h : Below wr.heap.size wr w') => in_class h (has_below a k c w' hlt hct) h.size
          have HB := fun w' (h : Below wr.heap.size wr w') => in_class h (has_below b k c w' hlt hct) h.size
          go_wp2_with fail
          refine quiet_reg (Below.refl wr.heap.size wr) (by kernel_rfl) (by kernel_rfl) ?_
          refine wpQuiet_step (fun K hK => ?_); refine k_ld rfl _ rfl _ rfl LA ?_; go_simp; refine hK _ ?_; clear hK K
          refine wpQuiet_step (fun K hK => ?_); refine k_val (.int .i64 ↑k) rfl (fun w' _ => by go_simp) ?_; go_simp; refine hK _ ?_; clear hK K
          refine wpQuiet_step (fun K hK => ?_); refine k_val (.int .i64 ↑c) rfl (fun w' _ => by go_simp) ?_; go_simp; refine hK _ ?_; clear hK K
          refine wpQuiet_step (fun K hK => ?_); refine k_call _ _ _ rfl (fun w' => by go_simp) (HA) ?_; go_simp; refine hK _ ?_; clear hK K
          refine wpQuiet_step (fun K hK => ?_); refine k_ld rfl _ rfl _ rfl LB ?_; go_simp; refine hK _ ?_; clear hK K
          refine wpQuiet_step (fun K hK => ?_); refine k_val (.int .i64 ↑k) rfl (fun w' _ => by go_simp) ?_; go_simp; refine hK _ ?_; clear hK K
          refine wpQuiet_step (fun K hK => ?_); refine k_val (.int .i64 ↑c) rfl (fun w' _ => by go_simp) ?_; go_simp; refine hK _ ?_; clear hK K
          refine wpQuiet_step (fun K hK => ?_); refine k_call _ _ _ rfl (fun w' => by go_simp) (HB) ?_; go_simp; refine hK _ ?_; clear hK K
          refine wpQuiet_step (fun K hK => ?_); refine k_val (.bool (bt a k c)) rfl (fun w' _ => by go_simp) ?_; go_simp; refine hK _ ?_; clear hK K
          refine wpQuiet_step (fun K hK => ?_); refine k_val (.bool (bt b k c)) rfl (fun w' _ => by go_simp) ?_; go_simp; refine hK _ ?_; clear hK K
          refine wpQuiet_nil ?_
          intro w2 hb2
          replace hV := hV.below hb2
          clear LA LB HA HB hb2
          cases hx : bt a k c <;> cases hy : bt b k c
          · have g5 : s1 k c = false := by rw [G1.out, hx, hy]; rfl
            have g6 : s2 k c = false := by rw [G2.out, hx, hy]; rfl
            have g7 : s3 k c = false := by rw [G3.out, hx, hy]; rfl
            clear hx hy
            have m5 := upto_miss s1 k c g5
            have m6 := upto_miss s2 k c g6
            have m7 := upto_miss s3 k c g7
            go_wp2_with fail
            replace hV := hV.as5 m5
            replace hV := hV.as6 m6
            replace hV := hV.as7 m7
            go_roundw
            case rel => exact ⟨c + 1, by omega, by go_num, hV⟩
            case measure => simp [intOf]; omega
          · have g5 : s1 k c = true := by rw [G1.out, hx, hy]; rfl
            have g6 : s2 k c = false := by rw [G2.out, hx, hy]; rfl
            have g7 : s3 k c = false := by rw [G3.out, hx, hy]; rfl
            clear hx hy
            have m6 := upto_miss s2 k c g6
            have m7 := upto_miss s3 k c g7
            go_wp2_with (first | (apply wpList_ld rfl _ rfl _ rfl; focus (first | (with_reducible exact hV.h5) | (with_reducible exact hV.h6) | (with_reducible exact hV.h7))) | (apply wpList_st rfl _ _ rfl _ rfl _ rfl; focus (first | (with_reducible exact hV.h5) | (with_reducible exact hV.h6) | (with_reducible exact hV.h7))))
            refine (put_any _ k c _ hlt hct (blk_wf _ k hlt)).mono ?_
            rintro e w3 ⟨rfl, hb3⟩
            rw [upto_hit s1 k c hlt hct g5]
            replace hV := hV.below hb3
            clear hb3
            have hV2 := hV.row5 (Rw (blk (upto s1 k (c + 1))))
            go_wp2_with (first | (apply wpList_ld rfl _ rfl _ rfl; focus (first | (with_reducible exact hV.h5) | (with_reducible exact hV.h6) | (with_reducible exact hV.h7) | (with_reducible exact hV2.h5) | (with_reducible exact hV2.h6) | (with_reducible exact hV2.h7))) | (apply wpList_st rfl _ _ rfl _ rfl _ rfl; focus (first | (with_reducible exact hV.h5) | (with_reducible exact hV.h6) | (with_reducible exact hV.h7))))
            replace hV := hV2
            clear hV2
            replace hV := hV.as6 m6
            replace hV := hV.as7 m7
            go_roundw
            case rel => exact ⟨c + 1, by omega, by go_num, hV⟩
            case measure => simp [intOf]; omega
          · have g5 : s1 k c = true := by rw [G1.out, hx, hy]; rfl
            have g6 : s2 k c = false := by rw [G2.out, hx, hy]; rfl
            have g7 : s3 k c = true := by rw [G3.out, hx, hy]; rfl
            clear hx hy
            have m6 := upto_miss s2 k c g6
            go_wp2_with (first | (apply wpList_ld rfl _ rfl _ rfl; focus (first | (with_reducible exact hV.h5) | (with_reducible exact hV.h6) | (with_reducible exact hV.h7))) | (apply wpList_st rfl _ _ rfl _ rfl _ rfl; focus (first | (with_reducible exact hV.h5) | (with_reducible exact hV.h6) | (with_reducible exact hV.h7))))
            refine (put_any _ k c _ hlt hct (blk_wf _ k hlt)).mono ?_
            rintro e w3 ⟨rfl, hb3⟩
            rw [upto_hit s1 k c hlt hct g5]
            replace hV := hV.below hb3
            clear hb3
            have hV2 := hV.row5 (Rw (blk (upto s1 k (c + 1))))
            go_wp2_with (first | (apply wpList_ld rfl _ rfl _ rfl; focus (first | (with_reducible exact hV.h5) | (with_reducible exact hV.h6) | (with_reducible exact hV.h7) | (with_reducible exact hV2.h5) | (with_reducible exact hV2.h6) | (with_reducible exact hV2.h7))) | (apply wpList_st rfl _ _ rfl _ rfl _ rfl; focus (first | (with_reducible exact hV.h5) | (with_reducible exact hV.h6) | (with_reducible exact hV.h7))))
            replace hV := hV2
            clear hV2
            refine (put_any _ k c _ hlt hct (blk_wf _ k hlt)).mono ?_
            rintro e w3 ⟨rfl, hb3⟩
            rw [upto_hit s3 k c hlt hct g7]
            replace hV := hV.below hb3
            clear hb3
            have hV2 := hV.row7 (Rw (blk (upto s3 k (c + 1))))
            go_wp2_with (first | (apply wpList_ld rfl _ rfl _ rfl; focus (first | (with_reducible exact hV.h5) | (with_reducible exact hV.h6) | (with_reducible exact hV.h7) | (with_reducible exact hV2.h5) | (with_reducible exact hV2.h6) | (with_reducible exact hV2.h7))) | (apply wpList_st rfl _ _ rfl _ rfl _ rfl; focus (first | (with_reducible exact hV.h5) | (with_reducible exact hV.h6) | (with_reducible exact hV.h7))))
            replace hV := hV2
            clear hV2
            replace hV := hV.as6 m6
            go_roundw
            case rel => exact ⟨c + 1, by omega, by go_num, hV⟩
            case measure => simp [intOf]; omega
          · have g5 : s1 k c = true := by rw [G1.out, hx, hy]; rfl
            have g6 : s2 k c = true := by rw [G2.out, hx, hy]; rfl
            have g7 : s3 k c = false := by rw [G3.out, hx, hy]; rfl
            clear hx hy
            have m7 := upto_miss s3 k c g7
            go_wp2_with (first | (apply wpList_ld rfl _ rfl _ rfl; focus (first | (with_reducible exact hV.h5) | (with_reducible exact hV.h6) | (with_reducible exact hV.h7))) | (apply wpList_st rfl _ _ rfl _ rfl _ rfl; focus (first | (with_reducible exact hV.h5) | (with_reducible exact hV.h6) | (with_reducible exact hV.h7))))
            refine (put_any _ k c _ hlt hct (blk_wf _ k hlt)).mono ?_
            rintro e w3 ⟨rfl, hb3⟩
            rw [upto_hit s1 k c hlt hct g5]
            replace hV := hV.below hb3
            clear hb3
            have hV2 := hV.row5 (Rw (blk (upto s1 k (c + 1))))
            go_wp2_with (first | (apply wpList_ld rfl _ rfl _ rfl; focus (first | (with_reducible exact hV.h5) | (with_reducible exact hV.h6) | (with_reducible exact hV.h7) | (with_reducible exact hV2.h5) | (with_reducible exact hV2.h6) | (with_reducible exact hV2.h7))) | (apply wpList_st rfl _ _ rfl _ rfl _ rfl; focus (first | (with_reducible exact hV.h5) | (with_reducible exact hV.h6) | (with_reducible exact hV.h7))))
            replace hV := hV2
            clear hV2
            refine (put_any _ k c _ hlt hct (blk_wf _ k hlt)).mono ?_
            rintro e w3 ⟨rfl, hb3⟩
            rw [upto_hit s2 k c hlt hct g6]
            replace hV := hV.below hb3
            clear hb3
            have hV2 := hV.row6 (Rw (blk (upto s2 k (c + 1))))
            go_wp2_with (first | (apply wpList_ld rfl _ rfl _ rfl; focus (first | (with_reducible exact hV.h5) | (with_reducible exact hV.h6) | (with_reducible exact hV.h7) | (with_reducible exact hV2.h5) | (with_reducible exact hV2.h6) | (with_reducible exact hV2.h7))) | (apply wpList_st rfl _ _ rfl _ rfl _ rfl; focus (first | (with_reducible exact hV.h5) | (with_reducible exact hV.h6) | (with_reducible exact hV.h7))))
            replace hV := hV2
            clear hV2
            replace hV := hV.as7 m7
            go_roundw
            case rel => exact ⟨c + 1, by omega, by go_num, hV⟩
            case measure => simp [intOf]; omega
        · have e : c = 64 := by omega
          subst e
          replace hV := ((hV.as5 (upto_next s1 k)).as6 (upto_next s2 k)).as7 (upto_next s3 k)
          go_wp2_with fail
          go_roundw
          case rel => exact ⟨k + 1, by omega, by go_num, hV⟩
          case measure => simp [intOf]; omega
    · have e : k = 64 := by omega
      subst e
      replace hV := ((hV.as5 (upto_end s1)).as6 (upto_end s2)).as7 (upto_end s3)
      go_wp2_with fail
      have k2 := hV.h2
      have k3 := hV.h3
      have k4 := hV.h4
      have lo := hV.lo
      refine wp_region_held_drew (S := fun w' => Hold w' (w.heap.size + 5) (Rw (blk s1)) ∧ Hold w' (w.heap.size + 6) (Rw (blk s2)) ∧ Hold w' (w.heap.size + 7) (Rw (blk s3))) (by kernel_rfl) ⟨hV.h5, hV.h6, hV.h7⟩ fun hS => ?_
      replace k2 := k2.drew
      replace k3 := k3.drew
      replace k4 := k4.drew
      replace lo := lo.drew
      clear hV
      generalize wr.drew = wd at *
      refine wpAnyH_take (i := 0) rfl (by kernel_rfl) (by kernel_rfl) (by kernel_rfl) (fun _ _ _ h => h) (yl rfl _ rfl _ rfl fun w' h => h.1) hS ?_
      go_simp
      refine wpAnyH_take (i := 1) rfl (by kernel_rfl) (by kernel_rfl) (by kernel_rfl) (fun _ _ _ h => h) (yl rfl _ rfl _ rfl fun w' h => h.2.1) hS ?_
      go_simp
      refine wpAnyH_take (i := 2) rfl (by kernel_rfl) (by kernel_rfl) (by kernel_rfl) (fun _ _ _ h => h) (yl rfl _ rfl _ rfl fun w' h => h.2.2) hS ?_
      go_simp
      refine wpAnyH_ready (rs := [3]) (by kernel_rfl) (by decide) (AllReadyH.cons rfl (fun K' hK => ?_) AllReadyH.nil)
      refine hw_st rfl _ _ rfl _ rfl _ rfl k2 ?_
      refine hK.out _ _ ⟨hS.1.other (by omega) _, hS.2.1.other (by omega) _, hS.2.2.other (by omega) _⟩ fun hS1 => ?_
      clear hK
      go_simp
      refine wpAnyH_ready (rs := [4]) (by kernel_rfl) (by decide) (AllReadyH.cons rfl (fun K' hK => ?_) AllReadyH.nil)
      refine hw_st rfl _ _ rfl _ rfl _ rfl (k3.other (by omega) _) ?_
      refine hK.out _ _ ⟨hS1.1.other (by omega) _, hS1.2.1.other (by omega) _, hS1.2.2.other (by omega) _⟩ fun hS2 => ?_
      clear hK
      go_simp
      refine wpAnyH_ready (rs := [5]) (by kernel_rfl) (by decide) (AllReadyH.cons rfl (fun K' hK => ?_) AllReadyH.nil)
      refine hw_st rfl _ _ rfl _ rfl _ rfl ((k4.other (by omega) _).other (by omega) _) ?_
      refine hK.out _ _ ⟨hS2.1.other (by omega) _, hS2.2.1.other (by omega) _, hS2.2.2.other (by omega) _⟩ fun hS3 => ?_
      clear hK
      refine wpAnyH_done (by kernel_rfl) ?_ _
      go_wp2_with fail
      exact ret_blk3 rfl (w.heap.size + 2) (w.heap.size + 3) (w.heap.size + 4) rfl rfl rfl (((k2.row _).other (by omega) _).other (by omega) _) (((k3.other (by omega) _).row _).other (by omega) _) (((k4.other (by omega) _).other (by omega) _).row _) rfl
        ⟨rfl, Below.row (Below.row (Below.row lo (by omega) _) (by omega) _) (by omega) _⟩
end
end Go.Proofs.Ytbcklcikmhpclaa
