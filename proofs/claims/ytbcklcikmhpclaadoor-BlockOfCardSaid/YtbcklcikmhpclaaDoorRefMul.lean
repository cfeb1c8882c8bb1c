/-
  The reference's Mul.
-/
import Derived.Test.YtbcklcikmhpclaaDoorAlg
import Derived.Test.YtbcklcikmhpclaaDoorFold
namespace Go.Proofs.YtbcklcikmhpclaaDoor
open Go.RowKit
set_option linter.unusedVariables false
set_option linter.unusedSimpArgs false
/-- What of the product is there before row r, middle k, column c. -/
def mu (f g : Nat → Nat) (r k c : Nat) (i j : Nat) : Bool :=
  if i < r then mulS f g i j else if i = r then ((List.range k).any fun q => bt f r q && bt g q j) || (bt f r k && (bt g k j && decide (j < c))) else false
theorem mu_zero (f g : Nat → Nat) : Rw (fun _ => 0) = Rw (blk (mu f g 0 0 0)) :=
  Rw_blk (fun _ _ => by decide) fun r c _ _ => by unfold mu; simp
theorem mu_hit (f g : Nat → Nat) (r k c : Nat) (hr : r < 64) (hc : c < 64) (h1 : bt f r k = true) (h2 : bt g k c = true) : Rw (putB (blk (mu f g r k c)) r c) = Rw (blk (mu f g r k (c + 1))) :=
  Rw_blk (Wf.putB (blk_wf _) hr hc) fun i j hi hj => by
    rw [putB_bit, blk_bit _ _ _ hj]
    unfold mu
    by_cases e1 : i < r
    · simp [e1, show ¬ i = r by omega]
    · by_cases e2 : i = r
      · subst e2
        rw [if_neg e1, if_neg e1, if_pos rfl, if_pos rfl, h1]
        by_cases e3 : j = c
        · subst e3; simp [h2]
        · have : decide (j < c + 1) = decide (j < c) := by rw [decide_eq_decide]; omega
          simp [e3, this]
      · simp [e1, e2]
theorem mu_miss (f g : Nat → Nat) (r k c : Nat) (h2 : bt g k c = false) : Rw (blk (mu f g r k c)) = Rw (blk (mu f g r k (c + 1))) :=
  blk_congr fun i j hi hj => by
    unfold mu
    by_cases e3 : j = c
    · subst e3; simp [h2]
    · have : decide (j < c + 1) = decide (j < c) := by rw [decide_eq_decide]; omega
      rw [this]
theorem mu_mid (f g : Nat → Nat) (r k c : Nat) (h : bt f r k = false ∨ c = 64) : Rw (blk (mu f g r k c)) = Rw (blk (mu f g r (k + 1) 0)) :=
  blk_congr fun i j hi hj => by
    unfold mu
    rw [List.range_succ, List.any_append]
    rcases h with h | rfl
    · simp [h]
    · simp [hj]
theorem mu_next (f g : Nat → Nat) (r : Nat) : Rw (blk (mu f g r 64 0)) = Rw (blk (mu f g (r + 1) 0 0)) :=
  blk_congr fun i j hi hj => by
    unfold mu
    by_cases e1 : i < r
    · simp [e1, show i < r + 1 by omega]
    · by_cases e2 : i = r
      · subst e2; simp [mulS]
      · simp [e1, e2, show ¬ i < r + 1 by omega]
theorem mu_end (f g : Nat → Nat) : Rw (blk (mu f g 64 0 0)) = Rw (blk (mulS f g)) :=
  blk_congr fun i j hi hj => by unfold mu; rw [if_pos hi]
/-- The four variables. -/
structure MulE (w wr : World) (f g : Nat → Nat) (X : Array Value) : Prop where
  d : Hold wr (w.heap.size + 3) X
  d0 : Hold wr w.heap.size (Rw f)
  d1 : Hold wr (w.heap.size + 1) (Rw g)
  d2 : Hold wr (w.heap.size + 2) (Rw fun _ => 0)
  db : Below w.heap.size w wr
theorem MulE.below {w w1 w2 : World} {f g : Nat → Nat} {X : Array Value} (h : MulE w w1 f g X) (hb : Below w1.heap.size w1 w2) : MulE w w2 f g X :=
  ⟨h.d.below hb h.d.lt, h.d0.below hb h.d0.lt, h.d1.below hb h.d1.lt, h.d2.below hb h.d2.lt, h.db.trans (hb.mono h.db.size)⟩
theorem MulE.put {w w1 : World} {f g : Nat → Nat} {X : Array Value} (h : MulE w w1 f g X) (Y : Array Value) : MulE w (w1.setRow (w.heap.size + 3) Y) f g Y :=
  ⟨h.d.row _, h.d0.other (by omega) _, h.d1.other (by omega) _, h.d2.other (by omega) _, Below.row h.db (by omega) _⟩
theorem MulE.as {w w1 : World} {f g : Nat → Nat} {X Y : Array Value} (h : MulE w w1 f g X) (e : X = Y) : MulE w w1 f g Y := by subst e; exact h
theorem has_below2 (f : Nat → Nat) (r c : Nat) (w : World) (hr : r < 64) (hc : c < 64) :
    Calls Tryd.prog 26 #[.agg (Rw f), .int .i64 r, .int .i64 c] w fun e w' => e = .returned (.bool (bt f r c)) ∧ Below w.heap.size w w' :=
  (has_any f r c w hr hc).mono fun _ _ ⟨he, hw⟩ => ⟨he, by subst hw; exact (Below.refl _ _).alloc (Nat.le_refl _) _⟩
section
set_option maxHeartbeats 2000000
set_option maxRecDepth 100000
theorem rmul_any (f g : Nat → Nat) (w : World) (hf : Wf f) (hg : Wf g) :
    Calls Tryd.prog 16 #[.agg (Rw f), .agg (Rw g)] w fun e w' => e = .returned (.agg (Rw (blk (mulS f g)))) ∧ Below w.heap.size w w' := by
  have hz : ∀ w, (zeroValue 25).run Tryd.prog w = .ok (.agg (Rw fun _ => 0)) w := (zero_of_info blockZero).1
  go_enter Tryd.func16, Tryd.ntmps16
  go_wp2_with fail
  go_loopw [6] (fun i wr => ∃ r : Nat, r ≤ 64 ∧ i = .int .i64 r ∧ MulE w wr f g (Rw (blk (mu f g r 0 0)))) (fun i _ => 64 - (intOf i).toNat)
  case atStart =>
    refine ⟨0, Nat.zero_le _, rfl, ?_, ((((Hold.new rfl).alloc _).alloc _).alloc _), (((Hold.new (by simp)).alloc _).alloc _), ((Hold.new (by simp)).alloc _), ((((Below.refl _ _).alloc (Nat.le_refl _) _).alloc (by simp) _).alloc (by simp; omega) _).alloc (by simp; omega) _⟩
    rw [← mu_zero]; exact Hold.new (by simp)
  case round =>
    obtain ⟨r, hr, rfl, E⟩ := hrel
    by_cases hr6 : r < 64
    · obtain ⟨wo, rfl⟩ : ∃ wo : World, wo = wr := ⟨_, rfl⟩
      have hdr : decide ((r : Int) < 64) = true := by rw [decide_eq_true_eq]; omega
      go_wp2_with fail
      go_loopw [7] (fun j wr => ∃ k : Nat, k ≤ 64 ∧ j = .int .i64 k ∧ MulE w wr f g (Rw (blk (mu f g r k 0)))) (fun j _ => 64 - (intOf j).toNat)
      case atStart => exact ⟨0, Nat.zero_le _, rfl, E⟩
      case round =>
        clear E
        obtain ⟨k, hk, rfl, E⟩ := hrel
        by_cases hk6 : k < 64
        · obtain ⟨wp, rfl⟩ : ∃ wp : World, wp = wr := ⟨_, rfl⟩
          have hdk : decide ((k : Int) < 64) = true := by rw [decide_eq_true_eq]; omega
          go_wp2_with fail
          go_loopw [8] (fun j wr => ∃ c : Nat, c ≤ 64 ∧ j = .int .i64 c ∧ MulE w wr f g (Rw (blk (mu f g r k c)))) (fun j _ => 64 - (intOf j).toNat)
          case atStart => exact ⟨0, Nat.zero_le _, rfl, E⟩
          case round =>
            clear E
            obtain ⟨c, hc, rfl, E⟩ := hrel
            have d := E.d
            have d0 := E.d0
            have d1 := E.d1
            by_cases hc6 : c < 64
            · have hdc : decide ((c : Int) < 64) = true := by rw [decide_eq_true_eq]; omega
              cases hb : bt f r k
              · have E := E.as (mu_mid f g r k c (.inl hb))
                clear d d0 d1
                have d := E.d
                have d0 := E.d0
                have d1 := E.d1
                go_wp2_with (first | (apply wpList_ld rfl _ rfl _ rfl; focus ((repeat' (first | (with_reducible assumption) | ((with_reducible refine Hold.new ?_); first | (with_reducible rfl) | (simp; done)) | (with_reducible apply Hold.alloc) | (with_reducible apply Hold.row) | ((with_reducible apply Hold.other); rotate_left; focus (first | omega | (simp; omega))))); done)) | (apply wpList_st rfl _ _ rfl _ rfl _ rfl; focus ((repeat' (first | (with_reducible assumption) | ((with_reducible refine Hold.new ?_); first | (with_reducible rfl) | (simp; done)) | (with_reducible apply Hold.alloc) | (with_reducible apply Hold.row) | ((with_reducible apply Hold.other); rotate_left; focus (first | omega | (simp; omega))))); done)) | (refine wpList_bd rfl rfl ?_))
                refine (has_below2 f r k _ hr6 hk6).mono ?_
                rintro e w1 ⟨rfl, hb1⟩
                rw [hb]
                have E1 := E.below hb1
                clear hb1 E d d0 d1
                go_wp2_with fail
                go_roundw
                case rel => exact ⟨k + 1, by omega, by go_num, E1⟩
                case measure => simp [intOf]; omega
              · go_wp2_with (first | (apply wpList_ld rfl _ rfl _ rfl; focus ((repeat' (first | (with_reducible assumption) | ((with_reducible refine Hold.new ?_); first | (with_reducible rfl) | (simp; done)) | (with_reducible apply Hold.alloc) | (with_reducible apply Hold.row) | ((with_reducible apply Hold.other); rotate_left; focus (first | omega | (simp; omega))))); done)) | (apply wpList_st rfl _ _ rfl _ rfl _ rfl; focus ((repeat' (first | (with_reducible assumption) | ((with_reducible refine Hold.new ?_); first | (with_reducible rfl) | (simp; done)) | (with_reducible apply Hold.alloc) | (with_reducible apply Hold.row) | ((with_reducible apply Hold.other); rotate_left; focus (first | omega | (simp; omega))))); done)) | (refine wpList_bd rfl rfl ?_))
                refine (has_below2 f r k _ hr6 hk6).mono ?_
                rintro e w1 ⟨rfl, hb1⟩
                rw [hb]
                have E1 := E.below hb1
                clear hb1 E d d0 d1
                have d := E1.d
                have d0 := E1.d0
                have d1 := E1.d1
                go_wp2_with (first | (apply wpList_ld rfl _ rfl _ rfl; focus ((repeat' (first | (with_reducible assumption) | ((with_reducible refine Hold.new ?_); first | (with_reducible rfl) | (simp; done)) | (with_reducible apply Hold.alloc) | (with_reducible apply Hold.row) | ((with_reducible apply Hold.other); rotate_left; focus (first | omega | (simp; omega))))); done)) | (apply wpList_st rfl _ _ rfl _ rfl _ rfl; focus ((repeat' (first | (with_reducible assumption) | ((with_reducible refine Hold.new ?_); first | (with_reducible rfl) | (simp; done)) | (with_reducible apply Hold.alloc) | (with_reducible apply Hold.row) | ((with_reducible apply Hold.other); rotate_left; focus (first | omega | (simp; omega))))); done)) | (refine wpList_bd rfl rfl ?_))
                refine (has_below2 g k c _ hk6 hc6).mono ?_
                rintro e w2 ⟨rfl, hb2⟩
                have E2 := E1.below hb2
                clear hb2 E1 d d0 d1
                cases hg2 : bt g k c
                · have E3 := E2.as (mu_miss f g r k c hg2)
                  clear E2
                  go_wp2_with fail
                  go_roundw
                  case rel => exact ⟨c + 1, by omega, by go_num, E3⟩
                  case measure => simp [intOf]; omega
                · have d := E2.d
                  go_wp2_with (first | (apply wpList_ld rfl _ rfl _ rfl; focus ((repeat' (first | (with_reducible assumption) | ((with_reducible refine Hold.new ?_); first | (with_reducible rfl) | (simp; done)) | (with_reducible apply Hold.alloc) | (with_reducible apply Hold.row) | ((with_reducible apply Hold.other); rotate_left; focus (first | omega | (simp; omega))))); done)) | (apply wpList_st rfl _ _ rfl _ rfl _ rfl; focus ((repeat' (first | (with_reducible assumption) | ((with_reducible refine Hold.new ?_); first | (with_reducible rfl) | (simp; done)) | (with_reducible apply Hold.alloc) | (with_reducible apply Hold.row) | ((with_reducible apply Hold.other); rotate_left; focus (first | omega | (simp; omega))))); done)) | (refine wpList_bd rfl rfl ?_))
                  refine (put_any _ r c _ hr6 hc6 (blk_wf _ r hr6)).mono ?_
                  rintro e w3 ⟨rfl, hb3⟩
                  have E3 := E2.below hb3
                  clear hb3 E2 d
                  have d := E3.d
                  have E4 := (E3.put (Rw (putB (blk (mu f g r k c)) r c))).as (mu_hit f g r k c hr6 hc6 hb hg2)
                  go_wp2_with (first | (apply wpList_ld rfl _ rfl _ rfl; focus ((repeat' (first | (with_reducible assumption) | ((with_reducible refine Hold.new ?_); first | (with_reducible rfl) | (simp; done)) | (with_reducible apply Hold.alloc) | (with_reducible apply Hold.row) | ((with_reducible apply Hold.other); rotate_left; focus (first | omega | (simp; omega))))); done)) | (apply wpList_st rfl _ _ rfl _ rfl _ rfl; focus ((repeat' (first | (with_reducible assumption) | ((with_reducible refine Hold.new ?_); first | (with_reducible rfl) | (simp; done)) | (with_reducible apply Hold.alloc) | (with_reducible apply Hold.row) | ((with_reducible apply Hold.other); rotate_left; focus (first | omega | (simp; omega))))); done)) | (refine wpList_bd rfl rfl ?_))
                  go_roundw
                  case rel => exact ⟨c + 1, by omega, by go_num, E4⟩
                  case measure => simp [intOf]; omega
            · have e : c = 64 := by omega
              subst e
              have E := E.as (mu_mid f g r k 64 (.inr rfl))
              clear d d0 d1
              go_wp2_with fail
              go_roundw
              case rel => exact ⟨k + 1, by omega, by go_num, E⟩
              case measure => simp [intOf]; omega
        · have e : k = 64 := by omega
          subst e
          have E := E.as (mu_next f g r)
          go_wp2_with fail
          go_roundw
          case rel => exact ⟨r + 1, by omega, by go_num, E⟩
          case measure => simp [intOf]; omega
    · have e : r = 64 := by omega
      subst e
      have E := E.as (mu_end f g)
      have d := E.d
      have d2 := E.d2
      have db := E.db
      go_wp2_with (first | (apply wpList_ld rfl _ rfl _ rfl; focus ((repeat' (first | (with_reducible assumption) | ((with_reducible refine Hold.new ?_); first | (with_reducible rfl) | (simp; done)) | (with_reducible apply Hold.alloc) | (with_reducible apply Hold.row) | ((with_reducible apply Hold.other); rotate_left; focus (first | omega | (simp; omega))))); done)) | (apply wpList_st rfl _ _ rfl _ rfl _ rfl; focus ((repeat' (first | (with_reducible assumption) | ((with_reducible refine Hold.new ?_); first | (with_reducible rfl) | (simp; done)) | (with_reducible apply Hold.alloc) | (with_reducible apply Hold.row) | ((with_reducible apply Hold.other); rotate_left; focus (first | omega | (simp; omega))))); done)) | (refine wpList_bd rfl rfl ?_))
      exact ret_blk rfl (w.heap.size + 2) rfl (Hold.row d2 _) rfl ⟨rfl, Below.row db (by omega) _⟩
end
end Go.Proofs.YtbcklcikmhpclaaDoor
