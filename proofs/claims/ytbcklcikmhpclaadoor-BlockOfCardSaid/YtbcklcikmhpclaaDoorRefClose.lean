/-
  The reference's Close.
-/
import Derived.Test.YtbcklcikmhpclaaDoorWork
import Derived.Test.YtbcklcikmhpclaaDoorRefMul
import Derived.Deep.LoopGhost
import Derived.Deep.AppendLies
namespace Go.Proofs.YtbcklcikmhpclaaDoor
open Go.RowKit
set_option linter.unusedVariables false
set_option linter.unusedSimpArgs false
theorem intInfo : (Tryd.prog.info? 3).map (fun i => (i.zero, i.size, i.bytes)) = some (some (.int .i64 0), 1, 8) := by kernel_rfl
theorem intsType : Tryd.prog.underlying 58 = some (.slice 3) := by kernel_rfl
/-- The three variables. -/
structure CloE (w wr : World) (f : Nat → Nat) (X : Array Value) : Prop where
  d : Hold wr (w.heap.size + 2) X
  d0 : Hold wr w.heap.size (Rw f)
  d1 : Hold wr (w.heap.size + 1) (Rw fun _ => 0)
  db : Below w.heap.size w wr
theorem CloE.lt {w wr : World} {f : Nat → Nat} {X : Array Value} (h : CloE w wr f X) : w.heap.size + 3 ≤ wr.heap.size := h.d.lt
theorem CloE.past {w w1 w2 : World} {f : Nat → Nat} {X : Array Value} (h : CloE w w1 f X) (hb : Below (w.heap.size + 3) w1 w2) : CloE w w2 f X :=
  ⟨h.d.below hb (by omega), h.d0.below hb (by omega), h.d1.below hb (by omega), h.db.trans (hb.mono (by omega))⟩
theorem CloE.below {w w1 w2 : World} {f : Nat → Nat} {X : Array Value} (h : CloE w w1 f X) (hb : Below w1.heap.size w1 w2) : CloE w w2 f X := h.past (hb.mono h.lt)
theorem CloE.put {w w1 : World} {f : Nat → Nat} {X : Array Value} (h : CloE w w1 f X) (Y : Array Value) : CloE w (w1.setRow (w.heap.size + 2) Y) f Y :=
  ⟨h.d.row _, h.d0.other (by omega) _, h.d1.other (by omega) _, Below.row h.db (by omega) _⟩
theorem CloE.as {w w1 : World} {f : Nat → Nat} {X Y : Array Value} (h : CloE w w1 f X) (e : X = Y) : CloE w w1 f Y := by subst e; exact h
theorem new_cell (w : World) (cs : Array Value) (t : TypeId) (b i : Nat) (hb : b = w.heap.size) : (w.alloc (.cells cs t)).cell? ⟨b, i, none⟩ = cs[i]? := by
  subst hb; exact cell_of_row _ _ _ _ _ _ (heap_alloc_new w _)
section
set_option maxHeartbeats 2000000
set_option maxRecDepth 100000
theorem rclose_any (f : Nat → Nat) (w : World) (hf : Wf f) :
    Calls Tryd.prog 18 #[.agg (Rw f)] w fun e w' => e = .returned (.agg (Rw (blk (closS f)))) ∧ Below w.heap.size w w' := by
  have hz : ∀ w, (zeroValue 25).run Tryd.prog w = .ok (.agg (Rw fun _ => 0)) w := (zero_of_info blockZero).1
  obtain ⟨i0, hi, hz0, hz1, hz2⟩ := info_parts intInfo
  go_enter Tryd.func18, Tryd.ntmps18
  go_wp2_with fail
  go_loopw [4] (fun i wr => ∃ r : Nat, r ≤ 64 ∧ i = .int .i64 r ∧ CloE w wr f (Rw (blk (cr f r fun _ => false)))) (fun i _ => 64 - (intOf i).toNat)
  case atStart =>
    refine ⟨0, Nat.zero_le _, rfl, ?_, (((Hold.new rfl).alloc _).alloc _), ((Hold.new (by simp)).alloc _), (((Below.refl _ _).alloc (Nat.le_refl _) _).alloc (by simp) _).alloc (by simp; omega) _⟩
    rw [← cr_zero]; exact Hold.new (by simp)
  case round =>
    obtain ⟨r, hr, rfl, E⟩ := hrel
    by_cases hr6 : r < 64
    · obtain ⟨wo, rfl⟩ : ∃ wo : World, wo = wr := ⟨_, rfl⟩
      have hdr : decide ((r : Int) < 64) = true := by rw [decide_eq_true_eq]; omega
      go_wp2_with fail
      go_loopg [5] 129 (fun m v wr => ∃ (g cap n : Nat) (L : List Nat) (X : Nat → Bool), v = .slice (some ⟨g, 0, none⟩) n cap ∧ Own w wr v n L ∧ m = 2 * (64 - fnd X) + n ∧ m ≤ 129 ∧ CI f r X L ∧ CloE w wr f (Rw (blk (cr f r X))))
      case atStart => exact ⟨wo.heap.size, 1, 1, [r], fun _ => false, rfl, own_one E.lt, by simp [fnd], by omega, CI.start f hr6, E.below ((Below.refl _ _).alloc (Nat.le_refl _) _)⟩
      case round =>
        clear E
        obtain ⟨g, cap, n, L, X, rfl, hO, hm, hm2, hC, E⟩ := hrel
        have HO := Lib.hid hO
        have HM := Lib.hid hm
        clear hO hm
        by_cases hn : n = 0
        · subst hn
          have hL : L = [] := List.eq_nil_of_length_eq_zero (by have := HO.out.1; simpa using this)
          subst hL
          have E := E.as (cr_next f r X hC.done)
          go_wp2_with fail
          go_roundw
          case rel => exact ⟨r + 1, by omega, by go_num, E⟩
          case measure => simp [intOf]; omega
        · obtain ⟨q, rfl⟩ : ∃ q, n = q + 1 := ⟨n - 1, by omega⟩
          obtain ⟨L, k, rfl⟩ : ∃ (L' : List Nat) (k : Nat), L = L' ++ [k] := by
            have hl := HO.out.1
            simp at hl
            exact ⟨L.dropLast, L.getLast (by intro e; subst e; simp at hl), (List.dropLast_concat_getLast _).symm⟩
          have hO : w.heap.size + 3 ≤ g ∧ wr.ownsRow (w.heap.size + 3) 3 1 (.slice (some ⟨g, 0, none⟩) (q + 1) cap) (q + 1) (ints L ++ [.int .i64 (k : Int)]) := ⟨(own_in HO.out).1, by have := HO.out; unfold Own ints at this; rwa [List.map_append] at this⟩
          have hcq := own_last hO.2
          have HQ := Lib.hid (own_cut hO.2)
          have HG := Lib.hid hO.1
          have hqc : q + 1 ≤ cap := own_cap hO.2
          have hqc2 : q ≤ cap := by omega
          have hc0 : ¬ cap = 0 := by omega
          have HJ := Lib.hid (CJ.start hC)
          have hk6 := (CJ.start hC).klt
          clear hC hO HO
          have hq : q ≤ 129 := by have := HM.out; omega
          have hwq : wrap64 (q : Int) = q := by simp only [wrap64]; omega
          have hnp : decide (((q + 1 : Nat) : Int) > 0) = true := by rw [decide_eq_true_eq]; omega
          go_wp2_with fail
          obtain ⟨wp, rfl⟩ : ∃ wp : World, wp = wr := ⟨_, rfl⟩
          clear hcq
          go_loopw [5, 7] (fun v j wr => ∃ (g cap n : Nat) (L : List Nat) (X : Nat → Bool) (c : Nat), v = .slice (some ⟨g, 0, none⟩) n cap ∧ c ≤ 64 ∧ j = .int .i64 c ∧ Own w wr v n L ∧ 2 * (64 - fnd X) + n < gk ∧ CJ f r k c X L ∧ CloE w wr f (Rw (blk (cr f r X)))) (fun _ j _ => 64 - (intOf j).toNat)
          case atStart => exact ⟨g, cap, q, L, X, 0, rfl, by omega, rfl, HQ.out, by have := HM.out; omega, HJ.out, E⟩
          case round =>
            clear E HJ HM HQ HG hqc hqc2 hc0 hq hwq
            obtain ⟨g, cap, n, L, X, c, rfl, hc, rfl, hO, hm, hJ, E⟩ := hrel
            have HO := Lib.hid hO
            have HM := Lib.hid hm
            have HJ := Lib.hid hJ
            clear hO hm hJ
            have d := E.d
            have d0 := E.d0
            by_cases hc6 : c < 64
            · have hdc : decide ((c : Int) < 64) = true := by rw [decide_eq_true_eq]; omega
              go_wp2_with (first | (apply wpList_ld rfl _ rfl _ rfl; focus ((repeat' (first | (with_reducible assumption) | ((with_reducible refine Hold.new ?_); first | (with_reducible rfl) | (simp; done)) | (with_reducible apply Hold.alloc) | (with_reducible apply Hold.row) | ((with_reducible apply Hold.other); rotate_left; focus (first | omega | (simp; omega))))); done)) | (apply wpList_st rfl _ _ rfl _ rfl _ rfl; focus ((repeat' (first | (with_reducible assumption) | ((with_reducible refine Hold.new ?_); first | (with_reducible rfl) | (simp; done)) | (with_reducible apply Hold.alloc) | (with_reducible apply Hold.row) | ((with_reducible apply Hold.other); rotate_left; focus (first | omega | (simp; omega))))); done)) | (refine wpList_bd rfl rfl ?_))
              refine (has_below2 f k c _ hk6 hc6).mono ?_
              rintro e w1 ⟨rfl, hb1⟩
              have E1 := E.below hb1
              have HO1 := Lib.hid (own_below HO.out hb1 (Nat.le_refl _))
              clear hb1 E d d0 HO
              cases hb : bt f k c
              · go_wp2_with fail
                go_roundw
                case rel => exact ⟨g, cap, n, L, X, c + 1, rfl, by omega, by go_num, HO1.out, HM.out, HJ.out.skip (by simp [hb]), E1⟩
                case measure => simp [intOf]; omega
              · have d := E1.d
                go_wp2_with (first | (apply wpList_ld rfl _ rfl _ rfl; focus ((repeat' (first | (with_reducible assumption) | ((with_reducible refine Hold.new ?_); first | (with_reducible rfl) | (simp; done)) | (with_reducible apply Hold.alloc) | (with_reducible apply Hold.row) | ((with_reducible apply Hold.other); rotate_left; focus (first | omega | (simp; omega))))); done)) | (apply wpList_st rfl _ _ rfl _ rfl _ rfl; focus ((repeat' (first | (with_reducible assumption) | ((with_reducible refine Hold.new ?_); first | (with_reducible rfl) | (simp; done)) | (with_reducible apply Hold.alloc) | (with_reducible apply Hold.row) | ((with_reducible apply Hold.other); rotate_left; focus (first | omega | (simp; omega))))); done)) | (refine wpList_bd rfl rfl ?_))
                refine (has_below2 (blk (cr f r X)) r c _ hr6 hc6).mono ?_
                rintro e w2 ⟨rfl, hb2⟩
                rw [cr_bit f r c X hc6]
                have E2 := E1.below hb2
                have HO2 := Lib.hid (own_below HO1.out hb2 (Nat.le_refl _))
                clear hb2 E1 d HO1
                cases hx : X c
                · have d := E2.d
                  go_wp2_with (first | (apply wpList_ld rfl _ rfl _ rfl; focus ((repeat' (first | (with_reducible assumption) | ((with_reducible refine Hold.new ?_); first | (with_reducible rfl) | (simp; done)) | (with_reducible apply Hold.alloc) | (with_reducible apply Hold.row) | ((with_reducible apply Hold.other); rotate_left; focus (first | omega | (simp; omega))))); done)) | (apply wpList_st rfl _ _ rfl _ rfl _ rfl; focus ((repeat' (first | (with_reducible assumption) | ((with_reducible refine Hold.new ?_); first | (with_reducible rfl) | (simp; done)) | (with_reducible apply Hold.alloc) | (with_reducible apply Hold.row) | ((with_reducible apply Hold.other); rotate_left; focus (first | omega | (simp; omega))))); done)) | (refine wpList_bd rfl rfl ?_))
                  refine (put_any _ r c _ hr6 hc6 (blk_wf _ r hr6)).mono ?_
                  rintro e w3 ⟨rfl, hb3⟩
                  have E3 := E2.below hb3
                  have HO3 := Lib.hid (own_below HO2.out hb3 (Nat.le_refl _))
                  clear hb3 E2 d HO2
                  have d := E3.d
                  have E4 := (E3.put (Rw (putB (blk (cr f r X)) r c))).as (cr_hit f r c X hr6 hc6)
                  have HO4 := Lib.hid (own_row (k := w.heap.size + 2) HO3.out (by omega) (Rw (putB (blk (cr f r X)) r c)))
                  go_wp2_with (first | (apply wpList_ld rfl _ rfl _ rfl; focus ((repeat' (first | (with_reducible assumption) | ((with_reducible refine Hold.new ?_); first | (with_reducible rfl) | (simp; done)) | (with_reducible apply Hold.alloc) | (with_reducible apply Hold.row) | ((with_reducible apply Hold.other); rotate_left; focus (first | omega | (simp; omega))))); done)) | (apply wpList_st rfl _ _ rfl _ rfl _ rfl; focus ((repeat' (first | (with_reducible assumption) | ((with_reducible refine Hold.new ?_); first | (with_reducible rfl) | (simp; done)) | (with_reducible apply Hold.alloc) | (with_reducible apply Hold.row) | ((with_reducible apply Hold.other); rotate_left; focus (first | omega | (simp; omega))))); done)) | (refine wpList_bd rfl rfl ?_) | (at_builtin; refine wpList_append_own _ rfl _ _ 58 rfl (w.heap.size + 3) 3 i0 (.int .i64 0) 1 8 intsType hi hz0 hz1 hz2 rfl (by decide) _ _ _ rfl (HO4.out.alloc _) _ 1 1 [.int .i64 (c : Int)] rfl rfl ?c1 ?c2 ?c3 ?c4 ?c5 ?_))
                  case c1 =>
                    intro j u hj
                    match j, hj with
                    | 0, hj => simp at hj; subst hj; simp only [Addr.add, if_pos]; exact (new_cell _ _ _ _ 0 (by simp)).trans rfl
                  case c2 => intro u hu; simp at hu; subst hu; rfl
                  case c3 => have := HM.out; unfold maxLen; omega
                  case c4 => have := HM.out; omega
                  case c5 => have := E4.lt; simp at this ⊢; omega
                  · intro v' w5 hown hgrow _
                    obtain ⟨g', cap', rfl, hg1, hg2⟩ := hown.form (by omega)
                    have hO5 : Own w w5 (.slice (some ⟨g', 0, none⟩) (n + 1) cap') (n + 1) (L ++ [c]) := by unfold Own ints; rw [List.map_append]; exact hown
                    have E5 : CloE w w5 f (Rw (blk (cr f r (put1 X c)))) := (E4.below ((Below.refl _ _).alloc (Nat.le_refl _) _)).past ((Below.refl _ _).grown hgrow (by have := E4.lt; simp at this ⊢; omega) (fun q hq => by simp [Value.ownBlock] at hq; have := (own_in HO4.out).1; omega))
                    have hf1 := fnd_put hc6 hx
                    have hf2 := fnd_le (put1 X c)
                    have HJ6 := HJ.out.push hc6 hb
                    clear hown hgrow E4 HO4 d E3 HO3
                    go_wp2_with fail
                    go_roundw
                    case rel => exact ⟨g', cap', n + 1, L ++ [c], put1 X c, c + 1, rfl, by omega, by go_num, hO5, by have := HM.out; omega, HJ6, E5⟩
                    case measure => simp [intOf]; omega
                · go_wp2_with fail
                  go_roundw
                  case rel => exact ⟨g, cap, n, L, X, c + 1, rfl, by omega, by go_num, HO2.out, HM.out, HJ.out.skip (fun _ => hx), E2⟩
                  case measure => simp [intOf]; omega
            · have e : c = 64 := by omega
              subst e
              go_wp2_with fail
              go_roundg (2 * (64 - fnd X) + n)
              case measure => exact HM.out
              case rel => exact ⟨g, cap, n, L, X, rfl, HO.out, rfl, by have := HM.out; omega, HJ.out.stop, E⟩
    · have e : r = 64 := by omega
      subst e
      have E := E.as (cr_end f _)
      have d := E.d
      have d1 := E.d1
      have db := E.db
      go_wp2_with (first | (apply wpList_ld rfl _ rfl _ rfl; focus ((repeat' (first | (with_reducible assumption) | ((with_reducible refine Hold.new ?_); first | (with_reducible rfl) | (simp; done)) | (with_reducible apply Hold.alloc) | (with_reducible apply Hold.row) | ((with_reducible apply Hold.other); rotate_left; focus (first | omega | (simp; omega))))); done)) | (apply wpList_st rfl _ _ rfl _ rfl _ rfl; focus ((repeat' (first | (with_reducible assumption) | ((with_reducible refine Hold.new ?_); first | (with_reducible rfl) | (simp; done)) | (with_reducible apply Hold.alloc) | (with_reducible apply Hold.row) | ((with_reducible apply Hold.other); rotate_left; focus (first | omega | (simp; omega))))); done)) | (refine wpList_bd rfl rfl ?_))
      exact ret_blk rfl (w.heap.size + 1) rfl (Hold.row d1 _) rfl ⟨rfl, Below.row db (by omega) _⟩
end
end Go.Proofs.YtbcklcikmhpclaaDoor
