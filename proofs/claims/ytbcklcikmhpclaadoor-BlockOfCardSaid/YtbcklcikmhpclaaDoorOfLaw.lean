/-
  The law BlockOf, walked.
-/
import Derived.Test.YtbcklcikmhpclaaDoorTurns
import Derived.Test.YtbcklcikmhpclaaDoorAwake
namespace Go.Proofs.YtbcklcikmhpclaaDoor
open Go.RowKit Go.Shelf
set_option linter.unusedVariables false
set_option linter.unusedSimpArgs false
attribute [local go_sem] Oper.semAt_some
attribute [local irreducible] cellsUp flat
/-- The boxes of 'early' and of the result, and what was there before. -/
structure Fr (w w' : World) (early : Int) : Prop where
  be : Bk w' w.heap.size 3 #[.int .i64 early]
  br : Bk w' (w.heap.size + 1) 4 #[.bool false]
  db : Below w.heap.size w w'
theorem Fr.past {w w1 w2 : World} {early : Int} (h : Fr w w1 early) (hb : Below (w.heap.size + 2) w1 w2) : Fr w w2 early := ⟨h.be.below hb (by omega), h.br.below hb (by omega), h.db.trans (hb.mono (by omega))⟩
theorem Fr.lt {w w1 : World} {early : Int} (h : Fr w w1 early) : w.heap.size + 2 ≤ w1.heap.size := h.br.lt
theorem Fr.below {w w1 w2 : World} {early : Int} (h : Fr w w1 early) (hb : Below w1.heap.size w1 w2) : Fr w w2 early := h.past (hb.mono h.lt)
theorem seqType : ((Tryd.prog.underlying 34).map fun d => match d with | .func .. => true | _ => false) = some true := by kernel_rfl
theorem fn_nil (g : Fn) (a b : Array Value) (w : World) : (binOp .eql 34 (.func g a b) .nilFunc).run Tryd.prog w = .ok (.bool false) w := by
  cases hs : Tryd.prog.underlying 34 with
  | none => have := seqType; rw [hs] at this; cases this
  | some s =>
    have h := seqType
    rw [hs] at h
    cases s <;> simp at h
    have e : ∀ d, (Op.equalIn (d + 1) 34 (.func g a b) .nilFunc).run Tryd.prog w = .ok false w := fun d => by simp [Op.equalIn, run_underlying hs]
    simp [binOp, Op.equal]
    rw [show Op.maxDepth = 9999 + 1 from rfl, e]
    rfl
section
set_option maxHeartbeats 8000000
set_option maxRecDepth 100000
theorem of_law (l : Value) (n : Nat) (R C : Nat → Int) (early : Int) (w : World) (hT : Tab w) (h : IsCells w l n R C) (hn16 : n * 16 ≤ 140737488355328) :
    Calls Tryd.prog 3 #[l, .int .i64 early] w fun e w' => e = .returned (.bool true) ∧ Below w.heap.size w w' := by
  have hz : ∀ w, (zeroValue 25).run Tryd.prog w = .ok (.agg (Rw fun _ => 0)) w := (zero_of_info blockZero).1
  obtain ⟨f, k, hf, q1, q2⟩ := of_both n R C (by omega)
  have O1 := Lib.hid q1
  have O2 := Lib.hid q2
  clear q1 q2
  obtain ⟨A, cap, rfl, hA⟩ : ∃ A cap, l = .slice A n cap ∧ (0 < n → ∃ b off, A = some ⟨b, off, none⟩ ∧ b < w.heap.size ∧ ∀ k, k < n → w.cell? ⟨b, off + k * 2, none⟩ = some (.int .i64 (R k)) ∧ w.cell? ⟨b, off + k * 2 + 1, none⟩ = some (.int .i64 (C k))) := by
    rcases h with ⟨rfl, a, cap, rfl⟩ | ⟨b, off, cap, rfl, hb, hc⟩
    · exact ⟨a, cap, rfl, fun h => absurd h (Nat.not_lt_zero _)⟩
    · exact ⟨_, cap, rfl, fun _ => ⟨b, off, rfl, hb, hc⟩⟩
  have HI := Lib.hid h
  have HA := Lib.hid hA
  have HT := Lib.hid hT
  clear h hA hT
  refine (callsIn_wide (n := 10)).1 (callsIn_of_wp_marks Tryd.func3 rfl trivial (wpIn_wide.2 ?_) rfl)
  simp only [Tryd.ntmps3, List.size_toArray, List.length_cons, List.length_nil, Nat.reduceAdd, Nat.reduceSub, Array.replicate_succ, Array.replicate_zero, List.push_toArray, List.append_toArray, List.nil_append, List.cons_append]
  go_wp2_with (first | (apply wpList_ld rfl _ rfl _ rfl; focus ((repeat' (first | (with_reducible assumption) | ((with_reducible refine Hold.new ?_); first | (with_reducible rfl) | (simp; done)) | (with_reducible apply Hold.alloc) | (with_reducible apply Hold.row) | ((with_reducible apply Hold.other); rotate_left; focus (first | omega | (simp; omega))))); done)) | (apply wpList_st rfl _ _ rfl _ rfl _ rfl; focus ((repeat' (first | (with_reducible assumption) | ((with_reducible refine Hold.new ?_); first | (with_reducible rfl) | (simp; done)) | (with_reducible apply Hold.alloc) | (with_reducible apply Hold.row) | ((with_reducible apply Hold.other); rotate_left; focus (first | omega | (simp; omega))))); done)) | (refine wpList_bd rfl rfl ?_) | (at_builtin; refine wpList_append_copy rfl (.tmp 16) (.tmp 17) rfl (w.heap.size + 2) (w.heap.size + 2) rfl ?c1 n R C _ rfl ?c2 hn16 ?c3 ?_))
  case c1 => have := World.ownsRow_lit (base := w.heap.size + 2) (e := 31) (size := 2) ((w.alloc (.cells #[.int .i64 early] 3)).alloc (.cells #[.bool false] 4)) #[] 0 (by simp) (by decide) rfl; simpa using this
  case c2 => exact HI.out.stays (((Below.refl _ _).alloc (Nat.le_refl _) _).alloc (by simp) _ |>.alloc (by simp; omega) _)
  case c3 => simp
  intro v' w1 hown hgrow
  have F1 : Fr w w1 early := by
    have fr : Fr w (((w.alloc (.cells #[.int .i64 early] 3)).alloc (.cells #[.bool false] 4)).alloc (.cells #[] 31)) early :=
      ⟨((Bk.new rfl).alloc _).alloc _, (Bk.new (by simp)).alloc _, ((((Below.refl _ _).alloc (Nat.le_refl _) _).alloc (by simp) _).alloc (by simp; omega) _)⟩
    exact fr.past ((Below.refl _ _).grown hgrow (by simp) (fun q hq => by cases hq; omega))
  have hv := cells_of_own hown
  clear hgrow hown
  obtain ⟨A', cap', rfl, hA'⟩ : ∃ A' cap', v' = .slice A' n cap' ∧ (0 < n → ∃ b off, A' = some ⟨b, off, none⟩ ∧ b < w1.heap.size ∧ ∀ k, k < n → w1.cell? ⟨b, off + k * 2, none⟩ = some (.int .i64 (R k)) ∧ w1.cell? ⟨b, off + k * 2 + 1, none⟩ = some (.int .i64 (C k))) := by
    rcases hv with ⟨rfl, a, cap, rfl⟩ | ⟨b, off, cap, rfl, hb, hc⟩
    · exact ⟨a, cap, rfl, fun h => absurd h (Nat.not_lt_zero _)⟩
    · exact ⟨_, cap, rfl, fun _ => ⟨b, off, rfl, hb, hc⟩⟩
  have HV := Lib.hid hv
  have HB := Lib.hid hA'
  clear hv hA'
  go_wp2_with fail
  refine (O1.out _ _ HV.out).mono ?_
  rintro e w2 ⟨rfl, hb2⟩
  have F2 := F1.below hb2
  have L2 := hb2.size
  have l2 := F2.lt
  go_wp2_with (first | (apply wpList_ld rfl _ rfl _ rfl; focus ((repeat' (first | (with_reducible assumption) | ((with_reducible refine Hold.new ?_); first | (with_reducible rfl) | (simp; done)) | (with_reducible apply Hold.alloc) | (with_reducible apply Hold.row) | ((with_reducible apply Hold.other); rotate_left; focus (first | omega | (simp; omega))))); done)) | (apply wpList_st rfl _ _ rfl _ rfl _ rfl; focus ((repeat' (first | (with_reducible assumption) | ((with_reducible refine Hold.new ?_); first | (with_reducible rfl) | (simp; done)) | (with_reducible apply Hold.alloc) | (with_reducible apply Hold.row) | ((with_reducible apply Hold.other); rotate_left; focus (first | omega | (simp; omega))))); done)) | (refine wpList_bd rfl rfl ?_))
  have F3 : Fr w ((w2.alloc (.cells (Rw fun _ => 0) 25)).setRow w2.heap.size (Rw f)) early := F2.below (Below.row ((Below.refl _ _).alloc (Nat.le_refl _) _) (Nat.le_refl _) _)
  have hb3 : Below w1.heap.size w1 ((w2.alloc (.cells (Rw fun _ => 0) 25)).setRow w2.heap.size (Rw f)) := Below.row (hb2.alloc L2 _) L2 _
  have B3 : Hold ((w2.alloc (.cells (Rw fun _ => 0) 25)).setRow w2.heap.size (Rw f)) w2.heap.size (Rw f) := Hold.row (Hold.new rfl) _
  clear hb2 F2
  generalize (w2.alloc (.cells (Rw fun _ => 0) 25)).setRow w2.heap.size (Rw f) = w3 at *
  refine (O2.out _ _ (HI.out.stays F3.db)).mono ?_
  rintro e w4 ⟨rfl, hb4⟩
  have F4 := F3.below hb4
  have B4 := B3.below hb4 B3.lt
  have hc4 := hb3.trans (hb4.mono hb3.size)
  have l4 := F4.lt
  have L4 := B4.lt
  have M4 := hc4.size
  clear F3 B3 hb3 hb4
  have EQ := fun w => eq_self f w
  go_wp2_with (first | (apply wpList_ld rfl _ rfl _ rfl; focus ((repeat' (first | (with_reducible assumption) | ((with_reducible refine Hold.new ?_); first | (with_reducible rfl) | (simp; done)) | (with_reducible apply Hold.alloc) | (with_reducible apply Hold.row) | ((with_reducible apply Hold.other); rotate_left; focus (first | omega | (simp; omega))))); done)) | (apply wpList_st rfl _ _ rfl _ rfl _ rfl; focus ((repeat' (first | (with_reducible assumption) | ((with_reducible refine Hold.new ?_); first | (with_reducible rfl) | (simp; done)) | (with_reducible apply Hold.alloc) | (with_reducible apply Hold.row) | ((with_reducible apply Hold.other); rotate_left; focus (first | omega | (simp; omega))))); done)) | (refine wpList_bd rfl rfl ?_))
  have F5 : Fr w ((w4.alloc (.cells (Rw fun _ => 0) 25)).setRow w4.heap.size (Rw f)) early := F4.below (Below.row ((Below.refl _ _).alloc (Nat.le_refl _) _) (Nat.le_refl _) _)
  have B5 : Hold ((w4.alloc (.cells (Rw fun _ => 0) 25)).setRow w4.heap.size (Rw f)) w2.heap.size (Rw f) := (B4.alloc _).other (by omega) _
  have W5 : Hold ((w4.alloc (.cells (Rw fun _ => 0) 25)).setRow w4.heap.size (Rw f)) w4.heap.size (Rw f) := Hold.row (Hold.new rfl) _
  have hc5 : Below w1.heap.size w1 ((w4.alloc (.cells (Rw fun _ => 0) 25)).setRow w4.heap.size (Rw f)) := Below.row (hc4.alloc M4 _) M4 _
  clear F4 B4 hc4
  generalize (w4.alloc (.cells (Rw fun _ => 0) 25)).setRow w4.heap.size (Rw f) = w5 at *
  have L5 := hc5.size
  have l5 := F5.lt
  go_loopw [10] (fun i wr => ∃ j : Nat, j ≤ n ∧ i = .int .i64 j ∧ Below w5.heap.size w5 wr) (fun i _ => n - (intOf i).toNat)
  case atStart => exact ⟨0, Nat.zero_le _, rfl, Below.refl _ _⟩
  case round =>
    obtain ⟨j, hj, rfl, hbr⟩ := hrel
    by_cases hjn : j < n
    · obtain ⟨b, off, rfl, hb, hc⟩ := HA.out (by omega)
      obtain ⟨b', off', rfl, hb', hc'⟩ := HB.out (by omega)
      have EC := eq_cell
      go_wp2_with fail
      refine still_all (by kernel_rfl) (by kernel_rfl) fun wd hwd => ?_
      have db := Below.drew_eq hbr hwd
      have e0 : wd.cell? ⟨b, off + j * 2, none⟩ = some (.int .i64 (R j)) := (db.cell (p := ⟨b, off + j * 2, none⟩) (by have := F5.db.size; show b < _; omega)).trans (((F5.db).cell (p := ⟨b, off + j * 2, none⟩) hb).trans (hc j hjn).1)
      have e1 : wd.cell? ⟨b, off + j * 2 + 1, none⟩ = some (.int .i64 (C j)) := (db.cell (p := ⟨b, off + j * 2 + 1, none⟩) (by have := F5.db.size; show b < _; omega)).trans (((F5.db).cell (p := ⟨b, off + j * 2 + 1, none⟩) hb).trans (hc j hjn).2)
      have e2 : wd.cell? ⟨b', off' + j * 2, none⟩ = some (.int .i64 (R j)) := (db.cell (p := ⟨b', off' + j * 2, none⟩) (by show b' < _; omega)).trans ((hc5.cell (p := ⟨b', off' + j * 2, none⟩) hb').trans (hc' j hjn).1)
      have e3 : wd.cell? ⟨b', off' + j * 2 + 1, none⟩ = some (.int .i64 (C j)) := (db.cell (p := ⟨b', off' + j * 2 + 1, none⟩) (by show b' < _; omega)).trans ((hc5.cell (p := ⟨b', off' + j * 2 + 1, none⟩) hb').trans (hc' j hjn).2)
      clear hwd hbr
      repeat still_step
      refine wpStill_nil ?_
      go_wp2_with fail
      go_roundw
      case rel => exact ⟨j + 1, by omega, by go_num, db⟩
      case measure => simp [intOf]; omega
    · have e : j = n := by omega
      subst e
      have B6 := B5.below hbr B5.lt
      have W6 := W5.below hbr W5.lt
      have F6 := F5.below hbr
      have L6 := hbr.size
      clear hbr
      go_wp2_with (first | (apply wpList_ld rfl _ rfl _ rfl; focus ((repeat' (first | (with_reducible assumption) | ((with_reducible refine Hold.new ?_); first | (with_reducible rfl) | (simp; done)) | (with_reducible apply Hold.alloc) | (with_reducible apply Hold.row) | ((with_reducible apply Hold.other); rotate_left; focus (first | omega | (simp; omega))))); done)) | (apply wpList_st rfl _ _ rfl _ rfl _ rfl; focus ((repeat' (first | (with_reducible assumption) | ((with_reducible refine Hold.new ?_); first | (with_reducible rfl) | (simp; done)) | (with_reducible apply Hold.alloc) | (with_reducible apply Hold.row) | ((with_reducible apply Hold.other); rotate_left; focus (first | omega | (simp; omega))))); done)) | (refine wpList_bd rfl rfl ?_))
      refine (rcells_any f _).mono ?_
      rintro e w7 ⟨⟨va, rfl, hO⟩, hb7⟩
      have F7 := F6.below hb7
      have B7 := B6.below hb7 B6.lt
      have l7 := F7.lt
      have L7 := hb7.size
      clear hb7 F6 B6 W6
      obtain ⟨Aa, ca, rfl⟩ : ∃ Aa ca, va = .slice Aa (cellsUp f 64).length ca := by
        rcases hO.2 with ⟨rfl, h0⟩ | ⟨g, cp, cur, rfl, _⟩
        · exact ⟨none, 0, by rw [h0]⟩
        · exact ⟨_, _, rfl⟩
      have HO := Lib.hid hO
      clear hO
      go_wp2_with (first | (apply wpList_ld rfl _ rfl _ rfl; focus ((repeat' (first | (with_reducible assumption) | ((with_reducible refine Hold.new ?_); first | (with_reducible rfl) | (simp; done)) | (with_reducible apply Hold.alloc) | (with_reducible apply Hold.row) | ((with_reducible apply Hold.other); rotate_left; focus (first | omega | (simp; omega))))); done)) | (apply wpList_st rfl _ _ rfl _ rfl _ rfl; focus ((repeat' (first | (with_reducible assumption) | ((with_reducible refine Hold.new ?_); first | (with_reducible rfl) | (simp; done)) | (with_reducible apply Hold.alloc) | (with_reducible apply Hold.row) | ((with_reducible apply Hold.other); rotate_left; focus (first | omega | (simp; omega))))); done)) | (refine wpList_bd rfl rfl ?_))
      refine (bcells_any f _).mono ?_
      rintro e w9 ⟨rfl, hw9⟩
      have hb9 : Below w7.heap.size w7 w9 := by rw [hw9]; exact ((Below.refl _ _).alloc (Nat.le_refl _) _).alloc (by simp) _
      have K9 : Bk w9 w7.heap.size 22 #[.slice Aa (cellsUp f 64).length ca] := by rw [hw9]; exact (Bk.new rfl).alloc _
      have S9 : Hold w9 (w7.heap.size + 1) (Rw f) := by rw [hw9]; exact Hold.new (by simp)
      have F9 := F7.below hb9
      have B9 := B7.below hb9 B7.lt
      have HO9 := Lib.hid (own_stay HO.out hb9 (Nat.le_refl _))
      have T9 := HT.out.stays F9.db
      have l9 := F9.lt
      have m9 := S9.lt
      simp only [World.size_alloc]
      clear hw9 hb9 F7 B7 HO
      have LB := fun w' (h : Below w9.heap.size w9 w') => Hold.below B9 h B9.lt
      have LN := fun w' (h : Below w9.heap.size w9 w') => in_class h (len_any f w' hf) h.size
      rw [len_cells f hf 64 (Nat.le_refl _)] at LN
      have LK := fun w' (h : Below w9.heap.size w9 w') => (Bk.below K9 h K9.lt).cell 0
      have hN := cellsUp_le f 64
      have FN := fn_nil
      go_wp2_with fail
      refine quiet_reg (show Below w9.heap.size w9 w9 from Below.refl _ _) (by kernel_rfl) (by kernel_rfl) ?_
      refine wpQuiet_step (fun K hK => ?_); refine k_val (.func (.func 27) #[] #[.pointer (some ⟨w7.heap.size + 1, 0, none⟩)]) rfl (fun w' _ => by go_simp) ?_; go_simp; refine hK _ ?_; clear hK K
      refine wpQuiet_step (fun K hK => ?_); refine k_val (.bool false) rfl (fun w' _ => by go_simp) ?_; go_simp; refine hK _ ?_; clear hK K
      refine wpQuiet_step (fun K hK => ?_); refine k_val (.bool false) rfl (fun w' _ => by go_simp) ?_; go_simp; refine hK _ ?_; clear hK K
      refine wpQuiet_step (fun K hK => ?_); refine k_ld rfl _ rfl _ rfl LB ?_; go_simp; refine hK _ ?_; clear hK K
      refine wpQuiet_step (fun K hK => ?_); refine k_call _ _ _ rfl (fun w' => by go_simp) LN ?_; go_simp; refine hK _ ?_; clear hK K
      refine wpQuiet_step (fun K hK => ?_); refine k_val (.slice Aa (cellsUp f 64).length ca) rfl (fun w' hw' => by have := LK w' hw'; go_simp) ?_; go_simp; refine hK _ ?_; clear hK K
      refine wpQuiet_step (fun K hK => ?_); refine k_val (.int .i64 (cellsUp f 64).length) rfl (fun w' _ => by go_simp) ?_; go_simp; refine hK _ ?_; clear hK K
      refine wpQuiet_step (fun K hK => ?_); refine k_val (.bool false) rfl (fun w' _ => by go_simp) ?_; go_simp; refine hK _ ?_; clear hK K
      refine wpQuiet_step (fun K hK => ?_); refine k_val (.bool false) rfl (fun w' _ => by go_simp) ?_; go_simp; refine hK _ ?_; clear hK K
      refine wpQuiet_nil ?_
      intro wz hbz
      have Kz := K9.below hbz K9.lt
      have Sz := S9.below hbz S9.lt
      have Fz := F9.below hbz
      have HOz := Lib.hid (own_stay HO9.out hbz (Nat.le_refl _))
      have Tz := T9.stays hbz
      have lz := Fz.lt
      have mz := Sz.lt
      clear hbz K9 S9 F9 B9 HO9 T9 LB LN LK
      go_wp2_with fail
      have F10 : Fr w (wz.alloc (.cells #[.int .i64 0] 3)) early := Fz.below ((Below.refl _ _).alloc (Nat.le_refl _) _)
      have K10 := Kz.alloc (.cells #[.int .i64 0] 3)
      have S10 : Hold (wz.alloc (.cells #[.int .i64 0] 3)) (w7.heap.size + 1) (Rw f) := Sz.alloc _
      have HO10 := Lib.hid (World.ownsRow.alloc HOz.out (.cells #[.int .i64 0] 3))
      have T10 : Tab (wz.alloc (.cells #[.int .i64 0] 3)) := Tz.stays ((Below.refl _ _).alloc (Nat.le_refl _) _)
      have t10 : Bk (wz.alloc (.cells #[.int .i64 0] 3)) wz.heap.size 3 #[.int .i64 0] := Bk.new rfl
      clear Kz Sz Fz HOz Tz
      generalize wz.alloc (.cells #[.int .i64 0] 3) = W at *
      have ct := t10.cell 0
      have hlt := t10.lt
      have hwW : w.heap.size < W.heap.size := by omega
      refine wp_loop_rounds 3 ?_
      rw [rounds_succ]
      go_wp2_with fail
      have F11 := F10.below ((Below.refl _ W).alloc (Nat.le_refl _) (.cells #[.int .i64 0] 3))
      have K11 := K10.alloc (.cells #[.int .i64 0] 3)
      have S11 : Hold (W.alloc (.cells #[.int .i64 0] 3)) (w7.heap.size + 1) (Rw f) := S10.alloc _
      have HO11 := Lib.hid (World.ownsRow.alloc HO10.out (.cells #[.int .i64 0] 3))
      have T11 : Tab (W.alloc (.cells #[.int .i64 0] 3)) := T10.stays ((Below.refl _ _).alloc (Nat.le_refl _) _)
      have t11 := t10.alloc (.cells #[.int .i64 0] 3)
      have n11 : Bk (W.alloc (.cells #[.int .i64 0] 3)) W.heap.size 3 #[.int .i64 0] := Bk.new rfl
      have s11 : (W.alloc (.cells #[.int .i64 0] 3)).heap.size = W.heap.size + 1 := World.size_alloc _ _
      clear F10 K10 S10 T10 t10 ct
      generalize W.alloc (.cells #[.int .i64 0] 3) = V at *
      have hglob : 0 < w.heap.size := block_lt_of_cell (HT.out 0 (by decide))
      refine turn_law f hf (w7.heap.size + 1) W.heap.size w.heap.size true rfl S11 T11 hglob (by have := F11.lt; omega) n11 ?assign ?body ?done ?stop
      case assign =>
        intro l x W1 K hK
        simp only [slots, List.setIfInBounds_toArray, List.set_cons_succ, List.set_cons_zero] at hK
        simp only [List.setIfInBounds_toArray, List.set_cons_succ, List.set_cons_zero]
        gi_wp2
        exact hK
      case body =>
        intro l pre x Bx W1 hBx hX hI hlen
        obtain ⟨hG, hN1, hP⟩ := hI
        obtain ⟨⟨yr, yc⟩, hy⟩ : ∃ y, (cellsUp f 64)[pre.length]? = some y := ⟨_, List.getElem?_eq_getElem hlen⟩
        have hpn := fun x : Nat × Nat => prefix_next (x := x) hP hy
        have cn := hN1.cell 0
        have fn := hN1.free 0
        have cx0 := hX.cell 0
        have cx1 := hX.cell 1
        have ca := (K11.grown hG (by simp; omega)).cell 0
        have ce := (F11.be.grown hG (by simp; omega)).cell 0
        have cb := (F11.br.grown hG (by simp; omega)).cell 0
        have fb := (F11.br.grown hG (by simp; omega)).free 0
        have SB := F11.br.grown hG (by simp; omega)
        have ctt := (t11.grown hG (by simp; omega)).cell 0
        obtain ⟨ga, rfl, hga⟩ : ∃ ga, Aa = some ⟨ga, 0, none⟩ ∧ ∀ q, q < (cellsUp f 64).length * 2 → W1.cell? ⟨ga, q, none⟩ = (flat (cellsUp f 64))[q]? := by
          obtain ⟨ga, cc, hv, h1, h2⟩ := HO11.out.form (by omega)
          injection hv with e1 e2 e3
          subst e1
          refine ⟨ga, rfl, fun q hq => ?_⟩
          have hk := HO11.out.kept hG (.inr (by simp [Value.ownBlock]; have := (own_in HO10.out).2; omega))
          exact hk.cellAt q (by omega)
        have hf0 := (hga (pre.length * 2) (by omega)).trans (flat_at _ _ _ _ hy).1
        have hf1 := (hga (pre.length * 2 + 1) (by omega)).trans (flat_at _ _ _ _ hy).2
        have hge : decide ((pre.length : Int) ≥ ((cellsUp f 64).length : Int)) = false := by rw [decide_eq_false_iff_not]; omega
        have hge2 : decide (((cellsUp f 64).length : Int) ≤ (pre.length : Int)) = false := by rw [decide_eq_false_iff_not]; omega
        have hltp : (pre.length : Int) < ((cellsUp f 64).length : Int) := by omega
        have hltq : pre.length < (cellsUp f 64).length := hlen
        have hpl : pre.length ≤ 4096 := by omega
        have EC := eq_cell
        have HG := Lib.hid hG
        have HP := Lib.hid hP
        have HN := Lib.hid hN1
        have HPN := Lib.hid hpn
        have HSB := Lib.hid SB
        clear SB
        have HY := Lib.hid hy
        clear hga hG hP hN1 hpn hy
        simp only [slots, List.setIfInBounds_toArray, List.set_cons_succ, List.set_cons_zero]
        by_cases hxy : x = (yr, yc)
        · subst hxy
          have hq : (((yr : Int) == (yr : Int)) && ((yc : Int) == (yc : Int))) = true := by simp
          gi_wp2
          refine region_reads (by kernel_rfl) (by kernel_rfl) (by kernel_rfl) ?_
          repeat (quiet_step_in (fail))
          refine wpQuietIn_nil ?_
          intro _ hw'
          obtain ⟨nq, rfl⟩ := hw'
          have cn' : (W1.drewN nq).cell? ⟨W.heap.size, 0, none⟩ = some (.int .i64 (pre.length : Int)) := cn
          have fn' : (W1.drewN nq).frozen? ⟨W.heap.size, 0, none⟩ = false := fn
          have ce' : (W1.drewN nq).cell? ⟨w.heap.size, 0, none⟩ = some (.int .i64 early) := ce
          have ct' : (W1.drewN nq).cell? ⟨wz.heap.size, 0, none⟩ = some (.int .i64 0) := ctt
          have cb' : (W1.drewN nq).cell? ⟨w.heap.size + 1, 0, none⟩ = some (.bool false) := cb
          have fb' : (W1.drewN nq).frozen? ⟨w.heap.size + 1, 0, none⟩ = false := fb
          have SE := Lib.hid (step_end (nq := nq) (B := V.heap.size) (n₀ := w.heap.size) (u := .int .i64 ((pre.length : Int) + 1)) HN.out (Nat.le_of_lt hwW))
          have hlen1 : ((pre ++ [(yr, yc)]).length : Int) = (pre.length : Int) + 1 := by simp
          have hne1 : ¬ wz.heap.size = W.heap.size := Nat.ne_of_lt hlt
          have hne2 : ¬ w.heap.size = W.heap.size := Nat.ne_of_lt hwW
          have HL := Lib.hid hlen1
          clear EC cx0 cx1 hf0 hf1 hq cn fn ce ctt cb fb ca hge hge2 hltp hltq FN EQ hlen1
          by_cases he : (pre.length : Int) + 1 = early
          · have he2 : (((pre.length : Int) + 1) == early) = true := by simp [he]
            clear he
            gi_wp2
            exact ⟨SE.out.1, .inr ⟨rfl, rfl, grown_on HG.out SE.out.2.2.1 (fun r e => .inr (by cases e; rfl)), by rw [HL.out]; exact SE.out.2.2.2⟩⟩
          · have he2 : (((pre.length : Int) + 1) == early) = false := by simp [he]
            clear he
            gi_wp2
            exact ⟨SE.out.1, SE.out.2.1, grown_on HG.out SE.out.2.2.1 (fun r e => .inr (by cases e; rfl)), by rw [HL.out]; exact SE.out.2.2.2, (HPN.out _).2 rfl⟩
        · have hq : (((x.1 : Int) == (yr : Int)) && ((x.2 : Int) == (yc : Int))) = false := by
            rw [Bool.eq_false_iff]
            intro h
            simp at h
            exact hxy (Prod.ext (by omega) (by omega))
          gi_wp2
          refine region_reads (by kernel_rfl) (by kernel_rfl) (by kernel_rfl) ?_
          repeat (quiet_step_in (fail))
          refine wpQuietIn_nil ?_
          intro _ hw'
          obtain ⟨nq, rfl⟩ := hw'
          have cn' : (W1.drewN nq).cell? ⟨W.heap.size, 0, none⟩ = some (.int .i64 (pre.length : Int)) := cn
          have fn' : (W1.drewN nq).frozen? ⟨W.heap.size, 0, none⟩ = false := fn
          have ce' : (W1.drewN nq).cell? ⟨w.heap.size, 0, none⟩ = some (.int .i64 early) := ce
          have ct' : (W1.drewN nq).cell? ⟨wz.heap.size, 0, none⟩ = some (.int .i64 0) := ctt
          have cb' : (W1.drewN nq).cell? ⟨w.heap.size + 1, 0, none⟩ = some (.bool false) := cb
          have fb' : (W1.drewN nq).frozen? ⟨w.heap.size + 1, 0, none⟩ = false := fb
          have SE := Lib.hid (step_end (nq := nq) (B := V.heap.size) (n₀ := w.heap.size) (u := .bool false) HSB.out (by omega))
          gi_wp2
          exact ⟨SE.out.1, .inl ⟨rfl, fun h => hxy ((HPN.out x).1 h)⟩⟩
      case done =>
        intro D V2 hD hG hN hK
        have hb12 : Below w.heap.size V V2 := (Below.refl _ V).grown hG (by omega) (fun q e => by cases e; exact Nat.le_of_lt hwW)
        have F12 : Fr w V2 early := ⟨F11.be.grown hG (by simp; omega), F11.br.grown hG (by simp; omega), F11.db.trans hb12⟩
        have K12 := K11.grown hG (by simp; omega)
        have S12 : Hold V2 (w7.heap.size + 1) (Rw f) := (hG.block _ S11.lt (by simp; omega)).trans S11
        have HO12 := Lib.hid (HO11.out.kept hG (by
          rcases HO10.out.2 with ⟨e, _⟩ | ⟨g, cp, cur, e, _, hh, _⟩
          · injection e with e1; subst e1; exact .inl rfl
          · injection e with e1; subst e1; exact .inr (by simp [Value.ownBlock]; have := (Array.getElem?_eq_some_iff.1 hh).1; omega)))
        have T12 := T11.past hb12 hglob
        have t12 := t11.grown hG (by simp; omega)
        have d12 : D < V2.heap.size := (Array.getElem?_eq_some_iff.1 hK).1
        have s12 := hG.size
        have ct := t12.cell 0
        clear hG hb12 hN
        go_wp2_with fail
        have s13 : V2.heap.size < (V2.alloc (.cells #[.int .i64 1] 3)).heap.size := by simp
        have F13 := F12.below ((Below.refl _ V2).alloc (Nat.le_refl _) (.cells #[.int .i64 1] 3))
        have K13 := K12.alloc (.cells #[.int .i64 1] 3)
        have S13 : Hold (V2.alloc (.cells #[.int .i64 1] 3)) (w7.heap.size + 1) (Rw f) := S12.alloc _
        have HO13 := Lib.hid (World.ownsRow.alloc HO12.out (.cells #[.int .i64 1] 3))
        have T13 : Tab (V2.alloc (.cells #[.int .i64 1] 3)) := T12.stays ((Below.refl _ _).alloc (Nat.le_refl _) _)
        have t13 : Bk (V2.alloc (.cells #[.int .i64 1] 3)) V2.heap.size 3 #[.int .i64 1] := Bk.new rfl
        have D13 : (V2.alloc (.cells #[.int .i64 1] 3)).heap[D]? = some (.deferred (some [])) := (heap_alloc_old V2 _ d12).trans hK
        clear F12 K12 S12 HO12 T12 t12 hK ct
        generalize V2.alloc (.cells #[.int .i64 1] 3) = X at *
        have hwX : w.heap.size < X.heap.size := by omega
        have ct := t13.cell 0
        rw [rounds_succ]
        go_wp2_with fail
        have s14 : X.heap.size < (X.alloc (.cells #[.int .i64 0] 3)).heap.size := by simp
        have F14 := F13.below ((Below.refl _ X).alloc (Nat.le_refl _) (.cells #[.int .i64 0] 3))
        have K14 := K13.alloc (.cells #[.int .i64 0] 3)
        have S14 : Hold (X.alloc (.cells #[.int .i64 0] 3)) (w7.heap.size + 1) (Rw f) := S13.alloc _
        have HO14 := Lib.hid (World.ownsRow.alloc HO13.out (.cells #[.int .i64 0] 3))
        have T14 : Tab (X.alloc (.cells #[.int .i64 0] 3)) := T13.stays ((Below.refl _ _).alloc (Nat.le_refl _) _)
        have t14 := t13.alloc (.cells #[.int .i64 0] 3)
        have n14 : Bk (X.alloc (.cells #[.int .i64 0] 3)) X.heap.size 3 #[.int .i64 0] := Bk.new rfl
        have d13 : D < X.heap.size := by omega
        have D14 : (X.alloc (.cells #[.int .i64 0] 3)).heap[D]? = some (.deferred (some [])) := (heap_alloc_old X _ d13).trans D13
        clear F13 K13 S13 T13 t13 D13 ct
        generalize X.alloc (.cells #[.int .i64 0] 3) = Y at *
        refine turn_law f hf (w7.heap.size + 1) X.heap.size w.heap.size false rfl S14 T14 hglob (by omega) n14 ?assign2 ?body2 ?done2 ?stop2
        case assign2 =>
          intro l x W1 K hK
          simp only [slots, List.setIfInBounds_toArray, List.set_cons_succ, List.set_cons_zero] at hK
          simp only [List.setIfInBounds_toArray, List.set_cons_succ, List.set_cons_zero]
          gi_wp2
          exact hK
        case body2 =>
          intro l pre x Bx W1 hBx hX hI hlen
          obtain ⟨hG, hN1, hP⟩ := hI
          obtain ⟨⟨yr, yc⟩, hy⟩ : ∃ y, (cellsUp f 64)[pre.length]? = some y := ⟨_, List.getElem?_eq_getElem hlen⟩
          have hpn := fun x : Nat × Nat => prefix_next (x := x) hP hy
          have cn := hN1.cell 0
          have fn := hN1.free 0
          have cx0 := hX.cell 0
          have cx1 := hX.cell 1
          have ca := (K14.grown hG (by simp; omega)).cell 0
          have ce := (F14.be.grown hG (by simp; omega)).cell 0
          have cb := (F14.br.grown hG (by simp; omega)).cell 0
          have fb := (F14.br.grown hG (by simp; omega)).free 0
          have SB := F14.br.grown hG (by simp; omega)
          have ctt := (t14.grown hG (by simp; omega)).cell 0
          obtain ⟨ga, rfl, hga⟩ : ∃ ga, Aa = some ⟨ga, 0, none⟩ ∧ ∀ q, q < (cellsUp f 64).length * 2 → W1.cell? ⟨ga, q, none⟩ = (flat (cellsUp f 64))[q]? := by
            obtain ⟨ga, cc, hv, h1, h2⟩ := HO14.out.form (by omega)
            injection hv with e1 e2 e3
            subst e1
            refine ⟨ga, rfl, fun q hq => ?_⟩
            have hk := HO14.out.kept hG (.inr (by simp [Value.ownBlock]; have := (own_in HO13.out).2; omega))
            exact hk.cellAt q (by omega)
          have hf0 := (hga (pre.length * 2) (by omega)).trans (flat_at _ _ _ _ hy).1
          have hf1 := (hga (pre.length * 2 + 1) (by omega)).trans (flat_at _ _ _ _ hy).2
          have hge : decide ((pre.length : Int) ≥ ((cellsUp f 64).length : Int)) = false := by rw [decide_eq_false_iff_not]; omega
          have hge2 : decide (((cellsUp f 64).length : Int) ≤ (pre.length : Int)) = false := by rw [decide_eq_false_iff_not]; omega
          have hltp : (pre.length : Int) < ((cellsUp f 64).length : Int) := by omega
          have hltq : pre.length < (cellsUp f 64).length := hlen
          have hpl : pre.length ≤ 4096 := by omega
          have EC := eq_cell
          have HG := Lib.hid hG
          have HP := Lib.hid hP
          have HN := Lib.hid hN1
          have HPN := Lib.hid hpn
          have HSB := Lib.hid SB
          clear SB
          have HY := Lib.hid hy
          clear hga hG hP hN1 hpn hy
          simp only [slots, List.setIfInBounds_toArray, List.set_cons_succ, List.set_cons_zero]
          by_cases hxy : x = (yr, yc)
          · subst hxy
            have hq : (((yr : Int) == (yr : Int)) && ((yc : Int) == (yc : Int))) = true := by simp
            gi_wp2
            refine region_reads (by kernel_rfl) (by kernel_rfl) (by kernel_rfl) ?_
            repeat (quiet_step_in (fail))
            refine wpQuietIn_nil ?_
            intro _ hw'
            obtain ⟨nq, rfl⟩ := hw'
            have cn' : (W1.drewN nq).cell? ⟨X.heap.size, 0, none⟩ = some (.int .i64 (pre.length : Int)) := cn
            have fn' : (W1.drewN nq).frozen? ⟨X.heap.size, 0, none⟩ = false := fn
            have ce' : (W1.drewN nq).cell? ⟨w.heap.size, 0, none⟩ = some (.int .i64 early) := ce
            have ct' : (W1.drewN nq).cell? ⟨V2.heap.size, 0, none⟩ = some (.int .i64 1) := ctt
            have cb' : (W1.drewN nq).cell? ⟨w.heap.size + 1, 0, none⟩ = some (.bool false) := cb
            have fb' : (W1.drewN nq).frozen? ⟨w.heap.size + 1, 0, none⟩ = false := fb
            have SE := Lib.hid (step_end (nq := nq) (B := Y.heap.size) (n₀ := w.heap.size) (u := .int .i64 ((pre.length : Int) + 1)) HN.out (Nat.le_of_lt hwX))
            have hlen1 : ((pre ++ [(yr, yc)]).length : Int) = (pre.length : Int) + 1 := by simp
            have hne1 : ¬ V2.heap.size = X.heap.size := by omega
            have hne2 : ¬ w.heap.size = X.heap.size := by omega
            have HL := Lib.hid hlen1
            clear EC cx0 cx1 hf0 hf1 hq cn fn ce ctt cb fb ca hge hge2 hltp hltq FN EQ hlen1
            gi_wp2
            exact ⟨SE.out.1, SE.out.2.1, grown_on HG.out SE.out.2.2.1 (fun r e => .inr (by cases e; rfl)), by rw [HL.out]; exact SE.out.2.2.2, (HPN.out _).2 rfl⟩
          · have hq : (((x.1 : Int) == (yr : Int)) && ((x.2 : Int) == (yc : Int))) = false := by
              rw [Bool.eq_false_iff]
              intro h
              simp at h
              exact hxy (Prod.ext (by omega) (by omega))
            gi_wp2
            refine region_reads (by kernel_rfl) (by kernel_rfl) (by kernel_rfl) ?_
            repeat (quiet_step_in (fail))
            refine wpQuietIn_nil ?_
            intro _ hw'
            obtain ⟨nq, rfl⟩ := hw'
            have cn' : (W1.drewN nq).cell? ⟨X.heap.size, 0, none⟩ = some (.int .i64 (pre.length : Int)) := cn
            have fn' : (W1.drewN nq).frozen? ⟨X.heap.size, 0, none⟩ = false := fn
            have ce' : (W1.drewN nq).cell? ⟨w.heap.size, 0, none⟩ = some (.int .i64 early) := ce
            have ct' : (W1.drewN nq).cell? ⟨V2.heap.size, 0, none⟩ = some (.int .i64 1) := ctt
            have cb' : (W1.drewN nq).cell? ⟨w.heap.size + 1, 0, none⟩ = some (.bool false) := cb
            have fb' : (W1.drewN nq).frozen? ⟨w.heap.size + 1, 0, none⟩ = false := fb
            have SE := Lib.hid (step_end (nq := nq) (B := Y.heap.size) (n₀ := w.heap.size) (u := .bool false) HSB.out (by omega))
            gi_wp2
            exact ⟨SE.out.1, .inl ⟨rfl, fun h => hxy ((HPN.out x).1 h)⟩⟩
        case done2 =>
          intro D2 Z hD2 hG hN hK
          have hb15 : Below w.heap.size Y Z := (Below.refl _ Y).grown hG (by omega) (fun q e => by cases e; exact Nat.le_of_lt hwX)
          have F15 : Fr w Z early := ⟨F14.be.grown hG (by simp; omega), F14.br.grown hG (by simp; omega), F14.db.trans hb15⟩
          have ca := (K14.grown hG (by simp; omega)).cell 0
          have ct := (t14.grown hG (by simp; omega)).cell 0
          have cn := hN.cell 0
          have D15 : Z.heap[D]? = some (.deferred (some [])) := (hG.block D (by omega) (by simp; omega)).trans D14
          have d15 : D2 < Z.heap.size := (Array.getElem?_eq_some_iff.1 hK).1
          clear hG hb15 F14 K14 S14 T14 t14 n14 D14 S11 T11 n11 K11 F11 t11
          go_wp2_with fail
          rw [rounds_succ]
          go_wp2_with fail
          have F16 := F15.below ((Below.refl _ Z).alloc (Nat.le_refl _) (.cells #[.int .i64 2] 3))
          have E1 : (Z.alloc (.cells #[.int .i64 2] 3)).heap[D]? = some (.deferred (some [])) := (heap_alloc_old Z _ (by omega)).trans D15
          have E2 : (Z.alloc (.cells #[.int .i64 2] 3)).heap[D2]? = some (.deferred (some [])) := (heap_alloc_old Z _ d15).trans hK
          clear F15 D15 hK ca ct cn
          generalize Z.alloc (.cells #[.int .i64 2] 3) = Z1 at *
          refine (awake_any _).mono ?_
          rintro e w' ⟨rfl, hb'⟩
          have F17 := F16.below hb'
          have G1 : w'.heap[D]? = some (.deferred (some [])) := (hb'.block D (Array.getElem?_eq_some_iff.1 E1).1).trans E1
          have G2 : w'.heap[D2]? = some (.deferred (some [])) := (hb'.block D2 (Array.getElem?_eq_some_iff.1 E2).1).trans E2
          clear F16 E1 E2 hb'
          have cb := F17.br.cell 0
          have fb := F17.br.free 0
          have hDD : D ≠ D2 := by omega
          have hrD : w.heap.size + 1 ≠ D := by omega
          have hrD2 : w.heap.size + 1 ≠ D2 := by omega
          have BR : Bk (w'.setCell ⟨w.heap.size + 1, 0, none⟩ (.bool true)) (w.heap.size + 1) 4 #[.bool true] := F17.br.set 0 (.bool true)
          have U1 : (w'.setCell ⟨w.heap.size + 1, 0, none⟩ (.bool true)).heap[D2]? = some (.deferred (some [])) := (heap_setCell_other w' ⟨w.heap.size + 1, 0, none⟩ D2 _ (fun e => hrD2 e.symm)).trans G2
          have U2 : ((w'.setCell ⟨w.heap.size + 1, 0, none⟩ (.bool true)).putObj D2 (.deferred none)).heap[D]? = some (.deferred (some [])) := (World.putObj_heap_other hDD).trans ((heap_setCell_other w' ⟨w.heap.size + 1, 0, none⟩ D _ (fun e => hrD e.symm)).trans G1)
          have BR2 : Bk (((w'.setCell ⟨w.heap.size + 1, 0, none⟩ (.bool true)).putObj D2 (.deferred none)).putObj D (.deferred none)) (w.heap.size + 1) 4 #[.bool true] := (World.putObj_heap_other hrD).trans ((World.putObj_heap_other hrD2).trans BR)
          have BB : Below w.heap.size w (((w'.setCell ⟨w.heap.size + 1, 0, none⟩ (.bool true)).putObj D2 (.deferred none)).putObj D (.deferred none)) :=
            (((F17.db.setCell (p := ⟨w.heap.size + 1, 0, none⟩) (Nat.le_succ _) (.bool true)).grown (grownBy_putObj' _ D2 (.deferred none)) (F17.db.setCell (p := ⟨w.heap.size + 1, 0, none⟩) (Nat.le_succ _) (.bool true)).size (fun q e => by cases e; omega)).grown (grownBy_putObj' _ D (.deferred none)) (((F17.db.setCell (p := ⟨w.heap.size + 1, 0, none⟩) (Nat.le_succ _) (.bool true)).grown (grownBy_putObj' _ D2 (.deferred none)) (F17.db.setCell (p := ⟨w.heap.size + 1, 0, none⟩) (Nat.le_succ _) (.bool true)).size (fun q e => by cases e; omega))).size (fun q e => by cases e; omega))
          have hc := BR2.cell 0
          have HH := Lib.hid hc
          have HU1 := Lib.hid U1
          have HU2 := Lib.hid U2
          have HBB := Lib.hid BB
          clear hc U1 U2 BR BR2 BB G1 G2
          go_wp2_with fail
          refine ⟨by simp, .inl ⟨D2, _, rfl, run_takeDeferred HU1.out, ⟨by simp, .inl ⟨D, _, rfl, run_takeDeferred HU2.out, ?_⟩⟩⟩⟩
          refine ⟨.bool true, ?_, rfl, HBB.out⟩
          have hc := HH.out
          simp [results, Tryd.f3, go_sem, hc]
        case stop2 => intro h; cases h
      case stop =>
        intro _ D m V2 hD hG hN hK
        have hb12 : Below w.heap.size V V2 := (Below.refl _ V).grown hG (by omega) (fun q e => by cases e; exact Nat.le_of_lt hwW)
        have F12 : Fr w V2 early := ⟨F11.be.grown hG (by simp; omega), F11.br.grown hG (by simp; omega), F11.db.trans hb12⟩
        have K12 := K11.grown hG (by simp; omega)
        have S12 : Hold V2 (w7.heap.size + 1) (Rw f) := (hG.block _ S11.lt (by simp; omega)).trans S11
        have HO12 := Lib.hid (HO11.out.kept hG (by
          rcases HO10.out.2 with ⟨e, _⟩ | ⟨g, cp, cur, e, _, hh, _⟩
          · injection e with e1; subst e1; exact .inl rfl
          · injection e with e1; subst e1; exact .inr (by simp [Value.ownBlock]; have := (Array.getElem?_eq_some_iff.1 hh).1; omega)))
        have T12 := T11.past hb12 hglob
        have t12 := t11.grown hG (by simp; omega)
        have d12 : D < V2.heap.size := (Array.getElem?_eq_some_iff.1 hK).1
        have s12 := hG.size
        have ct := t12.cell 0
        clear hG hb12 hN
        go_wp2_with fail
        have s13 : V2.heap.size < (V2.alloc (.cells #[.int .i64 1] 3)).heap.size := by simp
        have F13 := F12.below ((Below.refl _ V2).alloc (Nat.le_refl _) (.cells #[.int .i64 1] 3))
        have K13 := K12.alloc (.cells #[.int .i64 1] 3)
        have S13 : Hold (V2.alloc (.cells #[.int .i64 1] 3)) (w7.heap.size + 1) (Rw f) := S12.alloc _
        have HO13 := Lib.hid (World.ownsRow.alloc HO12.out (.cells #[.int .i64 1] 3))
        have T13 : Tab (V2.alloc (.cells #[.int .i64 1] 3)) := T12.stays ((Below.refl _ _).alloc (Nat.le_refl _) _)
        have t13 : Bk (V2.alloc (.cells #[.int .i64 1] 3)) V2.heap.size 3 #[.int .i64 1] := Bk.new rfl
        have D13 : (V2.alloc (.cells #[.int .i64 1] 3)).heap[D]? = some (.deferred (some [])) := (heap_alloc_old V2 _ d12).trans hK
        clear F12 K12 S12 HO12 T12 t12 hK ct
        generalize V2.alloc (.cells #[.int .i64 1] 3) = X at *
        have hwX : w.heap.size < X.heap.size := by omega
        have ct := t13.cell 0
        rw [rounds_succ]
        go_wp2_with fail
        have s14 : X.heap.size < (X.alloc (.cells #[.int .i64 0] 3)).heap.size := by simp
        have F14 := F13.below ((Below.refl _ X).alloc (Nat.le_refl _) (.cells #[.int .i64 0] 3))
        have K14 := K13.alloc (.cells #[.int .i64 0] 3)
        have S14 : Hold (X.alloc (.cells #[.int .i64 0] 3)) (w7.heap.size + 1) (Rw f) := S13.alloc _
        have HO14 := Lib.hid (World.ownsRow.alloc HO13.out (.cells #[.int .i64 0] 3))
        have T14 : Tab (X.alloc (.cells #[.int .i64 0] 3)) := T13.stays ((Below.refl _ _).alloc (Nat.le_refl _) _)
        have t14 := t13.alloc (.cells #[.int .i64 0] 3)
        have n14 : Bk (X.alloc (.cells #[.int .i64 0] 3)) X.heap.size 3 #[.int .i64 0] := Bk.new rfl
        have d13 : D < X.heap.size := by omega
        have D14 : (X.alloc (.cells #[.int .i64 0] 3)).heap[D]? = some (.deferred (some [])) := (heap_alloc_old X _ d13).trans D13
        clear F13 K13 S13 T13 t13 D13 ct
        generalize X.alloc (.cells #[.int .i64 0] 3) = Y at *
        refine turn_law f hf (w7.heap.size + 1) X.heap.size w.heap.size false rfl S14 T14 hglob (by omega) n14 ?assign3 ?body3 ?done3 ?stop3
        case assign3 =>
          intro l x W1 K hK
          simp only [slots, List.setIfInBounds_toArray, List.set_cons_succ, List.set_cons_zero] at hK
          simp only [List.setIfInBounds_toArray, List.set_cons_succ, List.set_cons_zero]
          gi_wp2
          exact hK
        case body3 =>
          intro l pre x Bx W1 hBx hX hI hlen
          obtain ⟨hG, hN1, hP⟩ := hI
          obtain ⟨⟨yr, yc⟩, hy⟩ : ∃ y, (cellsUp f 64)[pre.length]? = some y := ⟨_, List.getElem?_eq_getElem hlen⟩
          have hpn := fun x : Nat × Nat => prefix_next (x := x) hP hy
          have cn := hN1.cell 0
          have fn := hN1.free 0
          have cx0 := hX.cell 0
          have cx1 := hX.cell 1
          have ca := (K14.grown hG (by simp; omega)).cell 0
          have ce := (F14.be.grown hG (by simp; omega)).cell 0
          have cb := (F14.br.grown hG (by simp; omega)).cell 0
          have fb := (F14.br.grown hG (by simp; omega)).free 0
          have SB := F14.br.grown hG (by simp; omega)
          have ctt := (t14.grown hG (by simp; omega)).cell 0
          obtain ⟨ga, rfl, hga⟩ : ∃ ga, Aa = some ⟨ga, 0, none⟩ ∧ ∀ q, q < (cellsUp f 64).length * 2 → W1.cell? ⟨ga, q, none⟩ = (flat (cellsUp f 64))[q]? := by
            obtain ⟨ga, cc, hv, h1, h2⟩ := HO14.out.form (by omega)
            injection hv with e1 e2 e3
            subst e1
            refine ⟨ga, rfl, fun q hq => ?_⟩
            have hk := HO14.out.kept hG (.inr (by simp [Value.ownBlock]; have := (own_in HO13.out).2; omega))
            exact hk.cellAt q (by omega)
          have hf0 := (hga (pre.length * 2) (by omega)).trans (flat_at _ _ _ _ hy).1
          have hf1 := (hga (pre.length * 2 + 1) (by omega)).trans (flat_at _ _ _ _ hy).2
          have hge : decide ((pre.length : Int) ≥ ((cellsUp f 64).length : Int)) = false := by rw [decide_eq_false_iff_not]; omega
          have hge2 : decide (((cellsUp f 64).length : Int) ≤ (pre.length : Int)) = false := by rw [decide_eq_false_iff_not]; omega
          have hltp : (pre.length : Int) < ((cellsUp f 64).length : Int) := by omega
          have hltq : pre.length < (cellsUp f 64).length := hlen
          have hpl : pre.length ≤ 4096 := by omega
          have EC := eq_cell
          have HG := Lib.hid hG
          have HP := Lib.hid hP
          have HN := Lib.hid hN1
          have HPN := Lib.hid hpn
          have HSB := Lib.hid SB
          clear SB
          have HY := Lib.hid hy
          clear hga hG hP hN1 hpn hy
          simp only [slots, List.setIfInBounds_toArray, List.set_cons_succ, List.set_cons_zero]
          by_cases hxy : x = (yr, yc)
          · subst hxy
            have hq : (((yr : Int) == (yr : Int)) && ((yc : Int) == (yc : Int))) = true := by simp
            gi_wp2
            refine region_reads (by kernel_rfl) (by kernel_rfl) (by kernel_rfl) ?_
            repeat (quiet_step_in (fail))
            refine wpQuietIn_nil ?_
            intro _ hw'
            obtain ⟨nq, rfl⟩ := hw'
            have cn' : (W1.drewN nq).cell? ⟨X.heap.size, 0, none⟩ = some (.int .i64 (pre.length : Int)) := cn
            have fn' : (W1.drewN nq).frozen? ⟨X.heap.size, 0, none⟩ = false := fn
            have ce' : (W1.drewN nq).cell? ⟨w.heap.size, 0, none⟩ = some (.int .i64 early) := ce
            have ct' : (W1.drewN nq).cell? ⟨V2.heap.size, 0, none⟩ = some (.int .i64 1) := ctt
            have cb' : (W1.drewN nq).cell? ⟨w.heap.size + 1, 0, none⟩ = some (.bool false) := cb
            have fb' : (W1.drewN nq).frozen? ⟨w.heap.size + 1, 0, none⟩ = false := fb
            have SE := Lib.hid (step_end (nq := nq) (B := Y.heap.size) (n₀ := w.heap.size) (u := .int .i64 ((pre.length : Int) + 1)) HN.out (Nat.le_of_lt hwX))
            have hlen1 : ((pre ++ [(yr, yc)]).length : Int) = (pre.length : Int) + 1 := by simp
            have hne1 : ¬ V2.heap.size = X.heap.size := by omega
            have hne2 : ¬ w.heap.size = X.heap.size := by omega
            have HL := Lib.hid hlen1
            clear EC cx0 cx1 hf0 hf1 hq cn fn ce ctt cb fb ca hge hge2 hltp hltq FN EQ hlen1
            gi_wp2
            exact ⟨SE.out.1, SE.out.2.1, grown_on HG.out SE.out.2.2.1 (fun r e => .inr (by cases e; rfl)), by rw [HL.out]; exact SE.out.2.2.2, (HPN.out _).2 rfl⟩
          · have hq : (((x.1 : Int) == (yr : Int)) && ((x.2 : Int) == (yc : Int))) = false := by
              rw [Bool.eq_false_iff]
              intro h
              simp at h
              exact hxy (Prod.ext (by omega) (by omega))
            gi_wp2
            refine region_reads (by kernel_rfl) (by kernel_rfl) (by kernel_rfl) ?_
            repeat (quiet_step_in (fail))
            refine wpQuietIn_nil ?_
            intro _ hw'
            obtain ⟨nq, rfl⟩ := hw'
            have cn' : (W1.drewN nq).cell? ⟨X.heap.size, 0, none⟩ = some (.int .i64 (pre.length : Int)) := cn
            have fn' : (W1.drewN nq).frozen? ⟨X.heap.size, 0, none⟩ = false := fn
            have ce' : (W1.drewN nq).cell? ⟨w.heap.size, 0, none⟩ = some (.int .i64 early) := ce
            have ct' : (W1.drewN nq).cell? ⟨V2.heap.size, 0, none⟩ = some (.int .i64 1) := ctt
            have cb' : (W1.drewN nq).cell? ⟨w.heap.size + 1, 0, none⟩ = some (.bool false) := cb
            have fb' : (W1.drewN nq).frozen? ⟨w.heap.size + 1, 0, none⟩ = false := fb
            have SE := Lib.hid (step_end (nq := nq) (B := Y.heap.size) (n₀ := w.heap.size) (u := .bool false) HSB.out (by omega))
            gi_wp2
            exact ⟨SE.out.1, .inl ⟨rfl, fun h => hxy ((HPN.out x).1 h)⟩⟩
        case done3 =>
          intro D2 Z hD2 hG hN hK
          have hb15 : Below w.heap.size Y Z := (Below.refl _ Y).grown hG (by omega) (fun q e => by cases e; exact Nat.le_of_lt hwX)
          have F15 : Fr w Z early := ⟨F14.be.grown hG (by simp; omega), F14.br.grown hG (by simp; omega), F14.db.trans hb15⟩
          have ca := (K14.grown hG (by simp; omega)).cell 0
          have ct := (t14.grown hG (by simp; omega)).cell 0
          have cn := hN.cell 0
          have D15 : Z.heap[D]? = some (.deferred (some [])) := (hG.block D (by omega) (by simp; omega)).trans D14
          have d15 : D2 < Z.heap.size := (Array.getElem?_eq_some_iff.1 hK).1
          clear hG hb15 F14 K14 S14 T14 t14 n14 D14 S11 T11 n11 K11 F11 t11
          go_wp2_with fail
          rw [rounds_succ]
          go_wp2_with fail
          have F16 := F15.below ((Below.refl _ Z).alloc (Nat.le_refl _) (.cells #[.int .i64 2] 3))
          have E1 : (Z.alloc (.cells #[.int .i64 2] 3)).heap[D]? = some (.deferred (some [])) := (heap_alloc_old Z _ (by omega)).trans D15
          have E2 : (Z.alloc (.cells #[.int .i64 2] 3)).heap[D2]? = some (.deferred (some [])) := (heap_alloc_old Z _ d15).trans hK
          clear F15 D15 hK ca ct cn
          generalize Z.alloc (.cells #[.int .i64 2] 3) = Z1 at *
          refine (awake_any _).mono ?_
          rintro e w' ⟨rfl, hb'⟩
          have F17 := F16.below hb'
          have G1 : w'.heap[D]? = some (.deferred (some [])) := (hb'.block D (Array.getElem?_eq_some_iff.1 E1).1).trans E1
          have G2 : w'.heap[D2]? = some (.deferred (some [])) := (hb'.block D2 (Array.getElem?_eq_some_iff.1 E2).1).trans E2
          clear F16 E1 E2 hb'
          have cb := F17.br.cell 0
          have fb := F17.br.free 0
          have hDD : D ≠ D2 := by omega
          have hrD : w.heap.size + 1 ≠ D := by omega
          have hrD2 : w.heap.size + 1 ≠ D2 := by omega
          have BR : Bk (w'.setCell ⟨w.heap.size + 1, 0, none⟩ (.bool true)) (w.heap.size + 1) 4 #[.bool true] := F17.br.set 0 (.bool true)
          have U1 : (w'.setCell ⟨w.heap.size + 1, 0, none⟩ (.bool true)).heap[D2]? = some (.deferred (some [])) := (heap_setCell_other w' ⟨w.heap.size + 1, 0, none⟩ D2 _ (fun e => hrD2 e.symm)).trans G2
          have U2 : ((w'.setCell ⟨w.heap.size + 1, 0, none⟩ (.bool true)).putObj D2 (.deferred none)).heap[D]? = some (.deferred (some [])) := (World.putObj_heap_other hDD).trans ((heap_setCell_other w' ⟨w.heap.size + 1, 0, none⟩ D _ (fun e => hrD e.symm)).trans G1)
          have BR2 : Bk (((w'.setCell ⟨w.heap.size + 1, 0, none⟩ (.bool true)).putObj D2 (.deferred none)).putObj D (.deferred none)) (w.heap.size + 1) 4 #[.bool true] := (World.putObj_heap_other hrD).trans ((World.putObj_heap_other hrD2).trans BR)
          have BB : Below w.heap.size w (((w'.setCell ⟨w.heap.size + 1, 0, none⟩ (.bool true)).putObj D2 (.deferred none)).putObj D (.deferred none)) :=
            (((F17.db.setCell (p := ⟨w.heap.size + 1, 0, none⟩) (Nat.le_succ _) (.bool true)).grown (grownBy_putObj' _ D2 (.deferred none)) (F17.db.setCell (p := ⟨w.heap.size + 1, 0, none⟩) (Nat.le_succ _) (.bool true)).size (fun q e => by cases e; omega)).grown (grownBy_putObj' _ D (.deferred none)) (((F17.db.setCell (p := ⟨w.heap.size + 1, 0, none⟩) (Nat.le_succ _) (.bool true)).grown (grownBy_putObj' _ D2 (.deferred none)) (F17.db.setCell (p := ⟨w.heap.size + 1, 0, none⟩) (Nat.le_succ _) (.bool true)).size (fun q e => by cases e; omega))).size (fun q e => by cases e; omega))
          have hc := BR2.cell 0
          have HH := Lib.hid hc
          have HU1 := Lib.hid U1
          have HU2 := Lib.hid U2
          have HBB := Lib.hid BB
          clear hc U1 U2 BR BR2 BB G1 G2
          go_wp2_with fail
          refine ⟨by simp, .inl ⟨D2, _, rfl, run_takeDeferred HU1.out, ⟨by simp, .inl ⟨D, _, rfl, run_takeDeferred HU2.out, ?_⟩⟩⟩⟩
          refine ⟨.bool true, ?_, rfl, HBB.out⟩
          have hc := HH.out
          simp [results, Tryd.f3, go_sem, hc]
        case stop3 => intro h; cases h
end
end Go.Proofs.YtbcklcikmhpclaaDoor
