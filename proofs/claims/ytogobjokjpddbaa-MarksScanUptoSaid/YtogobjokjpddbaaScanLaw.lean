/-
  MarksScan walked.
-/
import Derived.Test.YtogobjokjpddbaaReads
import Derived.LoopN
namespace Go.Proofs.Ytogobjokjpddbaa
open Go.RowKit Go.Shelf
set_option linter.unusedVariables false
set_option linter.unusedSimpArgs false
attribute [local go_sem] Oper.semAt_some
/-- The boxes of 'early' and of the result, and what was there before. -/
structure Fr (w w' : World) (early : Int) : Prop where
  be : Bk w' w.heap.size 3 #[.int .i64 early]
  br : Bk w' (w.heap.size + 1) 4 #[.bool false]
  db : Below w.heap.size w w'
theorem Fr.past {w w1 w2 : World} {early : Int} (h : Fr w w1 early) (hb : Below (w.heap.size + 2) w1 w2) : Fr w w2 early := ⟨h.be.below hb (by omega), h.br.below hb (by omega), h.db.trans (hb.mono (by omega))⟩
theorem Fr.lt {w w1 : World} {early : Int} (h : Fr w w1 early) : w.heap.size + 2 ≤ w1.heap.size := h.br.lt
theorem Fr.below {w w1 w2 : World} {early : Int} (h : Fr w w1 early) (hb : Below w1.heap.size w1 w2) : Fr w w2 early := h.past (hb.mono h.lt)
def scA (s : ByteArray) : Int := if stopAt s < s.size then stopAt s else 0
def scZ (s : ByteArray) : Int := if stopAt s < s.size then 160 else 0
def scL (s : ByteArray) : List (Nat × Nat × ByteArray) := if stopAt s < s.size then [] else txt s (ml s)
theorem scan_both {s : ByteArray} {w : World} {e : Ending} {w' : World} (h : ScanIs s w e w') : ∃ v, e = .returned (.tuple #[v, .int .i64 (scA s), .int .i64 (scZ s)]) ∧ OwnM w.heap.size w' v (scL s) ∧ Below w.heap.size w w' := by
  obtain ⟨h, hb⟩ := h
  unfold scA scZ scL
  by_cases hlt : stopAt s < s.size
  · rw [if_pos hlt] at h
    rw [if_pos hlt, if_pos hlt, if_pos hlt]
    exact ⟨_, h, World.ownsRow_nil _ _ _ _, hb⟩
  · rw [if_neg hlt] at h
    rw [if_neg hlt, if_neg hlt, if_neg hlt]
    obtain ⟨v, h1, h2⟩ := h
    exact ⟨v, h1, h2, hb⟩
theorem scL_le (s : ByteArray) : (scL s).length ≤ s.size := by
  unfold scL
  split
  · exact Nat.zero_le _
  · rw [txt_length]; exact ml_all s
/-- What the turns find in memory: the boxes, the marks ahead, the sequence's text, the turn's number. -/
structure En (w V : World) (early : Int) (s : ByteArray) (Aa : Option Addr) (c3 B bt : Nat) (t : Int) : Prop where
  F : Fr w V early
  A : Bk V B 22 #[.slice Aa (ml s).length c3]
  S : Bk V (B + 1) 9 #[.string s]
  T : Bk V bt 3 #[.int .i64 t]
  G : 0 < (ml s).length → ∃ ga cur, Aa = some ⟨ga, 0, none⟩ ∧ ga < B ∧ Bk V ga 29 cur ∧
    ∀ k x, (ml s)[k]? = some x → cur[k * 3]? = some (.int .i64 (x.1 : Int)) ∧ cur[k * 3 + 1]? = some (.int .i64 (x.2.1 : Int)) ∧ cur[k * 3 + 2]? = some (.string (s.extract x.2.1 x.2.2))
theorem En.past {w V W : World} {early : Int} {s : ByteArray} {Aa : Option Addr} {c3 B bt : Nat} {t : Int} (h : En w V early s Aa c3 B bt t) {n : Nat} (hb : Below n V W) (h1 : B + 1 < n) (h2 : bt < n) (h3 : w.heap.size + 2 ≤ B) : En w W early s Aa c3 B bt t :=
  ⟨h.F.past (hb.mono (by omega)), h.A.below hb (by omega), h.S.below hb h1, h.T.below hb h2, fun h0 => by
    obtain ⟨ga, cur, g1, g2, g3, g4⟩ := h.G h0
    exact ⟨ga, cur, g1, g2, g3.below hb (by omega), g4⟩⟩
theorem below_grown {V W : World} {bn : Nat} (hg : V.grownBy W (some bn)) (hb : bn < V.heap.size) : Below bn V W := (Below.refl _ V).grown hg (by omega) (fun q e => by cases e; exact Nat.le_refl _)
section
set_option maxHeartbeats 8000000
set_option maxRecDepth 100000
theorem scan_law (s : ByteArray) (early : Int) (w : World) (hs : s.size ≤ 1073741824) :
    Calls Try.prog 3 #[.string s, .int .i64 early] w fun e w' => e = .returned (.bool true) ∧ Below w.heap.size w w' := by
  refine (callsIn_wide (n := 10)).1 (callsIn_of_wp_marks Try.func3 rfl trivial (wpIn_wide.2 ?_) rfl)
  simp only [Try.ntmps3, List.size_toArray, List.length_cons, List.length_nil, Nat.reduceAdd, Nat.reduceSub, Array.replicate_succ, Array.replicate_zero, List.push_toArray, List.append_toArray, List.nil_append, List.cons_append]
  have hlL := scL_le s
  have hml := ml_all s
  go_wp2_with fail
  refine (scan_any s _ hs).mono ?_
  rintro e w1 hw1
  obtain ⟨v, rfl, hO, hb1⟩ := scan_both hw1
  have F1 : Fr w w1 early := by
    have hb : Below (w.heap.size + 2) ((w.alloc (.cells #[.int .i64 early] 3)).alloc (.cells #[.bool false] 4)) w1 := by simpa using hb1
    exact ⟨((Bk.new rfl).alloc _).below hb (by omega), (Bk.new (by simp)).below hb (by omega), (((Below.refl _ _).alloc (Nat.le_refl _) _).alloc (by simp) _).trans (hb.mono (by omega))⟩
  have HO := Lib.hid (show OwnM (w.heap.size + 2) w1 v (scL s) from by simpa using hO)
  clear hO hb1 hw1
  go_wp2_with fail
  refine (rscan_any s _ hs).mono ?_
  rintro e w2 hw2
  obtain ⟨v2, rfl, hO2, hb2⟩ := scan_both hw2
  have F2 := F1.below hb2
  have HO1 := Lib.hid (own_stay HO.out.row hb2 (Nat.le_refl _))
  have HO2 := Lib.hid hO2
  have hl1 := F1.lt
  clear hw2 hb2 F1 HO hO2
  generalize scA s = A at *
  generalize scZ s = Z at *
  generalize scL s = L at *
  go_wp2_with fail
  refine (list_yes _ _ L.length (fn L) _ (SlM.of_own HO1.out) (SlM.of_own HO2.out) (by omega)).mono ?_
  rintro e w3 ⟨rfl, hb3⟩
  have F3 := F2.below hb3
  have HO3 := Lib.hid (own_stay HO1.out hb3 (Nat.le_refl _))
  clear hb3 F2 HO1 HO2
  obtain ⟨ca, cap, rfl, hcur⟩ : ∃ (ca : Option Addr) (cap : Nat), v = .slice ca L.length cap ∧ (0 < L.length → ∃ g cur, ca = some ⟨g, 0, none⟩ ∧ w.heap.size + 2 ≤ g ∧ w3.heap[g]? = some (.cells cur 29 (0, 0)) ∧ L.length * 3 ≤ cur.size) := by
    rcases HO3.out.2 with ⟨rfl, h0⟩ | ⟨g, cap, cur, rfl, h1, h2, h3, _, h5, _⟩
    · exact ⟨none, 0, by rw [h0], fun h => by omega⟩
    · exact ⟨_, cap, rfl, fun _ => ⟨g, cur, rfl, h1, h2, by rw [h5]; exact Nat.mul_le_mul_right 3 h3⟩⟩
  have HC := Lib.hid hcur
  clear hcur HO3
  go_wp2_with fail
  go_loopw [11] (fun iv wr => ∃ k : Nat, iv = .int .i64 k ∧ k ≤ L.length ∧ Fr w wr early ∧ Hid (0 < L.length → ∃ g cur, ca = some ⟨g, 0, none⟩ ∧ w.heap.size + 2 ≤ g ∧ wr.heap[g]? = some (.cells cur 29 (0, 0)) ∧ L.length * 3 ≤ cur.size)) (fun iv _ => L.length - (intOf iv).toNat)
  case atStart => exact ⟨0, rfl, Nat.zero_le _, F3, HC⟩
  case round =>
    clear F3 HC
    obtain ⟨k, rfl, hk, Fw, HC⟩ := hrel
    by_cases hkl : k < L.length
    · have hdk : decide ((k : Int) < (L.length : Int)) = true := by rw [decide_eq_true_eq]; omega
      obtain ⟨g, cur, rfl, hg, hcur, hsz⟩ := HC.out (by omega)
      have hB : Bk wr g 29 cur := hcur
      have c0 : wr.cell? ⟨g, k * 3, none⟩ = some (cur[k * 3]'(by omega)) := (hB.cell _).trans (Array.getElem?_eq_getElem (by omega))
      have c1 : wr.cell? ⟨g, k * 3 + 1, none⟩ = some (cur[k * 3 + 1]'(by omega)) := (hB.cell _).trans (Array.getElem?_eq_getElem (by omega))
      have c2 : wr.cell? ⟨g, k * 3 + 2, none⟩ = some (cur[k * 3 + 2]'(by omega)) := (hB.cell _).trans (Array.getElem?_eq_getElem (by omega))
      have f0 := hB.free (k * 3)
      have f1 := hB.free (k * 3 + 1)
      have f2 := hB.free (k * 3 + 2)
      generalize cur[k * 3]'(by omega) = x0 at c0
      generalize cur[k * 3 + 1]'(by omega) = x1 at c1
      generalize cur[k * 3 + 2]'(by omega) = x2 at c2
      have HB := Lib.hid hB
      have HF := Lib.hid Fw
      clear hB hcur Fw HC
      go_wp2_with fail
      have b3 := ((HB.out.set (k * 3) (.int .i64 77)).set (k * 3 + 1) (.int .i64 0)).set (k * 3 + 2) (.string ⟨#[]⟩)
      have F3 : Fr w (((wr.setCell ⟨g, k * 3, none⟩ (.int .i64 77)).setCell ⟨g, k * 3 + 1, none⟩ (.int .i64 0)).setCell ⟨g, k * 3 + 2, none⟩ (.string ⟨#[]⟩)) early :=
        HF.out.past ((((Below.refl _ wr).setCell (p := ⟨g, k * 3, none⟩) hg _).setCell (p := ⟨g, k * 3 + 1, none⟩) hg _).setCell (p := ⟨g, k * 3 + 2, none⟩) hg _)
      go_roundw
      case rel => exact ⟨k + 1, by go_num, by omega, F3, Lib.hid fun _ => ⟨g, _, rfl, hg, b3, by simpa using hsz⟩⟩
      case measure => simp [intOf]; omega
    · have hdk : decide ((k : Int) < (L.length : Int)) = false := by rw [decide_eq_false_iff_not]; omega
      clear HC
      go_wp2_with fail
      refine (rcut_any s _ hs).mono ?_
      rintro e w4 ⟨⟨v3, rfl, hO4⟩, hb4⟩
      have F4 := Fw.below hb4
      obtain ⟨Aa, c3, rfl, hA3⟩ : ∃ (Aa : Option Addr) (c3 : Nat), v3 = .slice Aa (ml s).length c3 ∧ (0 < (ml s).length → ∃ ga cur, Aa = some ⟨ga, 0, none⟩ ∧ Bk w4 ga 29 cur ∧
          ∀ k x, (ml s)[k]? = some x → cur[k * 3]? = some (.int .i64 (x.1 : Int)) ∧ cur[k * 3 + 1]? = some (.int .i64 (x.2.1 : Int)) ∧ cur[k * 3 + 2]? = some (.string (s.extract x.2.1 x.2.2))) := by
        rcases hO4.row.2 with ⟨rfl, h0⟩ | ⟨g, cap, cur, rfl, h1, h2, h3, _, h5, h6⟩
        · rw [txt_length] at h0
          exact ⟨none, 0, by rw [h0], fun h => by omega⟩
        · refine ⟨_, cap, by rw [txt_length], fun _ => ⟨g, cur, rfl, h2, fun k x hx => ?_⟩⟩
          have hx' : (txt s (ml s))[k]? = some (x.1, x.2.1, s.extract x.2.1 x.2.2) := by unfold txt; rw [List.getElem?_map, hx]; rfl
          have hk := (List.getElem?_eq_some_iff.1 hx).1
          obtain ⟨a, b, c⟩ := flatM_at _ k _ hx'
          rw [txt_length] at h6
          have e : ∀ j, j < (ml s).length * 3 → cur[j]? = (flatM (txt s (ml s)))[j]? := fun j hj => by
            rw [← h6, List.getElem?_take, if_pos hj]; simp
          exact ⟨(e _ (by omega)).trans a, (e _ (by omega)).trans b, (e _ (by omega)).trans c⟩
      have HA := Lib.hid hA3
      have hl4 := F4.lt
      clear hb4 hO4 hA3 Fw
      have FN := fn_nil
      go_wp2_with fail
      refine (allof_any s _).mono ?_
      rintro e w5 ⟨rfl, rfl⟩
      go_wp2_with fail
      have E5 : En w (((w4.alloc (.cells #[.slice Aa (ml s).length c3] 22)).alloc (.cells #[.string s] 9)).alloc (.cells #[.int .i64 0] 3)) early s Aa c3 w4.heap.size (w4.heap.size + 2) 0 :=
        ⟨F4.below ((((Below.refl _ _).alloc (Nat.le_refl _) _).alloc (by simp) _).alloc (by simp; omega) _), ((Bk.new rfl).alloc _).alloc _, (Bk.new (by simp)).alloc _, Bk.new (by simp), fun h0 => by
          obtain ⟨ga, cur, h1, h2, h3⟩ := HA.out h0
          exact ⟨ga, cur, h1, h2.lt, ((h2.alloc _).alloc _).alloc _, h3⟩⟩
      have s5 : (((w4.alloc (.cells #[.slice Aa (ml s).length c3] 22)).alloc (.cells #[.string s] 9)).alloc (.cells #[.int .i64 0] 3)).heap.size = w4.heap.size + 3 := by simp
      clear F4 HA
      generalize ((w4.alloc (.cells #[.slice Aa (ml s).length c3] 22)).alloc (.cells #[.string s] 9)).alloc (.cells #[.int .i64 0] 3) = V at *
      generalize w4.heap.size = B at *
      have hsV : B + 3 ≤ V.heap.size := by omega
      have hsV2 : V.heap.size ≤ B + 3 := by omega
      clear s5
      have ct : V.cell? ⟨B + 2, 0, none⟩ = some (.int .i64 0) := E5.T.cell 0
      refine wp_loop_rounds 3 ?_
      rw [rounds_succ]
      go_wp2_with fail
      have E6 : En w (V.alloc (.cells #[.int .i64 0] 3)) early s Aa c3 B (B + 2) 0 := E5.past ((Below.refl _ V).alloc (Nat.le_refl _) _) (by omega) (by omega) hl4
      have n6 : Bk (V.alloc (.cells #[.int .i64 0] 3)) V.heap.size 3 #[.int .i64 0] := Bk.new rfl
      clear ct E5
      refine turn_law (p := 68) (q := 17) (id := 4) s (by omega) (B + 1) V.heap.size true rfl E6.S (by omega) n6 ?exit ?assign ?body ?after
      case exit => intro a W h; exact wp_exit h
      case assign =>
        intro l x W1 K hK
        simp only [slots, mc, List.setIfInBounds_toArray, List.set_cons_succ, List.set_cons_zero] at hK
        simp only [List.setIfInBounds_toArray, List.set_cons_succ, List.set_cons_zero]
        generalize vm s x = y at *
        gi_wp2
        exact hK
      case body =>
        intro l pre x Bx W1 hBx hX hI hlen
        obtain ⟨hG, hN1, hP⟩ := hI
        have hEN := E6.past (below_grown hG (by simp)) (by omega) (by omega) hl4
        obtain ⟨y, hy⟩ : ∃ y, (ml s)[pre.length]? = some y := ⟨_, List.getElem?_eq_getElem hlen⟩
        have hnx := ahead_next (x := x) hP hy
        obtain ⟨ga, cur, hAa, hga, hcur, hcells⟩ := hEN.G (by omega)
        subst hAa
        obtain ⟨q0, q1, q2⟩ := hcells _ y hy
        have e0 := (hcur.cell _).trans q0
        have e1 := (hcur.cell _).trans q1
        have e2 := (hcur.cell _).trans q2
        have cn : W1.cell? ⟨V.heap.size, 0, none⟩ = some (.int .i64 (pre.length : Int)) := hN1.cell 0
        have fn := hN1.free 0
        have cx0 : W1.cell? ⟨Bx, 0, none⟩ = some (.int .i64 ((vm s x).1 : Int)) := hX.cell 0
        have cx1 : W1.cell? ⟨Bx, 1, none⟩ = some (.int .i64 ((vm s x).2.1 : Int)) := hX.cell 1
        have cx2 : W1.cell? ⟨Bx, 2, none⟩ = some (.string (s.extract (vm s x).2.1 (vm s x).2.2)) := hX.cell 2
        have ca : W1.cell? ⟨B, 0, none⟩ = some (.slice (some ⟨ga, 0, none⟩) (ml s).length c3) := hEN.A.cell 0
        have ce : W1.cell? ⟨w.heap.size, 0, none⟩ = some (.int .i64 early) := hEN.F.be.cell 0
        have cb : W1.cell? ⟨w.heap.size + 1, 0, none⟩ = some (.bool false) := hEN.F.br.cell 0
        have fb := hEN.F.br.free 0
        have ctt : W1.cell? ⟨(B + 2), 0, none⟩ = some (.int .i64 0) := hEN.T.cell 0
        have hge : decide ((pre.length : Int) ≥ ((ml s).length : Int)) = false := by rw [decide_eq_false_iff_not]; omega
        have hge2 : decide (((ml s).length : Int) ≤ (pre.length : Int)) = false := by rw [decide_eq_false_iff_not]; omega
        have hltp : (pre.length : Int) < ((ml s).length : Int) := by omega
        have hpl : pre.length ≤ 1073741824 := by omega
        have EC := eq_mark
        have HG := Lib.hid hG
        have HN := Lib.hid hN1
        have HNX := Lib.hid hnx
        clear hG hP hN1 hnx hcells q0 q1 q2 hcur hy hX hEN
        simp only [slots, List.setIfInBounds_toArray, List.set_cons_succ, List.set_cons_zero]
        by_cases hxy : ((vm s x).1, (vm s x).2.1, s.extract (vm s x).2.1 (vm s x).2.2) = (y.1, y.2.1, s.extract y.2.1 y.2.2)
        · have HXY := Lib.hid hxy
          simp only [Prod.mk.injEq] at hxy
          obtain ⟨x1, x2, x3⟩ := hxy
          rw [← x1] at e0
          rw [← x2] at e1
          rw [← x3] at e2
          clear x1 x2 x3
          have hq : (((vm s x).1 : Int) == ((vm s x).1 : Int) && (((vm s x).2.1 : Int) == ((vm s x).2.1 : Int) && ((s.extract (vm s x).2.1 (vm s x).2.2).toList == (s.extract (vm s x).2.1 (vm s x).2.2).toList))) = true := by simp
          gi_wp2
          refine region_reads (by kernel_rfl) (by kernel_rfl) (by kernel_rfl) ?_
          repeat (quiet_step_in (fail))
          refine wpQuietIn_nil ?_
          intro _ hw'
          obtain ⟨nq, rfl⟩ := hw'
          have cn' : (W1.drewN nq).cell? ⟨V.heap.size, 0, none⟩ = some (.int .i64 (pre.length : Int)) := cn
          have fn' : (W1.drewN nq).frozen? ⟨V.heap.size, 0, none⟩ = false := fn
          have ce' : (W1.drewN nq).cell? ⟨w.heap.size, 0, none⟩ = some (.int .i64 early) := ce
          have ct' : (W1.drewN nq).cell? ⟨(B + 2), 0, none⟩ = some (.int .i64 0) := ctt
          have cb' : (W1.drewN nq).cell? ⟨w.heap.size + 1, 0, none⟩ = some (.bool false) := cb
          have fb' : (W1.drewN nq).frozen? ⟨w.heap.size + 1, 0, none⟩ = false := fb
          have SE := Lib.hid (step_end (nq := nq) (B := (V.alloc (.cells #[.int .i64 0] 3)).heap.size) (u := .int .i64 ((pre.length : Int) + 1)) HN.out)
          have hlen1 : ((pre ++ [x]).length : Int) = (pre.length : Int) + 1 := by simp
          have hne1 : ¬ (B + 2) = V.heap.size := by omega
          have hne2 : ¬ w.heap.size = V.heap.size := by omega
          have hne3 : ¬ B = V.heap.size := by omega
          have HL := Lib.hid hlen1
          clear EC cx0 cx1 cx2 e0 e1 e2 hq cn fn ce ctt cb fb ca hge hge2 hltp FN hlen1
          by_cases he : (pre.length : Int) + 1 = early
          · have he2 : (((pre.length : Int) + 1) == early) = true := by simp [he]
            clear he
            gi_wp2
            exact ⟨SE.out.1, .inr ⟨rfl, rfl, grown_on HG.out SE.out.2.1 (fun r e => .inr (by cases e; rfl)), by rw [HL.out]; exact SE.out.2.2⟩⟩
          · have he2 : (((pre.length : Int) + 1) == early) = false := by simp [he]
            clear he
            gi_wp2
            exact ⟨SE.out.1, trivial, grown_on HG.out SE.out.2.1 (fun r e => .inr (by cases e; rfl)), by rw [HL.out]; exact SE.out.2.2, HNX.out.2 HXY.out⟩
        · have hq : (((vm s x).1 : Int) == (y.1 : Int) && (((vm s x).2.1 : Int) == (y.2.1 : Int) && ((s.extract (vm s x).2.1 (vm s x).2.2).toList == (s.extract y.2.1 y.2.2).toList))) = false := by
            by_cases h1 : (vm s x).1 = y.1
            · by_cases h2 : (vm s x).2.1 = y.2.1
              · by_cases h3 : s.extract (vm s x).2.1 (vm s x).2.2 = s.extract y.2.1 y.2.2
                · exact absurd (by rw [h1, h3, h2]) hxy
                · rw [str_ne h3]; simp
              · have : (((vm s x).2.1 : Int) == (y.2.1 : Int)) = false := by simp; omega
                rw [this]; simp
            · have : (((vm s x).1 : Int) == (y.1 : Int)) = false := by simp; omega
              rw [this]; simp
          have HXY := Lib.hid hxy
          clear hxy
          gi_wp2
          refine region_reads (by kernel_rfl) (by kernel_rfl) (by kernel_rfl) ?_
          repeat (quiet_step_in (fail))
          refine wpQuietIn_nil ?_
          intro _ hw'
          obtain ⟨nq, rfl⟩ := hw'
          have cn' : (W1.drewN nq).cell? ⟨V.heap.size, 0, none⟩ = some (.int .i64 (pre.length : Int)) := cn
          have fn' : (W1.drewN nq).frozen? ⟨V.heap.size, 0, none⟩ = false := fn
          have ce' : (W1.drewN nq).cell? ⟨w.heap.size, 0, none⟩ = some (.int .i64 early) := ce
          have ct' : (W1.drewN nq).cell? ⟨(B + 2), 0, none⟩ = some (.int .i64 0) := ctt
          have cb' : (W1.drewN nq).cell? ⟨w.heap.size + 1, 0, none⟩ = some (.bool false) := cb
          have fb' : (W1.drewN nq).frozen? ⟨w.heap.size + 1, 0, none⟩ = false := fb
          clear EC cx0 cx1 cx2 e0 e1 e2 hq cn fn ce ctt cb fb ca hge hge2 hltp FN
          gi_wp2
          have hk := KeepsOthers.setCell (W1.drewN nq) ⟨w.heap.size + 1, 0, none⟩ (.bool false)
          exact ⟨⟨hk.size, fun k o _ h hc => hk.same k o h hc⟩, .inl ⟨rfl, fun h => HXY.out (HNX.out.1 h)⟩⟩
      case after =>
        intro D m V2 hD hG hN hK _
        simp only [World.size_alloc] at hD
        have E12 := E6.past (below_grown hG (by simp)) (by omega) (by omega) hl4
        have d12 : D < V2.heap.size := (Array.getElem?_eq_some_iff.1 hK).1
        have s12 : V.heap.size + 1 ≤ V2.heap.size := by have := hG.size; simpa using this
        have ct : V2.cell? ⟨B + 2, 0, none⟩ = some (.int .i64 0) := E12.T.cell 0
        have cn : V2.cell? ⟨V.heap.size, 0, none⟩ = some (.int .i64 (m : Int)) := hN.cell 0
        have ca : V2.cell? ⟨B, 0, none⟩ = some (.slice Aa (ml s).length c3) := E12.A.cell 0
        clear hG hN E6 n6
        go_wp2_with fail
        have E13 : En w (V2.alloc (.cells #[.int .i64 1] 3)) early s Aa c3 B V2.heap.size 1 := by
          have h := E12.past (n := V2.heap.size) ((Below.refl _ V2).alloc (Nat.le_refl _) (.cells #[.int .i64 1] 3)) (by omega) (by omega) hl4
          exact ⟨h.F, h.A, h.S, Bk.new rfl, h.G⟩
        have D13 : (V2.alloc (.cells #[.int .i64 1] 3)).heap[D]? = some (.deferred (some [])) := (heap_alloc_old V2 _ d12).trans hK
        have s13 : V2.heap.size < (V2.alloc (.cells #[.int .i64 1] 3)).heap.size := by simp
        have hDV : D < (V2.alloc (.cells #[.int .i64 1] 3)).heap.size := by simp; omega
        clear E12 hK ct cn ca
        generalize V2.alloc (.cells #[.int .i64 1] 3) = X at *
        have ct : X.cell? ⟨V2.heap.size, 0, none⟩ = some (.int .i64 1) := E13.T.cell 0
        rw [rounds_succ]
        go_wp2_with fail
        have E14 : En w (X.alloc (.cells #[.int .i64 0] 3)) early s Aa c3 B V2.heap.size 1 := E13.past ((Below.refl _ X).alloc (Nat.le_refl _) _) (by omega) (by omega) hl4
        have n14 : Bk (X.alloc (.cells #[.int .i64 0] 3)) X.heap.size 3 #[.int .i64 0] := Bk.new rfl
        have D14 : (X.alloc (.cells #[.int .i64 0] 3)).heap[D]? = some (.deferred (some [])) := (heap_alloc_old X _ hDV).trans D13
        clear ct E13 D13
        refine turn_law (p := 68) (q := 17) (id := 4) s (by omega) (B + 1) X.heap.size false rfl E14.S (by omega) n14 ?exit2 ?assign2 ?body2 ?after2
        case exit2 => intro a W h; exact wp_exit h
        case assign2 =>
          intro l x W1 K hK
          simp only [slots, mc, List.setIfInBounds_toArray, List.set_cons_succ, List.set_cons_zero] at hK
          simp only [List.setIfInBounds_toArray, List.set_cons_succ, List.set_cons_zero]
          generalize vm s x = y at *
          gi_wp2
          exact hK
        case body2 =>
          intro l pre x Bx W1 hBx hX hI hlen
          obtain ⟨hG, hN1, hP⟩ := hI
          have hEN := E14.past (below_grown hG (by simp)) (by omega) (by omega) hl4
          obtain ⟨y, hy⟩ : ∃ y, (ml s)[pre.length]? = some y := ⟨_, List.getElem?_eq_getElem hlen⟩
          have hnx := ahead_next (x := x) hP hy
          obtain ⟨ga, cur, hAa, hga, hcur, hcells⟩ := hEN.G (by omega)
          subst hAa
          obtain ⟨q0, q1, q2⟩ := hcells _ y hy
          have e0 := (hcur.cell _).trans q0
          have e1 := (hcur.cell _).trans q1
          have e2 := (hcur.cell _).trans q2
          have cn : W1.cell? ⟨X.heap.size, 0, none⟩ = some (.int .i64 (pre.length : Int)) := hN1.cell 0
          have fn := hN1.free 0
          have cx0 : W1.cell? ⟨Bx, 0, none⟩ = some (.int .i64 ((vm s x).1 : Int)) := hX.cell 0
          have cx1 : W1.cell? ⟨Bx, 1, none⟩ = some (.int .i64 ((vm s x).2.1 : Int)) := hX.cell 1
          have cx2 : W1.cell? ⟨Bx, 2, none⟩ = some (.string (s.extract (vm s x).2.1 (vm s x).2.2)) := hX.cell 2
          have ca : W1.cell? ⟨B, 0, none⟩ = some (.slice (some ⟨ga, 0, none⟩) (ml s).length c3) := hEN.A.cell 0
          have ce : W1.cell? ⟨w.heap.size, 0, none⟩ = some (.int .i64 early) := hEN.F.be.cell 0
          have cb : W1.cell? ⟨w.heap.size + 1, 0, none⟩ = some (.bool false) := hEN.F.br.cell 0
          have fb := hEN.F.br.free 0
          have ctt : W1.cell? ⟨V2.heap.size, 0, none⟩ = some (.int .i64 1) := hEN.T.cell 0
          have hge : decide ((pre.length : Int) ≥ ((ml s).length : Int)) = false := by rw [decide_eq_false_iff_not]; omega
          have hge2 : decide (((ml s).length : Int) ≤ (pre.length : Int)) = false := by rw [decide_eq_false_iff_not]; omega
          have hltp : (pre.length : Int) < ((ml s).length : Int) := by omega
          have hpl : pre.length ≤ 1073741824 := by omega
          have EC := eq_mark
          have HG := Lib.hid hG
          have HN := Lib.hid hN1
          have HNX := Lib.hid hnx
          clear hG hP hN1 hnx hcells q0 q1 q2 hcur hy hX hEN
          simp only [slots, List.setIfInBounds_toArray, List.set_cons_succ, List.set_cons_zero]
          by_cases hxy : ((vm s x).1, (vm s x).2.1, s.extract (vm s x).2.1 (vm s x).2.2) = (y.1, y.2.1, s.extract y.2.1 y.2.2)
          · have HXY := Lib.hid hxy
            simp only [Prod.mk.injEq] at hxy
            obtain ⟨x1, x2, x3⟩ := hxy
            rw [← x1] at e0
            rw [← x2] at e1
            rw [← x3] at e2
            clear x1 x2 x3
            have hq : (((vm s x).1 : Int) == ((vm s x).1 : Int) && (((vm s x).2.1 : Int) == ((vm s x).2.1 : Int) && ((s.extract (vm s x).2.1 (vm s x).2.2).toList == (s.extract (vm s x).2.1 (vm s x).2.2).toList))) = true := by simp
            gi_wp2
            refine region_reads (by kernel_rfl) (by kernel_rfl) (by kernel_rfl) ?_
            repeat (quiet_step_in (fail))
            refine wpQuietIn_nil ?_
            intro _ hw'
            obtain ⟨nq, rfl⟩ := hw'
            have cn' : (W1.drewN nq).cell? ⟨X.heap.size, 0, none⟩ = some (.int .i64 (pre.length : Int)) := cn
            have fn' : (W1.drewN nq).frozen? ⟨X.heap.size, 0, none⟩ = false := fn
            have ce' : (W1.drewN nq).cell? ⟨w.heap.size, 0, none⟩ = some (.int .i64 early) := ce
            have ct' : (W1.drewN nq).cell? ⟨V2.heap.size, 0, none⟩ = some (.int .i64 1) := ctt
            have cb' : (W1.drewN nq).cell? ⟨w.heap.size + 1, 0, none⟩ = some (.bool false) := cb
            have fb' : (W1.drewN nq).frozen? ⟨w.heap.size + 1, 0, none⟩ = false := fb
            have SE := Lib.hid (step_end (nq := nq) (B := (X.alloc (.cells #[.int .i64 0] 3)).heap.size) (u := .int .i64 ((pre.length : Int) + 1)) HN.out)
            have hlen1 : ((pre ++ [x]).length : Int) = (pre.length : Int) + 1 := by simp
            have hne1 : ¬ V2.heap.size = X.heap.size := by omega
            have hne2 : ¬ w.heap.size = X.heap.size := by omega
            have hne3 : ¬ B = X.heap.size := by omega
            have HL := Lib.hid hlen1
            clear EC cx0 cx1 cx2 e0 e1 e2 hq cn fn ce ctt cb fb ca hge hge2 hltp FN hlen1
            gi_wp2
            exact ⟨SE.out.1, trivial, grown_on HG.out SE.out.2.1 (fun r e => .inr (by cases e; rfl)), by rw [HL.out]; exact SE.out.2.2, HNX.out.2 HXY.out⟩
          · have hq : (((vm s x).1 : Int) == (y.1 : Int) && (((vm s x).2.1 : Int) == (y.2.1 : Int) && ((s.extract (vm s x).2.1 (vm s x).2.2).toList == (s.extract y.2.1 y.2.2).toList))) = false := by
              by_cases h1 : (vm s x).1 = y.1
              · by_cases h2 : (vm s x).2.1 = y.2.1
                · by_cases h3 : s.extract (vm s x).2.1 (vm s x).2.2 = s.extract y.2.1 y.2.2
                  · exact absurd (by rw [h1, h3, h2]) hxy
                  · rw [str_ne h3]; simp
                · have : (((vm s x).2.1 : Int) == (y.2.1 : Int)) = false := by simp; omega
                  rw [this]; simp
              · have : (((vm s x).1 : Int) == (y.1 : Int)) = false := by simp; omega
                rw [this]; simp
            have HXY := Lib.hid hxy
            clear hxy
            gi_wp2
            refine region_reads (by kernel_rfl) (by kernel_rfl) (by kernel_rfl) ?_
            repeat (quiet_step_in (fail))
            refine wpQuietIn_nil ?_
            intro _ hw'
            obtain ⟨nq, rfl⟩ := hw'
            have cn' : (W1.drewN nq).cell? ⟨X.heap.size, 0, none⟩ = some (.int .i64 (pre.length : Int)) := cn
            have fn' : (W1.drewN nq).frozen? ⟨X.heap.size, 0, none⟩ = false := fn
            have ce' : (W1.drewN nq).cell? ⟨w.heap.size, 0, none⟩ = some (.int .i64 early) := ce
            have ct' : (W1.drewN nq).cell? ⟨V2.heap.size, 0, none⟩ = some (.int .i64 1) := ctt
            have cb' : (W1.drewN nq).cell? ⟨w.heap.size + 1, 0, none⟩ = some (.bool false) := cb
            have fb' : (W1.drewN nq).frozen? ⟨w.heap.size + 1, 0, none⟩ = false := fb
            clear EC cx0 cx1 cx2 e0 e1 e2 hq cn fn ce ctt cb fb ca hge hge2 hltp FN
            gi_wp2
            have hk := KeepsOthers.setCell (W1.drewN nq) ⟨w.heap.size + 1, 0, none⟩ (.bool false)
            exact ⟨⟨hk.size, fun k o _ h hc => hk.same k o h hc⟩, .inl ⟨rfl, fun h => HXY.out (HNX.out.1 h)⟩⟩
        case after2 =>
          intro D2 m2 Z hD2 hG hN hK hm
          have hm : m2 = (ml s).length := hm.resolve_right (by decide)
          subst hm
          simp only [World.size_alloc] at hD2
          have E15 := E14.past (below_grown hG (by simp)) (by omega) (by omega) hl4
          have D15 : Z.heap[D]? = some (.deferred (some [])) := (hG.block D (by simp; omega) (by simp; omega)).trans D14
          have d15 : D2 < Z.heap.size := (Array.getElem?_eq_some_iff.1 hK).1
          have d15' : D < Z.heap.size := (Array.getElem?_eq_some_iff.1 D15).1
          have ct : Z.cell? ⟨V2.heap.size, 0, none⟩ = some (.int .i64 1) := E15.T.cell 0
          have cn : Z.cell? ⟨X.heap.size, 0, none⟩ = some (.int .i64 ((ml s).length : Int)) := hN.cell 0
          have ca : Z.cell? ⟨B, 0, none⟩ = some (.slice Aa (ml s).length c3) := E15.A.cell 0
          have lt1 : B + 2 ≤ Z.heap.size := by have := hG.size; simp at this; omega
          clear hG hN E14 n14 D14
          go_wp2_with fail
          have F16 := E15.F.below ((Below.refl _ Z).alloc (Nat.le_refl _) (.cells #[.int .i64 2] 3))
          have E1 : (Z.alloc (.cells #[.int .i64 2] 3)).heap[D]? = some (.deferred (some [])) := (heap_alloc_old Z _ d15').trans D15
          have E2 : (Z.alloc (.cells #[.int .i64 2] 3)).heap[D2]? = some (.deferred (some [])) := (heap_alloc_old Z _ d15).trans hK
          have T16 : Bk (Z.alloc (.cells #[.int .i64 2] 3)) Z.heap.size 3 #[.int .i64 2] := Bk.new rfl
          clear E15 D15 hK ct cn ca
          generalize Z.alloc (.cells #[.int .i64 2] 3) = Z1 at *
          have ct : Z1.cell? ⟨Z.heap.size, 0, none⟩ = some (.int .i64 2) := T16.cell 0
          rw [rounds_succ]
          go_wp2_with fail
          refine (awake_any _).mono ?_
          rintro e w' ⟨rfl, hb'⟩
          have F17 := F16.below hb'
          have G1 : w'.heap[D]? = some (.deferred (some [])) := (hb'.block D (Array.getElem?_eq_some_iff.1 E1).1).trans E1
          have G2 : w'.heap[D2]? = some (.deferred (some [])) := (hb'.block D2 (Array.getElem?_eq_some_iff.1 E2).1).trans E2
          clear F16 E1 E2 hb' ct T16
          have cb : w'.cell? ⟨w.heap.size + 1, 0, none⟩ = some (.bool false) := F17.br.cell 0
          have fb := F17.br.free 0
          have hDD : D ≠ D2 := by omega
          have hrD : w.heap.size + 1 ≠ D := by omega
          have hrD2 : w.heap.size + 1 ≠ D2 := by omega
          have BR : Bk (w'.setCell ⟨w.heap.size + 1, 0, none⟩ (.bool true)) (w.heap.size + 1) 4 #[.bool true] := F17.br.set 0 (.bool true)
          have U1 : (w'.setCell ⟨w.heap.size + 1, 0, none⟩ (.bool true)).heap[D2]? = some (.deferred (some [])) := (heap_setCell_other w' ⟨w.heap.size + 1, 0, none⟩ D2 _ (fun e => hrD2 e.symm)).trans G2
          have U2 : ((w'.setCell ⟨w.heap.size + 1, 0, none⟩ (.bool true)).putObj D2 (.deferred none)).heap[D]? = some (.deferred (some [])) := (World.putObj_heap_other hDD).trans ((heap_setCell_other w' ⟨w.heap.size + 1, 0, none⟩ D _ (fun e => hrD e.symm)).trans G1)
          have BR2 : Bk (((w'.setCell ⟨w.heap.size + 1, 0, none⟩ (.bool true)).putObj D2 (.deferred none)).putObj D (.deferred none)) (w.heap.size + 1) 4 #[.bool true] := (World.putObj_heap_other hrD).trans ((World.putObj_heap_other hrD2).trans BR)
          have B1 : Below w.heap.size w (w'.setCell ⟨w.heap.size + 1, 0, none⟩ (.bool true)) := F17.db.setCell (p := ⟨w.heap.size + 1, 0, none⟩) (Nat.le_succ _) (.bool true)
          have B2 := B1.trans ((Below.refl _ _).grown (grownBy_putObj' _ D2 (.deferred none)) B1.size (fun q e => by cases e; omega))
          have BB : Below w.heap.size w (((w'.setCell ⟨w.heap.size + 1, 0, none⟩ (.bool true)).putObj D2 (.deferred none)).putObj D (.deferred none)) := B2.trans ((Below.refl _ _).grown (grownBy_putObj' _ D (.deferred none)) B2.size (fun q e => by cases e; omega))
          have hc := BR2.cell 0
          have HH := Lib.hid hc
          have HU1 := Lib.hid U1
          have HU2 := Lib.hid U2
          have HBB := Lib.hid BB
          clear hc U1 U2 BR BR2 B1 B2 BB G1 G2
          go_wp2_with fail
          refine ⟨by simp, .inl ⟨D2, _, rfl, run_takeDeferred HU1.out, ⟨by simp, .inl ⟨D, _, rfl, run_takeDeferred HU2.out, ?_⟩⟩⟩⟩
          refine ⟨.bool true, ?_, rfl, HBB.out⟩
          have hc := HH.out
          simp [results, Try.f3, go_sem, hc]
end
end Go.Proofs.Ytogobjokjpddbaa
