/-
  begin: a body of two nonterminals: the pair stands in both lists.
-/
import Derived.Test.YteojbnkjphghkaaDoorGoOn15
import Derived.Test.YteojbnkjphghkaaDoorMakes15
namespace Go.Proofs.YteojbnkjphghkaaDoor
open Go.RowKit
set_option linter.unusedVariables false
set_option linter.unusedSimpArgs false
theorem info_pair : (Tryd.prog.info? 123).map (fun i => (i.zero.map (·.cells.size), i.size, i.bytes)) = some (some 2, 2, 16) := by kernel_rfl
def putV (V : Bool → Nat → Value) (s : Bool) (a : Nat) (v : Value) : Bool → Nat → Value := fun s' b => if s' = s ∧ b = a then v else V s' b
def putL (L : Bool → Nat → List (Int × Int)) (s : Bool) (a : Nat) (p : Int × Int) : Bool → Nat → List (Int × Int) := fun s' b => if s' = s ∧ b = a then L s a ++ [p] else L s' b
theorem range_other {S : Nat} {V : Bool → Nat → Value} {s s' : Bool} {a : Nat} {v : Value} (h : s' ≠ s) : (List.range S).map (putV V s a v s') = (List.range S).map (V s') := by
  refine List.map_congr_left fun b _ => ?_
  unfold putV
  rw [if_neg fun e => h e.1]
theorem range_same {S : Nat} {V : Bool → Nat → Value} {s : Bool} {a : Nat} {v : Value} (ha : a < S) : ((List.range S).map (V s)).toArray.setIfInBounds a v = ((List.range S).map (putV V s a v s)).toArray := by
  apply Array.ext_getElem?
  intro i
  rw [Array.getElem?_setIfInBounds]
  by_cases hi : a = i
  · subst hi
    simp [putV, ha]
  · rw [if_neg hi]
    by_cases hS : i < S
    · have hne : ¬ i = a := fun e => hi e.symm
      simp [putV, hS, hne]
    · simp [hS]
/-- Behind the append of a pair to one of the lists. -/
theorem LR.push {w w5 : World} {gl gr S : Nat} {V : Bool → Nat → Value} {L : Bool → Nat → List (Int × Int)} (h : LR w gl gr S V L) {s : Bool} {a : Nat} (ha : a < S) {p : Int × Int} {v' : Value} {n : Nat} (hn : n = (L s a).length)
    (hf : Far (fun k => (V s a).ownBlock = some k) w w5) (ho : w5.ownsRow 0 123 2 v' (n + 1) (prcells (L s a) ++ [.int .i64 p.1, .int .i64 p.2])) (hw : ∀ k, v'.ownBlock = some k → (V s a).ownBlock = some k ∨ w.heap.size ≤ k) :
    LR (w5.setCell ⟨if s then gr else gl, a, none⟩ v') gl gr S (putV V s a v') (putL L s a p) := by
  subst hn
  have nl : (V s a).ownBlock ≠ some gl := own_ne (h.row s a ha) h.bl (by decide)
  have nr : (V s a).ownBlock ≠ some gr := own_ne (h.row s a ha) h.br (by decide)
  have l5 := h.bl.far' hf nl
  have r5 := h.br.far' hf nr
  have hS : Far (fun k => k = if s then gr else gl) w5 (w5.setCell ⟨if s then gr else gl, a, none⟩ v') := (Far.refl _ w5).set _ _ fun _ => rfl
  have hnv : ∀ k, v'.ownBlock = some k → k ≠ if s then gr else gl := fun k hk e => by
    subst e
    cases s
    · exact own_ne ho l5 (by decide) hk
    · exact own_ne ho r5 (by decide) hk
  refine ⟨?_, ?_, fun s' b hb => ?_, fun s1 a1 s2 a2 h1 h2 hne k hk => ?_, h.ne⟩
  · cases s
    · have := l5.set a v'
      rw [range_same ha] at this
      exact this
    · rw [range_other (by decide)]
      exact l5.far' hS fun e => h.ne e
  · cases s
    · rw [range_other (by decide)]
      exact r5.far' hS fun e => h.ne e.symm
    · have := r5.set a v'
      rw [range_same ha] at this
      exact this
  · unfold putV putL
    by_cases c : s' = s ∧ b = a
    · rw [if_pos c, if_pos c, List.length_append, List.length_singleton, prcells_app]
      exact row_far ho hS fun k hk e => hnv k hk e
    · rw [if_neg c, if_neg c]
      have hd : ∀ k, (V s' b).ownBlock = some k → (V s a).ownBlock ≠ some k := fun k hk => h.dist s' b s a hb ha (fun e => c (by cases e; exact ⟨rfl, rfl⟩)) k hk
      refine row_far (row_far (h.row s' b hb) hf fun k hk e => hd k hk e) hS fun k hk e => ?_
      subst e
      have h9 := row_far (h.row s' b hb) hf fun k hk e => hd k hk e
      cases s
      · exact own_ne h9 l5 (by decide) hk
      · exact own_ne h9 r5 (by decide) hk
  · unfold putV at hk ⊢
    by_cases c1 : s1 = s ∧ a1 = a
    · obtain ⟨rfl, rfl⟩ := c1
      rw [if_pos ⟨rfl, rfl⟩] at hk
      have c2 : ¬ (s2 = s1 ∧ a2 = a1) := fun e => hne (by rw [e.1, e.2])
      rw [if_neg c2]
      rcases hw k hk with e | e
      · exact h.dist s1 a1 s2 a2 h1 h2 hne k e
      · intro e2
        have := ((h.row s2 a2 h2).lt k e2).2
        omega
    · rw [if_neg c1] at hk
      by_cases c2 : s2 = s ∧ a2 = a
      · obtain ⟨rfl, rfl⟩ := c2
        rw [if_pos ⟨rfl, rfl⟩]
        intro e2
        rcases hw k e2 with e | e
        · exact h.dist s1 a1 s2 a2 h1 h2 hne k hk e
        · have := ((h.row s1 a1 h1).lt k hk).2
          omega
      · rw [if_neg c2]
        exact h.dist s1 a1 s2 a2 h1 h2 hne k hk
section
set_option maxHeartbeats 8000000
set_option maxRecDepth 100000
theorem begin_two (kB eB gB B S n : Nat) (pv wv rv bv : Value) (E G : Ends) (K : List Pc) (gl gr cl cr : Nat) (V : Bool → Nat → Value) (L : Bool → Nat → List (Int × Int)) (hd : Int) (xb yb : Bool) (xa ya : Nat) (w : World)
    (hC : Ch w kB eB gB B S n pv wv (.slice (some ⟨gl, 0, none⟩) S cl) (.slice (some ⟨gr, 0, none⟩) S cr) rv E G K) (hL : LR w gl gr S V L) (hB : Body w bv [(xb, (xa : Int)), (yb, (ya : Int))]) (hS : S ≤ 1024) (hx : xa < S) (hy : ya < S) (hll : ∀ s a, a < S → (L s a).length ≤ 4398046510976) :
    Calls Tryd.prog 46 #[.pointer (some ⟨kB, 0, none⟩), .agg #[.int .i64 hd, bv]] w fun e w' => e = .returned (.tuple #[]) ∧ ∃ V', (∀ s a k, a < S → (V' s a).ownBlock = some k → (V s a).ownBlock = some k ∨ w.heap.size ≤ k) ∧ Ch w' kB eB gB B S n pv wv (.slice (some ⟨gl, 0, none⟩) S cl) (.slice (some ⟨gr, 0, none⟩) S cr) rv E G K ∧ LR w' gl gr S V' (putL (putL L false xa (hd, (ya : Int))) true ya (hd, (xa : Int))) ∧
      Far (fun k => k = gl ∨ k = gr ∨ ∃ s a, a < S ∧ (V s a).ownBlock = some k) w w' := by
  obtain ⟨bo, bc, rfl⟩ := Src.form hB
  obtain ⟨h, hh⟩ : ∃ h, h = w.heap.size := ⟨_, rfl⟩
  obtain ⟨W, hW⟩ : ∃ W, W = w.alloc (.cells #[.int .i64 hd, .slice bo [(xb, (xa : Int)), (yb, (ya : Int))].length bc] 48) := ⟨_, rfl⟩
  have hF : Far (fun _ => False) w W := hW ▸ afar _ _
  have hX : Bk W h 48 #[.int .i64 hd, .slice bo [(xb, (xa : Int)), (yb, (ya : Int))].length bc] := hW ▸ Bk.new hh
  obtain ⟨b, off, c, he, hbl, c0, c1⟩ := Body.sym (hB.move hF) (k := 0) (s := (xb, (xa : Int))) rfl
  simp only [Value.slice.injEq] at he
  obtain ⟨rfl, _, rfl⟩ := he
  obtain ⟨b', off', c', he, hbl', d0, d1⟩ := Body.sym (hB.move hF) (k := 1) (s := (yb, (ya : Int))) rfl
  simp only [Value.slice.injEq, Option.some.injEq, Addr.mk.injEq] at he
  obtain ⟨⟨rfl, rfl, _⟩, _, rfl⟩ := he
  simp only [Nat.zero_mul, Nat.add_zero, Nat.one_mul] at c0 c1 d0 d1
  simp only [List.length_cons, List.length_nil, Nat.zero_add, Nat.reduceAdd] at hX hW ⊢
  have x0 : W.cell? ⟨h, 0, none⟩ = some (.int .i64 hd) := hX.cell 0
  have x1 : W.cell? ⟨h, 1, none⟩ = some (.slice (some ⟨b, off, none⟩) 2 bc) := hX.cell 1
  have hh' := Lib.hid (show w.heap.size = h by omega)
  have hW' := Lib.hid hW
  have hX' := Lib.hid hX
  have hF' := Lib.hid hF
  have hCW := Lib.hid (hC.move hF)
  have hLW := Lib.hid (hL.move hF)
  have hll' := Lib.hid hll
  clear hC hL hB hF hX hW hh hll
  go_enter Tryd.func46, Tryd.ntmps46
  go_upto_region 1 with fail
  rw [hh'.out, ← hW'.out]
  go_upto_region 2 with fail
  have HS := Lib.hid (show ∀ w', Far (fun _ => False) W w' → w'.cell? ⟨h, 1, none⟩ = some (.slice (some ⟨b, off, none⟩) 2 bc) ∧ w'.cell? ⟨b, off + 1, none⟩ = some (.int .i64 (xa : Int)) ∧ w'.cell? ⟨b, off + 2 + 1, none⟩ = some (.int .i64 (ya : Int)) from fun w' hf => ⟨(hX'.out.far' hf id).cell 1, (hf.cell hbl).trans c1, (hf.cell hbl).trans d1⟩)
  go_region_held3 (fun w' => w'.cell? ⟨h, 1, none⟩ = some (.slice (some ⟨b, off, none⟩) 2 bc) ∧ w'.cell? ⟨b, off + 1, none⟩ = some (.int .i64 (xa : Int)) ∧ w'.cell? ⟨b, off + 2 + 1, none⟩ = some (.int .i64 (ya : Int))) (exact HS.out _ (drew_far W)) (fail)
  obtain ⟨v1, hv1⟩ : ∃ v1, v1 = W.drew := ⟨_, rfl⟩
  have hfv : Far (fun _ => False) W v1 := hv1 ▸ drew_far W
  rw [← hv1]
  have hC1 := Lib.hid (hCW.out.move hfv)
  have hL1 := Lib.hid (hLW.out.move hfv)
  have hX1 := Lib.hid (hX'.out.far' hfv id)
  have hF1 := Lib.hid (hF'.out.then hfv)
  clear hv1 hfv c0 c1 d0 d1 x0 x1
  go_upto_region 3 with fail
  obtain ⟨p1o, p1c, hV1⟩ := Src.form (Src.own (hL1.out.row false xa hx))
  obtain ⟨m1, hm1⟩ : ∃ m, m = (L false xa).length := ⟨_, rfl⟩
  rw [← hm1] at hV1
  obtain ⟨ua1, hua1⟩ : ∃ u, u = v1.drew.alloc (.cells #[.int .i64 hd, .int .i64 (ya : Int)] 123) := ⟨_, rfl⟩
  have fa1 : Far (fun _ => False) v1 ua1 := hua1 ▸ (Far.refl (fun _ => False) v1).drew.alloc _
  have hP1 : Bk ua1 v1.heap.size 123 #[.int .i64 hd, .int .i64 (ya : Int)] := hua1 ▸ Bk.new rfl
  obtain ⟨pi, pz, pi1, pi2, pi3, pi4, pi5⟩ := info3 info_pair
  have hmb1 : m1 ≤ 4398046510977 := by
    rw [hm1]
    have := hll'.out false xa hx; omega
  have nk1 : ∀ t cs k, Bk v1 k t cs → 123 ≠ t → (V false xa).ownBlock ≠ some k := fun t cs k hb ht => own_ne (hL1.out.row false xa hx) hb ht
  have HK1 := Lib.hid (show ∀ w', Far (fun k => (V false xa).ownBlock = some k ∨ k = gl) v1 w' → w'.cell? ⟨h, 0, none⟩ = some (.int .i64 hd) ∧ w'.cell? ⟨kB, 6, none⟩ = some (.slice (some ⟨gl, 0, none⟩) S cl) from fun w' hf => ⟨(hX1.out.far' hf (fun e => e.elim (nk1 _ _ _ hX1.out (by decide)) fun e => by subst e; exact absurd (bk_type hX1.out hL1.out.bl) (by decide))).cell 0, (hC1.out.box.far' hf (fun e => e.elim (nk1 _ _ _ hC1.out.box (by decide)) fun e => by subst e; exact absurd (bk_type hC1.out.box hL1.out.bl) (by decide))).cell 6⟩)
  have yl1 : v1.drew.cell? ⟨gl, xa, none⟩ = some (.slice p1o m1 p1c) := by
    have h9 := hL1.out.at false hx
    rw [hV1] at h9
    exact h9
  have haI1 : (xa : Int) < (S : Int) := by omega
  have yh1 : v1.cell? ⟨h, 0, none⟩ = some (.int .i64 hd) := hX1.out.cell 0
  have yk1 : v1.cell? ⟨kB, 6, none⟩ = some (.slice (some ⟨gl, 0, none⟩) S cl) := hC1.out.box.cell 6
  have A1 := Lib.hid (show World.ownsRow ua1 0 123 2 (.slice p1o m1 p1c) m1 (prcells (L false xa)) from by
    have h9 := row_far (hL1.out.row false xa hx) fa1 fun _ _ q => q
    rw [hV1, ← hm1] at h9
    exact h9)
  have A2 := Lib.hid (World.news_of_block hP1)
  have A3 := Lib.hid (show ∀ u ∈ [Value.int .i64 hd, .int .i64 (ya : Int)], u.oneCell' = true by simp [Value.oneCell'])
  have A4 : m1 + 1 ≤ maxLen := by unfold maxLen; omega
  have A5 : (m1 + 1) * 16 ≤ 140737488355328 := by omega
  have lk1 : kB < v1.heap.size := hC1.out.box.lt
  have lg1 : gl < v1.heap.size := hL1.out.bl.lt
  have lh1 : h < v1.heap.size := hX1.out.lt
  have hm1' := Lib.hid hm1
  have hV1' := Lib.hid hV1
  have fa1' := Lib.hid fa1
  have nk1' := Lib.hid nk1
  have hua1' := Lib.hid hua1
  rw [hua1] at A1 A2
  have yl12 : v1.cell? ⟨gl, xa, none⟩ = some (.slice p1o m1 p1c) := yl1
  clear nk1 hm1 hV1 hP1 fa1 hua1 yl1 HK1
  go_cut [] (fun wc => ∃ v', LR wc gl gr S (putV (V) false xa v') (putL (L) false xa (hd, (ya : Int))) ∧ Far (fun k => (V false xa).ownBlock = some k ∨ k = gl) v1 wc ∧ ∀ k, v'.ownBlock = some k → (V false xa).ownBlock = some k ∨ v1.heap.size ≤ k)
  case first =>
   go_region_law
    (first
      | (refine step_append_lies _ rfl (.tmp 33) (.tmp 38) 121 rfl 0 123 pi pz 2 16 Tryd.underlying121 pi1 pi2 pi3 pi4 pi5 (by decide) (.slice p1o m1 p1c) m1 _ rfl A1.out ⟨v1.heap.size, 0, none⟩ 1 1 [.int .i64 hd, .int .i64 (ya : Int)] rfl rfl A2.out A3.out (by decide) A4 A5 (Nat.zero_le _) _ rfl ?_; intro g2 c3 w5 ho5 hg5 hw5 _; have hfw := Lib.hid (show Far (fun k => (V false xa).ownBlock = some k) v1 w5 from by rw [hV1'.out]; rw [hua1'.out] at fa1'; exact (fa1'.out.mono (G := fun k => (Value.slice p1o m1 p1c).ownBlock = some k) fun _ _ q => q.elim).grown hg5 fun k _ e => e); have hgb := hL1.out.bl.far' hfw.out (nk1'.out _ _ _ hL1.out.bl (by decide)); have u0 : w5.cell? ⟨kB, 6, none⟩ = some (.slice (some ⟨gl, 0, none⟩) S cl) := (hC1.out.box.far' hfw.out (nk1'.out _ _ _ hC1.out.box (by decide))).cell 6; have u1 : w5.frozen? ⟨gl, xa, none⟩ = false := hgb.free _; have u2 : w5.cell? ⟨gl, xa, none⟩ = some (.slice p1o m1 p1c) := ((hgb.cell _).trans (hL1.out.bl.cell _).symm).trans yl12; have ho5' := Lib.hid ho5; have hw5' := Lib.hid hw5; clear ho5 hg5 hw5 hgb))
   all_goals
     go_wp2_with fail
     go_meet
     have hown : ∀ k, (Value.slice (some ⟨g2, 0, none⟩) (m1 + 1) c3).ownBlock = some k → (V false xa).ownBlock = some k ∨ v1.heap.size ≤ k := fun k hk => by
       cases hk
       rcases hw5'.out with e | e
       · exact .inl (by rw [hV1'.out]; exact e)
       · refine .inr ?_
         rw [e]
         rw [hua1'.out] at fa1'
         exact fa1'.out.size
     refine ⟨_, hL1.out.push hx (p := (hd, (ya : Int))) hm1'.out hfw.out ho5'.out hown, (hfw.out.mono (G := fun k => (V false xa).ownBlock = some k ∨ k = gl) fun _ _ q => .inl q).set _ _ fun _ => .inr rfl, hown⟩
  case rest =>
    obtain ⟨vA, hLA, hfA, hoA⟩ := hcut
    obtain ⟨v2, rfl⟩ : ∃ v2 : World, v2 = wc := ⟨_, rfl⟩
    have hkA : ∀ k, ((V false xa).ownBlock = some k ∨ k = gl) → ∃ t cs, Bk v1 k t cs ∧ 84 ≠ t ∧ 59 ≠ t ∧ 48 ≠ t := fun k q => by
      rcases q with q | rfl
      · obtain ⟨_, cs, hb⟩ := own_type (hL1.out.row false xa hx) q
        exact ⟨_, cs, hb, by decide, by decide, by decide⟩
      · exact ⟨_, _, hL1.out.bl, by decide, by decide, by decide⟩
    have hC2 := Lib.hid (hC1.out.go hfA fun k q => by obtain ⟨t, cs, hb, h1, h2, _⟩ := hkA k q; exact hC1.out.other hb h1 h2)
    have hX2 := Lib.hid (hX1.out.far' hfA fun q => by obtain ⟨t, cs, hb, _, _, h3⟩ := hkA _ q; exact absurd (bk_type hX1.out hb) h3)
    have hL2 := Lib.hid hLA
    have hF2 := Lib.hid ((hF1.out.mono (G := fun k => k = gl ∨ k = gr ∨ ∃ s a, a < S ∧ (V s a).ownBlock = some k) fun _ _ q => q.elim).trans (hfA.mono (G := fun k => k = gl ∨ k = gr ∨ ∃ s a, a < S ∧ (V s a).ownBlock = some k) fun k _ q => q.elim (fun q => .inr (.inr ⟨false, xa, hx, q⟩)) fun q => .inl q) fun _ _ q => q)
    have hoA' := Lib.hid (show ∀ k, vA.ownBlock = some k → (V false xa).ownBlock = some k ∨ w.heap.size ≤ k from fun k hk => (hoA k hk).imp id fun h => Nat.le_trans hF1.out.size h)
    have hz2 := Lib.hid (show w.heap.size ≤ v2.heap.size from Nat.le_trans hF1.out.size hfA.size)
    clear hLA hfA hkA hoA yh1 yk1 yl12 A4 A5 lk1 lg1 lh1 haI1 pi1 pi2 pi3 pi4 pi5
    go_upto_region 4 with fail
    obtain ⟨p2o, p2c, hV2⟩ := Src.form (Src.own (hL2.out.row true ya hy))
    obtain ⟨m2, hm2⟩ : ∃ m, m = ((putL L false xa (hd, (ya : Int))) true ya).length := ⟨_, rfl⟩
    rw [← hm2] at hV2
    obtain ⟨ua2, hua2⟩ : ∃ u, u = v2.drew.alloc (.cells #[.int .i64 hd, .int .i64 (xa : Int)] 123) := ⟨_, rfl⟩
    have fa2 : Far (fun _ => False) v2 ua2 := hua2 ▸ (Far.refl (fun _ => False) v2).drew.alloc _
    have hP2 : Bk ua2 v2.heap.size 123 #[.int .i64 hd, .int .i64 (xa : Int)] := hua2 ▸ Bk.new rfl
    obtain ⟨pi, pz, pi1, pi2, pi3, pi4, pi5⟩ := info3 info_pair
    have hmb2 : m2 ≤ 4398046510977 := by
      rw [hm2]
      have := hll'.out true ya hy; simp only [putL, Bool.true_eq_false, false_and, if_false]; omega
    have nk2 : ∀ t cs k, Bk v2 k t cs → 123 ≠ t → ((putV V false xa vA) true ya).ownBlock ≠ some k := fun t cs k hb ht => own_ne (hL2.out.row true ya hy) hb ht
    have HK2 := Lib.hid (show ∀ w', Far (fun k => ((putV V false xa vA) true ya).ownBlock = some k ∨ k = gr) v2 w' → w'.cell? ⟨h, 0, none⟩ = some (.int .i64 hd) ∧ w'.cell? ⟨kB, 7, none⟩ = some (.slice (some ⟨gr, 0, none⟩) S cr) from fun w' hf => ⟨(hX2.out.far' hf (fun e => e.elim (nk2 _ _ _ hX2.out (by decide)) fun e => by subst e; exact absurd (bk_type hX2.out hL2.out.br) (by decide))).cell 0, (hC2.out.box.far' hf (fun e => e.elim (nk2 _ _ _ hC2.out.box (by decide)) fun e => by subst e; exact absurd (bk_type hC2.out.box hL2.out.br) (by decide))).cell 7⟩)
    have yl2 : v2.drew.cell? ⟨gr, ya, none⟩ = some (.slice p2o m2 p2c) := by
      have h9 := hL2.out.at true hy
      rw [hV2] at h9
      exact h9
    have haI2 : (ya : Int) < (S : Int) := by omega
    have yh2 : v2.cell? ⟨h, 0, none⟩ = some (.int .i64 hd) := hX2.out.cell 0
    have yk2 : v2.cell? ⟨kB, 7, none⟩ = some (.slice (some ⟨gr, 0, none⟩) S cr) := hC2.out.box.cell 7
    have A1 := Lib.hid (show World.ownsRow ua2 0 123 2 (.slice p2o m2 p2c) m2 (prcells ((putL L false xa (hd, (ya : Int))) true ya)) from by
      have h9 := row_far (hL2.out.row true ya hy) fa2 fun _ _ q => q
      rw [hV2, ← hm2] at h9
      exact h9)
    have A2 := Lib.hid (World.news_of_block hP2)
    have A3 := Lib.hid (show ∀ u ∈ [Value.int .i64 hd, .int .i64 (xa : Int)], u.oneCell' = true by simp [Value.oneCell'])
    have A4 : m2 + 1 ≤ maxLen := by unfold maxLen; omega
    have A5 : (m2 + 1) * 16 ≤ 140737488355328 := by omega
    have lk2 : kB < v2.heap.size := hC2.out.box.lt
    have lg2 : gr < v2.heap.size := hL2.out.br.lt
    have lh2 : h < v2.heap.size := hX2.out.lt
    have hm2' := Lib.hid hm2
    have hV2' := Lib.hid hV2
    have fa2' := Lib.hid fa2
    have nk2' := Lib.hid nk2
    have hua2' := Lib.hid hua2
    rw [hua2] at A1 A2
    have yl22 : v2.cell? ⟨gr, ya, none⟩ = some (.slice p2o m2 p2c) := yl2
    clear nk2 hm2 hV2 hP2 fa2 hua2 yl2 HK2
    go_cut [] (fun wc => ∃ v', LR wc gl gr S (putV ((putV V false xa vA)) true ya v') (putL ((putL L false xa (hd, (ya : Int)))) true ya (hd, (xa : Int))) ∧ Far (fun k => ((putV V false xa vA) true ya).ownBlock = some k ∨ k = gr) v2 wc ∧ ∀ k, v'.ownBlock = some k → ((putV V false xa vA) true ya).ownBlock = some k ∨ v2.heap.size ≤ k)
    case first =>
     go_region_law
      (first
        | (refine step_append_lies _ rfl (.tmp 52) (.tmp 57) 121 rfl 0 123 pi pz 2 16 Tryd.underlying121 pi1 pi2 pi3 pi4 pi5 (by decide) (.slice p2o m2 p2c) m2 _ rfl A1.out ⟨v2.heap.size, 0, none⟩ 1 1 [.int .i64 hd, .int .i64 (xa : Int)] rfl rfl A2.out A3.out (by decide) A4 A5 (Nat.zero_le _) _ rfl ?_; intro g2 c3 w5 ho5 hg5 hw5 _; have hfw := Lib.hid (show Far (fun k => ((putV V false xa vA) true ya).ownBlock = some k) v2 w5 from by rw [hV2'.out]; rw [hua2'.out] at fa2'; exact (fa2'.out.mono (G := fun k => (Value.slice p2o m2 p2c).ownBlock = some k) fun _ _ q => q.elim).grown hg5 fun k _ e => e); have hgb := hL2.out.br.far' hfw.out (nk2'.out _ _ _ hL2.out.br (by decide)); have u0 : w5.cell? ⟨kB, 7, none⟩ = some (.slice (some ⟨gr, 0, none⟩) S cr) := (hC2.out.box.far' hfw.out (nk2'.out _ _ _ hC2.out.box (by decide))).cell 7; have u1 : w5.frozen? ⟨gr, ya, none⟩ = false := hgb.free _; have u2 : w5.cell? ⟨gr, ya, none⟩ = some (.slice p2o m2 p2c) := ((hgb.cell _).trans (hL2.out.br.cell _).symm).trans yl22; have ho5' := Lib.hid ho5; have hw5' := Lib.hid hw5; clear ho5 hg5 hw5 hgb))
     all_goals
       go_wp2_with fail
       go_meet
       have hown : ∀ k, (Value.slice (some ⟨g2, 0, none⟩) (m2 + 1) c3).ownBlock = some k → ((putV V false xa vA) true ya).ownBlock = some k ∨ v2.heap.size ≤ k := fun k hk => by
         cases hk
         rcases hw5'.out with e | e
         · exact .inl (by rw [hV2'.out]; exact e)
         · refine .inr ?_
           rw [e]
           rw [hua2'.out] at fa2'
           exact fa2'.out.size
       refine ⟨_, hL2.out.push hy (p := (hd, (xa : Int))) hm2'.out hfw.out ho5'.out hown, (hfw.out.mono (G := fun k => ((putV V false xa vA) true ya).ownBlock = some k ∨ k = gr) fun _ _ q => .inl q).set _ _ fun _ => .inr rfl, hown⟩
    case rest =>
      obtain ⟨vB, hLB, hfB, hoB⟩ := hcut
      obtain ⟨v3, rfl⟩ : ∃ v3 : World, v3 = wc := ⟨_, rfl⟩
      have hV0 : putV V false xa vA true ya = V true ya := by unfold putV; rw [if_neg (by simp)]
      rw [hV0] at hfB hoB
      have hkB : ∀ k, ((V true ya).ownBlock = some k ∨ k = gr) → ∃ t cs, Bk v2 k t cs ∧ 84 ≠ t ∧ 59 ≠ t := fun k q => by
        rcases q with q | rfl
        · obtain ⟨_, cs, hb⟩ := own_type (hL2.out.row true ya hy) (by rw [hV0]; exact q)
          exact ⟨_, cs, hb, by decide, by decide⟩
        · exact ⟨_, _, hL2.out.br, by decide, by decide⟩
      have hC3 := Lib.hid (hC2.out.go hfB fun k q => by obtain ⟨t, cs, hb, h1, h2⟩ := hkB k q; exact hC2.out.other hb h1 h2)
      have hL3 := Lib.hid hLB
      have hF3 := Lib.hid (hF2.out.trans (hfB.mono (G := fun k => k = gl ∨ k = gr ∨ ∃ s a, a < S ∧ (V s a).ownBlock = some k) fun k _ q => q.elim (fun q => .inr (.inr ⟨true, ya, hy, q⟩)) fun q => .inr (.inl q)) fun _ _ q => q)
      clear hLB hfB hkB
      have hoV := Lib.hid (show ∀ s a k, a < S → (putV (putV V false xa vA) true ya vB s a).ownBlock = some k → (V s a).ownBlock = some k ∨ w.heap.size ≤ k from fun s a k ha hk => by
        by_cases c1 : s = true ∧ a = ya
        · obtain ⟨rfl, rfl⟩ := c1
          have e : putV (putV V false xa vA) true a vB true a = vB := by unfold putV; rw [if_pos ⟨rfl, rfl⟩]
          rw [e] at hk
          exact (hoB k hk).imp id fun h => Nat.le_trans hz2.out h
        · have e : putV (putV V false xa vA) true ya vB s a = putV V false xa vA s a := by unfold putV; rw [if_neg c1]
          rw [e] at hk
          by_cases c2 : s = false ∧ a = xa
          · obtain ⟨rfl, rfl⟩ := c2
            have e : putV V false a vA false a = vA := by unfold putV; rw [if_pos ⟨rfl, rfl⟩]
            rw [e] at hk
            exact hoA'.out k hk
          · have e : putV V false xa vA s a = V s a := by unfold putV; rw [if_neg c2]
            rw [e] at hk
            exact .inl hk)
      clear hoB
      go_wp2_with fail
      refine bodyPost_ret (results_none rfl _ _ _) rfl ?_
      refine ⟨rfl, _, ?_, hC3.out, hL3.out, hF3.out.mono fun k _ q => by simpa using q⟩
      first | exact hoV.out | simpa using hoV.out
end
end Go.Proofs.YteojbnkjphghkaaDoor
