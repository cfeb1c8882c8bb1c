/-
  chartOf walked.
-/
import Derived.Test.YteojbnkjphghkaaDoorChartOf15
import Derived.Test.YteojbnkjphghkaaDoorWeak
namespace Go.Proofs.YteojbnkjphghkaaDoor
open Go.RowKit
set_option linter.unusedVariables false
set_option linter.unusedSimpArgs false
/-- What stands while the chart is made: all of it behind B. -/
structure CS (w0 W : World) (kB eB gB B S : Nat) (pv wv : Value) (gl gr : Nat) (Wo : List Int) (P : List Hb) (rv : Value) (E G : Ends) (K : List Pc) (V : Bool → Nat → Value) (L : Bool → Nat → List (Int × Int)) : Prop where
  ch : Ch W kB eB gB B S Wo.length pv wv (.slice (some ⟨gl, 0, none⟩) S S) (.slice (some ⟨gr, 0, none⟩) S S) rv E G K
  lr : LR W gl gr S V L
  vb : ∀ s a k, a < S → (V s a).ownBlock = some k → B ≤ k
  low : B ≤ kB ∧ B ≤ eB ∧ B ≤ gB ∧ B ≤ gl ∧ B ≤ gr
  far : Far (fun k => B ≤ k) w0 W
  d : ∀ q ∈ K, Der P Wo q.1 q.2.1 q.2.2
theorem Der.mono {P Q : List Hb} {W : List Int} {h : Int} {i j : Nat} (hd : Der P W h i j) (hs : ∀ p ∈ P, p ∈ Q) : Der Q W h i j := by
  induction hd with
  | eps hp hi => exact .eps (hs _ hp) hi
  | one hp hw => exact .one (hs _ hp) hw
  | two hp _ _ k1 k2 => exact .two (hs _ hp) k1 k2
section
variable {w0 W W' : World} {kB eB gB B S : Nat} {pv wv : Value} {gl gr : Nat} {Wo : List Int} {P : List Hb} {rv : Value} {E G : Ends} {K : List Pc} {V : Bool → Nat → Value} {L : Bool → Nat → List (Int × Int)}
theorem CS.move (c : CS w0 W kB eB gB B S pv wv gl gr Wo P rv E G K V L) (hf : Far (fun _ => False) W W') : CS w0 W' kB eB gB B S pv wv gl gr Wo P rv E G K V L :=
  ⟨c.ch.move hf, c.lr.move hf, c.vb, c.low, c.far.trans (hf.mono (G := fun k => B ≤ k) fun _ _ q => q.elim) fun _ _ q => q, c.d⟩
theorem CS.chF (c : CS w0 W kB eB gB B S pv wv gl gr Wo P rv E G K V L) : ∀ k, ChF kB eB gB rv k → B ≤ k := fun k q => by
  have := c.low
  rcases q with e | e | e | e
  · omega
  · omega
  · omega
  · exact (c.ch.row.lt k e).1
/-- A list read that lies below B. -/
theorem CS.src (c : CS w0 W kB eB gB B S pv wv gl gr Wo P rv E G K V L) {sz m : Nat} {v : Value} {xs : List Value} (h : Src w0 sz v m xs) (hB : w0.heap.size ≤ B) : Src W sz v m xs :=
  Src.farF h c.far fun a n' c' e h0 q => by
    rcases h.2 with ⟨e2, _⟩ | ⟨a', c2, e2, h2⟩
    · rw [e2] at e; cases e
    · rw [e2] at e
      cases e
      have := (h2 0 _ (List.getElem?_eq_getElem h0)).1
      omega
end
theorem src_low {w : World} {sz m : Nat} {v : Value} {xs : List Value} (h : Src w sz v m xs) {a : Addr} {n c : Nat} (e : v = .slice (some a) n c) (h0 : 0 < xs.length) : a.block < w.heap.size := by
  rcases h.2 with ⟨e2, _⟩ | ⟨a', c2, e2, h2⟩
  · rw [e2] at e; cases e
  · rw [e2] at e
    cases e
    have := (h2 0 _ (List.getElem?_eq_getElem h0)).1
    exact this
/-- begin, at any weak body. -/
theorem begin_any (w0 : World) (kB eB gB B S : Nat) (pv wv : Value) (gl gr : Nat) (Wo : List Int) (P : List Hb) (rv : Value) (E G : Ends) (K : List Pc) (V : Bool → Nat → Value) (L : Bool → Nat → List (Int × Int)) (hd : Int) (bv : Value) (l : List Sy) (w : World)
    (hc : CS w0 w kB eB gB B S pv wv gl gr Wo (P ++ [(hd, l)]) rv E G K V L) (hsp : LSp S P L) (hB0 : B = w0.heap.size) (hb : Body w0 bv l) (hw : WdM w0 wv Wo) (hwk : weakB l = true) (hS : S ≤ 1024) (hh : 0 ≤ hd ∧ hd < S) (hsy : ∀ x ∈ l, 0 ≤ x.2 ∧ (x.1 = false → x.2 < S)) (hn : Wo.length ≤ 64) (hll : ∀ s a, a < S → (L s a).length ≤ 4398046510976) :
    Calls Tryd.prog 46 #[.pointer (some ⟨kB, 0, none⟩), .agg #[.int .i64 hd, bv]] w fun e w' => e = .returned (.tuple #[]) ∧ ∃ rv' E' G' K' V' L', CS w0 w' kB eB gB B S pv wv gl gr Wo (P ++ [(hd, l)]) rv' E' G' K' V' L' ∧ LSp S (P ++ [(hd, l)]) L' ∧ K <+: K' ∧ (l.length ≤ 1 → ∀ i j : Nat, i ≤ Wo.length → j ≤ Wo.length → makesB l Wo i j = true → (hd, i, j) ∈ K') ∧ (∀ s a, (L' s a).length ≤ (L s a).length + 1) := by
  have hlow := hc.low
  by_cases h1 : l.length ≤ 1
  · refine (begin_short kB eB gB B S pv wv _ _ rv bv E G K (P ++ [(hd, l)]) hd l Wo (fun q => Der (P ++ [(hd, l)]) Wo q.1 q.2.1 q.2.2) w hc.ch (hc.src hb (by omega)) (hc.src hw (by omega)) (fun a n c e hl => ?_) (fun a n c e hl => ?_) h1 hS hh hn hc.d fun i j hi hj hm => makes_der (List.mem_append_right _ (List.mem_singleton.2 rfl)) h1 hm hi).mono ?_
    · have := src_low hb e (by rw [scells_len]; have := List.length_pos_iff.2 hl; omega)
      omega
    · have := src_low hw e (by unfold wcells; rw [List.length_map]; exact List.length_pos_iff.2 hl)
      omega
    · rintro e w' ⟨he, rv', E', G', K', hC, hK, hD, hM, hF, ho⟩
      have hF2 : Far (fun k => B ≤ k) w w' := hF.mono fun k _ q => hc.chF k q
      exact ⟨he, rv', E', G', K', V, L, ⟨hC, hc.lr.ch hc.ch hF, hc.vb, hc.low, hc.far.trans hF2 fun _ _ q => q, hD⟩, hsp.skip h1, hK, fun _ => hM, fun s a => Nat.le_succ _⟩
  · obtain ⟨⟨xb, x⟩, ⟨yb, y⟩, rfl⟩ : ∃ x y, l = [x, y] := by
      match l, h1, hwk with
      | [x, y], _, _ => exact ⟨x, y, rfl⟩
      | x :: y :: z :: l, _, h => simp [weakB, shortB, pairB] at h
      | [], h, _ => simp at h
      | [x], h, _ => simp at h
    have hxy : xb = false ∧ yb = false := by simpa [weakB, shortB, pairB] using hwk
    obtain ⟨rfl, rfl⟩ := hxy
    have hx := hsy (false, x) (by simp)
    have hy := hsy (false, y) (by simp)
    simp only [forall_const] at hx hy
    obtain ⟨xa, rfl⟩ : ∃ n : Nat, x = (n : Int) := ⟨x.toNat, by omega⟩
    obtain ⟨ya, rfl⟩ : ∃ n : Nat, y = (n : Int) := ⟨y.toNat, by omega⟩
    have hxa : xa < S := by omega
    have hya : ya < S := by omega
    refine (begin_two kB eB gB B S Wo.length pv wv rv bv E G K gl gr S S V L hd false false xa ya w hc.ch hc.lr (hc.src hb (by omega)) hS hxa hya hll).mono ?_
    rintro e w' ⟨he, V', hV, hC, hL, hF⟩
    have hF2 : Far (fun k => B ≤ k) w w' := hF.mono fun k _ q => by
      rcases q with e | e | ⟨s, a, ha, e⟩
      · omega
      · omega
      · exact hc.vb s a k ha e
    refine ⟨he, rv, E, G, K, V', _, ⟨hC, hL, fun s a k ha hk => (hV s a k ha hk).elim (hc.vb s a k ha) fun h => ?_, hc.low, hc.far.trans hF2 fun _ _ q => q, hc.d⟩, hsp.push, List.prefix_rfl, fun h => absurd h h1, fun s a => ?_⟩
    · have := hc.far.size
      omega
    · unfold putL
      split
      · rename_i e
        obtain ⟨rfl, rfl⟩ := e
        rw [if_neg (by simp), List.length_append, List.length_singleton]
        exact Nat.le_refl _
      · split
        · rename_i e
          obtain ⟨rfl, rfl⟩ := e
          rw [List.length_append, List.length_singleton]
          exact Nat.le_refl _
        · exact Nat.le_succ _
theorem lists_made {W : World} {kB : Nat} {v0 v1 v2 v3 v4 v5 : Value} (hK : Bk W kB 84 #[v0, v1, v2, v3, v4, v5, .slice none 0 0, .slice none 0 0]) (Z : Array Value) (gl gr : Nat) {S : Nat} :
    Bk ((((W.setCell ⟨kB, 6, none⟩ (.slice (some ⟨gl, 0, none⟩) S S)).setCell ⟨kB, 7, none⟩ (.slice (some ⟨gr, 0, none⟩) S S)).alloc (.cells Z 121)).alloc (.cells Z 121)).drew kB 84 #[v0, v1, v2, v3, v4, v5, .slice (some ⟨gl, 0, none⟩) S S, .slice (some ⟨gr, 0, none⟩) S S] ∧
    Bk ((((W.setCell ⟨kB, 6, none⟩ (.slice (some ⟨gl, 0, none⟩) S S)).setCell ⟨kB, 7, none⟩ (.slice (some ⟨gr, 0, none⟩) S S)).alloc (.cells Z 121)).alloc (.cells Z 121)).drew W.heap.size 121 Z ∧
    Bk ((((W.setCell ⟨kB, 6, none⟩ (.slice (some ⟨gl, 0, none⟩) S S)).setCell ⟨kB, 7, none⟩ (.slice (some ⟨gr, 0, none⟩) S S)).alloc (.cells Z 121)).alloc (.cells Z 121)).drew (W.heap.size + 1) 121 Z ∧
    Far (fun k => k = kB) W ((((W.setCell ⟨kB, 6, none⟩ (.slice (some ⟨gl, 0, none⟩) S S)).setCell ⟨kB, 7, none⟩ (.slice (some ⟨gr, 0, none⟩) S S)).alloc (.cells Z 121)).alloc (.cells Z 121)).drew := by
  have h1 := hK.set 6 (.slice (some ⟨gl, 0, none⟩) S S)
  have h2 := h1.set 7 (.slice (some ⟨gr, 0, none⟩) S S)
  have hz : ((W.setCell ⟨kB, 6, none⟩ (.slice (some ⟨gl, 0, none⟩) S S)).setCell ⟨kB, 7, none⟩ (.slice (some ⟨gr, 0, none⟩) S S)).heap.size = W.heap.size := by simp [World.setCell]
  refine ⟨bk_drew ((h2.alloc _).alloc _), bk_drew ((Bk.new hz.symm).alloc _), bk_drew (Bk.new (by simp [hz])), ?_⟩
  exact ((((Far.refl (fun k => k = kB) W).set _ _ fun _ => rfl).set _ _ fun _ => rfl).alloc _ |>.alloc _).drew
section
set_option maxHeartbeats 8000000
set_option maxRecDepth 100000
theorem chartOf_any (S : Nat) (pv wv : Value) (T : List Tr) (Wo : List Int) (w : World) (hP : Prods w pv T) (hw : WdM w wv Wo) (hT : Tab w) (hok : WeakP (S : Int) T) (hn : Wo.length ≤ 64) (hlT : T.length ≤ 4398046510976) :
    Calls Tryd.prog 29 #[.agg #[.int .i64 (S : Int), pv], wv] w fun e w' => ∃ kB eB gB B lv fv rv E G K, e = .returned (.pointer (some ⟨kB, 0, none⟩)) ∧ Ch w' kB eB gB B S Wo.length pv wv lv fv rv E G K ∧ (∀ h i j, (h, i, j) ∈ K ↔ Der (T.map pl) Wo h i j) ∧ Far (fun _ => False) w w' := by
  obtain ⟨ao, ac, rfl⟩ := Src.form hP.1
  obtain ⟨wo', wc', rfl⟩ := Src.form hw
  have hS1 : 1 ≤ S := by have := hok.1.1; omega
  have hS2 : S ≤ 1024 := by have := hok.1.1; omega
  obtain ⟨h, hh⟩ : ∃ h, h = w.heap.size := ⟨_, rfl⟩
  obtain ⟨eB, heB⟩ : ∃ k, k = h + 1 := ⟨_, rfl⟩
  obtain ⟨gB, hgB⟩ : ∃ k, k = eB + 1 := ⟨_, rfl⟩
  obtain ⟨kB, hkB⟩ : ∃ k, k = gB + 1 := ⟨_, rfl⟩
  obtain ⟨w0, hw0⟩ : ∃ w0, w0 = w.alloc (.cells #[.int .i64 (S : Int), .slice ao T.length ac] 24) := ⟨_, rfl⟩
  obtain ⟨w1, hw1⟩ : ∃ w1, w1 = w0.alloc (.map #[] 0) := ⟨_, rfl⟩
  obtain ⟨w2, hw2⟩ : ∃ w2, w2 = w1.alloc (.map #[] 0) := ⟨_, rfl⟩
  obtain ⟨W, hW⟩ : ∃ W, W = w2.alloc (.cells #[.int .i64 (S : Int), .slice ao T.length ac, .slice wo' Wo.length wc', .map (some eB), .map (some gB), .slice none 0 0, .slice none 0 0, .slice none 0 0] 84) := ⟨_, rfl⟩
  have z0 : w0.heap.size = eB := by rw [hw0]; simp [heB, hh]
  have z1 : w1.heap.size = gB := by rw [hw1]; simp [hgB, z0]
  have z2 : w2.heap.size = kB := by rw [hw2]; simp [hkB, z1]
  have hf0 : Far (fun _ => False) w w0 := hw0 ▸ afar _ _
  have hf01 : Far (fun _ => False) w0 w1 := hw1 ▸ afar _ _
  have hf12 : Far (fun _ => False) w1 w2 := hw2 ▸ afar _ _
  have hf2W : Far (fun _ => False) w2 W := hW ▸ afar _ _
  have hFW := hf0.then (hf01.then (hf12.then hf2W))
  have hA0 : Bk w0 h 24 #[.int .i64 (S : Int), .slice ao T.length ac] := hw0 ▸ Bk.new hh
  have a0 : w0.cell? ⟨h, 0, none⟩ = some (.int .i64 (S : Int)) := hA0.cell 0
  have a1 : w0.cell? ⟨h, 1, none⟩ = some (.slice ao T.length ac) := hA0.cell 1
  have hm1 := @run_makeMap Tryd.prog 80 w0
  rw [z0, ← hw1] at hm1
  have hm2 := @run_makeMap Tryd.prog 80 w1
  rw [z1, ← hw2] at hm2
  have hE : PM W eB 0 (fun _ _ => (0, 0)) := by
    have := PM.made w0
    rw [z0, ← hw1] at this
    exact this.far (hf12.then hf2W) id
  have hG : PM W gB 0 (fun _ _ => (0, 0)) := by
    have := PM.made w1
    rw [z1, ← hw2] at this
    exact this.far hf2W id
  have hK : Bk W kB 84 #[.int .i64 (S : Int), .slice ao T.length ac, .slice wo' Wo.length wc', .map (some eB), .map (some gB), .slice none 0 0, .slice none 0 0, .slice none 0 0] := hW ▸ Bk.new z2.symm
  have hA := hA0.far' (hf01.then (hf12.then hf2W)) id
  have hh' := Lib.hid (show w.heap.size = h by omega)
  have hz := Lib.hid (show w0.heap.size = eB ∧ w1.heap.size = gB ∧ w2.heap.size = kB ∧ h < kB ∧ eB < kB ∧ gB < kB ∧ eB ≠ gB ∧ h ≠ kB ∧ w.heap.size ≤ h ∧ w.heap.size ≤ eB ∧ w.heap.size ≤ gB ∧ w.heap.size ≤ kB by omega)
  have hw0' := Lib.hid hw0
  have hW' := Lib.hid hW
  have hFW' := Lib.hid hFW
  have hE' := Lib.hid hE
  have hG' := Lib.hid hG
  have hK' := Lib.hid hK
  have hA' := Lib.hid hA
  have hP' := Lib.hid hP
  have hw' := Lib.hid hw
  have hT' := Lib.hid hT
  have hok' := Lib.hid hok
  clear hP hw hT hok hh heB hgB hkB hw0 hw1 hw2 hW z0 z1 z2 hf0 hf01 hf12 hf2W hFW hA0 hE hG hK hA
  go_enter Tryd.func29, Tryd.ntmps29
  go_upto_region 1 with fail
  rw [hh'.out, ← hw0'.out]
  go_upto_region 2 with fail
  rw [hz.out.2.2.1, ← hW'.out]
  clear hm1 hm2 a0 a1
  have a0 : W.cell? ⟨h, 0, none⟩ = some (.int .i64 (S : Int)) := hA'.out.cell 0
  have k6 : W.cell? ⟨kB, 6, none⟩ = some (.slice none 0 0) := hK'.out.cell 6
  have k7 : W.cell? ⟨kB, 7, none⟩ = some (.slice none 0 0) := hK'.out.cell 7
  have f6 : W.frozen? ⟨kB, 6, none⟩ = false := hK'.out.free 6
  have f7 : W.frozen? ⟨kB, 7, none⟩ = false := hK'.out.free 7
  have hml := make_lists S (by omega)
  have lh : h < W.heap.size := hA'.out.lt
  have lk : kB < W.heap.size := hK'.out.lt
  go_cut [] (fun wc => ∃ gl gr, Bk wc kB 84 #[.int .i64 (S : Int), .slice ao T.length ac, .slice wo' Wo.length wc', .map (some eB), .map (some gB), .slice none 0 0, .slice (some ⟨gl, 0, none⟩) S S, .slice (some ⟨gr, 0, none⟩) S S] ∧ Bk wc gl 121 ((List.range S).map (nilV false)).toArray ∧ Bk wc gr 121 ((List.range S).map (nilV false)).toArray ∧ gl ≠ gr ∧ W.heap.size ≤ gl ∧ W.heap.size ≤ gr ∧ Far (fun k => k = kB) W wc)
  case first =>
    generalize ((List.range S).map (nilV false)).toArray = Z at *
    go_region
    · go_wp2_with fail
      go_meet
      have hLM := lists_made hK'.out Z W.heap.size (W.heap.size + 1) (S := S)
      exact ⟨_, _, hLM.1, hLM.2.1, hLM.2.2.1, Nat.ne_of_lt (Nat.lt_succ_self _), Nat.le_refl _, Nat.le_succ _, hLM.2.2.2⟩
    · go_wp2_with fail
      go_meet
      have hLM := lists_made hK'.out Z (W.heap.size + 1) W.heap.size (S := S)
      exact ⟨_, _, hLM.1, hLM.2.2.1, hLM.2.1, (Nat.ne_of_lt (Nat.lt_succ_self _)).symm, Nat.le_succ _, Nat.le_refl _, hLM.2.2.2⟩
  case rest =>
    obtain ⟨v1, rfl⟩ : ∃ v1 : World, v1 = wc := ⟨_, rfl⟩
    obtain ⟨gl, gr, hK1, hl1, hr1, hne, hgl, hgr, hF1⟩ := hcut
    have hzz := hz.out
    have hWz := hFW'.out.size
    have hCS0 := Lib.hid (show CS w v1 kB eB gB w.heap.size S (.slice ao T.length ac) (.slice wo' Wo.length wc') gl gr Wo ((([] : List Tr).map pl)) (.slice none 0 0) (fun _ _ => (0, 0)) (fun _ _ => (0, 0)) [] nilV (fun _ _ => []) from
      ⟨⟨hK1, hE'.out.far hF1 (by omega), hG'.out.far hF1 (by omega), World.ownsRow_nil _ _ _ _, hzz.2.2.2.2.2.2.1, KI.nil _ _, Nat.le_trans hWz hF1.size⟩, LR.nil hl1 hr1 hne, (fun s a k _ hk => by cases hk), ⟨by omega, by omega, by omega, by omega, by omega⟩, (hFW'.out.mono (G := fun k => w.heap.size ≤ k) fun _ _ q => q.elim).trans (hF1.mono (G := fun k => w.heap.size ≤ k) fun k _ q => by omega) fun _ _ q => q, fun q hq => by cases hq⟩)
    have a1 : v1.cell? ⟨h, 1, none⟩ = some (.slice ao T.length ac) := (hA'.out.far' hF1 (by omega)).cell 1
    clear hK1 hl1 hr1 hF1 hzz a0 k6 k7 f6 f7 lh lk hml
    go_wp2_with fail
    clear a1
    go_loopw [30] (fun iv wr => ∃ (i : Nat) (rv : Value) (E G : Ends) (K : List Pc) (V : Bool → Nat → Value) (L : Bool → Nat → List (Int × Int)), iv = .int .i64 i ∧ i ≤ T.length ∧ CS w wr kB eB gB w.heap.size S (.slice ao T.length ac) (.slice wo' Wo.length wc') gl gr Wo (((T.take i).map pl)) rv E G K V L ∧ LSp S ((T.take i).map pl) L ∧ (∀ p ∈ (T.take i).map pl, p.2.length ≤ 1 → ∀ i' j' : Nat, i' ≤ Wo.length → j' ≤ Wo.length → makesB p.2 Wo i' j' = true → (p.1, i', j') ∈ K) ∧ (∀ s a, (L s a).length ≤ i)) (fun iv _ => T.length - (intOf iv).toNat)
    case atStart => exact ⟨0, .slice none 0 0, _, _, [], nilV, fun _ _ => [], rfl, Nat.zero_le _, hCS0.out, LSp.nil S, (fun p hp => by cases hp), fun s a => Nat.le_refl _⟩
    case round =>
      clear hCS0
      obtain ⟨i, rv, E, G, K, V, L, rfl, hi, hC, hL, hM, hN⟩ := hrel
      have hC' := Lib.hid hC
      have hL' := Lib.hid hL
      have hM' := Lib.hid hM
      have hN' := Lib.hid hN
      clear hC hL hM hN
      by_cases hlt : i < T.length
      · have e1 : decide ((i : Int) < (T.length : Int)) = true := by rw [decide_eq_true_eq]; omega
        have hii : (i : Int) < (T.length : Int) := by omega
        obtain ⟨t, ht⟩ : ∃ t, T[i]? = some t := ⟨T[i], List.getElem?_eq_getElem hlt⟩
        have hmem := List.mem_of_getElem? ht
        obtain ⟨b, off, c, he, hbl, c0, c1, hbd⟩ := hP'.out.prod ht
        simp only [Value.slice.injEq] at he
        obtain ⟨rfl, _, rfl⟩ := he
        have htk : (T.take (i + 1)).map pl = (T.take i).map pl ++ [(t.1, t.2.2)] := by
          obtain ⟨h1, h2⟩ := List.getElem?_eq_some_iff.1 ht
          rw [List.take_succ_eq_append_getElem h1, h2, List.map_append]
          rfl
        have hsy := hok'.out.1.2 t hmem
        have hwk := hok'.out.2 t hmem
        obtain ⟨hd, tv, l⟩ := t
        simp only at c0 c1 hbd htk hsy hwk
        obtain ⟨bo, bc, rfl⟩ := Src.form hbd
        have hkk : ∀ o, wr.cell? ⟨b, o, none⟩ = w.cell? ⟨b, o, none⟩ := fun o => cell_eq (hC'.out.far.block b hbl (by omega))
        rw [← hkk] at c0 c1
        obtain ⟨kp, hkp⟩ : ∃ k, k = wr.heap.size := ⟨_, rfl⟩
        obtain ⟨wp, hwp⟩ : ∃ W, W = wr.alloc (.cells #[.int .i64 hd, .slice bo l.length bc] 48) := ⟨_, rfl⟩
        have hfp : Far (fun _ => False) wr wp := hwp ▸ afar _ _
        have hX : Bk wp kp 48 #[.int .i64 hd, .slice bo l.length bc] := hwp ▸ Bk.new hkp
        have hCp : CS w wp kB eB gB w.heap.size S _ _ gl gr Wo (((T.take i).map pl ++ [(hd, l)])) rv E G K V L := ⟨hC'.out.ch.move hfp, hC'.out.lr.move hfp, hC'.out.vb, hC'.out.low, hC'.out.far.trans (hfp.mono (G := fun k => w.heap.size ≤ k) fun _ _ q => q.elim) fun _ _ q => q, fun q hq => (hC'.out.d q hq).mono fun p hp => List.mem_append_left _ hp⟩
        have BG := begin_any w kB eB gB w.heap.size S _ _ gl gr Wo ((T.take i).map pl) rv E G K V L hd (.slice bo l.length bc) l wp hCp hL'.out rfl hbd hw'.out hwk hS2 hsy.1 (fun x hx => ⟨(hsy.2 x hx).1, (hsy.2 x hx).2.2⟩) hn fun s a _ => by have := hN'.out s a; omega
        have x0 : wp.cell? ⟨kp, 0, none⟩ = some (.int .i64 hd) := hX.cell 0
        have x1 : wp.cell? ⟨kp, 1, none⟩ = some (.slice bo l.length bc) := hX.cell 1
        have hkp' := Lib.hid hkp
        have hwp' := Lib.hid hwp
        have htk' := Lib.hid htk
        clear hkp hwp hfp hX hCp hmem ht hbd hsy hwk hkk htk hbl
        go_upto_region 6 with fail
        rw [← hkp'.out, ← hwp'.out]
        clear c0 c1
        go_wp2_with fail
        refine BG.mono ?_
        rintro e w9 ⟨rfl, rv', E', G', K', V', L', hC9, hL9, hK9, hM9, hN9⟩
        rw [← htk'.out] at hC9 hL9
        have hC9' := Lib.hid hC9
        have hL9' := Lib.hid hL9
        have hM9' := Lib.hid (show ∀ p ∈ (T.take (i + 1)).map pl, p.2.length ≤ 1 → ∀ i' j' : Nat, i' ≤ Wo.length → j' ≤ Wo.length → makesB p.2 Wo i' j' = true → (p.1, i', j') ∈ K' from fun p hp hl i' j' h1 h2 h3 => by
          rw [htk'.out] at hp
          rcases List.mem_append.1 hp with hp | hp
          · exact hK9.subset (hM'.out p hp hl i' j' h1 h2 h3)
          · rw [List.mem_singleton.1 hp] at hl h3 ⊢
            exact hM9 hl i' j' h1 h2 h3)
        have hN9' := Lib.hid (show ∀ s a, (L' s a).length ≤ i + 1 from fun s a => by have := hN9 s a; have := hN'.out s a; omega)
        clear BG hC9 hL9 hM9 hN9 hK9 x0 x1
        go_wp2_with fail
        go_roundw
        case rel => exact ⟨i + 1, rv', E', G', K', V', L', by go_num, by omega, hC9'.out, hL9'.out, hM9'.out, hN9'.out⟩
        case measure => simp [intOf]; omega
      · have e1 : decide ((i : Int) < (T.length : Int)) = false := by rw [decide_eq_false_iff_not]; omega
        have e2 : decide (i < T.length) = false := by rw [decide_eq_false_iff_not]; exact hlt
        have htT : T.take i = T := List.take_of_length_le (by omega)
        rw [htT] at hC' hL' hM'
        clear htT
        obtain ⟨wo, hwo⟩ : ∃ wo, wo = wr := ⟨_, rfl⟩
        rw [← hwo] at hC' ⊢
        clear hwo
        have hPin := Lib.hid (show ∀ h b a d o, (h, [(b, a), (d, o)]) ∈ T.map pl → (0 ≤ h ∧ h < (S : Int)) ∧ (0 ≤ a ∧ a < (S : Int)) ∧ 0 ≤ o ∧ o < (S : Int) from fun h b a d o hp => by
          obtain ⟨t, ht, e⟩ := List.mem_map.1 hp
          have hsy : (0 ≤ t.1 ∧ t.1 < (S : Int)) ∧ ∀ x ∈ t.2.2, symOK (S : Int) x := hok'.out.1.2 t ht
          have hwk := hok'.out.2 t ht
          have e1 : t.1 = h := congrArg Prod.fst e
          have e2 : t.2.2 = [(b, a), (d, o)] := congrArg Prod.snd e
          rw [e2] at hwk hsy
          rw [e1] at hsy
          have hbd : b = false ∧ d = false := by simpa [weakB, shortB, pairB] using hwk
          have h1 := hsy.2 (b, a) (by simp)
          have h2 := hsy.2 (d, o) (by simp)
          exact ⟨hsy.1, ⟨h1.1, h1.2.2 hbd.1⟩, h2.1, h2.2.2 hbd.2⟩)
        have hlp := Lib.hid (show ∀ s a, a < S → ∀ p ∈ L s a, (0 ≤ p.1 ∧ p.1 < (S : Int)) ∧ (0 ≤ p.2 ∧ p.2 < (S : Int)) from fun s a ha p hp => by
          cases s
          · obtain ⟨b, d, hm⟩ := ((hL'.out p.1 p.2).1 a ha).1 hp
            have := hPin.out _ _ _ _ _ hm
            exact ⟨this.1, this.2.2⟩
          · obtain ⟨b, d, hm⟩ := ((hL'.out p.1 p.2).2 a ha).1 hp
            have := hPin.out _ _ _ _ _ hm
            exact ⟨this.1, this.2.1⟩)
        go_wp2_with fail
        go_loopw [8] (fun iv wr => ∃ (i : Nat) (rv1 : Value) (E1 G1 : Ends) (K1 : List Pc), iv = .int .i64 i ∧ i ≤ K1.length ∧ CS w wr kB eB gB w.heap.size S (.slice ao T.length ac) (.slice wo' Wo.length wc') gl gr Wo ((T.map pl)) rv1 E1 G1 K1 V L ∧ K <+: K1 ∧ Done (T.map pl) K1 i) (fun iv _ => 4326400 - (intOf iv).toNat)
        case atStart => exact ⟨0, rv, E, G, K, rfl, Nat.zero_le _, hC'.out, List.prefix_rfl, done_zero _ _⟩
        case round =>
          clear hC'
          obtain ⟨i, rv1, E1, G1, K1, rfl, hi, hC, hpre, hdn⟩ := hrel
          have hlen : K1.length ≤ 4326400 := by
            have h1 := pcs_count hC.ch.ki.nd hC.ch.ki.inn
            have h2 : S * ((Wo.length + 1) * (Wo.length + 1)) ≤ 1024 * (65 * 65) := Nat.mul_le_mul hS2 (Nat.mul_le_mul (by omega) (by omega))
            omega
          obtain ⟨ro, rc, hrv⟩ := Src.form (Src.own hC.ch.row)
          have k5 : wr.cell? ⟨kB, 5, none⟩ = some (.slice ro K1.length rc) := by rw [← hrv]; exact hC.ch.box.cell 5
          have hC' := Lib.hid hC
          have hpre' := Lib.hid hpre
          have hdn' := Lib.hid hdn
          by_cases hlt : i < K1.length
          · have e3 : decide ((i : Int) < (K1.length : Int)) = true := by rw [decide_eq_true_eq]; omega
            have hii : (i : Int) < (K1.length : Int) := by omega
            obtain ⟨x, hx⟩ : ∃ x, K1[i]? = some x := ⟨K1[i], List.getElem?_eq_getElem hlt⟩
            obtain ⟨y0, y1, y2⟩ := pcells_at hx
            obtain ⟨rb, roff, c, he, hrb, hrc⟩ := (Src.own hC.ch.row).at (by have := (List.getElem?_eq_some_iff.1 y0).1; omega)
            have d0 := hrc _ _ y0
            have d1 := hrc _ _ y1
            have d2 := hrc _ _ y2
            rw [← Nat.add_assoc] at d1 d2
            rw [hrv] at he
            simp only [Value.slice.injEq] at he
            obtain ⟨rfl, _, rfl⟩ := he
            have hxm := List.mem_of_getElem? hx
            have hin := hC.ch.ki.inn x hxm
            have hdx := hC.d x hxm
            obtain ⟨xa, xi, xj⟩ := x
            simp only at d0 d1 d2
            obtain ⟨an, rfl⟩ : ∃ an : Nat, xa = (an : Int) := ⟨xa.toNat, by have := hin.1.1; simp only at this; omega⟩
            have han : an < S := by have := hin.1.2; simp only at this; omega
            have hTr : Tab wr := hT'.out.farF hC.far (by have := hT'.out.lt; omega)
            have hlow := hC.low
            have hgt := hT'.out.lt
            have GO := goon_any kB eB gB w.heap.size S Wo.length _ _ rv1 E1 G1 K1 gl gr S S V L an xi xj (fun q => Der (T.map pl) Wo q.1 q.2.1 q.2.2) wr hC.ch hC.lr hTr ⟨by omega, by omega, by omega, by omega⟩ hxm hS2 hn hlp.out (fun s a _ => by have := hN'.out s a; omega) hC.d
              (fun p hp i k j h1 h2 => by obtain ⟨b, d, hm⟩ := ((hL'.out p.1 p.2).1 an han).1 hp; exact .two hm h1 h2) (fun p hp i k j h1 h2 => by obtain ⟨b, d, hm⟩ := ((hL'.out p.1 p.2).2 an han).1 hp; exact .two hm h1 h2)
            have hx' := Lib.hid hx
            have han' := Lib.hid han
            clear hC hpre hdn y0 y1 y2 hrc hx hxm hin hdx hTr hlow hgt
            go_wp2_with fail
            refine GO.mono ?_
            rintro e w9 ⟨rfl, rv2, E2, G2, K2, hC2, hL2, hT2, hp2, hd2, hLL, hRR, hF2, ho2⟩
            have hC3 := Lib.hid (show CS w w9 kB eB gB w.heap.size S (.slice ao T.length ac) (.slice wo' Wo.length wc') gl gr Wo ((T.map pl)) rv2 E2 G2 K2 V L from ⟨hC2, hL2, hC'.out.vb, hC'.out.low, hC'.out.far.trans (hF2.mono (G := fun k => w.heap.size ≤ k) fun k _ q => hC'.out.chF k q) fun _ _ q => q, hd2⟩)
            have hD3 := Lib.hid (done_next hdn'.out hx'.out hp2 (fun q hq h b d hm e => hLL (h, q.1) (((hL'.out h q.1).1 an han'.out).2 ⟨b, d, hm⟩) q.2.2 (by rw [show xj = q.2.1 from e]; exact hq)) (fun p hp h b d hm e => hRR (h, p.1) (((hL'.out h p.1).2 an han'.out).2 ⟨b, d, hm⟩) p.2.1 (by rw [← show p.2.2 = xi from e]; exact hp)))
            have hp3 := Lib.hid (hpre'.out.trans hp2)
            have hl3 := Lib.hid (show i + 1 ≤ K2.length from Nat.le_trans hlt hp2.length_le)
            clear GO hC2 hL2 hT2 hp2 hd2 hLL hRR hF2 ho2 d0 d1 d2 k5
            go_wp2_with fail
            go_roundw
            case rel => exact ⟨i + 1, rv2, E2, G2, K2, by go_num, hl3.out, hC3.out, hp3.out, hD3.out⟩
            case measure => simp [intOf]; omega
          · have e3 : decide ((i : Int) < (K1.length : Int)) = false := by rw [decide_eq_false_iff_not]; omega
            have e4 : decide (i < K1.length) = false := by rw [decide_eq_false_iff_not]; exact hlt
            have hall := Lib.hid (show ∀ h i j, (h, i, j) ∈ K1 ↔ Der (T.map pl) Wo h i j from chart_all hC.d (fun p hp hl i' j' h1 h2 h3 => hpre.subset (hM'.out p hp hl i' j' h1 h2 h3)) (by
              have : i = K1.length := by omega
              rwa [this] at hdn))
            have hfar := Lib.hid ((Far.refl (fun _ => False) w).out hC.far fun k hk q => by omega)
            clear hC hpre hdn
            go_wp2_with fail
            go_ret
            exact ⟨kB, eB, gB, w.heap.size, _, _, rv1, E1, G1, K1, rfl, hC'.out.ch, hall.out, hfar.out⟩
end
end Go.Proofs.YteojbnkjphghkaaDoor
