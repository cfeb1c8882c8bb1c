/-
  The document's Add.
-/
import Derived.Test.YtjkfieilaahejaaSymbol14
import Derived.Test.YtjkfieilaahejaaWeak
namespace Go.Proofs.Ytjkfieilaahejaa
open Go.RowKit
set_option linter.unusedVariables false
set_option linter.unusedSimpArgs false
def chainR : List Sy → Fs → Int → Fs
  | x :: y :: z :: l, s, h => chainR (y :: z :: l) { s with n := s.n + 1, ps := s.ps ++ [(h, [x, (false, (s.n : Int))])] } s.n
  | [], s, h => addF s h []
  | [x], s, h => addF s h [x]
  | [x, y], s, h => addF s h [x, y]
def addR (s : Fs) (h : Int) (l : List Sy) : Fs :=
  if shortB l then addF s h l
  else if l.length = 1 then addF (empF s).1 h (l ++ [(false, ((empF s).2 : Int))])
  else if 1026 < l.length then { s with n := 1025 }
  else chainR (labsF l s).2 (labsF l s).1 h
/-- What Add answers. -/
def APost (B gL cL : Nat) (qv : Value) (s' : Fs) (w : World) (e : Ending) (w' : World) : Prop := ∃ qv' T', e = .returned (.agg #[.int .i64 (s'.n : Int), qv', .slice (some ⟨gL, 0, none⟩) 16 cL, .int .i64 (eI s'.e)]) ∧ RM w' B gL cL qv' T' s' ∧ Far (OF qv gL) w w'
theorem sym_cell {w : World} {B bb off n c : Nat} {k : Int} (h : QB w B (.slice (some ⟨bb, off, none⟩) n c) [(false, k)]) : w.cell? ⟨bb, off + 1, none⟩ = some (.int .i64 k) := by
  obtain ⟨b, o, c', e, hbl, c0, c1⟩ := h.1.sym (k := 0) rfl
  simp only [Value.slice.injEq, Option.some.injEq, Addr.mk.injEq] at e
  obtain ⟨⟨e1, e2, _⟩, _, _⟩ := e
  subst e1 e2
  simpa using c1
section
set_option maxHeartbeats 8000000
set_option maxRecDepth 100000
theorem radd_short (B gL cL : Nat) (qv : Value) (T : List Tr) (s : Fs) (h : Int) (v : Value) (l : List Sy) (w : World) (hM : RM w B gL cL qv T s) (hv : QB w B v l) (hps : s.ps.length + l.length * 3 + 9 ≤ 1099511627776) (hn : s.n + l.length * 3 + 9 ≤ 1099511627776) (hsh : shortB l = true) :
    Calls Try.prog 40 #[.agg #[.int .i64 (s.n : Int), qv, .slice (some ⟨gL, 0, none⟩) 16 cL, .int .i64 (eI s.e)], .agg #[.int .i64 h, v]] w fun e w' => APost B gL cL qv (addR s h l) w e w' := by
  obtain ⟨qo, qc, rfl⟩ := Src.form (Src.own hM.row)
  obtain ⟨vo, vc, rfl⟩ := Src.form hv.1
  obtain ⟨fb, hfb⟩ : ∃ i, i = w.heap.size := ⟨_, rfl⟩
  obtain ⟨pb, hpb⟩ : ∃ i, i = fb + 1 := ⟨_, rfl⟩
  obtain ⟨kR, hkR⟩ : ∃ i, i = pb + 1 := ⟨_, rfl⟩
  obtain ⟨n, hnl⟩ : ∃ n, n = l.length := ⟨_, rfl⟩
  obtain ⟨w0, hw0⟩ : ∃ w0, w0 = (w.alloc (.cells #[.int .i64 (s.n : Int), .slice qo T.length qc, .slice (some ⟨gL, 0, none⟩) 16 cL, .int .i64 (eI s.e)] 70)).alloc (.cells #[.int .i64 h, .slice vo n vc] 44) := ⟨_, rfl⟩
  obtain ⟨W, hW⟩ : ∃ W, W = w0.alloc (.cells #[.int .i64 0, .slice none 0 0, .slice none 0 0, .int .i64 0] 70) := ⟨_, rfl⟩
  have z0 : w0.heap.size = kR := by rw [hw0]; simp [hkR, hpb, hfb]
  have hX : Bk W fb 70 #[.int .i64 (s.n : Int), .slice qo T.length qc, .slice (some ⟨gL, 0, none⟩) 16 cL, .int .i64 (eI s.e)] := hW ▸ (hw0 ▸ (Bk.new hfb).alloc _ : Bk w0 fb 70 #[.int .i64 (s.n : Int), .slice qo T.length qc, .slice (some ⟨gL, 0, none⟩) 16 cL, .int .i64 (eI s.e)]).alloc _
  have hY : Bk W pb 44 #[.int .i64 h, .slice vo n vc] := hW ▸ (hw0 ▸ Bk.new (by simp [hpb, hfb]) : Bk w0 pb 44 #[.int .i64 h, .slice vo n vc]).alloc _
  have hR : Bk W kR 70 #[.int .i64 0, .slice none 0 0, .slice none 0 0, .int .i64 0] := hW ▸ Bk.new z0.symm
  have hF : Far (fun _ => False) w W := hW ▸ (hw0 ▸ ((Far.refl _ w).alloc _).alloc _ : Far (fun _ => False) w w0).alloc _
  have hMW := hM.move hF
  have hvW : QB W B (.slice vo n vc) l := by rw [hnl]; exact hv.go hF (fun _ _ q => q.elim)
  have hBf : B ≤ fb := by have := hM.hi; omega
  have hTl : T.length = s.ps.length := by rw [← hM.pl, List.length_map]
  have hqp : ∀ k, (Value.slice qo T.length qc).ownBlock = some k → k < fb := fun k e => by have := (hM.row.lt k e).2; omega
  have hgp : gL < fb := by have := (row_in hM.lab).2.2; omega
  have hTb : T.length + n * 3 + 9 ≤ 1099511627776 := by omega
  have hnb : s.n + n * 3 + 9 ≤ 1099511627776 := by omega
  have hord : fb < pb ∧ pb < kR := by omega
  rw [← hnl]
  have hfb' := Lib.hid hfb
  have hpb' := Lib.hid hpb
  have hkR' := Lib.hid hkR
  have hnl' := Lib.hid hnl
  have hw0' := Lib.hid hw0
  have hW' := Lib.hid hW
  have hX' := Lib.hid hX
  have hY' := Lib.hid hY
  have hR' := Lib.hid hR
  have hF' := Lib.hid hF
  have hMW' := Lib.hid hMW
  have hvW' := Lib.hid hvW
  have hBf' := Lib.hid hBf
  have hqp' := Lib.hid hqp
  have hfB : fb < W.heap.size := hX.lt
  clear hfb hpb hkR hnl hw0 hW z0 hX hY hR hF hMW hM hv hvW hBf hTl hqp hps hn
  have x0 : W.cell? ⟨fb, 0, none⟩ = some (.int .i64 (s.n : Int)) := hX'.out.cell 0
  have x1 : W.cell? ⟨fb, 1, none⟩ = some (.slice qo T.length qc) := hX'.out.cell 1
  have x2 : W.cell? ⟨fb, 2, none⟩ = some (.slice (some ⟨gL, 0, none⟩) 16 cL) := hX'.out.cell 2
  have x3 : W.cell? ⟨fb, 3, none⟩ = some (.int .i64 (eI s.e)) := hX'.out.cell 3
  have y0 : W.cell? ⟨pb, 0, none⟩ = some (.int .i64 h) := hY'.out.cell 0
  have y1 : W.cell? ⟨pb, 1, none⟩ = some (.slice vo n vc) := hY'.out.cell 1
  have hres := Lib.hid (show addR s h l = addF s h l by unfold addR; rw [if_pos hsh])
  obtain ⟨pi, pz, pi1, pi2, pi3, pi4, pi5⟩ := info3 info_prod
  have A7 : 0 < 2 := by decide
  have hqk := Lib.hid (show (Value.slice qo T.length qc).ownBlock ≠ some fb from fun e => by have := hqp'.out _ e; omega)
  have B1 := Lib.hid (hMW'.out.row.alloc (.cells #[.int .i64 h, .slice vo n vc] 44))
  have B7 := Lib.hid (World.news_of_block (w := W.alloc (.cells #[.int .i64 h, .slice vo n vc] 44)) (heap_alloc_new W _))
  have B3 := Lib.hid (show ∀ u ∈ [Value.int .i64 h, .slice vo n vc], u.oneCell' = true by simp [Value.oneCell'])
  have B4 : T.length + 1 ≤ maxLen := by unfold maxLen; omega
  have B5 : (T.length + 1) * 32 ≤ 140737488355328 := by omega
  have B6 : B ≤ (W.alloc (.cells #[.int .i64 h, .slice vo n vc] 44)).heap.size := by have := hMW'.out.hi; simp; omega
  obtain ⟨hA, hB⟩ : (n = 0 → True) ∧ (n ≠ 0 → n = 1 ∧ ∃ b off c, vo = some ⟨b, off, none⟩ ∧ c = vc ∧ b < W.heap.size ∧ W.cell? ⟨b, off, none⟩ = some (.bool true)) := by
    refine ⟨fun _ => trivial, fun h0 => ?_⟩
    have hl := hnl'.out
    match l, hsh, hl, hvW'.out.1 with
    | [], _, hl, _ => exact absurd hl h0
    | [(b, k)], hsh, hl, hb =>
      cases b with
      | false => cases hsh
      | true =>
        obtain ⟨b, off, c, e, hbl, c0, _⟩ := hb.sym (k := 0) rfl
        simp only [Value.slice.injEq] at e
        exact ⟨hl, b, off, c, e.1, e.2.2.symm, hbl, by simpa using c0⟩
    | _ :: _ :: _, hsh, _, _ => cases hsh
  by_cases h0 : n = 0
  · have g0 : ((n : Int) == 0) = true := by simp [h0]
    have hB2 := Lib.hid h0
    clear h0 hA hB hsh
    go_enter Try.func40, Try.ntmps40
    go_upto_region 1 with fail
    rw [← hfb'.out, ← hpb'.out, ← hkR'.out, ← hw0'.out, ← hW'.out]
    go_upto_region 4 with (at_builtin; refine wpList_append_lies _ rfl _ _ 22 rfl B 44 pi pz 2 32 Try.underlying22 pi1 pi2 pi3 pi4 pi5 A7 (.slice qo T.length qc) T.length _ rfl B1.out ⟨W.heap.size, 0, none⟩ 1 1 [.int .i64 h, .slice vo n vc] rfl rfl B7.out B3.out (by decide) B4 B5 B6 _ rfl ?_; intro g2 c2 w5 ho5 hg5 hw5 _; have hO5 := Bk.grown (w := (W.alloc (.cells #[.int .i64 h, .slice vo n vc] 44))) (Bk.alloc hX'.out _) hg5 hqk.out; have u0 := hO5.cell 1; have u1 := hO5.free 1; have ho5' := Lib.hid ho5; have hg5' := Lib.hid hg5; have hO5' := Lib.hid hO5; have hw5' := Lib.hid hw5; clear ho5 hg5 hO5 hw5; simp at u0)
    obtain ⟨W9, hW9⟩ : ∃ W9, W9 = w5.setCell ⟨fb, 1, none⟩ (.slice (some ⟨g2, 0, none⟩) (T.length + 1) c2) := ⟨_, rfl⟩
    rw [← hW9]
    have hS9 : Far (fun i => i = fb) w5 W9 := hW9 ▸ (Far.refl _ w5).set _ _ fun _ => rfl
    have hX9 : Hid (Bk W9 fb 70 #[.int .i64 (s.n : Int), .slice (some ⟨g2, 0, none⟩) (T.length + 1) c2, .slice (some ⟨gL, 0, none⟩) 16 cL, .int .i64 (eI s.e)]) := Lib.hid (hW9 ▸ hO5'.out.set 1 _)
    have hWa : Far (fun _ => False) W (W.alloc (.cells #[.int .i64 h, .slice vo n vc] 44)) := alloc_far0 _ _
    have hM5 := (hMW'.out.move hWa).push (h := h) (v := .slice vo n vc) (l := l) (hvW'.out.go hWa fun _ _ q => q.elim) (grown_far hg5'.out) ho5'.out
    have hM9 : Hid (RM W9 B gL cL (.slice (some ⟨g2, 0, none⟩) (T.length + 1) c2) _ (addF s h l)) := Lib.hid (hM5.box hO5'.out (by decide) (by decide) (by decide) hBf'.out hS9)
    have hF9 : Hid (Far (fun i => OF (.slice qo T.length qc) gL i ∨ fb ≤ i) W W9) := Lib.hid (((hWa.mono (G := fun i => OF (.slice qo T.length qc) gL i ∨ fb ≤ i) fun _ _ q => q.elim).trans ((grown_far hg5'.out).mono (G := fun i => OF (.slice qo T.length qc) gL i ∨ fb ≤ i) fun i _ e => .inl (.inl e)) fun _ _ q => q).trans (hS9.mono (G := fun i => OF (.slice qo T.length qc) gL i ∨ fb ≤ i) fun i _ e => .inr (by omega)) fun _ _ q => q)
    have hR9 : Hid (Bk W9 kR 70 #[.int .i64 0, .slice none 0 0, .slice none 0 0, .int .i64 0]) := Lib.hid (((hR'.out.far' hWa id).far' (grown_far hg5'.out) fun e => by have := hqp'.out _ e; omega).far' hS9 fun e => by omega)
    clear u0 u1 x0 x1 x2 x3 y0 y1 hS9 hW9 hWa hM5
    have e0 : W9.cell? ⟨fb, 0, none⟩ = some (.int .i64 (s.n : Int)) := hX9.out.cell 0
    have e1 : W9.cell? ⟨fb, 1, none⟩ = some (.slice (some ⟨g2, 0, none⟩) (T.length + 1) c2) := hX9.out.cell 1
    have e2 : W9.cell? ⟨fb, 2, none⟩ = some (.slice (some ⟨gL, 0, none⟩) 16 cL) := hX9.out.cell 2
    have e3 : W9.cell? ⟨fb, 3, none⟩ = some (.int .i64 (eI s.e)) := hX9.out.cell 3
    have r0 : W9.cell? ⟨kR, 0, none⟩ = some (.int .i64 0) := hR9.out.cell 0
    have r1 : W9.cell? ⟨kR, 1, none⟩ = some (.slice none 0 0) := hR9.out.cell 1
    have r2 : W9.cell? ⟨kR, 2, none⟩ = some (.slice none 0 0) := hR9.out.cell 2
    have r3 : W9.cell? ⟨kR, 3, none⟩ = some (.int .i64 0) := hR9.out.cell 3
    have f0 : W9.frozen? ⟨kR, 0, none⟩ = false := hR9.out.free 0
    have f1 : W9.frozen? ⟨kR, 1, none⟩ = false := hR9.out.free 1
    have f2 : W9.frozen? ⟨kR, 2, none⟩ = false := hR9.out.free 2
    have f3 : W9.frozen? ⟨kR, 3, none⟩ = false := hR9.out.free 3
    go_wp2_with fail
    obtain ⟨hB6, hM6, hS6⟩ := form_shut (.int .i64 (s.n : Int)) (.slice (some ⟨g2, 0, none⟩) (T.length + 1) c2) (.slice (some ⟨gL, 0, none⟩) 16 cL) (.int .i64 (eI s.e)) hR9.out hM9.out (by have := hBf'.out; omega)
    have hM7 := Lib.hid hM6
    have hF6 := Lib.hid (((hF'.out.mono (G := fun i => OF (.slice qo T.length qc) gL i ∨ fb ≤ i) fun _ _ q => q.elim).trans (hF9.out.trans (hS6.mono (G := fun i => OF (.slice qo T.length qc) gL i ∨ fb ≤ i) fun i _ e => .inr (by omega)) fun _ _ q => q) fun _ _ q => q).mono (G := OF (.slice qo T.length qc) gL) fun i hi q => q.elim id fun e => by have := hfb'.out; omega)
    clear e0 e1 e2 e3 r0 r1 r2 r3 f0 f1 f2 f3 hS6 hM6
    generalize ((((W9.setCell ⟨kR, 0, none⟩ (.int .i64 (s.n : Int))).setCell ⟨kR, 1, none⟩ (.slice (some ⟨g2, 0, none⟩) (T.length + 1) c2)).setCell ⟨kR, 2, none⟩ (.slice (some ⟨gL, 0, none⟩) 16 cL)).setCell ⟨kR, 3, none⟩ (.int .i64 (eI s.e))) = W6 at *
    have mc0 : W6.cell? ⟨kR, 0, none⟩ = some (.int .i64 (s.n : Int)) := hB6.cell 0
    have mc1 : W6.cell? ⟨kR, 1, none⟩ = some (.slice (some ⟨g2, 0, none⟩) (T.length + 1) c2) := hB6.cell 1
    have mc2 : W6.cell? ⟨kR, 2, none⟩ = some (.slice (some ⟨gL, 0, none⟩) 16 cL) := hB6.cell 2
    have mc3 : W6.cell? ⟨kR, 3, none⟩ = some (.int .i64 (eI s.e)) := hB6.cell 3
    refine bodyPost_ret (v := .agg #[.int .i64 (s.n : Int), .slice (some ⟨g2, 0, none⟩) (T.length + 1) c2, .slice (some ⟨gL, 0, none⟩) 16 cL, .int .i64 (eI s.e)]) (by simp [results, Try.f40, go_sem, mc0, mc1, mc2, mc3]) rfl ?_
    rw [hres.out]
    exact ⟨_, _, rfl, hM7.out, hF6.out⟩
  · obtain ⟨h1, bb, off, c, rfl, rfl, hbl, cb⟩ := hB h0
    have g0 : ((n : Int) == 0) = false := by simp [h0]
    have g1 : ((n : Int) == 1) = true := by simp [h1]
    have hn0 : 0 < n := by omega
    have hn0I : (0 : Int) < (n : Int) := by omega
    clear h0 h1 hA hB hsh
    go_enter Try.func40, Try.ntmps40
    go_upto_region 1 with fail
    rw [← hfb'.out, ← hpb'.out, ← hkR'.out, ← hw0'.out, ← hW'.out]
    go_upto_region 4 with (at_builtin; refine wpList_append_lies _ rfl _ _ 22 rfl B 44 pi pz 2 32 Try.underlying22 pi1 pi2 pi3 pi4 pi5 A7 (.slice qo T.length qc) T.length _ rfl B1.out ⟨W.heap.size, 0, none⟩ 1 1 [.int .i64 h, .slice (some ⟨bb, off, none⟩) n c] rfl rfl B7.out B3.out (by decide) B4 B5 B6 _ rfl ?_; intro g2 c2 w5 ho5 hg5 hw5 _; have hO5 := Bk.grown (w := (W.alloc (.cells #[.int .i64 h, .slice (some ⟨bb, off, none⟩) n c] 44))) (Bk.alloc hX'.out _) hg5 hqk.out; have u0 := hO5.cell 1; have u1 := hO5.free 1; have ho5' := Lib.hid ho5; have hg5' := Lib.hid hg5; have hO5' := Lib.hid hO5; have hw5' := Lib.hid hw5; clear ho5 hg5 hO5 hw5; simp at u0)
    obtain ⟨W9, hW9⟩ : ∃ W9, W9 = w5.setCell ⟨fb, 1, none⟩ (.slice (some ⟨g2, 0, none⟩) (T.length + 1) c2) := ⟨_, rfl⟩
    rw [← hW9]
    have hS9 : Far (fun i => i = fb) w5 W9 := hW9 ▸ (Far.refl _ w5).set _ _ fun _ => rfl
    have hX9 : Hid (Bk W9 fb 70 #[.int .i64 (s.n : Int), .slice (some ⟨g2, 0, none⟩) (T.length + 1) c2, .slice (some ⟨gL, 0, none⟩) 16 cL, .int .i64 (eI s.e)]) := Lib.hid (hW9 ▸ hO5'.out.set 1 _)
    have hWa : Far (fun _ => False) W (W.alloc (.cells #[.int .i64 h, .slice (some ⟨bb, off, none⟩) n c] 44)) := alloc_far0 _ _
    have hM5 := (hMW'.out.move hWa).push (h := h) (v := .slice (some ⟨bb, off, none⟩) n c) (l := l) (hvW'.out.go hWa fun _ _ q => q.elim) (grown_far hg5'.out) ho5'.out
    have hM9 : Hid (RM W9 B gL cL (.slice (some ⟨g2, 0, none⟩) (T.length + 1) c2) _ (addF s h l)) := Lib.hid (hM5.box hO5'.out (by decide) (by decide) (by decide) hBf'.out hS9)
    have hF9 : Hid (Far (fun i => OF (.slice qo T.length qc) gL i ∨ fb ≤ i) W W9) := Lib.hid (((hWa.mono (G := fun i => OF (.slice qo T.length qc) gL i ∨ fb ≤ i) fun _ _ q => q.elim).trans ((grown_far hg5'.out).mono (G := fun i => OF (.slice qo T.length qc) gL i ∨ fb ≤ i) fun i _ e => .inl (.inl e)) fun _ _ q => q).trans (hS9.mono (G := fun i => OF (.slice qo T.length qc) gL i ∨ fb ≤ i) fun i _ e => .inr (by omega)) fun _ _ q => q)
    have hR9 : Hid (Bk W9 kR 70 #[.int .i64 0, .slice none 0 0, .slice none 0 0, .int .i64 0]) := Lib.hid (((hR'.out.far' hWa id).far' (grown_far hg5'.out) fun e => by have := hqp'.out _ e; omega).far' hS9 fun e => by omega)
    clear u0 u1 x0 x1 x2 x3 y0 y1 hS9 hW9 hWa hM5
    have e0 : W9.cell? ⟨fb, 0, none⟩ = some (.int .i64 (s.n : Int)) := hX9.out.cell 0
    have e1 : W9.cell? ⟨fb, 1, none⟩ = some (.slice (some ⟨g2, 0, none⟩) (T.length + 1) c2) := hX9.out.cell 1
    have e2 : W9.cell? ⟨fb, 2, none⟩ = some (.slice (some ⟨gL, 0, none⟩) 16 cL) := hX9.out.cell 2
    have e3 : W9.cell? ⟨fb, 3, none⟩ = some (.int .i64 (eI s.e)) := hX9.out.cell 3
    have r0 : W9.cell? ⟨kR, 0, none⟩ = some (.int .i64 0) := hR9.out.cell 0
    have r1 : W9.cell? ⟨kR, 1, none⟩ = some (.slice none 0 0) := hR9.out.cell 1
    have r2 : W9.cell? ⟨kR, 2, none⟩ = some (.slice none 0 0) := hR9.out.cell 2
    have r3 : W9.cell? ⟨kR, 3, none⟩ = some (.int .i64 0) := hR9.out.cell 3
    have f0 : W9.frozen? ⟨kR, 0, none⟩ = false := hR9.out.free 0
    have f1 : W9.frozen? ⟨kR, 1, none⟩ = false := hR9.out.free 1
    have f2 : W9.frozen? ⟨kR, 2, none⟩ = false := hR9.out.free 2
    have f3 : W9.frozen? ⟨kR, 3, none⟩ = false := hR9.out.free 3
    go_wp2_with fail
    obtain ⟨hB6, hM6, hS6⟩ := form_shut (.int .i64 (s.n : Int)) (.slice (some ⟨g2, 0, none⟩) (T.length + 1) c2) (.slice (some ⟨gL, 0, none⟩) 16 cL) (.int .i64 (eI s.e)) hR9.out hM9.out (by have := hBf'.out; omega)
    have hM7 := Lib.hid hM6
    have hF6 := Lib.hid (((hF'.out.mono (G := fun i => OF (.slice qo T.length qc) gL i ∨ fb ≤ i) fun _ _ q => q.elim).trans (hF9.out.trans (hS6.mono (G := fun i => OF (.slice qo T.length qc) gL i ∨ fb ≤ i) fun i _ e => .inr (by omega)) fun _ _ q => q) fun _ _ q => q).mono (G := OF (.slice qo T.length qc) gL) fun i hi q => q.elim id fun e => by have := hfb'.out; omega)
    clear e0 e1 e2 e3 r0 r1 r2 r3 f0 f1 f2 f3 hS6 hM6
    generalize ((((W9.setCell ⟨kR, 0, none⟩ (.int .i64 (s.n : Int))).setCell ⟨kR, 1, none⟩ (.slice (some ⟨g2, 0, none⟩) (T.length + 1) c2)).setCell ⟨kR, 2, none⟩ (.slice (some ⟨gL, 0, none⟩) 16 cL)).setCell ⟨kR, 3, none⟩ (.int .i64 (eI s.e))) = W6 at *
    have mc0 : W6.cell? ⟨kR, 0, none⟩ = some (.int .i64 (s.n : Int)) := hB6.cell 0
    have mc1 : W6.cell? ⟨kR, 1, none⟩ = some (.slice (some ⟨g2, 0, none⟩) (T.length + 1) c2) := hB6.cell 1
    have mc2 : W6.cell? ⟨kR, 2, none⟩ = some (.slice (some ⟨gL, 0, none⟩) 16 cL) := hB6.cell 2
    have mc3 : W6.cell? ⟨kR, 3, none⟩ = some (.int .i64 (eI s.e)) := hB6.cell 3
    refine bodyPost_ret (v := .agg #[.int .i64 (s.n : Int), .slice (some ⟨g2, 0, none⟩) (T.length + 1) c2, .slice (some ⟨gL, 0, none⟩) 16 cL, .int .i64 (eI s.e)]) (by simp [results, Try.f40, go_sem, mc0, mc1, mc2, mc3]) rfl ?_
    rw [hres.out]
    exact ⟨_, _, rfl, hM7.out, hF6.out⟩
theorem radd_one (B gL cL : Nat) (qv : Value) (T : List Tr) (s : Fs) (h : Int) (v : Value) (l : List Sy) (w : World) (hM : RM w B gL cL qv T s) (hv : QB w B v l) (hps : s.ps.length + l.length * 3 + 9 ≤ 1099511627776) (hn : s.n + l.length * 3 + 9 ≤ 1099511627776) (hsh : shortB l = false) (h1 : l.length = 1) :
    Calls Try.prog 40 #[.agg #[.int .i64 (s.n : Int), qv, .slice (some ⟨gL, 0, none⟩) 16 cL, .int .i64 (eI s.e)], .agg #[.int .i64 h, v]] w fun e w' => APost B gL cL qv (addR s h l) w e w' := by
  obtain ⟨qo, qc, rfl⟩ := Src.form (Src.own hM.row)
  obtain ⟨vo, vc, rfl⟩ := Src.form hv.1
  obtain ⟨fb, hfb⟩ : ∃ i, i = w.heap.size := ⟨_, rfl⟩
  obtain ⟨pb, hpb⟩ : ∃ i, i = fb + 1 := ⟨_, rfl⟩
  obtain ⟨kR, hkR⟩ : ∃ i, i = pb + 1 := ⟨_, rfl⟩
  obtain ⟨n, hnl⟩ : ∃ n, n = l.length := ⟨_, rfl⟩
  obtain ⟨w0, hw0⟩ : ∃ w0, w0 = (w.alloc (.cells #[.int .i64 (s.n : Int), .slice qo T.length qc, .slice (some ⟨gL, 0, none⟩) 16 cL, .int .i64 (eI s.e)] 70)).alloc (.cells #[.int .i64 h, .slice vo n vc] 44) := ⟨_, rfl⟩
  obtain ⟨W, hW⟩ : ∃ W, W = w0.alloc (.cells #[.int .i64 0, .slice none 0 0, .slice none 0 0, .int .i64 0] 70) := ⟨_, rfl⟩
  have z0 : w0.heap.size = kR := by rw [hw0]; simp [hkR, hpb, hfb]
  have hX : Bk W fb 70 #[.int .i64 (s.n : Int), .slice qo T.length qc, .slice (some ⟨gL, 0, none⟩) 16 cL, .int .i64 (eI s.e)] := hW ▸ (hw0 ▸ (Bk.new hfb).alloc _ : Bk w0 fb 70 #[.int .i64 (s.n : Int), .slice qo T.length qc, .slice (some ⟨gL, 0, none⟩) 16 cL, .int .i64 (eI s.e)]).alloc _
  have hY : Bk W pb 44 #[.int .i64 h, .slice vo n vc] := hW ▸ (hw0 ▸ Bk.new (by simp [hpb, hfb]) : Bk w0 pb 44 #[.int .i64 h, .slice vo n vc]).alloc _
  have hR : Bk W kR 70 #[.int .i64 0, .slice none 0 0, .slice none 0 0, .int .i64 0] := hW ▸ Bk.new z0.symm
  have hF : Far (fun _ => False) w W := hW ▸ (hw0 ▸ ((Far.refl _ w).alloc _).alloc _ : Far (fun _ => False) w w0).alloc _
  have hMW := hM.move hF
  have hvW : QB W B (.slice vo n vc) l := by rw [hnl]; exact hv.go hF (fun _ _ q => q.elim)
  have hBf : B ≤ fb := by have := hM.hi; omega
  have hTl : T.length = s.ps.length := by rw [← hM.pl, List.length_map]
  have hqp : ∀ k, (Value.slice qo T.length qc).ownBlock = some k → k < fb := fun k e => by have := (hM.row.lt k e).2; omega
  have hgp : gL < fb := by have := (row_in hM.lab).2.2; omega
  have hTb : T.length + n * 3 + 9 ≤ 1099511627776 := by omega
  have hnb : s.n + n * 3 + 9 ≤ 1099511627776 := by omega
  have hord : fb < pb ∧ pb < kR := by omega
  rw [← hnl]
  have hfb' := Lib.hid hfb
  have hpb' := Lib.hid hpb
  have hkR' := Lib.hid hkR
  have hnl' := Lib.hid hnl
  have hw0' := Lib.hid hw0
  have hW' := Lib.hid hW
  have hX' := Lib.hid hX
  have hY' := Lib.hid hY
  have hR' := Lib.hid hR
  have hF' := Lib.hid hF
  have hMW' := Lib.hid hMW
  have hvW' := Lib.hid hvW
  have hBf' := Lib.hid hBf
  have hqp' := Lib.hid hqp
  have hfB : fb < W.heap.size := hX.lt
  clear hfb hpb hkR hnl hw0 hW z0 hX hY hR hF hMW hM hv hvW hBf hTl hqp hps hn
  have x0 : W.cell? ⟨fb, 0, none⟩ = some (.int .i64 (s.n : Int)) := hX'.out.cell 0
  have x1 : W.cell? ⟨fb, 1, none⟩ = some (.slice qo T.length qc) := hX'.out.cell 1
  have x2 : W.cell? ⟨fb, 2, none⟩ = some (.slice (some ⟨gL, 0, none⟩) 16 cL) := hX'.out.cell 2
  have x3 : W.cell? ⟨fb, 3, none⟩ = some (.int .i64 (eI s.e)) := hX'.out.cell 3
  have y0 : W.cell? ⟨pb, 0, none⟩ = some (.int .i64 h) := hY'.out.cell 0
  have y1 : W.cell? ⟨pb, 1, none⟩ = some (.slice vo n vc) := hY'.out.cell 1
  obtain ⟨m, hm⟩ : ∃ m, m = (empF s).2 := ⟨_, rfl⟩
  have hres := Lib.hid (show addR s h l = addF (empF s).1 h (l ++ [(false, ((empF s).2 : Int))]) by unfold addR; rw [if_neg (by rw [hsh]; decide), if_pos h1])
  obtain ⟨bb, off, c, k, rfl, rfl, hlk, hbl, cb0, cb1⟩ : ∃ b off c k, vo = some ⟨b, off, none⟩ ∧ c = vc ∧ l = [(false, k)] ∧ b < W.heap.size ∧ W.cell? ⟨b, off, none⟩ = some (.bool false) ∧ W.cell? ⟨b, off + 1, none⟩ = some (.int .i64 k) := by
    match l, hsh, h1, hvW'.out.1 with
    | [(b, k)], hsh, _, hb =>
      cases b with
      | true => cases hsh
      | false =>
        obtain ⟨b, off, c, e, hbl, c0, c1⟩ := hb.sym (k := 0) rfl
        simp only [Value.slice.injEq] at e
        exact ⟨b, off, c, k, e.1, e.2.2.symm, rfl, hbl, by simpa using c0, by simpa using c1⟩
  have hn1 : n = 1 := hnl'.out.trans h1
  have g0 : ((n : Int) == 0) = false := by simp [hn1]
  have g1 : ((n : Int) == 1) = true := by simp [hn1]
  have hn0 : 0 < n := by omega
  have hn0I : (0 : Int) < (n : Int) := by omega
  have hlk' := Lib.hid hlk
  have hm' := Lib.hid hm
  obtain ⟨pi, pz, pi1, pi2, pi3, pi4, pi5⟩ := info3 info_prod
  have A7 : 0 < 2 := by decide
  have hqk := Lib.hid (show (Value.slice qo T.length qc).ownBlock ≠ some fb from fun e => by have := hqp'.out _ e; omega)
  have hbbf : bb < W.heap.size := hbl
  have hbn : bb ≠ fb := fun e => by
    have := hX'.out.cell off
    rw [← e, cb0] at this
    match off, this with
    | 0, q => simp at q
    | 1, q => simp at q
    | 2, q => simp at q
    | 3, q => simp at q
    | _ + 4, q => simp at q
  clear hsh h1 hn1 hlk hm
  cases hse : s.e with
  | some m0 =>
    have hemp : empF s = (s, m0) := by unfold empF; rw [hse]
    have hmm : m = m0 := by rw [hm'.out, hemp]
    rw [hse, show eI (some m0) = (m0 : Int) from rfl] at x3
    have d0 : decide ((m0 : Int) < 0) = false := by rw [decide_eq_false_iff_not]; omega
    have hX0 : Hid (Bk W fb 70 #[.int .i64 (s.n : Int), .slice qo T.length qc, .slice (some ⟨gL, 0, none⟩) 16 cL, .int .i64 (m0 : Int)]) := Lib.hid (by have := hX'.out; rw [hse] at this; exact this)
    have hres2 := Lib.hid (show addR s h l = addF s h [(false, k), (false, (m0 : Int))] by rw [hres.out, hemp, hlk'.out]; rfl)
    have hse' := Lib.hid hse
    rw [hse, show eI (some m0) = (m0 : Int) from rfl] at hw0'
    rw [show eI (some m0) = (m0 : Int) from rfl]
    clear hse hemp hmm hm'
    go_enter Try.func40, Try.ntmps40
    go_upto_region 1 with fail
    rw [← hfb'.out, ← hpb'.out, ← hkR'.out, ← hw0'.out, ← hW'.out]
    go_upto_region 10 with fail
    have hl2 : fb < W.heap.size := hX0.out.lt
    have hl3 : pb < W.heap.size := (hY'.out).lt
    have TW : Hid (Calls Try.prog 61 #[.int .i64 h, .int .i64 k, .int .i64 (m0 : Int)] W.drew fun e w' => ∃ u, e = .returned u ∧ ∃ v, u = .agg #[.int .i64 h, v] ∧ (∀ B, B ≤ W.drew.heap.size → QB w' B v [(false, k), (false, (m0 : Int))]) ∧ Far (fun _ => False) W.drew w') := Lib.hid ((two_any h k (m0 : Int) W.drew).mono fun e w' ⟨v, he, hq⟩ => ⟨_, he, v, rfl, hq⟩)
    have B4 : T.length + 1 ≤ maxLen := by unfold maxLen; omega
    have B5 : (T.length + 1) * 32 ≤ 140737488355328 := by omega
    have hqpb := Lib.hid (show (.slice qo T.length qc : Value).ownBlock ≠ some pb from fun e => by have := hqp'.out _ e; omega)
    have hvk := Lib.hid (show QB W B (.slice (some ⟨bb, off, none⟩) n c) [(false, k)] from (by have := hvW'.out; rw [hlk'.out] at this; exact this))
    have z2 : W.cell? ⟨pb, 0, none⟩ = some (.int .i64 h) := hY'.out.cell 0
    have z3 : W.cell? ⟨pb, 1, none⟩ = some (.slice (some ⟨bb, off, none⟩) n c) := hY'.out.cell 1
    have z4 : W.cell? ⟨bb, off + 1, none⟩ = some (.int .i64 k) := sym_cell hvk.out
    have z5 : W.cell? ⟨fb, 3, none⟩ = some (.int .i64 (m0 : Int)) := hX0.out.cell 3
    have z6 : W.cell? ⟨fb, 1, none⟩ = some (.slice qo T.length qc) := hX0.out.cell 1
    have hfpb : fb ≠ pb := by omega
    have hbn' : fb ≠ bb := fun e => hbn e.symm
    have hpbl := Lib.hid hl3
    refine wp_region_held_drew (S := (fun w' => w'.cell? ⟨pb, 0, none⟩ = some (.int .i64 h) ∧ w'.cell? ⟨pb, 1, none⟩ = some (.slice (some ⟨bb, off, none⟩) n c) ∧ w'.cell? ⟨bb, off + 1, none⟩ = some (.int .i64 k) ∧ w'.cell? ⟨fb, 3, none⟩ = some (.int .i64 (m0 : Int)))) (by kernel_rfl) ⟨z2, z3, z4, z5⟩ (fun hHeld => ?_)
    refine wpAnyH_take (i := 0) (v := ?v0n28) rfl (by kernel_rfl) (by kernel_rfl) (by kernel_rfl) (fun _ _ _ h => h) (Or.inl ⟨by rfl, ?y0n28⟩) (by assumption) ?r0n28
    case y0n28 => (intro w hSw; (try dsimp only at hSw); go_simp; (try with_reducible rfl))
    simp only [Act.put, List.setIfInBounds_toArray, List.set_cons_zero, List.set_cons_succ]
    refine wpAnyH_take (i := 2) (v := ?v2n29) rfl (by kernel_rfl) (by kernel_rfl) (by kernel_rfl) (fun _ _ _ h => h) (Or.inl ⟨by rfl, ?y2n29⟩) (by assumption) ?r2n29
    case y2n29 => (intro w hSw; (try dsimp only at hSw); go_simp; (try with_reducible rfl))
    simp only [Act.put, List.setIfInBounds_toArray, List.set_cons_zero, List.set_cons_succ]
    refine wpAnyH_take (i := 4) (v := ?v4n30) rfl (by kernel_rfl) (by kernel_rfl) (by kernel_rfl) (fun _ _ _ h => h) (Or.inl ⟨by rfl, ?y4n30⟩) (by assumption) ?r4n30
    case y4n30 => (intro w hSw; (try dsimp only at hSw); go_simp; (try with_reducible rfl))
    simp only [Act.put, List.setIfInBounds_toArray, List.set_cons_zero, List.set_cons_succ]
    refine wpAnyH_take (i := 9) (v := ?v9n31) rfl (by kernel_rfl) (by kernel_rfl) (by kernel_rfl) (fun _ _ _ h => h) (Or.inl ⟨by rfl, ?y9n31⟩) (by assumption) ?r9n31
    case y9n31 => (intro w hSw; (try dsimp only at hSw); go_simp; (try with_reducible rfl))
    simp only [Act.put, List.setIfInBounds_toArray, List.set_cons_zero, List.set_cons_succ]
    refine wpAnyH_take (i := 3) (v := ?v3n32) rfl (by kernel_rfl) (by kernel_rfl) (by kernel_rfl) (fun _ _ _ h => h) (Or.inl ⟨by rfl, ?y3n32⟩) (by assumption) ?r3n32
    case y3n32 => (intro w hSw; (try dsimp only at hSw); go_simp; (try with_reducible rfl))
    simp only [Act.put, List.setIfInBounds_toArray, List.set_cons_zero, List.set_cons_succ]
    refine wpAnyH_take (i := 5) (v := ?v5n33) rfl (by kernel_rfl) (by kernel_rfl) (by kernel_rfl) (fun _ _ _ h => h) (Or.inl ⟨by rfl, ?y5n33⟩) (by assumption) ?r5n33
    case y5n33 => (intro w hSw; (try dsimp only at hSw); go_simp; (try with_reducible rfl))
    simp only [Act.put, List.setIfInBounds_toArray, List.set_cons_zero, List.set_cons_succ]
    refine wpAnyH_take (i := 6) (v := ?v6n34) rfl (by kernel_rfl) (by kernel_rfl) (by kernel_rfl) (fun _ _ _ h => h) (Or.inl ⟨by rfl, ?y6n34⟩) (by assumption) ?r6n34
    case y6n34 => (intro w hSw; (try dsimp only at hSw); go_simp; (try with_reducible rfl))
    simp only [Act.put, List.setIfInBounds_toArray, List.set_cons_zero, List.set_cons_succ]
    refine wpAnyH_take (i := 7) (v := ?v7n35) rfl (by kernel_rfl) (by kernel_rfl) (by kernel_rfl) (fun _ _ _ h => h) (Or.inl ⟨by rfl, ?y7n35⟩) (by assumption) ?r7n35
    case y7n35 => (intro w hSw; (try dsimp only at hSw); go_simp; (try with_reducible rfl))
    simp only [Act.put, List.setIfInBounds_toArray, List.set_cons_zero, List.set_cons_succ]
    refine wpAnyH_take (i := 8) (v := ?v8n36) rfl (by kernel_rfl) (by kernel_rfl) (by kernel_rfl) (fun _ _ _ h => h) (Or.inl ⟨by rfl, ?y8n36⟩) (by assumption) ?r8n36
    case y8n36 => (intro w hSw; (try dsimp only at hSw); go_simp; (try with_reducible rfl))
    simp only [Act.put, List.setIfInBounds_toArray, List.set_cons_zero, List.set_cons_succ]
    refine wpAnyH_take (i := 10) (v := ?v10n37) rfl (by kernel_rfl) (by kernel_rfl) (by kernel_rfl) (fun _ _ _ h => h) (Or.inl ⟨by rfl, ?y10n37⟩) (by assumption) ?r10n37
    case y10n37 => (intro w hSw; (try dsimp only at hSw); go_simp; (try with_reducible rfl))
    simp only [Act.put, List.setIfInBounds_toArray, List.set_cons_zero, List.set_cons_succ]
    refine wpAnyH_ready (rs := [1, 11]) (by kernel_rfl) (by simp) ?_
    refine AllReadyH.cons rfl (fun K hK => ?_) ?more1n38
    go_simp
    refine hK.out _ _ ?_ (fun hHeld => ?_)
    · exact hHeld
    clear hK K
    try simp only [Act.put, List.setIfInBounds_toArray, List.set_cons_zero, List.set_cons_succ]
    refine wpAnyH_ready (rs := [11]) (by kernel_rfl) (by simp) ?_
    refine AllReadyH.cons rfl (fun K hK => ?_) ?more11n39
    (refine step_call rfl 61 #[.int .i64 h, .int .i64 k, .int .i64 (m0 : Int)] ?_ TW.out ?_; (go_simp); rintro u8 w8 ⟨v8, rfl, hq8, hf8⟩; obtain ⟨v8o, v8c, rfl⟩ := Src.form (hq8 0 (Nat.zero_le _)).1; have hq8' := Lib.hid hq8; have FW8 := Lib.hid ((drew_far W).then hf8); have hX8 := Lib.hid (hX0.out.far' FW8.out id); have hY8 := Lib.hid (hY'.out.far' FW8.out id); have hv8 := Lib.hid (hvk.out.go FW8.out fun _ _ q => q.elim); have hM8 := Lib.hid (hMW'.out.move FW8.out); have s1 : w8.cell? ⟨fb, 1, none⟩ = some (.slice qo T.length qc) := hX8.out.cell 1; have lf : fb < w8.heap.size := hX8.out.lt; have lfn : fb ≠ w8.heap.size := (by omega); have B1 := Lib.hid (hM8.out.row.alloc (.cells #[.int .i64 h, .slice v8o 2 v8c] 44)); have B7 := Lib.hid (World.news_of_block (w := (w8.alloc (.cells #[.int .i64 h, .slice v8o 2 v8c] 44))) (heap_alloc_new w8 _)); have B3 := Lib.hid (show ∀ u ∈ [Value.int .i64 h, .slice v8o 2 v8c], u.oneCell' = true by simp [Value.oneCell']); have B6 : B ≤ (w8.alloc (.cells #[.int .i64 h, .slice v8o 2 v8c] 44)).heap.size := (by have := hM8.out.hi; simp; omega); clear hq8 hf8)
    refine hK.out _ _ ?_ (fun hHeld => ?_)
    · exact ⟨hY8.out.cell 0, hY8.out.cell 1, sym_cell hv8.out, hX8.out.cell 3⟩
    clear hK K
    try simp only [Act.put, List.setIfInBounds_toArray, List.set_cons_zero, List.set_cons_succ]
    refine wpAnyH_ready (rs := [12]) (by kernel_rfl) (by simp) ?_
    refine AllReadyH.cons rfl (fun K hK => ?_) ?more12n40
    go_simp
    refine hK.out _ _ ?_ (fun hHeld => ?_)
    · exact ⟨(hY8.out.alloc _).cell 0, (hY8.out.alloc _).cell 1, sym_cell (hv8.out.go (alloc_far0 _ _) fun _ _ q => q.elim), (hX8.out.alloc _).cell 3⟩
    clear hK K
    try simp only [Act.put, List.setIfInBounds_toArray, List.set_cons_zero, List.set_cons_succ]
    refine wpAnyH_ready (rs := [13]) (by kernel_rfl) (by simp) ?_
    refine AllReadyH.cons rfl (fun K hK => ?_) ?more13n41
    (refine step_append_lies _ rfl (.tmp 55) (.tmp 66) 22 rfl B 44 pi pz 2 32 Try.underlying22 pi1 pi2 pi3 pi4 pi5 A7 (.slice qo T.length qc) T.length _ rfl B1.out ⟨w8.heap.size, 0, none⟩ 1 1 [.int .i64 h, .slice v8o 2 v8c] rfl rfl B7.out B3.out (by decide) B4 B5 B6 _ rfl ?_; intro g2 c2 w5 ho5 hg5 hw5 _; have hO5' := Lib.hid (Bk.grown (w := (w8.alloc (.cells #[.int .i64 h, .slice v8o 2 v8c] 44))) (Bk.alloc hX8.out _) hg5 hqk.out); have hY5' := Lib.hid (Bk.grown (w := (w8.alloc (.cells #[.int .i64 h, .slice v8o 2 v8c] 44))) (Bk.alloc hY8.out _) hg5 hqpb.out); have hv5' := Lib.hid ((hv8.out.go (alloc_far0 _ _) fun _ _ q => q.elim).go (w := (w8.alloc (.cells #[.int .i64 h, .slice v8o 2 v8c] 44))) (grown_far hg5) fun i _ e => ⟨(B1.out.lt i e).1, noSym_own B1.out (by decide) e⟩); have u1 : w5.frozen? ⟨fb, 1, none⟩ = false := hO5'.out.free 1; have u9 : w5.cell? ⟨fb, 1, none⟩ = some (.slice qo T.length qc) := hO5'.out.cell 1; have ho5' := Lib.hid ho5; have hg5' := Lib.hid hg5; have hw5' := Lib.hid hw5; clear ho5 hg5 hw5)
    refine hK.out _ _ ?_ (fun hHeld => ?_)
    · exact ⟨hY5'.out.cell 0, hY5'.out.cell 1, sym_cell hv5'.out, hO5'.out.cell 3⟩
    clear hK K
    try simp only [Act.put, List.setIfInBounds_toArray, List.set_cons_zero, List.set_cons_succ]
    refine wpAnyH_take (i := 14) (v := ?v14n42) rfl (by kernel_rfl) (by kernel_rfl) (by kernel_rfl) (fun _ _ _ h => h) (Or.inl ⟨by rfl, ?y14n42⟩) (by assumption) ?r14n42
    case y14n42 => (intro w hSw; (try dsimp only at hSw); go_simp; (try with_reducible rfl))
    simp only [Act.put, List.setIfInBounds_toArray, List.set_cons_zero, List.set_cons_succ]
    refine wpAnyH_ready (rs := [15]) (by kernel_rfl) (by simp) ?_
    refine AllReadyH.cons rfl (fun K hK => ?_) ?more15n43
    go_simp
    refine hK.out _ _ ?_ (fun hHeld => ?_)
    · exact ⟨(World.cell?_setCell_far _ _ _ _ hfpb).trans (hY5'.out.cell 0), (World.cell?_setCell_far _ _ _ _ hfpb).trans (hY5'.out.cell 1), (World.cell?_setCell_far _ _ _ _ hbn').trans (sym_cell hv5'.out), (hO5'.out.set 1 _).cell 3⟩
    clear hK K
    try simp only [Act.put, List.setIfInBounds_toArray, List.set_cons_zero, List.set_cons_succ]
    refine wpAnyH_done (by kernel_rfl) ?_ _
    · skip
      obtain ⟨W9, hW9⟩ : ∃ W9, W9 = w5.setCell ⟨fb, 1, none⟩ (.slice (some ⟨g2, 0, none⟩) (T.length + 1) c2) := ⟨_, rfl⟩
      rw [← hW9]
      have hS9 : Far (fun i => i = fb) w5 W9 := hW9 ▸ (Far.refl _ w5).set _ _ fun _ => rfl
      have hX9 : Hid (Bk W9 fb 70 #[.int .i64 (s.n : Int), .slice (some ⟨g2, 0, none⟩) (T.length + 1) c2, .slice (some ⟨gL, 0, none⟩) 16 cL, .int .i64 (m0 : Int)]) := Lib.hid (hW9 ▸ hO5'.out.set 1 _)
      have hWa : Far (fun _ => False) W (w8.alloc (.cells #[.int .i64 h, .slice v8o 2 v8c] 44)) := FW8.out.alloc _
      have hM5 := (hMW'.out.move hWa).push (h := h) (v := .slice v8o 2 v8c) (l := [(false, k), (false, (m0 : Int))]) ((hq8'.out B (by have := hMW'.out.hi; exact this)).go (alloc_far0 _ _) fun _ _ q => q.elim) (grown_far hg5'.out) ho5'.out
      have hM9 : Hid (RM W9 B gL cL (.slice (some ⟨g2, 0, none⟩) (T.length + 1) c2) _ (addF s h [(false, k), (false, (m0 : Int))])) := Lib.hid (hM5.box hO5'.out (by decide) (by decide) (by decide) hBf'.out hS9)
      have hF9 : Hid (Far (fun i => OF (.slice qo T.length qc) gL i ∨ fb ≤ i) W W9) := Lib.hid ((((Lib.hid (Far.refl (fun i => OF (.slice qo T.length qc) gL i ∨ fb ≤ i) W)).out.trans (hWa.mono (G := fun i => OF (.slice qo T.length qc) gL i ∨ fb ≤ i) fun _ _ q => q.elim) fun _ _ q => q).trans ((grown_far hg5'.out).mono (G := fun i => OF (.slice qo T.length qc) gL i ∨ fb ≤ i) (fun i _ e => .inl (.inl e))) fun _ _ q => q).trans (hS9.mono (G := fun i => OF (.slice qo T.length qc) gL i ∨ fb ≤ i) fun i _ e => .inr (by omega)) fun _ _ q => q)
      have hR9 : Hid (Bk W9 kR 70 #[.int .i64 0, .slice none 0 0, .slice none 0 0, .int .i64 0]) := Lib.hid (((hR'.out.far' hWa id).far' (grown_far hg5'.out) fun e => own_ne hMW'.out.row hR'.out (by decide) e).far' hS9 fun e => by omega)
      clear u1 u9 x0 x1 x2 x3 y0 y1 z2 z3 z4 z5 z6 s1 hS9 hW9 hWa hM5
      have e0 : W9.cell? ⟨fb, 0, none⟩ = some (.int .i64 (s.n : Int)) := hX9.out.cell 0
      have e1 : W9.cell? ⟨fb, 1, none⟩ = some (.slice (some ⟨g2, 0, none⟩) (T.length + 1) c2) := hX9.out.cell 1
      have e2 : W9.cell? ⟨fb, 2, none⟩ = some (.slice (some ⟨gL, 0, none⟩) 16 cL) := hX9.out.cell 2
      have e3 : W9.cell? ⟨fb, 3, none⟩ = some (.int .i64 (m0 : Int)) := hX9.out.cell 3
      have r0 : W9.cell? ⟨kR, 0, none⟩ = some (.int .i64 0) := hR9.out.cell 0
      have r1 : W9.cell? ⟨kR, 1, none⟩ = some (.slice none 0 0) := hR9.out.cell 1
      have r2 : W9.cell? ⟨kR, 2, none⟩ = some (.slice none 0 0) := hR9.out.cell 2
      have r3 : W9.cell? ⟨kR, 3, none⟩ = some (.int .i64 0) := hR9.out.cell 3
      have f0 : W9.frozen? ⟨kR, 0, none⟩ = false := hR9.out.free 0
      have f1 : W9.frozen? ⟨kR, 1, none⟩ = false := hR9.out.free 1
      have f2 : W9.frozen? ⟨kR, 2, none⟩ = false := hR9.out.free 2
      have f3 : W9.frozen? ⟨kR, 3, none⟩ = false := hR9.out.free 3
      go_wp2_with fail
      obtain ⟨hB6, hM6, hS6⟩ := form_shut (.int .i64 (s.n : Int)) (.slice (some ⟨g2, 0, none⟩) (T.length + 1) c2) (.slice (some ⟨gL, 0, none⟩) 16 cL) (.int .i64 (m0 : Int)) hR9.out hM9.out (by have := hBf'.out; omega)
      have hM7 := Lib.hid hM6
      have hF6 := Lib.hid (((hF'.out.mono (G := fun i => OF (.slice qo T.length qc) gL i ∨ fb ≤ i) fun _ _ q => q.elim).trans (hF9.out.trans (hS6.mono (G := fun i => OF (.slice qo T.length qc) gL i ∨ fb ≤ i) fun i _ e => .inr (by omega)) fun _ _ q => q) fun _ _ q => q).mono (G := OF (.slice qo T.length qc) gL) fun i hi q => q.elim id fun e => by have := hfb'.out; omega)
      clear e0 e1 e2 e3 r0 r1 r2 r3 f0 f1 f2 f3 hS6 hM6
      generalize ((((W9.setCell ⟨kR, 0, none⟩ (.int .i64 (s.n : Int))).setCell ⟨kR, 1, none⟩ (.slice (some ⟨g2, 0, none⟩) (T.length + 1) c2)).setCell ⟨kR, 2, none⟩ (.slice (some ⟨gL, 0, none⟩) 16 cL)).setCell ⟨kR, 3, none⟩ (.int .i64 (m0 : Int))) = W6 at *
      have mc0 : W6.cell? ⟨kR, 0, none⟩ = some (.int .i64 (s.n : Int)) := hB6.cell 0
      have mc1 : W6.cell? ⟨kR, 1, none⟩ = some (.slice (some ⟨g2, 0, none⟩) (T.length + 1) c2) := hB6.cell 1
      have mc2 : W6.cell? ⟨kR, 2, none⟩ = some (.slice (some ⟨gL, 0, none⟩) 16 cL) := hB6.cell 2
      have mc3 : W6.cell? ⟨kR, 3, none⟩ = some (.int .i64 (m0 : Int)) := hB6.cell 3
      refine bodyPost_ret (v := .agg #[.int .i64 (s.n : Int), .slice (some ⟨g2, 0, none⟩) (T.length + 1) c2, .slice (some ⟨gL, 0, none⟩) 16 cL, .int .i64 (m0 : Int)]) (by simp [results, Try.f40, go_sem, mc0, mc1, mc2, mc3]) rfl ?_
      rw [hres2.out]
      refine ⟨_, _, ?_, hM7.out, hF6.out⟩
      rw [show eI (addF s h [(false, k), (false, (m0 : Int))]).e = (m0 : Int) from by show eI s.e = _; rw [hse'.out]; rfl]
      rfl
    case more15n43 => exact AllReadyH.nil
    case more13n41 => exact AllReadyH.nil
    case more12n40 => exact AllReadyH.nil
    case more11n39 => exact AllReadyH.nil
    case more1n38 =>
      refine AllReadyH.cons rfl (fun K hK => ?_) ?more11n44
      (refine step_call rfl 61 #[.int .i64 h, .int .i64 k, .int .i64 (m0 : Int)] ?_ TW.out ?_; (go_simp); rintro u8 w8 ⟨v8, rfl, hq8, hf8⟩; obtain ⟨v8o, v8c, rfl⟩ := Src.form (hq8 0 (Nat.zero_le _)).1; have hq8' := Lib.hid hq8; have FW8 := Lib.hid ((drew_far W).then hf8); have hX8 := Lib.hid (hX0.out.far' FW8.out id); have hY8 := Lib.hid (hY'.out.far' FW8.out id); have hv8 := Lib.hid (hvk.out.go FW8.out fun _ _ q => q.elim); have hM8 := Lib.hid (hMW'.out.move FW8.out); have s1 : w8.cell? ⟨fb, 1, none⟩ = some (.slice qo T.length qc) := hX8.out.cell 1; have lf : fb < w8.heap.size := hX8.out.lt; have lfn : fb ≠ w8.heap.size := (by omega); have B1 := Lib.hid (hM8.out.row.alloc (.cells #[.int .i64 h, .slice v8o 2 v8c] 44)); have B7 := Lib.hid (World.news_of_block (w := (w8.alloc (.cells #[.int .i64 h, .slice v8o 2 v8c] 44))) (heap_alloc_new w8 _)); have B3 := Lib.hid (show ∀ u ∈ [Value.int .i64 h, .slice v8o 2 v8c], u.oneCell' = true by simp [Value.oneCell']); have B6 : B ≤ (w8.alloc (.cells #[.int .i64 h, .slice v8o 2 v8c] 44)).heap.size := (by have := hM8.out.hi; simp; omega); clear hq8 hf8)
      refine hK.out _ _ ?_ (fun hHeld => ?_)
      · exact ⟨hY8.out.cell 0, hY8.out.cell 1, sym_cell hv8.out, hX8.out.cell 3⟩
      clear hK K
      try simp only [Act.put, List.setIfInBounds_toArray, List.set_cons_zero, List.set_cons_succ]
      refine wpAnyH_ready (rs := [1, 12]) (by kernel_rfl) (by simp) ?_
      refine AllReadyH.cons rfl (fun K hK => ?_) ?more1n45
      go_simp
      refine hK.out _ _ ?_ (fun hHeld => ?_)
      · exact hHeld
      clear hK K
      try simp only [Act.put, List.setIfInBounds_toArray, List.set_cons_zero, List.set_cons_succ]
      refine wpAnyH_ready (rs := [12]) (by kernel_rfl) (by simp) ?_
      refine AllReadyH.cons rfl (fun K hK => ?_) ?more12n46
      go_simp
      refine hK.out _ _ ?_ (fun hHeld => ?_)
      · exact ⟨(hY8.out.alloc _).cell 0, (hY8.out.alloc _).cell 1, sym_cell (hv8.out.go (alloc_far0 _ _) fun _ _ q => q.elim), (hX8.out.alloc _).cell 3⟩
      clear hK K
      try simp only [Act.put, List.setIfInBounds_toArray, List.set_cons_zero, List.set_cons_succ]
      refine wpAnyH_ready (rs := [13]) (by kernel_rfl) (by simp) ?_
      refine AllReadyH.cons rfl (fun K hK => ?_) ?more13n47
      (refine step_append_lies _ rfl (.tmp 55) (.tmp 66) 22 rfl B 44 pi pz 2 32 Try.underlying22 pi1 pi2 pi3 pi4 pi5 A7 (.slice qo T.length qc) T.length _ rfl B1.out ⟨w8.heap.size, 0, none⟩ 1 1 [.int .i64 h, .slice v8o 2 v8c] rfl rfl B7.out B3.out (by decide) B4 B5 B6 _ rfl ?_; intro g2 c2 w5 ho5 hg5 hw5 _; have hO5' := Lib.hid (Bk.grown (w := (w8.alloc (.cells #[.int .i64 h, .slice v8o 2 v8c] 44))) (Bk.alloc hX8.out _) hg5 hqk.out); have hY5' := Lib.hid (Bk.grown (w := (w8.alloc (.cells #[.int .i64 h, .slice v8o 2 v8c] 44))) (Bk.alloc hY8.out _) hg5 hqpb.out); have hv5' := Lib.hid ((hv8.out.go (alloc_far0 _ _) fun _ _ q => q.elim).go (w := (w8.alloc (.cells #[.int .i64 h, .slice v8o 2 v8c] 44))) (grown_far hg5) fun i _ e => ⟨(B1.out.lt i e).1, noSym_own B1.out (by decide) e⟩); have u1 : w5.frozen? ⟨fb, 1, none⟩ = false := hO5'.out.free 1; have u9 : w5.cell? ⟨fb, 1, none⟩ = some (.slice qo T.length qc) := hO5'.out.cell 1; have ho5' := Lib.hid ho5; have hg5' := Lib.hid hg5; have hw5' := Lib.hid hw5; clear ho5 hg5 hw5)
      refine hK.out _ _ ?_ (fun hHeld => ?_)
      · exact ⟨hY5'.out.cell 0, hY5'.out.cell 1, sym_cell hv5'.out, hO5'.out.cell 3⟩
      clear hK K
      try simp only [Act.put, List.setIfInBounds_toArray, List.set_cons_zero, List.set_cons_succ]
      refine wpAnyH_take (i := 14) (v := ?v14n48) rfl (by kernel_rfl) (by kernel_rfl) (by kernel_rfl) (fun _ _ _ h => h) (Or.inl ⟨by rfl, ?y14n48⟩) (by assumption) ?r14n48
      case y14n48 => (intro w hSw; (try dsimp only at hSw); go_simp; (try with_reducible rfl))
      simp only [Act.put, List.setIfInBounds_toArray, List.set_cons_zero, List.set_cons_succ]
      refine wpAnyH_ready (rs := [15]) (by kernel_rfl) (by simp) ?_
      refine AllReadyH.cons rfl (fun K hK => ?_) ?more15n49
      go_simp
      refine hK.out _ _ ?_ (fun hHeld => ?_)
      · exact ⟨(World.cell?_setCell_far _ _ _ _ hfpb).trans (hY5'.out.cell 0), (World.cell?_setCell_far _ _ _ _ hfpb).trans (hY5'.out.cell 1), (World.cell?_setCell_far _ _ _ _ hbn').trans (sym_cell hv5'.out), (hO5'.out.set 1 _).cell 3⟩
      clear hK K
      try simp only [Act.put, List.setIfInBounds_toArray, List.set_cons_zero, List.set_cons_succ]
      refine wpAnyH_done (by kernel_rfl) ?_ _
      · skip
        obtain ⟨W9, hW9⟩ : ∃ W9, W9 = w5.setCell ⟨fb, 1, none⟩ (.slice (some ⟨g2, 0, none⟩) (T.length + 1) c2) := ⟨_, rfl⟩
        rw [← hW9]
        have hS9 : Far (fun i => i = fb) w5 W9 := hW9 ▸ (Far.refl _ w5).set _ _ fun _ => rfl
        have hX9 : Hid (Bk W9 fb 70 #[.int .i64 (s.n : Int), .slice (some ⟨g2, 0, none⟩) (T.length + 1) c2, .slice (some ⟨gL, 0, none⟩) 16 cL, .int .i64 (m0 : Int)]) := Lib.hid (hW9 ▸ hO5'.out.set 1 _)
        have hWa : Far (fun _ => False) W (w8.alloc (.cells #[.int .i64 h, .slice v8o 2 v8c] 44)) := FW8.out.alloc _
        have hM5 := (hMW'.out.move hWa).push (h := h) (v := .slice v8o 2 v8c) (l := [(false, k), (false, (m0 : Int))]) ((hq8'.out B (by have := hMW'.out.hi; exact this)).go (alloc_far0 _ _) fun _ _ q => q.elim) (grown_far hg5'.out) ho5'.out
        have hM9 : Hid (RM W9 B gL cL (.slice (some ⟨g2, 0, none⟩) (T.length + 1) c2) _ (addF s h [(false, k), (false, (m0 : Int))])) := Lib.hid (hM5.box hO5'.out (by decide) (by decide) (by decide) hBf'.out hS9)
        have hF9 : Hid (Far (fun i => OF (.slice qo T.length qc) gL i ∨ fb ≤ i) W W9) := Lib.hid ((((Lib.hid (Far.refl (fun i => OF (.slice qo T.length qc) gL i ∨ fb ≤ i) W)).out.trans (hWa.mono (G := fun i => OF (.slice qo T.length qc) gL i ∨ fb ≤ i) fun _ _ q => q.elim) fun _ _ q => q).trans ((grown_far hg5'.out).mono (G := fun i => OF (.slice qo T.length qc) gL i ∨ fb ≤ i) (fun i _ e => .inl (.inl e))) fun _ _ q => q).trans (hS9.mono (G := fun i => OF (.slice qo T.length qc) gL i ∨ fb ≤ i) fun i _ e => .inr (by omega)) fun _ _ q => q)
        have hR9 : Hid (Bk W9 kR 70 #[.int .i64 0, .slice none 0 0, .slice none 0 0, .int .i64 0]) := Lib.hid (((hR'.out.far' hWa id).far' (grown_far hg5'.out) fun e => own_ne hMW'.out.row hR'.out (by decide) e).far' hS9 fun e => by omega)
        clear u1 u9 x0 x1 x2 x3 y0 y1 z2 z3 z4 z5 z6 s1 hS9 hW9 hWa hM5
        have e0 : W9.cell? ⟨fb, 0, none⟩ = some (.int .i64 (s.n : Int)) := hX9.out.cell 0
        have e1 : W9.cell? ⟨fb, 1, none⟩ = some (.slice (some ⟨g2, 0, none⟩) (T.length + 1) c2) := hX9.out.cell 1
        have e2 : W9.cell? ⟨fb, 2, none⟩ = some (.slice (some ⟨gL, 0, none⟩) 16 cL) := hX9.out.cell 2
        have e3 : W9.cell? ⟨fb, 3, none⟩ = some (.int .i64 (m0 : Int)) := hX9.out.cell 3
        have r0 : W9.cell? ⟨kR, 0, none⟩ = some (.int .i64 0) := hR9.out.cell 0
        have r1 : W9.cell? ⟨kR, 1, none⟩ = some (.slice none 0 0) := hR9.out.cell 1
        have r2 : W9.cell? ⟨kR, 2, none⟩ = some (.slice none 0 0) := hR9.out.cell 2
        have r3 : W9.cell? ⟨kR, 3, none⟩ = some (.int .i64 0) := hR9.out.cell 3
        have f0 : W9.frozen? ⟨kR, 0, none⟩ = false := hR9.out.free 0
        have f1 : W9.frozen? ⟨kR, 1, none⟩ = false := hR9.out.free 1
        have f2 : W9.frozen? ⟨kR, 2, none⟩ = false := hR9.out.free 2
        have f3 : W9.frozen? ⟨kR, 3, none⟩ = false := hR9.out.free 3
        go_wp2_with fail
        obtain ⟨hB6, hM6, hS6⟩ := form_shut (.int .i64 (s.n : Int)) (.slice (some ⟨g2, 0, none⟩) (T.length + 1) c2) (.slice (some ⟨gL, 0, none⟩) 16 cL) (.int .i64 (m0 : Int)) hR9.out hM9.out (by have := hBf'.out; omega)
        have hM7 := Lib.hid hM6
        have hF6 := Lib.hid (((hF'.out.mono (G := fun i => OF (.slice qo T.length qc) gL i ∨ fb ≤ i) fun _ _ q => q.elim).trans (hF9.out.trans (hS6.mono (G := fun i => OF (.slice qo T.length qc) gL i ∨ fb ≤ i) fun i _ e => .inr (by omega)) fun _ _ q => q) fun _ _ q => q).mono (G := OF (.slice qo T.length qc) gL) fun i hi q => q.elim id fun e => by have := hfb'.out; omega)
        clear e0 e1 e2 e3 r0 r1 r2 r3 f0 f1 f2 f3 hS6 hM6
        generalize ((((W9.setCell ⟨kR, 0, none⟩ (.int .i64 (s.n : Int))).setCell ⟨kR, 1, none⟩ (.slice (some ⟨g2, 0, none⟩) (T.length + 1) c2)).setCell ⟨kR, 2, none⟩ (.slice (some ⟨gL, 0, none⟩) 16 cL)).setCell ⟨kR, 3, none⟩ (.int .i64 (m0 : Int))) = W6 at *
        have mc0 : W6.cell? ⟨kR, 0, none⟩ = some (.int .i64 (s.n : Int)) := hB6.cell 0
        have mc1 : W6.cell? ⟨kR, 1, none⟩ = some (.slice (some ⟨g2, 0, none⟩) (T.length + 1) c2) := hB6.cell 1
        have mc2 : W6.cell? ⟨kR, 2, none⟩ = some (.slice (some ⟨gL, 0, none⟩) 16 cL) := hB6.cell 2
        have mc3 : W6.cell? ⟨kR, 3, none⟩ = some (.int .i64 (m0 : Int)) := hB6.cell 3
        refine bodyPost_ret (v := .agg #[.int .i64 (s.n : Int), .slice (some ⟨g2, 0, none⟩) (T.length + 1) c2, .slice (some ⟨gL, 0, none⟩) 16 cL, .int .i64 (m0 : Int)]) (by simp [results, Try.f40, go_sem, mc0, mc1, mc2, mc3]) rfl ?_
        rw [hres2.out]
        refine ⟨_, _, ?_, hM7.out, hF6.out⟩
        rw [show eI (addF s h [(false, k), (false, (m0 : Int))]).e = (m0 : Int) from by show eI s.e = _; rw [hse'.out]; rfl]
        rfl
      case more15n49 => exact AllReadyH.nil
      case more13n47 => exact AllReadyH.nil
      case more12n46 => exact AllReadyH.nil
      case more1n45 =>
        refine AllReadyH.cons rfl (fun K hK => ?_) ?more12n50
        go_simp
        refine hK.out _ _ ?_ (fun hHeld => ?_)
        · exact ⟨(hY8.out.alloc _).cell 0, (hY8.out.alloc _).cell 1, sym_cell (hv8.out.go (alloc_far0 _ _) fun _ _ q => q.elim), (hX8.out.alloc _).cell 3⟩
        clear hK K
        try simp only [Act.put, List.setIfInBounds_toArray, List.set_cons_zero, List.set_cons_succ]
        refine wpAnyH_ready (rs := [1]) (by kernel_rfl) (by simp) ?_
        refine AllReadyH.cons rfl (fun K hK => ?_) ?more1n51
        go_simp
        refine hK.out _ _ ?_ (fun hHeld => ?_)
        · exact hHeld
        clear hK K
        try simp only [Act.put, List.setIfInBounds_toArray, List.set_cons_zero, List.set_cons_succ]
        refine wpAnyH_ready (rs := [13]) (by kernel_rfl) (by simp) ?_
        refine AllReadyH.cons rfl (fun K hK => ?_) ?more13n52
        (refine step_append_lies _ rfl (.tmp 55) (.tmp 66) 22 rfl B 44 pi pz 2 32 Try.underlying22 pi1 pi2 pi3 pi4 pi5 A7 (.slice qo T.length qc) T.length _ rfl B1.out ⟨w8.heap.size, 0, none⟩ 1 1 [.int .i64 h, .slice v8o 2 v8c] rfl rfl B7.out B3.out (by decide) B4 B5 B6 _ rfl ?_; intro g2 c2 w5 ho5 hg5 hw5 _; have hO5' := Lib.hid (Bk.grown (w := (w8.alloc (.cells #[.int .i64 h, .slice v8o 2 v8c] 44))) (Bk.alloc hX8.out _) hg5 hqk.out); have hY5' := Lib.hid (Bk.grown (w := (w8.alloc (.cells #[.int .i64 h, .slice v8o 2 v8c] 44))) (Bk.alloc hY8.out _) hg5 hqpb.out); have hv5' := Lib.hid ((hv8.out.go (alloc_far0 _ _) fun _ _ q => q.elim).go (w := (w8.alloc (.cells #[.int .i64 h, .slice v8o 2 v8c] 44))) (grown_far hg5) fun i _ e => ⟨(B1.out.lt i e).1, noSym_own B1.out (by decide) e⟩); have u1 : w5.frozen? ⟨fb, 1, none⟩ = false := hO5'.out.free 1; have u9 : w5.cell? ⟨fb, 1, none⟩ = some (.slice qo T.length qc) := hO5'.out.cell 1; have ho5' := Lib.hid ho5; have hg5' := Lib.hid hg5; have hw5' := Lib.hid hw5; clear ho5 hg5 hw5)
        refine hK.out _ _ ?_ (fun hHeld => ?_)
        · exact ⟨hY5'.out.cell 0, hY5'.out.cell 1, sym_cell hv5'.out, hO5'.out.cell 3⟩
        clear hK K
        try simp only [Act.put, List.setIfInBounds_toArray, List.set_cons_zero, List.set_cons_succ]
        refine wpAnyH_take (i := 14) (v := ?v14n53) rfl (by kernel_rfl) (by kernel_rfl) (by kernel_rfl) (fun _ _ _ h => h) (Or.inl ⟨by rfl, ?y14n53⟩) (by assumption) ?r14n53
        case y14n53 => (intro w hSw; (try dsimp only at hSw); go_simp; (try with_reducible rfl))
        simp only [Act.put, List.setIfInBounds_toArray, List.set_cons_zero, List.set_cons_succ]
        refine wpAnyH_ready (rs := [15]) (by kernel_rfl) (by simp) ?_
        refine AllReadyH.cons rfl (fun K hK => ?_) ?more15n54
        go_simp
        refine hK.out _ _ ?_ (fun hHeld => ?_)
        · exact ⟨(World.cell?_setCell_far _ _ _ _ hfpb).trans (hY5'.out.cell 0), (World.cell?_setCell_far _ _ _ _ hfpb).trans (hY5'.out.cell 1), (World.cell?_setCell_far _ _ _ _ hbn').trans (sym_cell hv5'.out), (hO5'.out.set 1 _).cell 3⟩
        clear hK K
        try simp only [Act.put, List.setIfInBounds_toArray, List.set_cons_zero, List.set_cons_succ]
        refine wpAnyH_done (by kernel_rfl) ?_ _
        · skip
          obtain ⟨W9, hW9⟩ : ∃ W9, W9 = w5.setCell ⟨fb, 1, none⟩ (.slice (some ⟨g2, 0, none⟩) (T.length + 1) c2) := ⟨_, rfl⟩
          rw [← hW9]
          have hS9 : Far (fun i => i = fb) w5 W9 := hW9 ▸ (Far.refl _ w5).set _ _ fun _ => rfl
          have hX9 : Hid (Bk W9 fb 70 #[.int .i64 (s.n : Int), .slice (some ⟨g2, 0, none⟩) (T.length + 1) c2, .slice (some ⟨gL, 0, none⟩) 16 cL, .int .i64 (m0 : Int)]) := Lib.hid (hW9 ▸ hO5'.out.set 1 _)
          have hWa : Far (fun _ => False) W (w8.alloc (.cells #[.int .i64 h, .slice v8o 2 v8c] 44)) := FW8.out.alloc _
          have hM5 := (hMW'.out.move hWa).push (h := h) (v := .slice v8o 2 v8c) (l := [(false, k), (false, (m0 : Int))]) ((hq8'.out B (by have := hMW'.out.hi; exact this)).go (alloc_far0 _ _) fun _ _ q => q.elim) (grown_far hg5'.out) ho5'.out
          have hM9 : Hid (RM W9 B gL cL (.slice (some ⟨g2, 0, none⟩) (T.length + 1) c2) _ (addF s h [(false, k), (false, (m0 : Int))])) := Lib.hid (hM5.box hO5'.out (by decide) (by decide) (by decide) hBf'.out hS9)
          have hF9 : Hid (Far (fun i => OF (.slice qo T.length qc) gL i ∨ fb ≤ i) W W9) := Lib.hid ((((Lib.hid (Far.refl (fun i => OF (.slice qo T.length qc) gL i ∨ fb ≤ i) W)).out.trans (hWa.mono (G := fun i => OF (.slice qo T.length qc) gL i ∨ fb ≤ i) fun _ _ q => q.elim) fun _ _ q => q).trans ((grown_far hg5'.out).mono (G := fun i => OF (.slice qo T.length qc) gL i ∨ fb ≤ i) (fun i _ e => .inl (.inl e))) fun _ _ q => q).trans (hS9.mono (G := fun i => OF (.slice qo T.length qc) gL i ∨ fb ≤ i) fun i _ e => .inr (by omega)) fun _ _ q => q)
          have hR9 : Hid (Bk W9 kR 70 #[.int .i64 0, .slice none 0 0, .slice none 0 0, .int .i64 0]) := Lib.hid (((hR'.out.far' hWa id).far' (grown_far hg5'.out) fun e => own_ne hMW'.out.row hR'.out (by decide) e).far' hS9 fun e => by omega)
          clear u1 u9 x0 x1 x2 x3 y0 y1 z2 z3 z4 z5 z6 s1 hS9 hW9 hWa hM5
          have e0 : W9.cell? ⟨fb, 0, none⟩ = some (.int .i64 (s.n : Int)) := hX9.out.cell 0
          have e1 : W9.cell? ⟨fb, 1, none⟩ = some (.slice (some ⟨g2, 0, none⟩) (T.length + 1) c2) := hX9.out.cell 1
          have e2 : W9.cell? ⟨fb, 2, none⟩ = some (.slice (some ⟨gL, 0, none⟩) 16 cL) := hX9.out.cell 2
          have e3 : W9.cell? ⟨fb, 3, none⟩ = some (.int .i64 (m0 : Int)) := hX9.out.cell 3
          have r0 : W9.cell? ⟨kR, 0, none⟩ = some (.int .i64 0) := hR9.out.cell 0
          have r1 : W9.cell? ⟨kR, 1, none⟩ = some (.slice none 0 0) := hR9.out.cell 1
          have r2 : W9.cell? ⟨kR, 2, none⟩ = some (.slice none 0 0) := hR9.out.cell 2
          have r3 : W9.cell? ⟨kR, 3, none⟩ = some (.int .i64 0) := hR9.out.cell 3
          have f0 : W9.frozen? ⟨kR, 0, none⟩ = false := hR9.out.free 0
          have f1 : W9.frozen? ⟨kR, 1, none⟩ = false := hR9.out.free 1
          have f2 : W9.frozen? ⟨kR, 2, none⟩ = false := hR9.out.free 2
          have f3 : W9.frozen? ⟨kR, 3, none⟩ = false := hR9.out.free 3
          go_wp2_with fail
          obtain ⟨hB6, hM6, hS6⟩ := form_shut (.int .i64 (s.n : Int)) (.slice (some ⟨g2, 0, none⟩) (T.length + 1) c2) (.slice (some ⟨gL, 0, none⟩) 16 cL) (.int .i64 (m0 : Int)) hR9.out hM9.out (by have := hBf'.out; omega)
          have hM7 := Lib.hid hM6
          have hF6 := Lib.hid (((hF'.out.mono (G := fun i => OF (.slice qo T.length qc) gL i ∨ fb ≤ i) fun _ _ q => q.elim).trans (hF9.out.trans (hS6.mono (G := fun i => OF (.slice qo T.length qc) gL i ∨ fb ≤ i) fun i _ e => .inr (by omega)) fun _ _ q => q) fun _ _ q => q).mono (G := OF (.slice qo T.length qc) gL) fun i hi q => q.elim id fun e => by have := hfb'.out; omega)
          clear e0 e1 e2 e3 r0 r1 r2 r3 f0 f1 f2 f3 hS6 hM6
          generalize ((((W9.setCell ⟨kR, 0, none⟩ (.int .i64 (s.n : Int))).setCell ⟨kR, 1, none⟩ (.slice (some ⟨g2, 0, none⟩) (T.length + 1) c2)).setCell ⟨kR, 2, none⟩ (.slice (some ⟨gL, 0, none⟩) 16 cL)).setCell ⟨kR, 3, none⟩ (.int .i64 (m0 : Int))) = W6 at *
          have mc0 : W6.cell? ⟨kR, 0, none⟩ = some (.int .i64 (s.n : Int)) := hB6.cell 0
          have mc1 : W6.cell? ⟨kR, 1, none⟩ = some (.slice (some ⟨g2, 0, none⟩) (T.length + 1) c2) := hB6.cell 1
          have mc2 : W6.cell? ⟨kR, 2, none⟩ = some (.slice (some ⟨gL, 0, none⟩) 16 cL) := hB6.cell 2
          have mc3 : W6.cell? ⟨kR, 3, none⟩ = some (.int .i64 (m0 : Int)) := hB6.cell 3
          refine bodyPost_ret (v := .agg #[.int .i64 (s.n : Int), .slice (some ⟨g2, 0, none⟩) (T.length + 1) c2, .slice (some ⟨gL, 0, none⟩) 16 cL, .int .i64 (m0 : Int)]) (by simp [results, Try.f40, go_sem, mc0, mc1, mc2, mc3]) rfl ?_
          rw [hres2.out]
          refine ⟨_, _, ?_, hM7.out, hF6.out⟩
          rw [show eI (addF s h [(false, k), (false, (m0 : Int))]).e = (m0 : Int) from by show eI s.e = _; rw [hse'.out]; rfl]
          rfl
        case more15n54 => exact AllReadyH.nil
        case more13n52 => exact AllReadyH.nil
        case more1n51 => exact AllReadyH.nil
        case more12n50 => exact AllReadyH.nil
      case more11n44 => exact AllReadyH.nil
  | none =>
    have hse' := Lib.hid hse
    have hemp : empF s = ({ s with n := s.n + 1, e := some s.n, ps := s.ps ++ [((s.n : Int), [])] }, s.n) := by unfold empF; rw [hse]
    have hres2 := Lib.hid (show addR s h l = addF { s with n := s.n + 1, e := some s.n, ps := s.ps ++ [((s.n : Int), [])] } h [(false, k), (false, (s.n : Int))] by rw [hres.out, hemp, hlk'.out]; rfl)
    rw [hse, show eI none = (-1 : Int) from rfl] at x3
    have d0 : decide ((-1 : Int) < 0) = true := by decide
    have hX0a : Hid (Bk W fb 70 #[.int .i64 (s.n : Int), .slice qo T.length qc, .slice (some ⟨gL, 0, none⟩) 16 cL, .int .i64 (-1)]) := Lib.hid (by have := hX'.out; rw [hse] at this; exact this)
    rw [hse, show eI none = (-1 : Int) from rfl] at hw0'
    rw [show eI none = (-1 : Int) from rfl]
    obtain ⟨W7, hW7⟩ : ∃ W7, W7 = W.setCell ⟨fb, 3, none⟩ (.int .i64 (s.n : Int)) := ⟨_, rfl⟩
    have hX7 : Bk W7 fb 70 #[.int .i64 (s.n : Int), .slice qo T.length qc, .slice (some ⟨gL, 0, none⟩) 16 cL, .int .i64 (s.n : Int)] := hW7 ▸ hX0a.out.set 3 _
    have hF7 : Far (fun i => i = fb) W W7 := hW7 ▸ (Far.refl _ W).set _ _ fun _ => rfl
    obtain ⟨W8, hW8⟩ : ∃ W8, W8 = W7.setCell ⟨fb, 0, none⟩ (.int .i64 ((s.n : Int) + 1)) := ⟨_, rfl⟩
    have hX8a := Lib.hid (show Bk W8 fb 70 #[.int .i64 ((s.n : Int) + 1), .slice qo T.length qc, .slice (some ⟨gL, 0, none⟩) 16 cL, .int .i64 (s.n : Int)] from hW8 ▸ hX7.set 0 _)
    have hF8a := Lib.hid (show Far (fun i => i = fb) W W8 from hF7.trans (hW8 ▸ (Far.refl (fun i => i = fb) W7).set _ _ fun _ => rfl) fun _ _ e => e)
    have hM8a := Lib.hid (hMW'.out.box hX0a.out (by decide) (by decide) (by decide) hBf'.out hF8a.out)
    have f3 : W.frozen? ⟨fb, 3, none⟩ = false := hX0a.out.free 3
    have p0 : W7.cell? ⟨fb, 0, none⟩ = some (.int .i64 (s.n : Int)) := hX7.cell 0
    have p0f : W7.frozen? ⟨fb, 0, none⟩ = false := hX7.free 0
    have p1 : W8.cell? ⟨fb, 1, none⟩ = some (.slice qo T.length qc) := hX8a.out.cell 1
    have p3 : W8.cell? ⟨fb, 3, none⟩ = some (.int .i64 (s.n : Int)) := hX8a.out.cell 3
    have C1 := Lib.hid (hM8a.out.row.alloc (.cells #[.int .i64 (s.n : Int), .slice none 0 0] 44))
    have C7 := Lib.hid (World.news_of_block (w := W8.alloc (.cells #[.int .i64 (s.n : Int), .slice none 0 0] 44)) (heap_alloc_new W8 _))
    have C3 := Lib.hid (show ∀ u ∈ [Value.int .i64 (s.n : Int), .slice none 0 0], u.oneCell' = true by simp [Value.oneCell'])
    have C4 : T.length + 1 ≤ maxLen := by unfold maxLen; omega
    have C5 : (T.length + 1) * 32 ≤ 140737488355328 := by omega
    have C6 : B ≤ (W8.alloc (.cells #[.int .i64 (s.n : Int), .slice none 0 0] 44)).heap.size := by have := hM8a.out.hi; simp; omega
    have hW7' := Lib.hid hW7
    have hW8' := Lib.hid hW8
    clear hse hemp hm' hW7 hW8 hX7 hF7
    go_enter Try.func40, Try.ntmps40
    go_upto_region 1 with fail
    rw [← hfb'.out, ← hpb'.out, ← hkR'.out, ← hw0'.out, ← hW'.out]
    go_upto_region 8 with fail
    rw [← hW7'.out]
    clear x0 x1 x2 x3 f3
    go_upto_region 9 with fail
    rw [← hW8'.out]
    clear p0 p0f
    go_upto_region 10 with (at_builtin; refine wpList_append_lies _ rfl _ _ 22 rfl B 44 pi pz 2 32 Try.underlying22 pi1 pi2 pi3 pi4 pi5 A7 (.slice qo T.length qc) T.length _ rfl C1.out ⟨W8.heap.size, 0, none⟩ 1 1 [.int .i64 (s.n : Int), .slice none 0 0] rfl rfl C7.out C3.out (by decide) C4 C5 C6 _ rfl ?_; intro g1 c1 w4 ho4 hg4 hw4 _; have hO4 := Bk.grown (w := (W8.alloc (.cells #[.int .i64 (s.n : Int), .slice none 0 0] 44))) (Bk.alloc hX8a.out _) hg4 hqk.out; have u0 := hO4.cell 1; have u1 := hO4.free 1; have ho4' := Lib.hid ho4; have hg4' := Lib.hid hg4; have hO4' := Lib.hid hO4; have hw4' := Lib.hid hw4; clear ho4 hg4 hO4 hw4; simp at u0)
    obtain ⟨T2, hT2⟩ : ∃ T2, T2 = T ++ [((s.n : Int), (Value.slice none 0 0), ([] : List Sy))] := ⟨_, rfl⟩
    have hl2T : T.length + 1 = T2.length := by rw [hT2, List.length_append]; rfl
    rw [hl2T]
    obtain ⟨V, hV⟩ : ∃ V, V = w4.setCell ⟨fb, 1, none⟩ (.slice (some ⟨g1, 0, none⟩) T2.length c1) := ⟨_, rfl⟩
    rw [← hV]
    obtain ⟨s2, hs2⟩ : ∃ s2, s2 = { s with n := s.n + 1, e := some s.n, ps := s.ps ++ [((s.n : Int), [])] } := ⟨_, rfl⟩
    have hX0 := Lib.hid (show Bk V fb 70 #[.int .i64 ((s.n : Int) + 1), .slice (some ⟨g1, 0, none⟩) T2.length c1, .slice (some ⟨gL, 0, none⟩) 16 cL, .int .i64 (s.n : Int)] from hV ▸ hO4'.out.set 1 _)
    have hSV : Far (fun i => i = fb) w4 V := hV ▸ (Far.refl _ w4).set _ _ fun _ => rfl
    have hFV := Lib.hid (show Far (fun i => OF (.slice qo T.length qc) gL i ∨ i = fb) W V from (((hF8a.out.mono (G := fun i => OF (.slice qo T.length qc) gL i ∨ i = fb) fun _ _ e => .inr e).alloc (.cells #[.int .i64 (s.n : Int), .slice none 0 0] 44)).trans (grown_far hg4'.out) fun i _ e => .inl (.inl e)).trans hSV fun i _ e => .inr e)
    have hM4 := (hM8a.out.move (alloc_far0 _ _)).push (h := (s.n : Int)) (v := .slice none 0 0) (l := []) (QB.nil _ _) (grown_far hg4'.out) ho4'.out
    have hM4b := hM4.box hO4'.out (by decide) (by decide) (by decide) hBf'.out hSV
    have hMV := Lib.hid (show RM V B gL cL (.slice (some ⟨g1, 0, none⟩) T2.length c1) T2 s2 from by rw [hl2T, ← hT2] at hM4b; rw [hs2]; exact ⟨hM4b.row, hM4b.lab, hM4b.bod, hM4b.pl, hM4b.hi⟩)
    have hvV : QB V B (.slice (some ⟨bb, off, none⟩) n c) [(false, k)] := by
      have q0 := hvW'.out
      rw [hlk'.out] at q0
      exact (((q0.go hF8a.out fun i _ e => by subst e; exact ⟨hBf'.out, noSym_bk hX0a.out (by decide)⟩).go (alloc_far0 _ _) fun _ _ q => q.elim).go (grown_far hg4'.out) fun i _ e => ⟨(C1.out.lt i e).1, noSym_own C1.out (by decide) e⟩).go hSV fun i _ e => by subst e; exact ⟨hBf'.out, noSym_bk hO4'.out (by decide)⟩
    have hYV := Lib.hid (((((hY'.out.far' hF8a.out fun e => by omega).far' (alloc_far0 _ _) id).far' (grown_far hg4'.out) fun e => by have := hqp'.out _ e; omega).far' hSV fun e => by omega))
    have hRV := Lib.hid (((((hR'.out.far' hF8a.out fun e => by omega).far' (alloc_far0 _ _) id).far' (grown_far hg4'.out) fun e => by have := hqp'.out _ e; omega).far' hSV fun e => by omega))
    have hg1 := Lib.hid (show (Value.slice qo T.length qc).ownBlock = some g1 ∨ W.heap.size ≤ g1 from hw4'.out.imp id fun e => by have a := hF8a.out.size; have b := (alloc_far0 W8 (.cells #[.int .i64 (s.n : Int), .slice none 0 0] 44)).size; omega)
    have hWV := Lib.hid (hFV.out.mono (G := fun i => OF (.slice qo T.length qc) gL i ∨ fb ≤ i) fun i _ e => e.imp id fun e => by omega)
    have hGV : ∀ i, (Value.slice (some ⟨g1, 0, none⟩) T2.length c1).ownBlock = some i → OF (.slice qo T.length qc) gL i ∨ fb ≤ i := fun i e => by
      have e : g1 = i := by simpa [Value.ownBlock] using e
      subst e
      exact hg1.out.imp (fun e => .inl e) fun e => by omega
    have hpbW : pb < W.heap.size := hY'.out.lt
    have hPB : (Value.slice (some ⟨g1, 0, none⟩) T2.length c1).ownBlock ≠ some pb := fun e => by
      have e : g1 = pb := by simpa [Value.ownBlock] using e
      subst e
      exact hg1.out.elim (fun e => by have := hqp'.out _ e; omega) fun e => by omega
    have hqk2 := Lib.hid (own_ne hMV.out.row hX0.out (by decide))
    have hGV' := Lib.hid hGV
    have hT2b : T2.length + n * 3 + 8 ≤ 1099511627776 := by omega
    have hs2' := Lib.hid hs2
    clear u0 u1 p1 p3 hSV hM4 hM4b hGV hl2T hT2 hV hs2 hpbW C4 C5 C6
    have hl2 : fb < V.heap.size := hX0.out.lt
    have hl3 : pb < V.heap.size := (hYV.out).lt
    have TW : Hid (Calls Try.prog 61 #[.int .i64 h, .int .i64 k, .int .i64 (s.n : Int)] V.drew fun e w' => ∃ u, e = .returned u ∧ ∃ v, u = .agg #[.int .i64 h, v] ∧ (∀ B, B ≤ V.drew.heap.size → QB w' B v [(false, k), (false, (s.n : Int))]) ∧ Far (fun _ => False) V.drew w') := Lib.hid ((two_any h k (s.n : Int) V.drew).mono fun e w' ⟨v, he, hq⟩ => ⟨_, he, v, rfl, hq⟩)
    have B4 : T2.length + 1 ≤ maxLen := by unfold maxLen; omega
    have B5 : (T2.length + 1) * 32 ≤ 140737488355328 := by omega
    have hqpb := Lib.hid (show (.slice (some ⟨g1, 0, none⟩) T2.length c1 : Value).ownBlock ≠ some pb from hPB)
    have hvk := Lib.hid (show QB V B (.slice (some ⟨bb, off, none⟩) n c) [(false, k)] from hvV)
    have z2 : V.cell? ⟨pb, 0, none⟩ = some (.int .i64 h) := hYV.out.cell 0
    have z3 : V.cell? ⟨pb, 1, none⟩ = some (.slice (some ⟨bb, off, none⟩) n c) := hYV.out.cell 1
    have z4 : V.cell? ⟨bb, off + 1, none⟩ = some (.int .i64 k) := sym_cell hvk.out
    have z5 : V.cell? ⟨fb, 3, none⟩ = some (.int .i64 (s.n : Int)) := hX0.out.cell 3
    have z6 : V.cell? ⟨fb, 1, none⟩ = some (.slice (some ⟨g1, 0, none⟩) T2.length c1) := hX0.out.cell 1
    have hfpb : fb ≠ pb := by omega
    have hbn' : fb ≠ bb := fun e => hbn e.symm
    have hpbl := Lib.hid hl3
    refine wp_region_held_drew (S := (fun w' => w'.cell? ⟨pb, 0, none⟩ = some (.int .i64 h) ∧ w'.cell? ⟨pb, 1, none⟩ = some (.slice (some ⟨bb, off, none⟩) n c) ∧ w'.cell? ⟨bb, off + 1, none⟩ = some (.int .i64 k) ∧ w'.cell? ⟨fb, 3, none⟩ = some (.int .i64 (s.n : Int)))) (by kernel_rfl) ⟨z2, z3, z4, z5⟩ (fun hHeld => ?_)
    refine wpAnyH_take (i := 0) (v := ?v0n55) rfl (by kernel_rfl) (by kernel_rfl) (by kernel_rfl) (fun _ _ _ h => h) (Or.inl ⟨by rfl, ?y0n55⟩) (by assumption) ?r0n55
    case y0n55 => (intro w hSw; (try dsimp only at hSw); go_simp; (try with_reducible rfl))
    simp only [Act.put, List.setIfInBounds_toArray, List.set_cons_zero, List.set_cons_succ]
    refine wpAnyH_take (i := 2) (v := ?v2n56) rfl (by kernel_rfl) (by kernel_rfl) (by kernel_rfl) (fun _ _ _ h => h) (Or.inl ⟨by rfl, ?y2n56⟩) (by assumption) ?r2n56
    case y2n56 => (intro w hSw; (try dsimp only at hSw); go_simp; (try with_reducible rfl))
    simp only [Act.put, List.setIfInBounds_toArray, List.set_cons_zero, List.set_cons_succ]
    refine wpAnyH_take (i := 4) (v := ?v4n57) rfl (by kernel_rfl) (by kernel_rfl) (by kernel_rfl) (fun _ _ _ h => h) (Or.inl ⟨by rfl, ?y4n57⟩) (by assumption) ?r4n57
    case y4n57 => (intro w hSw; (try dsimp only at hSw); go_simp; (try with_reducible rfl))
    simp only [Act.put, List.setIfInBounds_toArray, List.set_cons_zero, List.set_cons_succ]
    refine wpAnyH_take (i := 9) (v := ?v9n58) rfl (by kernel_rfl) (by kernel_rfl) (by kernel_rfl) (fun _ _ _ h => h) (Or.inl ⟨by rfl, ?y9n58⟩) (by assumption) ?r9n58
    case y9n58 => (intro w hSw; (try dsimp only at hSw); go_simp; (try with_reducible rfl))
    simp only [Act.put, List.setIfInBounds_toArray, List.set_cons_zero, List.set_cons_succ]
    refine wpAnyH_take (i := 3) (v := ?v3n59) rfl (by kernel_rfl) (by kernel_rfl) (by kernel_rfl) (fun _ _ _ h => h) (Or.inl ⟨by rfl, ?y3n59⟩) (by assumption) ?r3n59
    case y3n59 => (intro w hSw; (try dsimp only at hSw); go_simp; (try with_reducible rfl))
    simp only [Act.put, List.setIfInBounds_toArray, List.set_cons_zero, List.set_cons_succ]
    refine wpAnyH_take (i := 5) (v := ?v5n60) rfl (by kernel_rfl) (by kernel_rfl) (by kernel_rfl) (fun _ _ _ h => h) (Or.inl ⟨by rfl, ?y5n60⟩) (by assumption) ?r5n60
    case y5n60 => (intro w hSw; (try dsimp only at hSw); go_simp; (try with_reducible rfl))
    simp only [Act.put, List.setIfInBounds_toArray, List.set_cons_zero, List.set_cons_succ]
    refine wpAnyH_take (i := 6) (v := ?v6n61) rfl (by kernel_rfl) (by kernel_rfl) (by kernel_rfl) (fun _ _ _ h => h) (Or.inl ⟨by rfl, ?y6n61⟩) (by assumption) ?r6n61
    case y6n61 => (intro w hSw; (try dsimp only at hSw); go_simp; (try with_reducible rfl))
    simp only [Act.put, List.setIfInBounds_toArray, List.set_cons_zero, List.set_cons_succ]
    refine wpAnyH_take (i := 7) (v := ?v7n62) rfl (by kernel_rfl) (by kernel_rfl) (by kernel_rfl) (fun _ _ _ h => h) (Or.inl ⟨by rfl, ?y7n62⟩) (by assumption) ?r7n62
    case y7n62 => (intro w hSw; (try dsimp only at hSw); go_simp; (try with_reducible rfl))
    simp only [Act.put, List.setIfInBounds_toArray, List.set_cons_zero, List.set_cons_succ]
    refine wpAnyH_take (i := 8) (v := ?v8n63) rfl (by kernel_rfl) (by kernel_rfl) (by kernel_rfl) (fun _ _ _ h => h) (Or.inl ⟨by rfl, ?y8n63⟩) (by assumption) ?r8n63
    case y8n63 => (intro w hSw; (try dsimp only at hSw); go_simp; (try with_reducible rfl))
    simp only [Act.put, List.setIfInBounds_toArray, List.set_cons_zero, List.set_cons_succ]
    refine wpAnyH_take (i := 10) (v := ?v10n64) rfl (by kernel_rfl) (by kernel_rfl) (by kernel_rfl) (fun _ _ _ h => h) (Or.inl ⟨by rfl, ?y10n64⟩) (by assumption) ?r10n64
    case y10n64 => (intro w hSw; (try dsimp only at hSw); go_simp; (try with_reducible rfl))
    simp only [Act.put, List.setIfInBounds_toArray, List.set_cons_zero, List.set_cons_succ]
    refine wpAnyH_ready (rs := [1, 11]) (by kernel_rfl) (by simp) ?_
    refine AllReadyH.cons rfl (fun K hK => ?_) ?more1n65
    go_simp
    refine hK.out _ _ ?_ (fun hHeld => ?_)
    · exact hHeld
    clear hK K
    try simp only [Act.put, List.setIfInBounds_toArray, List.set_cons_zero, List.set_cons_succ]
    refine wpAnyH_ready (rs := [11]) (by kernel_rfl) (by simp) ?_
    refine AllReadyH.cons rfl (fun K hK => ?_) ?more11n66
    (refine step_call rfl 61 #[.int .i64 h, .int .i64 k, .int .i64 (s.n : Int)] ?_ TW.out ?_; (go_simp); rintro u8 w8 ⟨v8, rfl, hq8, hf8⟩; obtain ⟨v8o, v8c, rfl⟩ := Src.form (hq8 0 (Nat.zero_le _)).1; have hq8' := Lib.hid hq8; have FW8 := Lib.hid ((drew_far V).then hf8); have hX8 := Lib.hid (hX0.out.far' FW8.out id); have hY8 := Lib.hid (hYV.out.far' FW8.out id); have hv8 := Lib.hid (hvk.out.go FW8.out fun _ _ q => q.elim); have hM8 := Lib.hid (hMV.out.move FW8.out); have s1 : w8.cell? ⟨fb, 1, none⟩ = some (.slice (some ⟨g1, 0, none⟩) T2.length c1) := hX8.out.cell 1; have lf : fb < w8.heap.size := hX8.out.lt; have lfn : fb ≠ w8.heap.size := (by omega); have B1 := Lib.hid (hM8.out.row.alloc (.cells #[.int .i64 h, .slice v8o 2 v8c] 44)); have B7 := Lib.hid (World.news_of_block (w := (w8.alloc (.cells #[.int .i64 h, .slice v8o 2 v8c] 44))) (heap_alloc_new w8 _)); have B3 := Lib.hid (show ∀ u ∈ [Value.int .i64 h, .slice v8o 2 v8c], u.oneCell' = true by simp [Value.oneCell']); have B6 : B ≤ (w8.alloc (.cells #[.int .i64 h, .slice v8o 2 v8c] 44)).heap.size := (by have := hM8.out.hi; simp; omega); clear hq8 hf8)
    refine hK.out _ _ ?_ (fun hHeld => ?_)
    · exact ⟨hY8.out.cell 0, hY8.out.cell 1, sym_cell hv8.out, hX8.out.cell 3⟩
    clear hK K
    try simp only [Act.put, List.setIfInBounds_toArray, List.set_cons_zero, List.set_cons_succ]
    refine wpAnyH_ready (rs := [12]) (by kernel_rfl) (by simp) ?_
    refine AllReadyH.cons rfl (fun K hK => ?_) ?more12n67
    go_simp
    refine hK.out _ _ ?_ (fun hHeld => ?_)
    · exact ⟨(hY8.out.alloc _).cell 0, (hY8.out.alloc _).cell 1, sym_cell (hv8.out.go (alloc_far0 _ _) fun _ _ q => q.elim), (hX8.out.alloc _).cell 3⟩
    clear hK K
    try simp only [Act.put, List.setIfInBounds_toArray, List.set_cons_zero, List.set_cons_succ]
    refine wpAnyH_ready (rs := [13]) (by kernel_rfl) (by simp) ?_
    refine AllReadyH.cons rfl (fun K hK => ?_) ?more13n68
    (refine step_append_lies _ rfl (.tmp 55) (.tmp 66) 22 rfl B 44 pi pz 2 32 Try.underlying22 pi1 pi2 pi3 pi4 pi5 A7 (.slice (some ⟨g1, 0, none⟩) T2.length c1) T2.length _ rfl B1.out ⟨w8.heap.size, 0, none⟩ 1 1 [.int .i64 h, .slice v8o 2 v8c] rfl rfl B7.out B3.out (by decide) B4 B5 B6 _ rfl ?_; intro g2 c2 w5 ho5 hg5 hw5 _; have hO5' := Lib.hid (Bk.grown (w := (w8.alloc (.cells #[.int .i64 h, .slice v8o 2 v8c] 44))) (Bk.alloc hX8.out _) hg5 hqk2.out); have hY5' := Lib.hid (Bk.grown (w := (w8.alloc (.cells #[.int .i64 h, .slice v8o 2 v8c] 44))) (Bk.alloc hY8.out _) hg5 hqpb.out); have hv5' := Lib.hid ((hv8.out.go (alloc_far0 _ _) fun _ _ q => q.elim).go (w := (w8.alloc (.cells #[.int .i64 h, .slice v8o 2 v8c] 44))) (grown_far hg5) fun i _ e => ⟨(B1.out.lt i e).1, noSym_own B1.out (by decide) e⟩); have u1 : w5.frozen? ⟨fb, 1, none⟩ = false := hO5'.out.free 1; have u9 : w5.cell? ⟨fb, 1, none⟩ = some (.slice (some ⟨g1, 0, none⟩) T2.length c1) := hO5'.out.cell 1; have ho5' := Lib.hid ho5; have hg5' := Lib.hid hg5; have hw5' := Lib.hid hw5; clear ho5 hg5 hw5)
    refine hK.out _ _ ?_ (fun hHeld => ?_)
    · exact ⟨hY5'.out.cell 0, hY5'.out.cell 1, sym_cell hv5'.out, hO5'.out.cell 3⟩
    clear hK K
    try simp only [Act.put, List.setIfInBounds_toArray, List.set_cons_zero, List.set_cons_succ]
    refine wpAnyH_take (i := 14) (v := ?v14n69) rfl (by kernel_rfl) (by kernel_rfl) (by kernel_rfl) (fun _ _ _ h => h) (Or.inl ⟨by rfl, ?y14n69⟩) (by assumption) ?r14n69
    case y14n69 => (intro w hSw; (try dsimp only at hSw); go_simp; (try with_reducible rfl))
    simp only [Act.put, List.setIfInBounds_toArray, List.set_cons_zero, List.set_cons_succ]
    refine wpAnyH_ready (rs := [15]) (by kernel_rfl) (by simp) ?_
    refine AllReadyH.cons rfl (fun K hK => ?_) ?more15n70
    go_simp
    refine hK.out _ _ ?_ (fun hHeld => ?_)
    · exact ⟨(World.cell?_setCell_far _ _ _ _ hfpb).trans (hY5'.out.cell 0), (World.cell?_setCell_far _ _ _ _ hfpb).trans (hY5'.out.cell 1), (World.cell?_setCell_far _ _ _ _ hbn').trans (sym_cell hv5'.out), (hO5'.out.set 1 _).cell 3⟩
    clear hK K
    try simp only [Act.put, List.setIfInBounds_toArray, List.set_cons_zero, List.set_cons_succ]
    refine wpAnyH_done (by kernel_rfl) ?_ _
    · skip
      obtain ⟨W9, hW9⟩ : ∃ W9, W9 = w5.setCell ⟨fb, 1, none⟩ (.slice (some ⟨g2, 0, none⟩) (T2.length + 1) c2) := ⟨_, rfl⟩
      rw [← hW9]
      have hS9 : Far (fun i => i = fb) w5 W9 := hW9 ▸ (Far.refl _ w5).set _ _ fun _ => rfl
      have hX9 : Hid (Bk W9 fb 70 #[.int .i64 ((s.n : Int) + 1), .slice (some ⟨g2, 0, none⟩) (T2.length + 1) c2, .slice (some ⟨gL, 0, none⟩) 16 cL, .int .i64 (s.n : Int)]) := Lib.hid (hW9 ▸ hO5'.out.set 1 _)
      have hWa : Far (fun _ => False) V (w8.alloc (.cells #[.int .i64 h, .slice v8o 2 v8c] 44)) := FW8.out.alloc _
      have hM5 := (hMV.out.move hWa).push (h := h) (v := .slice v8o 2 v8c) (l := [(false, k), (false, (s.n : Int))]) ((hq8'.out B (by have := hMV.out.hi; exact this)).go (alloc_far0 _ _) fun _ _ q => q.elim) (grown_far hg5'.out) ho5'.out
      have hM9 : Hid (RM W9 B gL cL (.slice (some ⟨g2, 0, none⟩) (T2.length + 1) c2) _ (addF s2 h [(false, k), (false, (s.n : Int))])) := Lib.hid (hM5.box hO5'.out (by decide) (by decide) (by decide) hBf'.out hS9)
      have hF9 : Hid (Far (fun i => OF (.slice qo T.length qc) gL i ∨ fb ≤ i) W W9) := Lib.hid (((hWV.out.trans (hWa.mono (G := fun i => OF (.slice qo T.length qc) gL i ∨ fb ≤ i) fun _ _ q => q.elim) fun _ _ q => q).trans ((grown_far hg5'.out).mono (G := fun i => OF (.slice qo T.length qc) gL i ∨ fb ≤ i) fun i a e => (show _ from hGV'.out i e)) fun _ _ q => q).trans (hS9.mono (G := fun i => OF (.slice qo T.length qc) gL i ∨ fb ≤ i) fun i _ e => .inr (by omega)) fun _ _ q => q)
      have hR9 : Hid (Bk W9 kR 70 #[.int .i64 0, .slice none 0 0, .slice none 0 0, .int .i64 0]) := Lib.hid (((hRV.out.far' hWa id).far' (grown_far hg5'.out) fun e => own_ne hMV.out.row hRV.out (by decide) e).far' hS9 fun e => by omega)
      clear u1 u9 y0 y1 z2 z3 z4 z5 z6 s1 hS9 hW9 hWa hM5
      have e0 : W9.cell? ⟨fb, 0, none⟩ = some (.int .i64 ((s.n : Int) + 1)) := hX9.out.cell 0
      have e1 : W9.cell? ⟨fb, 1, none⟩ = some (.slice (some ⟨g2, 0, none⟩) (T2.length + 1) c2) := hX9.out.cell 1
      have e2 : W9.cell? ⟨fb, 2, none⟩ = some (.slice (some ⟨gL, 0, none⟩) 16 cL) := hX9.out.cell 2
      have e3 : W9.cell? ⟨fb, 3, none⟩ = some (.int .i64 (s.n : Int)) := hX9.out.cell 3
      have r0 : W9.cell? ⟨kR, 0, none⟩ = some (.int .i64 0) := hR9.out.cell 0
      have r1 : W9.cell? ⟨kR, 1, none⟩ = some (.slice none 0 0) := hR9.out.cell 1
      have r2 : W9.cell? ⟨kR, 2, none⟩ = some (.slice none 0 0) := hR9.out.cell 2
      have r3 : W9.cell? ⟨kR, 3, none⟩ = some (.int .i64 0) := hR9.out.cell 3
      have f0 : W9.frozen? ⟨kR, 0, none⟩ = false := hR9.out.free 0
      have f1 : W9.frozen? ⟨kR, 1, none⟩ = false := hR9.out.free 1
      have f2 : W9.frozen? ⟨kR, 2, none⟩ = false := hR9.out.free 2
      have f3 : W9.frozen? ⟨kR, 3, none⟩ = false := hR9.out.free 3
      go_wp2_with fail
      obtain ⟨hB6, hM6, hS6⟩ := form_shut (.int .i64 ((s.n : Int) + 1)) (.slice (some ⟨g2, 0, none⟩) (T2.length + 1) c2) (.slice (some ⟨gL, 0, none⟩) 16 cL) (.int .i64 (s.n : Int)) hR9.out hM9.out (by have := hBf'.out; omega)
      have hM7 := Lib.hid hM6
      have hF6 := Lib.hid (((hF'.out.mono (G := fun i => OF (.slice qo T.length qc) gL i ∨ fb ≤ i) fun _ _ q => q.elim).trans (hF9.out.trans (hS6.mono (G := fun i => OF (.slice qo T.length qc) gL i ∨ fb ≤ i) fun i _ e => .inr (by omega)) fun _ _ q => q) fun _ _ q => q).mono (G := OF (.slice qo T.length qc) gL) fun i hi q => q.elim id fun e => by have := hfb'.out; omega)
      clear e0 e1 e2 e3 r0 r1 r2 r3 f0 f1 f2 f3 hS6 hM6
      generalize ((((W9.setCell ⟨kR, 0, none⟩ (.int .i64 ((s.n : Int) + 1))).setCell ⟨kR, 1, none⟩ (.slice (some ⟨g2, 0, none⟩) (T2.length + 1) c2)).setCell ⟨kR, 2, none⟩ (.slice (some ⟨gL, 0, none⟩) 16 cL)).setCell ⟨kR, 3, none⟩ (.int .i64 (s.n : Int))) = W6 at *
      have mc0 : W6.cell? ⟨kR, 0, none⟩ = some (.int .i64 ((s.n : Int) + 1)) := hB6.cell 0
      have mc1 : W6.cell? ⟨kR, 1, none⟩ = some (.slice (some ⟨g2, 0, none⟩) (T2.length + 1) c2) := hB6.cell 1
      have mc2 : W6.cell? ⟨kR, 2, none⟩ = some (.slice (some ⟨gL, 0, none⟩) 16 cL) := hB6.cell 2
      have mc3 : W6.cell? ⟨kR, 3, none⟩ = some (.int .i64 (s.n : Int)) := hB6.cell 3
      refine bodyPost_ret (v := .agg #[.int .i64 ((s.n : Int) + 1), .slice (some ⟨g2, 0, none⟩) (T2.length + 1) c2, .slice (some ⟨gL, 0, none⟩) 16 cL, .int .i64 (s.n : Int)]) (by simp [results, Try.f40, go_sem, mc0, mc1, mc2, mc3]) rfl ?_
      rw [hres2.out]
      have hs2 := hs2'.out
      subst hs2
      exact ⟨_, _, by first | rfl | simp [addF, eI], hM7.out, hF6.out⟩
    case more15n70 => exact AllReadyH.nil
    case more13n68 => exact AllReadyH.nil
    case more12n67 => exact AllReadyH.nil
    case more11n66 => exact AllReadyH.nil
    case more1n65 =>
      refine AllReadyH.cons rfl (fun K hK => ?_) ?more11n71
      (refine step_call rfl 61 #[.int .i64 h, .int .i64 k, .int .i64 (s.n : Int)] ?_ TW.out ?_; (go_simp); rintro u8 w8 ⟨v8, rfl, hq8, hf8⟩; obtain ⟨v8o, v8c, rfl⟩ := Src.form (hq8 0 (Nat.zero_le _)).1; have hq8' := Lib.hid hq8; have FW8 := Lib.hid ((drew_far V).then hf8); have hX8 := Lib.hid (hX0.out.far' FW8.out id); have hY8 := Lib.hid (hYV.out.far' FW8.out id); have hv8 := Lib.hid (hvk.out.go FW8.out fun _ _ q => q.elim); have hM8 := Lib.hid (hMV.out.move FW8.out); have s1 : w8.cell? ⟨fb, 1, none⟩ = some (.slice (some ⟨g1, 0, none⟩) T2.length c1) := hX8.out.cell 1; have lf : fb < w8.heap.size := hX8.out.lt; have lfn : fb ≠ w8.heap.size := (by omega); have B1 := Lib.hid (hM8.out.row.alloc (.cells #[.int .i64 h, .slice v8o 2 v8c] 44)); have B7 := Lib.hid (World.news_of_block (w := (w8.alloc (.cells #[.int .i64 h, .slice v8o 2 v8c] 44))) (heap_alloc_new w8 _)); have B3 := Lib.hid (show ∀ u ∈ [Value.int .i64 h, .slice v8o 2 v8c], u.oneCell' = true by simp [Value.oneCell']); have B6 : B ≤ (w8.alloc (.cells #[.int .i64 h, .slice v8o 2 v8c] 44)).heap.size := (by have := hM8.out.hi; simp; omega); clear hq8 hf8)
      refine hK.out _ _ ?_ (fun hHeld => ?_)
      · exact ⟨hY8.out.cell 0, hY8.out.cell 1, sym_cell hv8.out, hX8.out.cell 3⟩
      clear hK K
      try simp only [Act.put, List.setIfInBounds_toArray, List.set_cons_zero, List.set_cons_succ]
      refine wpAnyH_ready (rs := [1, 12]) (by kernel_rfl) (by simp) ?_
      refine AllReadyH.cons rfl (fun K hK => ?_) ?more1n72
      go_simp
      refine hK.out _ _ ?_ (fun hHeld => ?_)
      · exact hHeld
      clear hK K
      try simp only [Act.put, List.setIfInBounds_toArray, List.set_cons_zero, List.set_cons_succ]
      refine wpAnyH_ready (rs := [12]) (by kernel_rfl) (by simp) ?_
      refine AllReadyH.cons rfl (fun K hK => ?_) ?more12n73
      go_simp
      refine hK.out _ _ ?_ (fun hHeld => ?_)
      · exact ⟨(hY8.out.alloc _).cell 0, (hY8.out.alloc _).cell 1, sym_cell (hv8.out.go (alloc_far0 _ _) fun _ _ q => q.elim), (hX8.out.alloc _).cell 3⟩
      clear hK K
      try simp only [Act.put, List.setIfInBounds_toArray, List.set_cons_zero, List.set_cons_succ]
      refine wpAnyH_ready (rs := [13]) (by kernel_rfl) (by simp) ?_
      refine AllReadyH.cons rfl (fun K hK => ?_) ?more13n74
      (refine step_append_lies _ rfl (.tmp 55) (.tmp 66) 22 rfl B 44 pi pz 2 32 Try.underlying22 pi1 pi2 pi3 pi4 pi5 A7 (.slice (some ⟨g1, 0, none⟩) T2.length c1) T2.length _ rfl B1.out ⟨w8.heap.size, 0, none⟩ 1 1 [.int .i64 h, .slice v8o 2 v8c] rfl rfl B7.out B3.out (by decide) B4 B5 B6 _ rfl ?_; intro g2 c2 w5 ho5 hg5 hw5 _; have hO5' := Lib.hid (Bk.grown (w := (w8.alloc (.cells #[.int .i64 h, .slice v8o 2 v8c] 44))) (Bk.alloc hX8.out _) hg5 hqk2.out); have hY5' := Lib.hid (Bk.grown (w := (w8.alloc (.cells #[.int .i64 h, .slice v8o 2 v8c] 44))) (Bk.alloc hY8.out _) hg5 hqpb.out); have hv5' := Lib.hid ((hv8.out.go (alloc_far0 _ _) fun _ _ q => q.elim).go (w := (w8.alloc (.cells #[.int .i64 h, .slice v8o 2 v8c] 44))) (grown_far hg5) fun i _ e => ⟨(B1.out.lt i e).1, noSym_own B1.out (by decide) e⟩); have u1 : w5.frozen? ⟨fb, 1, none⟩ = false := hO5'.out.free 1; have u9 : w5.cell? ⟨fb, 1, none⟩ = some (.slice (some ⟨g1, 0, none⟩) T2.length c1) := hO5'.out.cell 1; have ho5' := Lib.hid ho5; have hg5' := Lib.hid hg5; have hw5' := Lib.hid hw5; clear ho5 hg5 hw5)
      refine hK.out _ _ ?_ (fun hHeld => ?_)
      · exact ⟨hY5'.out.cell 0, hY5'.out.cell 1, sym_cell hv5'.out, hO5'.out.cell 3⟩
      clear hK K
      try simp only [Act.put, List.setIfInBounds_toArray, List.set_cons_zero, List.set_cons_succ]
      refine wpAnyH_take (i := 14) (v := ?v14n75) rfl (by kernel_rfl) (by kernel_rfl) (by kernel_rfl) (fun _ _ _ h => h) (Or.inl ⟨by rfl, ?y14n75⟩) (by assumption) ?r14n75
      case y14n75 => (intro w hSw; (try dsimp only at hSw); go_simp; (try with_reducible rfl))
      simp only [Act.put, List.setIfInBounds_toArray, List.set_cons_zero, List.set_cons_succ]
      refine wpAnyH_ready (rs := [15]) (by kernel_rfl) (by simp) ?_
      refine AllReadyH.cons rfl (fun K hK => ?_) ?more15n76
      go_simp
      refine hK.out _ _ ?_ (fun hHeld => ?_)
      · exact ⟨(World.cell?_setCell_far _ _ _ _ hfpb).trans (hY5'.out.cell 0), (World.cell?_setCell_far _ _ _ _ hfpb).trans (hY5'.out.cell 1), (World.cell?_setCell_far _ _ _ _ hbn').trans (sym_cell hv5'.out), (hO5'.out.set 1 _).cell 3⟩
      clear hK K
      try simp only [Act.put, List.setIfInBounds_toArray, List.set_cons_zero, List.set_cons_succ]
      refine wpAnyH_done (by kernel_rfl) ?_ _
      · skip
        obtain ⟨W9, hW9⟩ : ∃ W9, W9 = w5.setCell ⟨fb, 1, none⟩ (.slice (some ⟨g2, 0, none⟩) (T2.length + 1) c2) := ⟨_, rfl⟩
        rw [← hW9]
        have hS9 : Far (fun i => i = fb) w5 W9 := hW9 ▸ (Far.refl _ w5).set _ _ fun _ => rfl
        have hX9 : Hid (Bk W9 fb 70 #[.int .i64 ((s.n : Int) + 1), .slice (some ⟨g2, 0, none⟩) (T2.length + 1) c2, .slice (some ⟨gL, 0, none⟩) 16 cL, .int .i64 (s.n : Int)]) := Lib.hid (hW9 ▸ hO5'.out.set 1 _)
        have hWa : Far (fun _ => False) V (w8.alloc (.cells #[.int .i64 h, .slice v8o 2 v8c] 44)) := FW8.out.alloc _
        have hM5 := (hMV.out.move hWa).push (h := h) (v := .slice v8o 2 v8c) (l := [(false, k), (false, (s.n : Int))]) ((hq8'.out B (by have := hMV.out.hi; exact this)).go (alloc_far0 _ _) fun _ _ q => q.elim) (grown_far hg5'.out) ho5'.out
        have hM9 : Hid (RM W9 B gL cL (.slice (some ⟨g2, 0, none⟩) (T2.length + 1) c2) _ (addF s2 h [(false, k), (false, (s.n : Int))])) := Lib.hid (hM5.box hO5'.out (by decide) (by decide) (by decide) hBf'.out hS9)
        have hF9 : Hid (Far (fun i => OF (.slice qo T.length qc) gL i ∨ fb ≤ i) W W9) := Lib.hid (((hWV.out.trans (hWa.mono (G := fun i => OF (.slice qo T.length qc) gL i ∨ fb ≤ i) fun _ _ q => q.elim) fun _ _ q => q).trans ((grown_far hg5'.out).mono (G := fun i => OF (.slice qo T.length qc) gL i ∨ fb ≤ i) fun i a e => (show _ from hGV'.out i e)) fun _ _ q => q).trans (hS9.mono (G := fun i => OF (.slice qo T.length qc) gL i ∨ fb ≤ i) fun i _ e => .inr (by omega)) fun _ _ q => q)
        have hR9 : Hid (Bk W9 kR 70 #[.int .i64 0, .slice none 0 0, .slice none 0 0, .int .i64 0]) := Lib.hid (((hRV.out.far' hWa id).far' (grown_far hg5'.out) fun e => own_ne hMV.out.row hRV.out (by decide) e).far' hS9 fun e => by omega)
        clear u1 u9 y0 y1 z2 z3 z4 z5 z6 s1 hS9 hW9 hWa hM5
        have e0 : W9.cell? ⟨fb, 0, none⟩ = some (.int .i64 ((s.n : Int) + 1)) := hX9.out.cell 0
        have e1 : W9.cell? ⟨fb, 1, none⟩ = some (.slice (some ⟨g2, 0, none⟩) (T2.length + 1) c2) := hX9.out.cell 1
        have e2 : W9.cell? ⟨fb, 2, none⟩ = some (.slice (some ⟨gL, 0, none⟩) 16 cL) := hX9.out.cell 2
        have e3 : W9.cell? ⟨fb, 3, none⟩ = some (.int .i64 (s.n : Int)) := hX9.out.cell 3
        have r0 : W9.cell? ⟨kR, 0, none⟩ = some (.int .i64 0) := hR9.out.cell 0
        have r1 : W9.cell? ⟨kR, 1, none⟩ = some (.slice none 0 0) := hR9.out.cell 1
        have r2 : W9.cell? ⟨kR, 2, none⟩ = some (.slice none 0 0) := hR9.out.cell 2
        have r3 : W9.cell? ⟨kR, 3, none⟩ = some (.int .i64 0) := hR9.out.cell 3
        have f0 : W9.frozen? ⟨kR, 0, none⟩ = false := hR9.out.free 0
        have f1 : W9.frozen? ⟨kR, 1, none⟩ = false := hR9.out.free 1
        have f2 : W9.frozen? ⟨kR, 2, none⟩ = false := hR9.out.free 2
        have f3 : W9.frozen? ⟨kR, 3, none⟩ = false := hR9.out.free 3
        go_wp2_with fail
        obtain ⟨hB6, hM6, hS6⟩ := form_shut (.int .i64 ((s.n : Int) + 1)) (.slice (some ⟨g2, 0, none⟩) (T2.length + 1) c2) (.slice (some ⟨gL, 0, none⟩) 16 cL) (.int .i64 (s.n : Int)) hR9.out hM9.out (by have := hBf'.out; omega)
        have hM7 := Lib.hid hM6
        have hF6 := Lib.hid (((hF'.out.mono (G := fun i => OF (.slice qo T.length qc) gL i ∨ fb ≤ i) fun _ _ q => q.elim).trans (hF9.out.trans (hS6.mono (G := fun i => OF (.slice qo T.length qc) gL i ∨ fb ≤ i) fun i _ e => .inr (by omega)) fun _ _ q => q) fun _ _ q => q).mono (G := OF (.slice qo T.length qc) gL) fun i hi q => q.elim id fun e => by have := hfb'.out; omega)
        clear e0 e1 e2 e3 r0 r1 r2 r3 f0 f1 f2 f3 hS6 hM6
        generalize ((((W9.setCell ⟨kR, 0, none⟩ (.int .i64 ((s.n : Int) + 1))).setCell ⟨kR, 1, none⟩ (.slice (some ⟨g2, 0, none⟩) (T2.length + 1) c2)).setCell ⟨kR, 2, none⟩ (.slice (some ⟨gL, 0, none⟩) 16 cL)).setCell ⟨kR, 3, none⟩ (.int .i64 (s.n : Int))) = W6 at *
        have mc0 : W6.cell? ⟨kR, 0, none⟩ = some (.int .i64 ((s.n : Int) + 1)) := hB6.cell 0
        have mc1 : W6.cell? ⟨kR, 1, none⟩ = some (.slice (some ⟨g2, 0, none⟩) (T2.length + 1) c2) := hB6.cell 1
        have mc2 : W6.cell? ⟨kR, 2, none⟩ = some (.slice (some ⟨gL, 0, none⟩) 16 cL) := hB6.cell 2
        have mc3 : W6.cell? ⟨kR, 3, none⟩ = some (.int .i64 (s.n : Int)) := hB6.cell 3
        refine bodyPost_ret (v := .agg #[.int .i64 ((s.n : Int) + 1), .slice (some ⟨g2, 0, none⟩) (T2.length + 1) c2, .slice (some ⟨gL, 0, none⟩) 16 cL, .int .i64 (s.n : Int)]) (by simp [results, Try.f40, go_sem, mc0, mc1, mc2, mc3]) rfl ?_
        rw [hres2.out]
        have hs2 := hs2'.out
        subst hs2
        exact ⟨_, _, by first | rfl | simp [addF, eI], hM7.out, hF6.out⟩
      case more15n76 => exact AllReadyH.nil
      case more13n74 => exact AllReadyH.nil
      case more12n73 => exact AllReadyH.nil
      case more1n72 =>
        refine AllReadyH.cons rfl (fun K hK => ?_) ?more12n77
        go_simp
        refine hK.out _ _ ?_ (fun hHeld => ?_)
        · exact ⟨(hY8.out.alloc _).cell 0, (hY8.out.alloc _).cell 1, sym_cell (hv8.out.go (alloc_far0 _ _) fun _ _ q => q.elim), (hX8.out.alloc _).cell 3⟩
        clear hK K
        try simp only [Act.put, List.setIfInBounds_toArray, List.set_cons_zero, List.set_cons_succ]
        refine wpAnyH_ready (rs := [1]) (by kernel_rfl) (by simp) ?_
        refine AllReadyH.cons rfl (fun K hK => ?_) ?more1n78
        go_simp
        refine hK.out _ _ ?_ (fun hHeld => ?_)
        · exact hHeld
        clear hK K
        try simp only [Act.put, List.setIfInBounds_toArray, List.set_cons_zero, List.set_cons_succ]
        refine wpAnyH_ready (rs := [13]) (by kernel_rfl) (by simp) ?_
        refine AllReadyH.cons rfl (fun K hK => ?_) ?more13n79
        (refine step_append_lies _ rfl (.tmp 55) (.tmp 66) 22 rfl B 44 pi pz 2 32 Try.underlying22 pi1 pi2 pi3 pi4 pi5 A7 (.slice (some ⟨g1, 0, none⟩) T2.length c1) T2.length _ rfl B1.out ⟨w8.heap.size, 0, none⟩ 1 1 [.int .i64 h, .slice v8o 2 v8c] rfl rfl B7.out B3.out (by decide) B4 B5 B6 _ rfl ?_; intro g2 c2 w5 ho5 hg5 hw5 _; have hO5' := Lib.hid (Bk.grown (w := (w8.alloc (.cells #[.int .i64 h, .slice v8o 2 v8c] 44))) (Bk.alloc hX8.out _) hg5 hqk2.out); have hY5' := Lib.hid (Bk.grown (w := (w8.alloc (.cells #[.int .i64 h, .slice v8o 2 v8c] 44))) (Bk.alloc hY8.out _) hg5 hqpb.out); have hv5' := Lib.hid ((hv8.out.go (alloc_far0 _ _) fun _ _ q => q.elim).go (w := (w8.alloc (.cells #[.int .i64 h, .slice v8o 2 v8c] 44))) (grown_far hg5) fun i _ e => ⟨(B1.out.lt i e).1, noSym_own B1.out (by decide) e⟩); have u1 : w5.frozen? ⟨fb, 1, none⟩ = false := hO5'.out.free 1; have u9 : w5.cell? ⟨fb, 1, none⟩ = some (.slice (some ⟨g1, 0, none⟩) T2.length c1) := hO5'.out.cell 1; have ho5' := Lib.hid ho5; have hg5' := Lib.hid hg5; have hw5' := Lib.hid hw5; clear ho5 hg5 hw5)
        refine hK.out _ _ ?_ (fun hHeld => ?_)
        · exact ⟨hY5'.out.cell 0, hY5'.out.cell 1, sym_cell hv5'.out, hO5'.out.cell 3⟩
        clear hK K
        try simp only [Act.put, List.setIfInBounds_toArray, List.set_cons_zero, List.set_cons_succ]
        refine wpAnyH_take (i := 14) (v := ?v14n80) rfl (by kernel_rfl) (by kernel_rfl) (by kernel_rfl) (fun _ _ _ h => h) (Or.inl ⟨by rfl, ?y14n80⟩) (by assumption) ?r14n80
        case y14n80 => (intro w hSw; (try dsimp only at hSw); go_simp; (try with_reducible rfl))
        simp only [Act.put, List.setIfInBounds_toArray, List.set_cons_zero, List.set_cons_succ]
        refine wpAnyH_ready (rs := [15]) (by kernel_rfl) (by simp) ?_
        refine AllReadyH.cons rfl (fun K hK => ?_) ?more15n81
        go_simp
        refine hK.out _ _ ?_ (fun hHeld => ?_)
        · exact ⟨(World.cell?_setCell_far _ _ _ _ hfpb).trans (hY5'.out.cell 0), (World.cell?_setCell_far _ _ _ _ hfpb).trans (hY5'.out.cell 1), (World.cell?_setCell_far _ _ _ _ hbn').trans (sym_cell hv5'.out), (hO5'.out.set 1 _).cell 3⟩
        clear hK K
        try simp only [Act.put, List.setIfInBounds_toArray, List.set_cons_zero, List.set_cons_succ]
        refine wpAnyH_done (by kernel_rfl) ?_ _
        · skip
          obtain ⟨W9, hW9⟩ : ∃ W9, W9 = w5.setCell ⟨fb, 1, none⟩ (.slice (some ⟨g2, 0, none⟩) (T2.length + 1) c2) := ⟨_, rfl⟩
          rw [← hW9]
          have hS9 : Far (fun i => i = fb) w5 W9 := hW9 ▸ (Far.refl _ w5).set _ _ fun _ => rfl
          have hX9 : Hid (Bk W9 fb 70 #[.int .i64 ((s.n : Int) + 1), .slice (some ⟨g2, 0, none⟩) (T2.length + 1) c2, .slice (some ⟨gL, 0, none⟩) 16 cL, .int .i64 (s.n : Int)]) := Lib.hid (hW9 ▸ hO5'.out.set 1 _)
          have hWa : Far (fun _ => False) V (w8.alloc (.cells #[.int .i64 h, .slice v8o 2 v8c] 44)) := FW8.out.alloc _
          have hM5 := (hMV.out.move hWa).push (h := h) (v := .slice v8o 2 v8c) (l := [(false, k), (false, (s.n : Int))]) ((hq8'.out B (by have := hMV.out.hi; exact this)).go (alloc_far0 _ _) fun _ _ q => q.elim) (grown_far hg5'.out) ho5'.out
          have hM9 : Hid (RM W9 B gL cL (.slice (some ⟨g2, 0, none⟩) (T2.length + 1) c2) _ (addF s2 h [(false, k), (false, (s.n : Int))])) := Lib.hid (hM5.box hO5'.out (by decide) (by decide) (by decide) hBf'.out hS9)
          have hF9 : Hid (Far (fun i => OF (.slice qo T.length qc) gL i ∨ fb ≤ i) W W9) := Lib.hid (((hWV.out.trans (hWa.mono (G := fun i => OF (.slice qo T.length qc) gL i ∨ fb ≤ i) fun _ _ q => q.elim) fun _ _ q => q).trans ((grown_far hg5'.out).mono (G := fun i => OF (.slice qo T.length qc) gL i ∨ fb ≤ i) fun i a e => (show _ from hGV'.out i e)) fun _ _ q => q).trans (hS9.mono (G := fun i => OF (.slice qo T.length qc) gL i ∨ fb ≤ i) fun i _ e => .inr (by omega)) fun _ _ q => q)
          have hR9 : Hid (Bk W9 kR 70 #[.int .i64 0, .slice none 0 0, .slice none 0 0, .int .i64 0]) := Lib.hid (((hRV.out.far' hWa id).far' (grown_far hg5'.out) fun e => own_ne hMV.out.row hRV.out (by decide) e).far' hS9 fun e => by omega)
          clear u1 u9 y0 y1 z2 z3 z4 z5 z6 s1 hS9 hW9 hWa hM5
          have e0 : W9.cell? ⟨fb, 0, none⟩ = some (.int .i64 ((s.n : Int) + 1)) := hX9.out.cell 0
          have e1 : W9.cell? ⟨fb, 1, none⟩ = some (.slice (some ⟨g2, 0, none⟩) (T2.length + 1) c2) := hX9.out.cell 1
          have e2 : W9.cell? ⟨fb, 2, none⟩ = some (.slice (some ⟨gL, 0, none⟩) 16 cL) := hX9.out.cell 2
          have e3 : W9.cell? ⟨fb, 3, none⟩ = some (.int .i64 (s.n : Int)) := hX9.out.cell 3
          have r0 : W9.cell? ⟨kR, 0, none⟩ = some (.int .i64 0) := hR9.out.cell 0
          have r1 : W9.cell? ⟨kR, 1, none⟩ = some (.slice none 0 0) := hR9.out.cell 1
          have r2 : W9.cell? ⟨kR, 2, none⟩ = some (.slice none 0 0) := hR9.out.cell 2
          have r3 : W9.cell? ⟨kR, 3, none⟩ = some (.int .i64 0) := hR9.out.cell 3
          have f0 : W9.frozen? ⟨kR, 0, none⟩ = false := hR9.out.free 0
          have f1 : W9.frozen? ⟨kR, 1, none⟩ = false := hR9.out.free 1
          have f2 : W9.frozen? ⟨kR, 2, none⟩ = false := hR9.out.free 2
          have f3 : W9.frozen? ⟨kR, 3, none⟩ = false := hR9.out.free 3
          go_wp2_with fail
          obtain ⟨hB6, hM6, hS6⟩ := form_shut (.int .i64 ((s.n : Int) + 1)) (.slice (some ⟨g2, 0, none⟩) (T2.length + 1) c2) (.slice (some ⟨gL, 0, none⟩) 16 cL) (.int .i64 (s.n : Int)) hR9.out hM9.out (by have := hBf'.out; omega)
          have hM7 := Lib.hid hM6
          have hF6 := Lib.hid (((hF'.out.mono (G := fun i => OF (.slice qo T.length qc) gL i ∨ fb ≤ i) fun _ _ q => q.elim).trans (hF9.out.trans (hS6.mono (G := fun i => OF (.slice qo T.length qc) gL i ∨ fb ≤ i) fun i _ e => .inr (by omega)) fun _ _ q => q) fun _ _ q => q).mono (G := OF (.slice qo T.length qc) gL) fun i hi q => q.elim id fun e => by have := hfb'.out; omega)
          clear e0 e1 e2 e3 r0 r1 r2 r3 f0 f1 f2 f3 hS6 hM6
          generalize ((((W9.setCell ⟨kR, 0, none⟩ (.int .i64 ((s.n : Int) + 1))).setCell ⟨kR, 1, none⟩ (.slice (some ⟨g2, 0, none⟩) (T2.length + 1) c2)).setCell ⟨kR, 2, none⟩ (.slice (some ⟨gL, 0, none⟩) 16 cL)).setCell ⟨kR, 3, none⟩ (.int .i64 (s.n : Int))) = W6 at *
          have mc0 : W6.cell? ⟨kR, 0, none⟩ = some (.int .i64 ((s.n : Int) + 1)) := hB6.cell 0
          have mc1 : W6.cell? ⟨kR, 1, none⟩ = some (.slice (some ⟨g2, 0, none⟩) (T2.length + 1) c2) := hB6.cell 1
          have mc2 : W6.cell? ⟨kR, 2, none⟩ = some (.slice (some ⟨gL, 0, none⟩) 16 cL) := hB6.cell 2
          have mc3 : W6.cell? ⟨kR, 3, none⟩ = some (.int .i64 (s.n : Int)) := hB6.cell 3
          refine bodyPost_ret (v := .agg #[.int .i64 ((s.n : Int) + 1), .slice (some ⟨g2, 0, none⟩) (T2.length + 1) c2, .slice (some ⟨gL, 0, none⟩) 16 cL, .int .i64 (s.n : Int)]) (by simp [results, Try.f40, go_sem, mc0, mc1, mc2, mc3]) rfl ?_
          rw [hres2.out]
          have hs2 := hs2'.out
          subst hs2
          exact ⟨_, _, by first | rfl | simp [addF, eI], hM7.out, hF6.out⟩
        case more15n81 => exact AllReadyH.nil
        case more13n79 => exact AllReadyH.nil
        case more1n78 => exact AllReadyH.nil
        case more12n77 => exact AllReadyH.nil
      case more11n71 => exact AllReadyH.nil
end
end Go.Proofs.Ytjkfieilaahejaa
