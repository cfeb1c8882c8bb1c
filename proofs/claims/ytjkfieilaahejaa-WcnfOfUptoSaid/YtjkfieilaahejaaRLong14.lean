/-
  The document's Add, its long case.
-/
import Derived.Test.YtjkfieilaahejaaRAdd14
namespace Go.Proofs.Ytjkfieilaahejaa
open Go.RowKit
set_option linter.unusedVariables false
set_option linter.unusedSimpArgs false
section
set_option maxHeartbeats 8000000
set_option maxRecDepth 100000
theorem radd_big (B gL cL : Nat) (qv : Value) (T : List Tr) (s : Fs) (h : Int) (v : Value) (l : List Sy) (w : World) (hM : RM w B gL cL qv T s) (hv : QB w B v l) (hps : s.ps.length + l.length * 3 + 9 ≤ 1099511627776) (hn : s.n + l.length * 3 + 9 ≤ 1099511627776) (hsh : shortB l = false) (h1 : l.length ≠ 1) (hb : 1026 < l.length) :
    Calls Try.prog 40 #[.agg #[.int .i64 (s.n : Int), qv, .slice (some ⟨gL, 0, none⟩) 16 cL, .int .i64 (eI s.e)], .agg #[.int .i64 h, v]] w fun e w' => APost B gL cL qv (addR s h l) w e w' := by
  obtain ⟨qo, qc, rfl⟩ := Src.form (Src.own hM.row)
  obtain ⟨vo, vc, rfl⟩ := Src.form hv.1
  obtain ⟨fb, hfb⟩ : ∃ i, i = w.heap.size := ⟨_, rfl⟩
  obtain ⟨pb, hpb⟩ : ∃ i, i = fb + 1 := ⟨_, rfl⟩
  obtain ⟨kR, hkR⟩ : ∃ i, i = pb + 1 := ⟨_, rfl⟩
  obtain ⟨n, hnl⟩ : ∃ n, n = l.length := ⟨_, rfl⟩
  obtain ⟨w0, hw0⟩ : ∃ w0, w0 = (w.alloc (.cells #[.int .i64 (s.n : Int), .slice qo T.length qc, .slice (some ⟨gL, 0, none⟩) 16 cL, .int .i64 (eI s.e)] 70)).alloc (.cells #[.int .i64 h, .slice vo n vc] 44) := ⟨_, rfl⟩
  obtain ⟨W, hW⟩ : ∃ W, W = w0.alloc (.cells #[.int .i64 0, .slice none 0 0, .slice none 0 0, .int .i64 0] 70) := ⟨_, rfl⟩
  have z0 : w0.heap.size = kR := by rw [hw0]; simp [hkR, hpb, hfb]
  have hX : Bk W fb 70 #[.int .i64 (s.n : Int), .slice qo T.length qc, .slice (some ⟨gL, 0, none⟩) 16 cL, .int .i64 (eI s.e)] := hW ▸ (hw0 ▸ (Bk.new hfb).alloc _ : Bk w0 fb 70 #[.int .i64 (s.n : Int), .slice qo T.length qc, .slice (some ⟨gL, 0, none⟩) 16 cL, .int .i64 (eI s.e)]).alloc _
  have hY : Bk W pb 44 #[.int .i64 h, .slice vo n vc] := hW ▸ (hw0 ▸ Bk.new (by simp [hpb, hfb]) : Bk w0 pb 44 #[.int .i64 h, .slice vo n vc]).alloc _
  have hR : Bk W kR 70 #[.int .i64 0, .slice none 0 0, .slice none 0 0, .int .i64 0] := hW ▸ Bk.new z0.symm
  have hF : Far (fun _ => False) w W := hW ▸ (hw0 ▸ ((Far.refl _ w).alloc _).alloc _ : Far (fun _ => False) w w0).alloc _
  have hMW := hM.move hF
  have hvW : QB W B (.slice vo n vc) l := by rw [hnl]; exact hv.go hF (fun _ _ q => q.elim)
  have hBf : B ≤ fb := by have := hM.hi; omega
  have hTl : T.length = s.ps.length := by rw [← hM.pl, List.length_map]
  have hqp : ∀ k, (Value.slice qo T.length qc).ownBlock = some k → k < fb := fun k e => by have := (hM.row.lt k e).2; omega
  have hgp : gL < fb := by have := (row_in hM.lab).2.2; omega
  have hTb : T.length + n * 3 + 9 ≤ 1099511627776 := by omega
  have hnb : s.n + n * 3 + 9 ≤ 1099511627776 := by omega
  have hord : fb < pb ∧ pb < kR := by omega
  rw [← hnl]
  have hfb' := Lib.hid hfb
  have hpb' := Lib.hid hpb
  have hkR' := Lib.hid hkR
  have hnl' := Lib.hid hnl
  have hw0' := Lib.hid hw0
  have hW' := Lib.hid hW
  have hX' := Lib.hid hX
  have hY' := Lib.hid hY
  have hR' := Lib.hid hR
  have hF' := Lib.hid hF
  have hMW' := Lib.hid hMW
  have hvW' := Lib.hid hvW
  have hBf' := Lib.hid hBf
  have hqp' := Lib.hid hqp
  have hfB : fb < W.heap.size := hX.lt
  clear hfb hpb hkR hnl hw0 hW z0 hX hY hR hF hMW hM hv hvW hBf hTl hqp hps hn
  have x0 : W.cell? ⟨fb, 0, none⟩ = some (.int .i64 (s.n : Int)) := hX'.out.cell 0
  have x1 : W.cell? ⟨fb, 1, none⟩ = some (.slice qo T.length qc) := hX'.out.cell 1
  have x2 : W.cell? ⟨fb, 2, none⟩ = some (.slice (some ⟨gL, 0, none⟩) 16 cL) := hX'.out.cell 2
  have x3 : W.cell? ⟨fb, 3, none⟩ = some (.int .i64 (eI s.e)) := hX'.out.cell 3
  have y0 : W.cell? ⟨pb, 0, none⟩ = some (.int .i64 h) := hY'.out.cell 0
  have y1 : W.cell? ⟨pb, 1, none⟩ = some (.slice vo n vc) := hY'.out.cell 1
  have hres := Lib.hid (show addR s h l = { s with n := 1025 } by unfold addR; rw [if_neg (by rw [hsh]; decide), if_neg h1, if_pos hb])
  have hn1 : 1026 < n := by have := hnl'.out; omega
  have g0 : ((n : Int) == 0) = false := by rw [beq_eq_false_iff_ne]; omega
  have g1 : ((n : Int) == 1) = false := by rw [beq_eq_false_iff_ne]; omega
  have g2 : decide ((1026 : Int) < (n : Int)) = true := by rw [decide_eq_true_iff]; omega
  have g3 : (1026 : Int) < (n : Int) := by omega
  have u0f : W.frozen? ⟨fb, 0, none⟩ = false := hX'.out.free 0
  obtain ⟨W9, hW9⟩ : ∃ W9, W9 = W.setCell ⟨fb, 0, none⟩ (.int .i64 1025) := ⟨_, rfl⟩
  have hS9 : Far (fun i => i = fb) W W9 := hW9 ▸ (Far.refl _ W).set _ _ fun _ => rfl
  have hX9 : Hid (Bk W9 fb 70 #[.int .i64 1025, .slice qo T.length qc, .slice (some ⟨gL, 0, none⟩) 16 cL, .int .i64 (eI s.e)]) := Lib.hid (hW9 ▸ hX'.out.set 0 _)
  have hM9a := hMW'.out.box hX'.out (by decide) (by decide) (by decide) hBf'.out hS9
  have hM9 : Hid (RM W9 B gL cL (.slice qo T.length qc) T { s with n := 1025 }) := Lib.hid ⟨hM9a.row, hM9a.lab, hM9a.bod, hM9a.pl, hM9a.hi⟩
  have hF9 : Hid (Far (fun i => OF (.slice qo T.length qc) gL i ∨ fb ≤ i) W W9) := Lib.hid (hS9.mono fun i _ e => .inr (by omega))
  have hR9 : Hid (Bk W9 kR 70 #[.int .i64 0, .slice none 0 0, .slice none 0 0, .int .i64 0]) := Lib.hid (hR'.out.far' hS9 fun e => by omega)
  have hW9' := Lib.hid hW9
  clear hsh h1 hb hn1 hS9 hM9a hW9
  go_enter Try.func40, Try.ntmps40
  go_upto_region 1 with fail
  rw [← hfb'.out, ← hpb'.out, ← hkR'.out, ← hw0'.out, ← hW'.out]
  go_upto_region 14 with fail
  rw [← hW9'.out]
  clear x0 x1 x2 x3 y0 y1 u0f
  have e0 : W9.cell? ⟨fb, 0, none⟩ = some (.int .i64 1025) := hX9.out.cell 0
  have e1 : W9.cell? ⟨fb, 1, none⟩ = some (.slice qo T.length qc) := hX9.out.cell 1
  have e2 : W9.cell? ⟨fb, 2, none⟩ = some (.slice (some ⟨gL, 0, none⟩) 16 cL) := hX9.out.cell 2
  have e3 : W9.cell? ⟨fb, 3, none⟩ = some (.int .i64 (eI s.e)) := hX9.out.cell 3
  have r0 : W9.cell? ⟨kR, 0, none⟩ = some (.int .i64 0) := hR9.out.cell 0
  have r1 : W9.cell? ⟨kR, 1, none⟩ = some (.slice none 0 0) := hR9.out.cell 1
  have r2 : W9.cell? ⟨kR, 2, none⟩ = some (.slice none 0 0) := hR9.out.cell 2
  have r3 : W9.cell? ⟨kR, 3, none⟩ = some (.int .i64 0) := hR9.out.cell 3
  have f0 : W9.frozen? ⟨kR, 0, none⟩ = false := hR9.out.free 0
  have f1 : W9.frozen? ⟨kR, 1, none⟩ = false := hR9.out.free 1
  have f2 : W9.frozen? ⟨kR, 2, none⟩ = false := hR9.out.free 2
  have f3 : W9.frozen? ⟨kR, 3, none⟩ = false := hR9.out.free 3
  go_wp2_with fail
  obtain ⟨hB6, hM6, hS6⟩ := form_shut (.int .i64 1025) (.slice qo T.length qc) (.slice (some ⟨gL, 0, none⟩) 16 cL) (.int .i64 (eI s.e)) hR9.out hM9.out (by have := hBf'.out; omega)
  have hM7 := Lib.hid hM6
  have hF6 := Lib.hid (((hF'.out.mono (G := fun i => OF (.slice qo T.length qc) gL i ∨ fb ≤ i) fun _ _ q => q.elim).trans (hF9.out.trans (hS6.mono (G := fun i => OF (.slice qo T.length qc) gL i ∨ fb ≤ i) fun i _ e => .inr (by omega)) fun _ _ q => q) fun _ _ q => q).mono (G := OF (.slice qo T.length qc) gL) fun i hi q => q.elim id fun e => by have := hfb'.out; omega)
  clear e0 e1 e2 e3 r0 r1 r2 r3 f0 f1 f2 f3 hS6 hM6
  generalize ((((W9.setCell ⟨kR, 0, none⟩ (.int .i64 1025)).setCell ⟨kR, 1, none⟩ (.slice qo T.length qc)).setCell ⟨kR, 2, none⟩ (.slice (some ⟨gL, 0, none⟩) 16 cL)).setCell ⟨kR, 3, none⟩ (.int .i64 (eI s.e))) = W6 at *
  have mc0 : W6.cell? ⟨kR, 0, none⟩ = some (.int .i64 1025) := hB6.cell 0
  have mc1 : W6.cell? ⟨kR, 1, none⟩ = some (.slice qo T.length qc) := hB6.cell 1
  have mc2 : W6.cell? ⟨kR, 2, none⟩ = some (.slice (some ⟨gL, 0, none⟩) 16 cL) := hB6.cell 2
  have mc3 : W6.cell? ⟨kR, 3, none⟩ = some (.int .i64 (eI s.e)) := hB6.cell 3
  refine bodyPost_ret (v := .agg #[.int .i64 1025, .slice qo T.length qc, .slice (some ⟨gL, 0, none⟩) 16 cL, .int .i64 (eI s.e)]) (by simp [results, Try.f40, go_sem, mc0, mc1, mc2, mc3]) rfl ?_
  rw [hres.out]
  exact ⟨_, _, rfl, hM7.out, hF6.out⟩
end
end Go.Proofs.Ytjkfieilaahejaa
