/-
  The document's Symbol.
-/
import Derived.Test.YtjkfieilaahejaaRForm14
import Derived.StillTailTactics
namespace Go.Proofs.Ytjkfieilaahejaa
open Go.RowKit
set_option linter.unusedVariables false
set_option linter.unusedSimpArgs false
/-- The form's own rows. -/
def OF (qv : Value) (gL : Nat) (k : Nat) : Prop := qv.ownBlock = some k ∨ k = gL
theorem RM.ne {w : World} {B gL cL k : Nat} {t : TypeId} {cs : Array Value} {qv : Value} {T : List Tr} {s : Fs} (h : RM w B gL cL qv T s) (hk : Bk w k t cs) (h2 : 44 ≠ t) (h3 : 3 ≠ t) : ¬ OF qv gL k := fun q =>
  q.elim (fun q => own_ne h.row hk h2 q) fun q => own_ne h.lab hk h3 (q ▸ rfl)
/-- A label's helper is set down. -/
theorem RM.label {w : World} {B gL cL k m : Nat} {qv : Value} {T : List Tr} {s : Fs} (h : RM w B gL cL qv T s) (hk : k < 16) : RM (w.setCell ⟨gL, k, none⟩ (.int .i64 (m : Int))) B gL cL qv T { s with n := s.n + 1, lab := updL s.lab k m } := by
  have hf : Far (fun i => i = gL) w (w.setCell ⟨gL, k, none⟩ (.int .i64 (m : Int))) := (Far.refl _ w).set _ _ fun _ => rfl
  have hlb := (World.ownsRow.stored h.lab k (.int .i64 (m : Int))).1
  rw [lcells_set hk] at hlb
  exact {
    row := row_far h.row hf fun i e q => by subst q; exact rows_ne h.row h.lab (by decide) e rfl
    lab := hlb
    bod := fun t ht => (h.bod t ht).go hf fun i _ e => by subst e; exact ⟨(row_in h.lab).2.1, noSym_own h.lab (by decide) rfl⟩
    pl := h.pl
    hi := Nat.le_trans h.hi hf.size }
/-- A production more. -/
theorem RM.push {w w5 : World} {B gL cL g : Nat} {qv : Value} {T : List Tr} {s : Fs} {h : Int} {v : Value} {l : List Sy} {cap : Nat} (hm : RM w B gL cL qv T s) (hq : QB w B v l) (hf : Far (fun k => qv.ownBlock = some k) w w5) (ho : w5.ownsRow B 44 2 (.slice (some ⟨g, 0, none⟩) (T.length + 1) cap) (T.length + 1) (tcells T ++ [.int .i64 h, v])) :
    RM w5 B gL cL (.slice (some ⟨g, 0, none⟩) (T.length + 1) cap) (T ++ [(h, v, l)]) (addF s h l) where
  row := by rw [List.length_append, tcells_app]; exact ho
  lab := row_far hm.lab hf fun k e q => rows_ne hm.row hm.lab (by decide) q e
  bod := fun t ht => (show QB w B t.2.1 t.2.2 from (List.mem_append.1 ht).elim (hm.bod t) fun e => by rw [List.mem_singleton.1 e]; exact hq).go hf fun k _ e => ⟨(hm.row.lt k e).1, noSym_own hm.row (by decide) e⟩
  pl := by rw [List.map_append, hm.pl]; rfl
  hi := Nat.le_trans hm.hi hf.size
/-- A form is stored whole. -/
theorem form_shut {w1 : World} {B gL cL kR : Nat} {a0 a1 a2 a3 : Value} {qv : Value} {T : List Tr} {s : Fs} (v0 v1 v2 v3 : Value) (hX : Bk w1 kR 70 #[a0, a1, a2, a3]) (hM : RM w1 B gL cL qv T s) (hB : B ≤ kR) :
    Bk ((((w1.setCell ⟨kR, 0, none⟩ v0).setCell ⟨kR, 1, none⟩ v1).setCell ⟨kR, 2, none⟩ v2).setCell ⟨kR, 3, none⟩ v3) kR 70 #[v0, v1, v2, v3] ∧
    RM ((((w1.setCell ⟨kR, 0, none⟩ v0).setCell ⟨kR, 1, none⟩ v1).setCell ⟨kR, 2, none⟩ v2).setCell ⟨kR, 3, none⟩ v3) B gL cL qv T s ∧
    Far (fun i => i = kR) w1 ((((w1.setCell ⟨kR, 0, none⟩ v0).setCell ⟨kR, 1, none⟩ v1).setCell ⟨kR, 2, none⟩ v2).setCell ⟨kR, 3, none⟩ v3) := by
  have hS := ((((Far.refl (fun i => i = kR) w1).set ⟨kR, 0, none⟩ v0 (fun _ => rfl)).set ⟨kR, 1, none⟩ v1 (fun _ => rfl)).set ⟨kR, 2, none⟩ v2 (fun _ => rfl)).set ⟨kR, 3, none⟩ v3 (fun _ => rfl)
  exact ⟨(((hX.set 0 _).set 1 _).set 2 _).set 3 _, hM.box hX (by decide) (by decide) (by decide) hB hS, hS⟩
section
set_option maxHeartbeats 8000000
set_option maxRecDepth 100000
theorem symbol_any (B gL cL : Nat) (qv : Value) (T : List Tr) (s : Fs) (b : Bool) (k : Nat) (w : World) (hM : RM w B gL cL qv T s) (hk : b = true → k < 16) (hps : s.ps.length ≤ 1099511627776) (hn : s.n ≤ 1099511627776) :
    Calls Try.prog 62 #[.agg #[.int .i64 (s.n : Int), qv, .slice (some ⟨gL, 0, none⟩) 16 cL, .int .i64 (eI s.e)], .agg #[.bool b, .int .i64 (k : Int)]] w fun e w' => ∃ qv' T', e = .returned (.tuple #[.agg #[.int .i64 ((lab1 s (b, (k : Int))).1.n : Int), qv', .slice (some ⟨gL, 0, none⟩) 16 cL, .int .i64 (eI (lab1 s (b, (k : Int))).1.e)], .int .i64 (lab1 s (b, (k : Int))).2.2]) ∧ RM w' B gL cL qv' T' (lab1 s (b, (k : Int))).1 ∧ Far (OF qv gL) w w' ∧ (∀ i, qv'.ownBlock = some i → qv.ownBlock = some i ∨ w.heap.size ≤ i) := by
  obtain ⟨qo, qc, rfl⟩ := Src.form (Src.own hM.row)
  obtain ⟨fb, hfb⟩ : ∃ i, i = w.heap.size := ⟨_, rfl⟩
  obtain ⟨sb, hsb⟩ : ∃ i, i = fb + 1 := ⟨_, rfl⟩
  obtain ⟨kR, hkR⟩ : ∃ i, i = sb + 1 := ⟨_, rfl⟩
  obtain ⟨w0, hw0⟩ : ∃ w0, w0 = (w.alloc (.cells #[.int .i64 (s.n : Int), .slice qo T.length qc, .slice (some ⟨gL, 0, none⟩) 16 cL, .int .i64 (eI s.e)] 70)).alloc (.cells #[.bool b, .int .i64 (k : Int)] 50) := ⟨_, rfl⟩
  obtain ⟨W, hW⟩ : ∃ W, W = w0.alloc (.cells #[.int .i64 0, .slice none 0 0, .slice none 0 0, .int .i64 0] 70) := ⟨_, rfl⟩
  have z0 : w0.heap.size = kR := by rw [hw0]; simp [hkR, hsb, hfb]
  have hX0 : Bk w0 fb 70 #[.int .i64 (s.n : Int), .slice qo T.length qc, .slice (some ⟨gL, 0, none⟩) 16 cL, .int .i64 (eI s.e)] := hw0 ▸ (Bk.new hfb).alloc _
  have hY0 : Bk w0 sb 50 #[.bool b, .int .i64 (k : Int)] := hw0 ▸ Bk.new (by simp [hsb, hfb])
  have hX : Bk W fb 70 #[.int .i64 (s.n : Int), .slice qo T.length qc, .slice (some ⟨gL, 0, none⟩) 16 cL, .int .i64 (eI s.e)] := hW ▸ hX0.alloc _
  have hY : Bk W sb 50 #[.bool b, .int .i64 (k : Int)] := hW ▸ hY0.alloc _
  have hR : Bk W kR 70 #[.int .i64 0, .slice none 0 0, .slice none 0 0, .int .i64 0] := hW ▸ Bk.new z0.symm
  have hF : Far (fun _ => False) w W := hW ▸ (hw0 ▸ ((Far.refl _ w).alloc _).alloc _ : Far (fun _ => False) w w0).alloc _
  have hMW := hM.move hF
  have hBf : B ≤ fb := by have := hM.hi; omega
  have hnf : fb ≠ kR := by omega
  have hns : sb ≠ kR := by omega
  have hnx : sb ≠ fb := by omega
  have hnf2 : kR ≠ fb := by omega
  have hns2 : kR ≠ sb := by omega
  have hnx2 : fb ≠ sb := by omega
  have hng : gL ≠ kR := by have := (row_in hM.lab).2.2; omega
  have hng2 : kR ≠ gL := by have := (row_in hM.lab).2.2; omega
  have hngf : gL ≠ fb := by have := (row_in hM.lab).2.2; omega
  have hngf2 : fb ≠ gL := by have := (row_in hM.lab).2.2; omega
  have hngs : gL ≠ sb := by have := (row_in hM.lab).2.2; omega
  have hngs2 : sb ≠ gL := by have := (row_in hM.lab).2.2; omega
  have hqw := Lib.hid (show (∀ i, (Value.slice qo T.length qc).ownBlock = some i → i < w.heap.size) ∧ gL < w.heap.size ∧ w.heap.size ≤ fb from ⟨fun i e => (hM.row.lt i e).2, (row_in hM.lab).2.2, by omega⟩)
  have hF' := Lib.hid hF
  have hBf' := Lib.hid hBf
  have hfb' := Lib.hid hfb
  have hsb' := Lib.hid hsb
  have hkR' := Lib.hid hkR
  have hw0' := Lib.hid hw0
  have hW' := Lib.hid hW
  have z0' := Lib.hid z0
  have hX' := Lib.hid hX
  have hY' := Lib.hid hY
  have hR' := Lib.hid hR
  have hMW' := Lib.hid hMW
  have x0 : W.cell? ⟨fb, 0, none⟩ = some (.int .i64 (s.n : Int)) := hX.cell 0
  have x1 : W.cell? ⟨fb, 1, none⟩ = some (.slice qo T.length qc) := hX.cell 1
  have x2 : W.cell? ⟨fb, 2, none⟩ = some (.slice (some ⟨gL, 0, none⟩) 16 cL) := hX.cell 2
  have x3 : W.cell? ⟨fb, 3, none⟩ = some (.int .i64 (eI s.e)) := hX.cell 3
  have y0 : W.cell? ⟨sb, 0, none⟩ = some (.bool b) := hY.cell 0
  have y1 : W.cell? ⟨sb, 1, none⟩ = some (.int .i64 (k : Int)) := hY.cell 1
  have r0 : W.cell? ⟨kR, 0, none⟩ = some (.int .i64 0) := hR.cell 0
  have r1 : W.cell? ⟨kR, 1, none⟩ = some (.slice none 0 0) := hR.cell 1
  have r2 : W.cell? ⟨kR, 2, none⟩ = some (.slice none 0 0) := hR.cell 2
  have r3 : W.cell? ⟨kR, 3, none⟩ = some (.int .i64 0) := hR.cell 3
  have f0 : W.frozen? ⟨kR, 0, none⟩ = false := hR.free 0
  have f1 : W.frozen? ⟨kR, 1, none⟩ = false := hR.free 1
  have f2 : W.frozen? ⟨kR, 2, none⟩ = false := hR.free 2
  have f3 : W.frozen? ⟨kR, 3, none⟩ = false := hR.free 3
  clear hfb hsb hkR hw0 hW z0 hX0 hY0 hX hY hR hF hMW hM hBf
  cases b with
  | false =>
    rw [show lab1 s (false, (k : Int)) = (s, (false, (k : Int))) from rfl]
    go_enter Try.func62, Try.ntmps62
    go_upto_region 1 with fail
    rw [← hfb'.out, ← hsb'.out, ← hkR'.out, ← hw0'.out, ← hW'.out]
    go_upto_region 2 with fail
    go_region_held3 (fun w' => w'.cell? ⟨fb, 0, none⟩ = some (.int .i64 (s.n : Int)) ∧ w'.cell? ⟨fb, 1, none⟩ = some (.slice qo T.length qc) ∧ w'.cell? ⟨fb, 2, none⟩ = some (.slice (some ⟨gL, 0, none⟩) 16 cL) ∧ w'.cell? ⟨fb, 3, none⟩ = some (.int .i64 (eI s.e)) ∧ w'.cell? ⟨sb, 0, none⟩ = some (.bool false) ∧ w'.cell? ⟨sb, 1, none⟩ = some (.int .i64 (k : Int))) (go_keep) (fail)
    go_wp2_with fail
    obtain ⟨hB6, hM6, hS6⟩ := form_shut (.int .i64 (s.n : Int)) (.slice qo T.length qc) (.slice (some ⟨gL, 0, none⟩) 16 cL) (.int .i64 (eI s.e)) (w1 := W) hR'.out hMW'.out (by have := hBf'.out; have := hsb'.out; have := hkR'.out; omega)
    have hM7 := Lib.hid (hM6.move (drew_far _))
    have hF6 := Lib.hid (((hF'.out.out hS6 fun i hi e => by have := hfb'.out; have := hsb'.out; have := hkR'.out; omega).then (drew_far _)).mono (G := OF (.slice qo T.length qc) gL) fun _ _ q => q.elim)
    clear x0 x1 x2 x3 y0 y1 r0 r1 r2 r3 f0 f1 f2 f3 hS6 hM6
    generalize ((((W.setCell ⟨kR, 0, none⟩ (.int .i64 (s.n : Int))).setCell ⟨kR, 1, none⟩ (.slice qo T.length qc)).setCell ⟨kR, 2, none⟩ (.slice (some ⟨gL, 0, none⟩) 16 cL)).setCell ⟨kR, 3, none⟩ (.int .i64 (eI s.e))) = W6 at *
    have c0 : W6.cell? ⟨kR, 0, none⟩ = some (.int .i64 (s.n : Int)) := hB6.cell 0
    have c1 : W6.cell? ⟨kR, 1, none⟩ = some (.slice qo T.length qc) := hB6.cell 1
    have c2 : W6.cell? ⟨kR, 2, none⟩ = some (.slice (some ⟨gL, 0, none⟩) 16 cL) := hB6.cell 2
    have c3 : W6.cell? ⟨kR, 3, none⟩ = some (.int .i64 (eI s.e)) := hB6.cell 3
    exact bodyPost_ret (v := .tuple #[.agg #[.int .i64 (s.n : Int), .slice qo T.length qc, .slice (some ⟨gL, 0, none⟩) 16 cL, .int .i64 (eI s.e)], .int .i64 (k : Int)]) (by simp [results, Try.f62, go_sem, c0, c1, c2, c3]) rfl ⟨_, T, rfl, hM7.out, hF6.out, fun i e => .inl e⟩
  | true =>
    have hk16 := hk rfl
    have hkI : (k : Int) < 16 := by omega
    obtain ⟨l0, l1⟩ := hMW'.out.lbl hk16
    clear hk
    cases hse : s.lab k with
    | some m =>
      have hlab : lab1 s (true, (k : Int)) = (s, (false, (m : Int))) := by
        unfold lab1 labF
        simp only [if_true, Int.toNat_natCast, hse]
      rw [hlab]
      rw [hse, show eI (some m) = (m : Int) from rfl] at l0
      have d0 : decide ((m : Int) < 0) = false := by rw [decide_eq_false_iff_not]; omega
      clear hse hlab
      go_enter Try.func62, Try.ntmps62
      go_upto_region 1 with fail
      rw [← hfb'.out, ← hsb'.out, ← hkR'.out, ← hw0'.out, ← hW'.out]
      go_upto_region 7 with fail
      go_region_held3 (fun w' => w'.cell? ⟨fb, 0, none⟩ = some (.int .i64 (s.n : Int)) ∧ w'.cell? ⟨fb, 1, none⟩ = some (.slice qo T.length qc) ∧ w'.cell? ⟨fb, 2, none⟩ = some (.slice (some ⟨gL, 0, none⟩) 16 cL) ∧ w'.cell? ⟨fb, 3, none⟩ = some (.int .i64 (eI s.e)) ∧ w'.cell? ⟨sb, 0, none⟩ = some (.bool true) ∧ w'.cell? ⟨sb, 1, none⟩ = some (.int .i64 (k : Int)) ∧ w'.cell? ⟨gL, k, none⟩ = some (.int .i64 (m : Int))) (go_keep) (fail)
      go_wp2_with fail
      obtain ⟨hB6, hM6, hS6⟩ := form_shut (.int .i64 (s.n : Int)) (.slice qo T.length qc) (.slice (some ⟨gL, 0, none⟩) 16 cL) (.int .i64 (eI s.e)) (w1 := W) hR'.out hMW'.out (by have := hBf'.out; have := hsb'.out; have := hkR'.out; omega)
      have hM7 := Lib.hid (hM6.move (drew_far _))
      have hF6 := Lib.hid (((hF'.out.out hS6 fun i hi e => by have := hfb'.out; have := hsb'.out; have := hkR'.out; omega).then (drew_far _)).mono (G := OF (.slice qo T.length qc) gL) fun _ _ q => q.elim)
      clear x0 x1 x2 x3 y0 y1 r0 r1 r2 r3 f0 f1 f2 f3 l0 l1 hS6 hM6
      generalize ((((W.setCell ⟨kR, 0, none⟩ (.int .i64 (s.n : Int))).setCell ⟨kR, 1, none⟩ (.slice qo T.length qc)).setCell ⟨kR, 2, none⟩ (.slice (some ⟨gL, 0, none⟩) 16 cL)).setCell ⟨kR, 3, none⟩ (.int .i64 (eI s.e))) = W6 at *
      have c0 : W6.cell? ⟨kR, 0, none⟩ = some (.int .i64 (s.n : Int)) := hB6.cell 0
      have c1 : W6.cell? ⟨kR, 1, none⟩ = some (.slice qo T.length qc) := hB6.cell 1
      have c2 : W6.cell? ⟨kR, 2, none⟩ = some (.slice (some ⟨gL, 0, none⟩) 16 cL) := hB6.cell 2
      have c3 : W6.cell? ⟨kR, 3, none⟩ = some (.int .i64 (eI s.e)) := hB6.cell 3
      exact bodyPost_ret (v := .tuple #[.agg #[.int .i64 (s.n : Int), .slice qo T.length qc, .slice (some ⟨gL, 0, none⟩) 16 cL, .int .i64 (eI s.e)], .int .i64 (m : Int)]) (by simp [results, Try.f62, go_sem, c0, c1, c2, c3]) rfl ⟨_, T, rfl, hM7.out, hF6.out, fun i e => .inl e⟩
    | none =>
      have hlab : lab1 s (true, (k : Int)) = ({ s with n := s.n + 1, lab := updL s.lab k s.n, ps := s.ps ++ [((s.n : Int), [(true, (k : Int))])] }, (false, (s.n : Int))) := by
        unfold lab1 labF
        simp only [if_true, Int.toNat_natCast, hse]
      rw [hlab]
      rw [hse, show eI none = (-1 : Int) from rfl] at l0
      have hM1 := hMW'.out.label (m := s.n) hk16
      have hf1 : Far (fun i => i = gL) W (W.setCell ⟨gL, k, none⟩ (.int .i64 (s.n : Int))) := (Far.refl _ W).set _ _ fun _ => rfl
      have hl1 := (hM1.lbl hk16).1
      rw [show eI (updL s.lab k s.n k) = (s.n : Int) by unfold updL; rw [if_pos rfl]; rfl] at hl1
      obtain ⟨W1, hW1⟩ : ∃ W1, W1 = W.setCell ⟨gL, k, none⟩ (.int .i64 (s.n : Int)) := ⟨_, rfl⟩
      rw [← hW1] at hM1 hf1 hl1
      have hX1 := hX'.out.far' hf1 fun e => hngf e.symm
      have hY1 := hY'.out.far' hf1 fun e => hngs e.symm
      have hR1 := hR'.out.far' hf1 fun e => hng e.symm
      have hf2 : Far (fun i => i = fb) W1 (W1.setCell ⟨fb, 0, none⟩ (.int .i64 ((s.n : Int) + 1))) := (Far.refl _ W1).set _ _ fun _ => rfl
      have hX2 := hX1.set 0 (.int .i64 ((s.n : Int) + 1))
      have hM2 := hM1.box hX1 (by decide) (by decide) (by decide) hBf'.out hf2
      have u0 : W1.cell? ⟨fb, 0, none⟩ = some (.int .i64 (s.n : Int)) := hX1.cell 0
      have u1 : W1.frozen? ⟨fb, 0, none⟩ = false := hX1.free 0
      obtain ⟨W2, hW2⟩ : ∃ W2, W2 = W1.setCell ⟨fb, 0, none⟩ (.int .i64 ((s.n : Int) + 1)) := ⟨_, rfl⟩
      rw [← hW2] at hM2 hf2 hX2
      have hX2 : Bk W2 fb 70 #[.int .i64 ((s.n : Int) + 1), .slice qo T.length qc, .slice (some ⟨gL, 0, none⟩) 16 cL, .int .i64 (eI s.e)] := hX2
      have hY2 := hY1.far' hf2 hnx
      have hR2 := hR1.far' hf2 hnf2
      have q1 : W2.cell? ⟨fb, 1, none⟩ = some (.slice qo T.length qc) := hX2.cell 1
      have q2 : W2.cell? ⟨fb, 2, none⟩ = some (.slice (some ⟨gL, 0, none⟩) 16 cL) := hX2.cell 2
      have q3 : W2.cell? ⟨sb, 0, none⟩ = some (.bool true) := hY2.cell 0
      have q4 : W2.cell? ⟨sb, 1, none⟩ = some (.int .i64 (k : Int)) := hY2.cell 1
      have q5 : W2.cell? ⟨gL, k, none⟩ = some (.int .i64 (s.n : Int)) := (cell_eq (p := ⟨gL, k, none⟩) (hf2.block gL (row_in hM1.lab).2.2 hngf)).trans hl1
      have hTl : T.length = s.ps.length := by rw [← hM2.pl, List.length_map]
      obtain ⟨pi, pz, pi1, pi2, pi3, pi4, pi5⟩ := info3 info_prod
      have A7 : 0 < 2 := by decide
      obtain ⟨hs2, hhs2⟩ : ∃ h, h = W2.heap.size := ⟨_, rfl⟩
      have hWA : Far (fun _ => False) W2 ((W2.alloc (.cells #[.bool true, .int .i64 (k : Int)] 50)).alloc (.cells #[.int .i64 (s.n : Int), .slice (some ⟨W2.heap.size, 0, none⟩) 1 1] 44)).drew := ((((Far.refl _ W2).alloc _).alloc _).drew)
      have hMA := hM2.move hWA
      have hQA : QB ((W2.alloc (.cells #[.bool true, .int .i64 (k : Int)] 50)).alloc (.cells #[.int .i64 (s.n : Int), .slice (some ⟨W2.heap.size, 0, none⟩) 1 1] 44)).drew B (.slice (some ⟨W2.heap.size, 0, none⟩) 1 1) [(true, (k : Int))] := (QB.new W2 B [(true, (k : Int))]).go (((Far.refl (fun _ => False) _).alloc _).drew) fun _ _ q => q.elim
      have hXA := Lib.hid (hX2.far' hWA id)
      have hl2 : fb < W2.heap.size := hX2.lt
      have hl3 : gL < W2.heap.size := (row_in hM2.lab).2.2
      have hl4 : sb < W2.heap.size := hY2.lt
      have n1 : fb ≠ W2.heap.size := by omega
      have n2 : gL ≠ W2.heap.size := by omega
      have n3 : sb ≠ W2.heap.size := by omega
      have hqk := Lib.hid (show (Value.slice qo T.length qc).ownBlock ≠ some fb from fun e => hM2.ne hX2 (by decide) (by decide) (.inl e))
      have hYA := Lib.hid (hY2.far' hWA id)
      have hqs := Lib.hid (show (Value.slice qo T.length qc).ownBlock ≠ some sb from fun e => own_ne hMA.row hYA.out (by decide) e)
      have hql := Lib.hid (show (Value.slice qo T.length qc).ownBlock ≠ some gL from fun e => rows_ne hMA.row hMA.lab (by decide) e rfl)
      have hlA := Lib.hid (show gL < (((W2.alloc (.cells #[.bool true, .int .i64 (k : Int)] 50)).alloc (.cells #[.int .i64 (s.n : Int), .slice (some ⟨W2.heap.size, 0, none⟩) 1 1] 44)).drew).heap.size from (row_in hMA.lab).2.2)
      have qA5 := Lib.hid (show (((W2.alloc (.cells #[.bool true, .int .i64 (k : Int)] 50)).alloc (.cells #[.int .i64 (s.n : Int), .slice (some ⟨W2.heap.size, 0, none⟩) 1 1] 44)).drew).cell? ⟨gL, k, none⟩ = some (.int .i64 (s.n : Int)) from (cell_eq (p := ⟨gL, k, none⟩) (hWA.block gL hl3 id)).trans q5)
      have B1 := Lib.hid hMA.row
      have B7 := Lib.hid (show ∀ j u, [Value.int .i64 (s.n : Int), .slice (some ⟨W2.heap.size, 0, none⟩) 1 1][j]? = some u → ((W2.alloc (.cells #[.bool true, .int .i64 (k : Int)] 50)).alloc (.cells #[.int .i64 (s.n : Int), .slice (some ⟨W2.heap.size, 0, none⟩) 1 1] 44)).drew.cell? ((⟨W2.heap.size + 1, 0, none⟩ : Addr).add j) = some u from by
        have := World.news_of_block (w := ((W2.alloc (.cells #[.bool true, .int .i64 (k : Int)] 50)).alloc (.cells #[.int .i64 (s.n : Int), .slice (some ⟨W2.heap.size, 0, none⟩) 1 1] 44)).drew) (heap_alloc_new (W2.alloc (.cells #[.bool true, .int .i64 (k : Int)] 50)) (.cells #[.int .i64 (s.n : Int), .slice (some ⟨W2.heap.size, 0, none⟩) 1 1] 44))
        simpa using this)
      have B3 := Lib.hid (show ∀ u ∈ [Value.int .i64 (s.n : Int), .slice (some ⟨W2.heap.size, 0, none⟩) 1 1], u.oneCell' = true by simp [Value.oneCell'])
      have B4 : T.length + 1 ≤ maxLen := by unfold maxLen; omega
      have B5 : (T.length + 1) * 32 ≤ 140737488355328 := by omega
      have B6 := hMA.hi
      have hM1' := Lib.hid hM1
      have hMA' := Lib.hid hMA
      have hQA' := Lib.hid hQA
      have hWA' := Lib.hid hWA
      have hf12 := Lib.hid ((hf1.mono (G := fun i => i = gL ∨ i = fb) fun _ _ e => .inl e).trans hf2 fun _ _ e => .inr e)
      have hR2' := Lib.hid hR2
      have hTl' := Lib.hid hTl
      have hW1' := Lib.hid hW1
      have hW2' := Lib.hid hW2
      clear hse hlab hM1 hf1 hl1 hW1 hX1 hY1 hR1 hf2 hX2 hM2 hW2 hY2 hR2 hTl hhs2 hMA hQA hWA hps
      go_enter Try.func62, Try.ntmps62
      go_upto_region 1 with fail
      rw [← hfb'.out, ← hsb'.out, ← hkR'.out, ← hw0'.out, ← hW'.out]
      go_upto_region 5 with fail
      rw [← hW1'.out]
      clear x0 x1 x2 x3 y0 y1 r0 r1 r2 r3 f0 f1 f2 f3 l0 l1
      go_upto_region 6 with fail
      rw [← hW2'.out]
      clear u0 u1
      refine wp_region_held_drew (S := (fun w' => w'.cell? ⟨fb, 2, none⟩ = some (.slice (some ⟨gL, 0, none⟩) 16 cL) ∧ w'.cell? ⟨sb, 0, none⟩ = some (.bool true) ∧ w'.cell? ⟨sb, 1, none⟩ = some (.int .i64 (k : Int)) ∧ w'.cell? ⟨gL, k, none⟩ = some (.int .i64 (s.n : Int)))) (by kernel_rfl) ⟨q2, q3, q4, q5⟩ (fun hHeld => ?_)
      refine wpAnyH_take (i := 0) (v := ?v0n1) rfl (by kernel_rfl) (by kernel_rfl) (by kernel_rfl) (fun _ _ _ h => h) (Or.inl ⟨by rfl, ?y0n1⟩) (by assumption) ?r0n1
      case y0n1 => (intro w hSw; (try dsimp only at hSw); go_simp; (try with_reducible rfl))
      simp only [Act.put, List.setIfInBounds_toArray, List.set_cons_zero, List.set_cons_succ]
      refine wpAnyH_take (i := 2) (v := ?v2n2) rfl (by kernel_rfl) (by kernel_rfl) (by kernel_rfl) (fun _ _ _ h => h) (Or.inl ⟨by rfl, ?y2n2⟩) (by assumption) ?r2n2
      case y2n2 => (intro w hSw; (try dsimp only at hSw); go_simp; (try with_reducible rfl))
      simp only [Act.put, List.setIfInBounds_toArray, List.set_cons_zero, List.set_cons_succ]
      refine wpAnyH_take (i := 4) (v := ?v4n3) rfl (by kernel_rfl) (by kernel_rfl) (by kernel_rfl) (fun _ _ _ h => h) (Or.inl ⟨by rfl, ?y4n3⟩) (by assumption) ?r4n3
      case y4n3 => (intro w hSw; (try dsimp only at hSw); go_simp; (try with_reducible rfl))
      simp only [Act.put, List.setIfInBounds_toArray, List.set_cons_zero, List.set_cons_succ]
      refine wpAnyH_take (i := 3) (v := ?v3n4) rfl (by kernel_rfl) (by kernel_rfl) (by kernel_rfl) (fun _ _ _ h => h) (Or.inl ⟨by rfl, ?y3n4⟩) (by assumption) ?r3n4
      case y3n4 => (intro w hSw; (try dsimp only at hSw); go_simp; (try with_reducible rfl))
      simp only [Act.put, List.setIfInBounds_toArray, List.set_cons_zero, List.set_cons_succ]
      refine wpAnyH_take (i := 5) (v := ?v5n5) rfl (by kernel_rfl) (by kernel_rfl) (by kernel_rfl) (fun _ _ _ h => h) (Or.inl ⟨by rfl, ?y5n5⟩) (by assumption) ?r5n5
      case y5n5 => (intro w hSw; (try dsimp only at hSw); go_simp; (try with_reducible rfl))
      simp only [Act.put, List.setIfInBounds_toArray, List.set_cons_zero, List.set_cons_succ]
      refine wpAnyH_take (i := 6) (v := ?v6n6) rfl (by kernel_rfl) (by kernel_rfl) (by kernel_rfl) (fun _ _ _ h => h) (Or.inl ⟨by rfl, ?y6n6⟩) (by assumption) ?r6n6
      case y6n6 => (intro w hSw; (try dsimp only at hSw); go_simp; (try with_reducible rfl))
      simp only [Act.put, List.setIfInBounds_toArray, List.set_cons_zero, List.set_cons_succ]
      refine wpAnyH_take (i := 7) (v := ?v7n7) rfl (by kernel_rfl) (by kernel_rfl) (by kernel_rfl) (fun _ _ _ h => h) (Or.inl ⟨by rfl, ?y7n7⟩) (by assumption) ?r7n7
      case y7n7 => (intro w hSw; (try dsimp only at hSw); go_simp; (try with_reducible rfl))
      simp only [Act.put, List.setIfInBounds_toArray, List.set_cons_zero, List.set_cons_succ]
      refine wpAnyH_take (i := 8) (v := ?v8n8) rfl (by kernel_rfl) (by kernel_rfl) (by kernel_rfl) (fun _ _ _ h => h) (Or.inl ⟨by rfl, ?y8n8⟩) (by assumption) ?r8n8
      case y8n8 => (intro w hSw; (try dsimp only at hSw); go_simp; (try with_reducible rfl))
      simp only [Act.put, List.setIfInBounds_toArray, List.set_cons_zero, List.set_cons_succ]
      refine wpAnyH_ready (rs := [1, 9]) (by kernel_rfl) (by simp) ?_
      refine AllReadyH.cons rfl (fun K hK => ?_) ?more1n9
      go_simp
      refine hK.out _ _ ?_ (fun hHeld => ?_)
      · first | exact ⟨p2, p3, p4, p5⟩ | exact ⟨(hO5'.out.set 1 _).cell 2, (World.cell?_setCell_far _ _ _ _ hnx2).trans p3, (World.cell?_setCell_far _ _ _ _ hnx2).trans p4, (World.cell?_setCell_far _ _ _ _ hngf2).trans p5⟩ | go_keep
      clear hK K
      try simp only [Act.put, List.setIfInBounds_toArray, List.set_cons_zero, List.set_cons_succ]
      refine wpAnyH_ready (rs := [9]) (by kernel_rfl) (by simp) ?_
      refine AllReadyH.cons rfl (fun K hK => ?_) ?more9n10
      go_simp
      refine hK.out _ _ ?_ (fun hHeld => ?_)
      · first | exact ⟨p2, p3, p4, p5⟩ | exact ⟨(hO5'.out.set 1 _).cell 2, (World.cell?_setCell_far _ _ _ _ hnx2).trans p3, (World.cell?_setCell_far _ _ _ _ hnx2).trans p4, (World.cell?_setCell_far _ _ _ _ hngf2).trans p5⟩ | go_keep
      clear hK K
      try simp only [Act.put, List.setIfInBounds_toArray, List.set_cons_zero, List.set_cons_succ]
      refine wpAnyH_take (i := 10) (v := ?v10n11) rfl (by kernel_rfl) (by kernel_rfl) (by kernel_rfl) (fun _ _ _ h => h) (Or.inl ⟨by rfl, ?y10n11⟩) (by assumption) ?r10n11
      case y10n11 => (intro w hSw; (try dsimp only at hSw); go_simp; (try with_reducible rfl))
      simp only [Act.put, List.setIfInBounds_toArray, List.set_cons_zero, List.set_cons_succ]
      refine wpAnyH_ready (rs := [11]) (by kernel_rfl) (by simp) ?_
      refine AllReadyH.cons rfl (fun K hK => ?_) ?more11n12
      go_simp
      refine hK.out _ _ ?_ (fun hHeld => ?_)
      · first | exact ⟨p2, p3, p4, p5⟩ | exact ⟨(hO5'.out.set 1 _).cell 2, (World.cell?_setCell_far _ _ _ _ hnx2).trans p3, (World.cell?_setCell_far _ _ _ _ hnx2).trans p4, (World.cell?_setCell_far _ _ _ _ hngf2).trans p5⟩ | go_keep
      clear hK K
      try simp only [Act.put, List.setIfInBounds_toArray, List.set_cons_zero, List.set_cons_succ]
      refine wpAnyH_ready (rs := [12]) (by kernel_rfl) (by simp) ?_
      refine AllReadyH.cons rfl (fun K hK => ?_) ?more12n13
      (refine step_append_lies _ rfl (.tmp 31) (.tmp 41) 22 rfl B 44 pi pz 2 32 Try.underlying22 pi1 pi2 pi3 pi4 pi5 A7 (.slice qo T.length qc) T.length _ rfl B1.out ⟨W2.heap.size + 1, 0, none⟩ 1 1 [.int .i64 (s.n : Int), .slice (some ⟨W2.heap.size, 0, none⟩) 1 1] rfl rfl B7.out B3.out (by decide) B4 B5 B6 _ rfl ?_; intro g2 c2 w5 ho5 hg5 hw5 _; have hO5 := Bk.grown hXA.out hg5 hqk.out; have p2 : w5.cell? ⟨fb, 2, none⟩ = some (.slice (some ⟨gL, 0, none⟩) 16 cL) := hO5.cell 2; have u1 : w5.frozen? ⟨fb, 1, none⟩ = false := hO5.free 1; have p9 : w5.cell? ⟨fb, 1, none⟩ = some (.slice qo T.length qc) := hO5.cell 1; have p3 : w5.cell? ⟨sb, 0, none⟩ = some (.bool true) := (Bk.grown hYA.out hg5 hqs.out).cell 0; have p4 : w5.cell? ⟨sb, 1, none⟩ = some (.int .i64 (k : Int)) := (Bk.grown hYA.out hg5 hqs.out).cell 1; have p5 : w5.cell? ⟨gL, k, none⟩ = some (.int .i64 (s.n : Int)) := (hg5.cell_far ⟨gL, k, none⟩ hlA.out (Ne.symm hql.out)).trans qA5.out; have ho5' := Lib.hid ho5; have hg5' := Lib.hid hg5; have hO5' := Lib.hid hO5; have hw5' := Lib.hid hw5; clear ho5 hg5 hO5 hw5)
      refine hK.out _ _ ?_ (fun hHeld => ?_)
      · first | exact ⟨p2, p3, p4, p5⟩ | exact ⟨(hO5'.out.set 1 _).cell 2, (World.cell?_setCell_far _ _ _ _ hnx2).trans p3, (World.cell?_setCell_far _ _ _ _ hnx2).trans p4, (World.cell?_setCell_far _ _ _ _ hngf2).trans p5⟩ | go_keep
      clear hK K
      try simp only [Act.put, List.setIfInBounds_toArray, List.set_cons_zero, List.set_cons_succ]
      refine wpAnyH_take (i := 13) (v := ?v13n14) rfl (by kernel_rfl) (by kernel_rfl) (by kernel_rfl) (fun _ _ _ h => h) (Or.inl ⟨by rfl, ?y13n14⟩) (by assumption) ?r13n14
      case y13n14 => (intro w hSw; (try dsimp only at hSw); go_simp; (try with_reducible rfl))
      simp only [Act.put, List.setIfInBounds_toArray, List.set_cons_zero, List.set_cons_succ]
      refine wpAnyH_ready (rs := [14]) (by kernel_rfl) (by simp) ?_
      refine AllReadyH.cons rfl (fun K hK => ?_) ?more14n15
      go_simp
      refine hK.out _ _ ?_ (fun hHeld => ?_)
      · first | exact ⟨p2, p3, p4, p5⟩ | exact ⟨(hO5'.out.set 1 _).cell 2, (World.cell?_setCell_far _ _ _ _ hnx2).trans p3, (World.cell?_setCell_far _ _ _ _ hnx2).trans p4, (World.cell?_setCell_far _ _ _ _ hngf2).trans p5⟩ | go_keep
      clear hK K
      try simp only [Act.put, List.setIfInBounds_toArray, List.set_cons_zero, List.set_cons_succ]
      refine wpAnyH_done (by kernel_rfl) ?_ _
      · skip
        have hf6 : Far (fun i => i = fb) w5 (w5.setCell ⟨fb, 1, none⟩ (.slice (some ⟨g2, 0, none⟩) (T.length + 1) c2)) := (Far.refl _ w5).set _ _ fun _ => rfl
        have hX6 : Bk (w5.setCell ⟨fb, 1, none⟩ (.slice (some ⟨g2, 0, none⟩) (T.length + 1) c2)) fb 70 #[.int .i64 ((s.n : Int) + 1), .slice (some ⟨g2, 0, none⟩) (T.length + 1) c2, .slice (some ⟨gL, 0, none⟩) 16 cL, .int .i64 (eI s.e)] := hO5'.out.set 1 _
        have hf5 : Far (fun i => (Value.slice qo T.length qc).ownBlock = some i) _ w5 := (Far.refl _ _).grown hg5'.out fun _ _ e => e
        have hM5 := RM.push hMA'.out hQA'.out hf5 ho5'.out
        have hM6 := hM5.box hO5'.out (by decide) (by decide) (by decide) hBf'.out hf6
        have hY6 := (Bk.grown hYA.out hg5'.out hqs.out).far' hf6 hnx
        have hA6 := Lib.hid (show Far (fun i => (Value.slice qo T.length qc).ownBlock = some i ∨ i = fb) W2 (w5.setCell ⟨fb, 1, none⟩ (.slice (some ⟨g2, 0, none⟩) (T.length + 1) c2)) from ((hWA'.out.mono (G := fun i => (Value.slice qo T.length qc).ownBlock = some i ∨ i = fb) fun _ _ q => q.elim).trans hf5 fun _ _ e => .inl e).trans hf6 fun _ _ e => .inr e)
        have hR5 := Lib.hid (show (Value.slice qo T.length qc).ownBlock ≠ some kR from fun e => own_ne hMA'.out.row (hR2'.out.far' hWA'.out id) (by decide) e)
        have hR6 := hR2'.out.far' hA6.out fun e => e.elim hR5.out hnf2
        have v0 : (w5.setCell ⟨fb, 1, none⟩ (.slice (some ⟨g2, 0, none⟩) (T.length + 1) c2)).cell? ⟨fb, 0, none⟩ = some (.int .i64 ((s.n : Int) + 1)) := hX6.cell 0
        have v1 : (w5.setCell ⟨fb, 1, none⟩ (.slice (some ⟨g2, 0, none⟩) (T.length + 1) c2)).cell? ⟨fb, 1, none⟩ = some (.slice (some ⟨g2, 0, none⟩) (T.length + 1) c2) := hX6.cell 1
        have v2 : (w5.setCell ⟨fb, 1, none⟩ (.slice (some ⟨g2, 0, none⟩) (T.length + 1) c2)).cell? ⟨fb, 2, none⟩ = some (.slice (some ⟨gL, 0, none⟩) 16 cL) := hX6.cell 2
        have v3 : (w5.setCell ⟨fb, 1, none⟩ (.slice (some ⟨g2, 0, none⟩) (T.length + 1) c2)).cell? ⟨fb, 3, none⟩ = some (.int .i64 (eI s.e)) := hX6.cell 3
        have v4 : (w5.setCell ⟨fb, 1, none⟩ (.slice (some ⟨g2, 0, none⟩) (T.length + 1) c2)).cell? ⟨sb, 1, none⟩ = some (.int .i64 (k : Int)) := hY6.cell 1
        have v5 : (w5.setCell ⟨fb, 1, none⟩ (.slice (some ⟨g2, 0, none⟩) (T.length + 1) c2)).cell? ⟨gL, k, none⟩ = some (.int .i64 (s.n : Int)) := (World.cell?_setCell_far _ _ _ _ hngf2).trans p5
        have hqw5 := Lib.hid (show ∀ i, (Value.slice (some ⟨g2, 0, none⟩) (T.length + 1) c2).ownBlock = some i → (Value.slice qo T.length qc).ownBlock = some i ∨ w.heap.size ≤ i from by
          intro i e
          have e : g2 = i := by simpa [Value.ownBlock] using e
          subst e
          rcases hw5'.out with h | h
          · exact .inl h
          · refine .inr ?_; have a1 := hF'.out.size; have a2 := hf12.out.size; have a3 := hWA'.out.size; omega)
        have hM6' := Lib.hid hM6
        have hR6' := Lib.hid hR6
        clear hf6 hX6 hf5 hM5 hM6 hY6 hR6 p2 p3 p4 p5 p9 u1 q1 q2 q3 q4 q5 ho5' hg5' hO5' hw5'
        generalize (w5.setCell ⟨fb, 1, none⟩ (.slice (some ⟨g2, 0, none⟩) (T.length + 1) c2)) = W6 at *
        have y0 : W6.cell? ⟨kR, 0, none⟩ = some (.int .i64 0) := hR6'.out.cell 0
        have y1 : W6.cell? ⟨kR, 1, none⟩ = some (.slice none 0 0) := hR6'.out.cell 1
        have y2 : W6.cell? ⟨kR, 2, none⟩ = some (.slice none 0 0) := hR6'.out.cell 2
        have y3 : W6.cell? ⟨kR, 3, none⟩ = some (.int .i64 0) := hR6'.out.cell 3
        have f0 : W6.frozen? ⟨kR, 0, none⟩ = false := hR6'.out.free 0
        have f1 : W6.frozen? ⟨kR, 1, none⟩ = false := hR6'.out.free 1
        have f2 : W6.frozen? ⟨kR, 2, none⟩ = false := hR6'.out.free 2
        have f3 : W6.frozen? ⟨kR, 3, none⟩ = false := hR6'.out.free 3
        go_upto_region 7 with fail
        go_region_held3 (fun w' => w'.cell? ⟨fb, 0, none⟩ = some (.int .i64 ((s.n : Int) + 1)) ∧ w'.cell? ⟨fb, 1, none⟩ = some (.slice (some ⟨g2, 0, none⟩) (T.length + 1) c2) ∧ w'.cell? ⟨fb, 2, none⟩ = some (.slice (some ⟨gL, 0, none⟩) 16 cL) ∧ w'.cell? ⟨fb, 3, none⟩ = some (.int .i64 (eI s.e)) ∧ w'.cell? ⟨sb, 1, none⟩ = some (.int .i64 (k : Int)) ∧ w'.cell? ⟨gL, k, none⟩ = some (.int .i64 (s.n : Int))) (go_keep) (fail)
        go_wp2_with fail
        obtain ⟨hB7, hM7, hS7⟩ := form_shut (.int .i64 ((s.n : Int) + 1)) (.slice (some ⟨g2, 0, none⟩) (T.length + 1) c2) (.slice (some ⟨gL, 0, none⟩) 16 cL) (.int .i64 (eI s.e)) (w1 := W6) hR6'.out hM6'.out (by have := hBf'.out; have := hsb'.out; have := hkR'.out; omega)
        have hM8 := Lib.hid (hM7.move (drew_far _))
        have hF8 := Lib.hid (((((hF'.out.mono (G := OF (.slice qo T.length qc) gL) fun _ _ q => q.elim).trans hf12.out fun i hi e => e.elim .inr fun e => by have := hqw.out.2.2; omega).trans hA6.out fun i hi e => e.elim .inl fun e => by have := hqw.out.2.2; omega).trans hS7 fun i hi e => by have := hqw.out.2.2; have := hsb'.out; have := hkR'.out; omega).trans (drew_far _) fun _ _ q => q.elim)
        clear v0 v1 v2 v3 v4 v5 y0 y1 y2 y3 f0 f1 f2 f3 hS7 hM7
        generalize ((((W6.setCell ⟨kR, 0, none⟩ (.int .i64 ((s.n : Int) + 1))).setCell ⟨kR, 1, none⟩ (.slice (some ⟨g2, 0, none⟩) (T.length + 1) c2)).setCell ⟨kR, 2, none⟩ (.slice (some ⟨gL, 0, none⟩) 16 cL)).setCell ⟨kR, 3, none⟩ (.int .i64 (eI s.e))) = W7 at *
        have c0 : W7.cell? ⟨kR, 0, none⟩ = some (.int .i64 ((s.n : Int) + 1)) := hB7.cell 0
        have c1 : W7.cell? ⟨kR, 1, none⟩ = some (.slice (some ⟨g2, 0, none⟩) (T.length + 1) c2) := hB7.cell 1
        have c2' : W7.cell? ⟨kR, 2, none⟩ = some (.slice (some ⟨gL, 0, none⟩) 16 cL) := hB7.cell 2
        have c3 : W7.cell? ⟨kR, 3, none⟩ = some (.int .i64 (eI s.e)) := hB7.cell 3
        exact bodyPost_ret (v := .tuple #[.agg #[.int .i64 ((s.n : Int) + 1), .slice (some ⟨g2, 0, none⟩) (T.length + 1) c2, .slice (some ⟨gL, 0, none⟩) 16 cL, .int .i64 (eI s.e)], .int .i64 (s.n : Int)]) (by simp [results, Try.f62, go_sem, c0, c1, c2', c3]) rfl ⟨_, _, by simp, hM8.out, hF8.out, hqw5.out⟩
      case more14n15 => exact AllReadyH.nil
      case more12n13 => exact AllReadyH.nil
      case more11n12 => exact AllReadyH.nil
      case more9n10 => exact AllReadyH.nil
      case more1n9 =>
        refine AllReadyH.cons rfl (fun K hK => ?_) ?more9n16
        go_simp
        refine hK.out _ _ ?_ (fun hHeld => ?_)
        · first | exact ⟨p2, p3, p4, p5⟩ | exact ⟨(hO5'.out.set 1 _).cell 2, (World.cell?_setCell_far _ _ _ _ hnx2).trans p3, (World.cell?_setCell_far _ _ _ _ hnx2).trans p4, (World.cell?_setCell_far _ _ _ _ hngf2).trans p5⟩ | go_keep
        clear hK K
        try simp only [Act.put, List.setIfInBounds_toArray, List.set_cons_zero, List.set_cons_succ]
        refine wpAnyH_take (i := 10) (v := ?v10n17) rfl (by kernel_rfl) (by kernel_rfl) (by kernel_rfl) (fun _ _ _ h => h) (Or.inl ⟨by rfl, ?y10n17⟩) (by assumption) ?r10n17
        case y10n17 => (intro w hSw; (try dsimp only at hSw); go_simp; (try with_reducible rfl))
        simp only [Act.put, List.setIfInBounds_toArray, List.set_cons_zero, List.set_cons_succ]
        refine wpAnyH_ready (rs := [1, 11]) (by kernel_rfl) (by simp) ?_
        refine AllReadyH.cons rfl (fun K hK => ?_) ?more1n18
        go_simp
        refine hK.out _ _ ?_ (fun hHeld => ?_)
        · first | exact ⟨p2, p3, p4, p5⟩ | exact ⟨(hO5'.out.set 1 _).cell 2, (World.cell?_setCell_far _ _ _ _ hnx2).trans p3, (World.cell?_setCell_far _ _ _ _ hnx2).trans p4, (World.cell?_setCell_far _ _ _ _ hngf2).trans p5⟩ | go_keep
        clear hK K
        try simp only [Act.put, List.setIfInBounds_toArray, List.set_cons_zero, List.set_cons_succ]
        refine wpAnyH_ready (rs := [11]) (by kernel_rfl) (by simp) ?_
        refine AllReadyH.cons rfl (fun K hK => ?_) ?more11n19
        go_simp
        refine hK.out _ _ ?_ (fun hHeld => ?_)
        · first | exact ⟨p2, p3, p4, p5⟩ | exact ⟨(hO5'.out.set 1 _).cell 2, (World.cell?_setCell_far _ _ _ _ hnx2).trans p3, (World.cell?_setCell_far _ _ _ _ hnx2).trans p4, (World.cell?_setCell_far _ _ _ _ hngf2).trans p5⟩ | go_keep
        clear hK K
        try simp only [Act.put, List.setIfInBounds_toArray, List.set_cons_zero, List.set_cons_succ]
        refine wpAnyH_ready (rs := [12]) (by kernel_rfl) (by simp) ?_
        refine AllReadyH.cons rfl (fun K hK => ?_) ?more12n20
        (refine step_append_lies _ rfl (.tmp 31) (.tmp 41) 22 rfl B 44 pi pz 2 32 Try.underlying22 pi1 pi2 pi3 pi4 pi5 A7 (.slice qo T.length qc) T.length _ rfl B1.out ⟨W2.heap.size + 1, 0, none⟩ 1 1 [.int .i64 (s.n : Int), .slice (some ⟨W2.heap.size, 0, none⟩) 1 1] rfl rfl B7.out B3.out (by decide) B4 B5 B6 _ rfl ?_; intro g2 c2 w5 ho5 hg5 hw5 _; have hO5 := Bk.grown hXA.out hg5 hqk.out; have p2 : w5.cell? ⟨fb, 2, none⟩ = some (.slice (some ⟨gL, 0, none⟩) 16 cL) := hO5.cell 2; have u1 : w5.frozen? ⟨fb, 1, none⟩ = false := hO5.free 1; have p9 : w5.cell? ⟨fb, 1, none⟩ = some (.slice qo T.length qc) := hO5.cell 1; have p3 : w5.cell? ⟨sb, 0, none⟩ = some (.bool true) := (Bk.grown hYA.out hg5 hqs.out).cell 0; have p4 : w5.cell? ⟨sb, 1, none⟩ = some (.int .i64 (k : Int)) := (Bk.grown hYA.out hg5 hqs.out).cell 1; have p5 : w5.cell? ⟨gL, k, none⟩ = some (.int .i64 (s.n : Int)) := (hg5.cell_far ⟨gL, k, none⟩ hlA.out (Ne.symm hql.out)).trans qA5.out; have ho5' := Lib.hid ho5; have hg5' := Lib.hid hg5; have hO5' := Lib.hid hO5; have hw5' := Lib.hid hw5; clear ho5 hg5 hO5 hw5)
        refine hK.out _ _ ?_ (fun hHeld => ?_)
        · first | exact ⟨p2, p3, p4, p5⟩ | exact ⟨(hO5'.out.set 1 _).cell 2, (World.cell?_setCell_far _ _ _ _ hnx2).trans p3, (World.cell?_setCell_far _ _ _ _ hnx2).trans p4, (World.cell?_setCell_far _ _ _ _ hngf2).trans p5⟩ | go_keep
        clear hK K
        try simp only [Act.put, List.setIfInBounds_toArray, List.set_cons_zero, List.set_cons_succ]
        refine wpAnyH_take (i := 13) (v := ?v13n21) rfl (by kernel_rfl) (by kernel_rfl) (by kernel_rfl) (fun _ _ _ h => h) (Or.inl ⟨by rfl, ?y13n21⟩) (by assumption) ?r13n21
        case y13n21 => (intro w hSw; (try dsimp only at hSw); go_simp; (try with_reducible rfl))
        simp only [Act.put, List.setIfInBounds_toArray, List.set_cons_zero, List.set_cons_succ]
        refine wpAnyH_ready (rs := [14]) (by kernel_rfl) (by simp) ?_
        refine AllReadyH.cons rfl (fun K hK => ?_) ?more14n22
        go_simp
        refine hK.out _ _ ?_ (fun hHeld => ?_)
        · first | exact ⟨p2, p3, p4, p5⟩ | exact ⟨(hO5'.out.set 1 _).cell 2, (World.cell?_setCell_far _ _ _ _ hnx2).trans p3, (World.cell?_setCell_far _ _ _ _ hnx2).trans p4, (World.cell?_setCell_far _ _ _ _ hngf2).trans p5⟩ | go_keep
        clear hK K
        try simp only [Act.put, List.setIfInBounds_toArray, List.set_cons_zero, List.set_cons_succ]
        refine wpAnyH_done (by kernel_rfl) ?_ _
        · skip
          have hf6 : Far (fun i => i = fb) w5 (w5.setCell ⟨fb, 1, none⟩ (.slice (some ⟨g2, 0, none⟩) (T.length + 1) c2)) := (Far.refl _ w5).set _ _ fun _ => rfl
          have hX6 : Bk (w5.setCell ⟨fb, 1, none⟩ (.slice (some ⟨g2, 0, none⟩) (T.length + 1) c2)) fb 70 #[.int .i64 ((s.n : Int) + 1), .slice (some ⟨g2, 0, none⟩) (T.length + 1) c2, .slice (some ⟨gL, 0, none⟩) 16 cL, .int .i64 (eI s.e)] := hO5'.out.set 1 _
          have hf5 : Far (fun i => (Value.slice qo T.length qc).ownBlock = some i) _ w5 := (Far.refl _ _).grown hg5'.out fun _ _ e => e
          have hM5 := RM.push hMA'.out hQA'.out hf5 ho5'.out
          have hM6 := hM5.box hO5'.out (by decide) (by decide) (by decide) hBf'.out hf6
          have hY6 := (Bk.grown hYA.out hg5'.out hqs.out).far' hf6 hnx
          have hA6 := Lib.hid (show Far (fun i => (Value.slice qo T.length qc).ownBlock = some i ∨ i = fb) W2 (w5.setCell ⟨fb, 1, none⟩ (.slice (some ⟨g2, 0, none⟩) (T.length + 1) c2)) from ((hWA'.out.mono (G := fun i => (Value.slice qo T.length qc).ownBlock = some i ∨ i = fb) fun _ _ q => q.elim).trans hf5 fun _ _ e => .inl e).trans hf6 fun _ _ e => .inr e)
          have hR5 := Lib.hid (show (Value.slice qo T.length qc).ownBlock ≠ some kR from fun e => own_ne hMA'.out.row (hR2'.out.far' hWA'.out id) (by decide) e)
          have hR6 := hR2'.out.far' hA6.out fun e => e.elim hR5.out hnf2
          have v0 : (w5.setCell ⟨fb, 1, none⟩ (.slice (some ⟨g2, 0, none⟩) (T.length + 1) c2)).cell? ⟨fb, 0, none⟩ = some (.int .i64 ((s.n : Int) + 1)) := hX6.cell 0
          have v1 : (w5.setCell ⟨fb, 1, none⟩ (.slice (some ⟨g2, 0, none⟩) (T.length + 1) c2)).cell? ⟨fb, 1, none⟩ = some (.slice (some ⟨g2, 0, none⟩) (T.length + 1) c2) := hX6.cell 1
          have v2 : (w5.setCell ⟨fb, 1, none⟩ (.slice (some ⟨g2, 0, none⟩) (T.length + 1) c2)).cell? ⟨fb, 2, none⟩ = some (.slice (some ⟨gL, 0, none⟩) 16 cL) := hX6.cell 2
          have v3 : (w5.setCell ⟨fb, 1, none⟩ (.slice (some ⟨g2, 0, none⟩) (T.length + 1) c2)).cell? ⟨fb, 3, none⟩ = some (.int .i64 (eI s.e)) := hX6.cell 3
          have v4 : (w5.setCell ⟨fb, 1, none⟩ (.slice (some ⟨g2, 0, none⟩) (T.length + 1) c2)).cell? ⟨sb, 1, none⟩ = some (.int .i64 (k : Int)) := hY6.cell 1
          have v5 : (w5.setCell ⟨fb, 1, none⟩ (.slice (some ⟨g2, 0, none⟩) (T.length + 1) c2)).cell? ⟨gL, k, none⟩ = some (.int .i64 (s.n : Int)) := (World.cell?_setCell_far _ _ _ _ hngf2).trans p5
          have hqw5 := Lib.hid (show ∀ i, (Value.slice (some ⟨g2, 0, none⟩) (T.length + 1) c2).ownBlock = some i → (Value.slice qo T.length qc).ownBlock = some i ∨ w.heap.size ≤ i from by
            intro i e
            have e : g2 = i := by simpa [Value.ownBlock] using e
            subst e
            rcases hw5'.out with h | h
            · exact .inl h
            · refine .inr ?_; have a1 := hF'.out.size; have a2 := hf12.out.size; have a3 := hWA'.out.size; omega)
          have hM6' := Lib.hid hM6
          have hR6' := Lib.hid hR6
          clear hf6 hX6 hf5 hM5 hM6 hY6 hR6 p2 p3 p4 p5 p9 u1 q1 q2 q3 q4 q5 ho5' hg5' hO5' hw5'
          generalize (w5.setCell ⟨fb, 1, none⟩ (.slice (some ⟨g2, 0, none⟩) (T.length + 1) c2)) = W6 at *
          have y0 : W6.cell? ⟨kR, 0, none⟩ = some (.int .i64 0) := hR6'.out.cell 0
          have y1 : W6.cell? ⟨kR, 1, none⟩ = some (.slice none 0 0) := hR6'.out.cell 1
          have y2 : W6.cell? ⟨kR, 2, none⟩ = some (.slice none 0 0) := hR6'.out.cell 2
          have y3 : W6.cell? ⟨kR, 3, none⟩ = some (.int .i64 0) := hR6'.out.cell 3
          have f0 : W6.frozen? ⟨kR, 0, none⟩ = false := hR6'.out.free 0
          have f1 : W6.frozen? ⟨kR, 1, none⟩ = false := hR6'.out.free 1
          have f2 : W6.frozen? ⟨kR, 2, none⟩ = false := hR6'.out.free 2
          have f3 : W6.frozen? ⟨kR, 3, none⟩ = false := hR6'.out.free 3
          go_upto_region 7 with fail
          go_region_held3 (fun w' => w'.cell? ⟨fb, 0, none⟩ = some (.int .i64 ((s.n : Int) + 1)) ∧ w'.cell? ⟨fb, 1, none⟩ = some (.slice (some ⟨g2, 0, none⟩) (T.length + 1) c2) ∧ w'.cell? ⟨fb, 2, none⟩ = some (.slice (some ⟨gL, 0, none⟩) 16 cL) ∧ w'.cell? ⟨fb, 3, none⟩ = some (.int .i64 (eI s.e)) ∧ w'.cell? ⟨sb, 1, none⟩ = some (.int .i64 (k : Int)) ∧ w'.cell? ⟨gL, k, none⟩ = some (.int .i64 (s.n : Int))) (go_keep) (fail)
          go_wp2_with fail
          obtain ⟨hB7, hM7, hS7⟩ := form_shut (.int .i64 ((s.n : Int) + 1)) (.slice (some ⟨g2, 0, none⟩) (T.length + 1) c2) (.slice (some ⟨gL, 0, none⟩) 16 cL) (.int .i64 (eI s.e)) (w1 := W6) hR6'.out hM6'.out (by have := hBf'.out; have := hsb'.out; have := hkR'.out; omega)
          have hM8 := Lib.hid (hM7.move (drew_far _))
          have hF8 := Lib.hid (((((hF'.out.mono (G := OF (.slice qo T.length qc) gL) fun _ _ q => q.elim).trans hf12.out fun i hi e => e.elim .inr fun e => by have := hqw.out.2.2; omega).trans hA6.out fun i hi e => e.elim .inl fun e => by have := hqw.out.2.2; omega).trans hS7 fun i hi e => by have := hqw.out.2.2; have := hsb'.out; have := hkR'.out; omega).trans (drew_far _) fun _ _ q => q.elim)
          clear v0 v1 v2 v3 v4 v5 y0 y1 y2 y3 f0 f1 f2 f3 hS7 hM7
          generalize ((((W6.setCell ⟨kR, 0, none⟩ (.int .i64 ((s.n : Int) + 1))).setCell ⟨kR, 1, none⟩ (.slice (some ⟨g2, 0, none⟩) (T.length + 1) c2)).setCell ⟨kR, 2, none⟩ (.slice (some ⟨gL, 0, none⟩) 16 cL)).setCell ⟨kR, 3, none⟩ (.int .i64 (eI s.e))) = W7 at *
          have c0 : W7.cell? ⟨kR, 0, none⟩ = some (.int .i64 ((s.n : Int) + 1)) := hB7.cell 0
          have c1 : W7.cell? ⟨kR, 1, none⟩ = some (.slice (some ⟨g2, 0, none⟩) (T.length + 1) c2) := hB7.cell 1
          have c2' : W7.cell? ⟨kR, 2, none⟩ = some (.slice (some ⟨gL, 0, none⟩) 16 cL) := hB7.cell 2
          have c3 : W7.cell? ⟨kR, 3, none⟩ = some (.int .i64 (eI s.e)) := hB7.cell 3
          exact bodyPost_ret (v := .tuple #[.agg #[.int .i64 ((s.n : Int) + 1), .slice (some ⟨g2, 0, none⟩) (T.length + 1) c2, .slice (some ⟨gL, 0, none⟩) 16 cL, .int .i64 (eI s.e)], .int .i64 (s.n : Int)]) (by simp [results, Try.f62, go_sem, c0, c1, c2', c3]) rfl ⟨_, _, by simp, hM8.out, hF8.out, hqw5.out⟩
        case more14n22 => exact AllReadyH.nil
        case more12n20 => exact AllReadyH.nil
        case more11n19 => exact AllReadyH.nil
        case more1n18 =>
          refine AllReadyH.cons rfl (fun K hK => ?_) ?more11n23
          go_simp
          refine hK.out _ _ ?_ (fun hHeld => ?_)
          · first | exact ⟨p2, p3, p4, p5⟩ | exact ⟨(hO5'.out.set 1 _).cell 2, (World.cell?_setCell_far _ _ _ _ hnx2).trans p3, (World.cell?_setCell_far _ _ _ _ hnx2).trans p4, (World.cell?_setCell_far _ _ _ _ hngf2).trans p5⟩ | go_keep
          clear hK K
          try simp only [Act.put, List.setIfInBounds_toArray, List.set_cons_zero, List.set_cons_succ]
          refine wpAnyH_ready (rs := [1]) (by kernel_rfl) (by simp) ?_
          refine AllReadyH.cons rfl (fun K hK => ?_) ?more1n24
          go_simp
          refine hK.out _ _ ?_ (fun hHeld => ?_)
          · first | exact ⟨p2, p3, p4, p5⟩ | exact ⟨(hO5'.out.set 1 _).cell 2, (World.cell?_setCell_far _ _ _ _ hnx2).trans p3, (World.cell?_setCell_far _ _ _ _ hnx2).trans p4, (World.cell?_setCell_far _ _ _ _ hngf2).trans p5⟩ | go_keep
          clear hK K
          try simp only [Act.put, List.setIfInBounds_toArray, List.set_cons_zero, List.set_cons_succ]
          refine wpAnyH_ready (rs := [12]) (by kernel_rfl) (by simp) ?_
          refine AllReadyH.cons rfl (fun K hK => ?_) ?more12n25
          (refine step_append_lies _ rfl (.tmp 31) (.tmp 41) 22 rfl B 44 pi pz 2 32 Try.underlying22 pi1 pi2 pi3 pi4 pi5 A7 (.slice qo T.length qc) T.length _ rfl B1.out ⟨W2.heap.size + 1, 0, none⟩ 1 1 [.int .i64 (s.n : Int), .slice (some ⟨W2.heap.size, 0, none⟩) 1 1] rfl rfl B7.out B3.out (by decide) B4 B5 B6 _ rfl ?_; intro g2 c2 w5 ho5 hg5 hw5 _; have hO5 := Bk.grown hXA.out hg5 hqk.out; have p2 : w5.cell? ⟨fb, 2, none⟩ = some (.slice (some ⟨gL, 0, none⟩) 16 cL) := hO5.cell 2; have u1 : w5.frozen? ⟨fb, 1, none⟩ = false := hO5.free 1; have p9 : w5.cell? ⟨fb, 1, none⟩ = some (.slice qo T.length qc) := hO5.cell 1; have p3 : w5.cell? ⟨sb, 0, none⟩ = some (.bool true) := (Bk.grown hYA.out hg5 hqs.out).cell 0; have p4 : w5.cell? ⟨sb, 1, none⟩ = some (.int .i64 (k : Int)) := (Bk.grown hYA.out hg5 hqs.out).cell 1; have p5 : w5.cell? ⟨gL, k, none⟩ = some (.int .i64 (s.n : Int)) := (hg5.cell_far ⟨gL, k, none⟩ hlA.out (Ne.symm hql.out)).trans qA5.out; have ho5' := Lib.hid ho5; have hg5' := Lib.hid hg5; have hO5' := Lib.hid hO5; have hw5' := Lib.hid hw5; clear ho5 hg5 hO5 hw5)
          refine hK.out _ _ ?_ (fun hHeld => ?_)
          · first | exact ⟨p2, p3, p4, p5⟩ | exact ⟨(hO5'.out.set 1 _).cell 2, (World.cell?_setCell_far _ _ _ _ hnx2).trans p3, (World.cell?_setCell_far _ _ _ _ hnx2).trans p4, (World.cell?_setCell_far _ _ _ _ hngf2).trans p5⟩ | go_keep
          clear hK K
          try simp only [Act.put, List.setIfInBounds_toArray, List.set_cons_zero, List.set_cons_succ]
          refine wpAnyH_take (i := 13) (v := ?v13n26) rfl (by kernel_rfl) (by kernel_rfl) (by kernel_rfl) (fun _ _ _ h => h) (Or.inl ⟨by rfl, ?y13n26⟩) (by assumption) ?r13n26
          case y13n26 => (intro w hSw; (try dsimp only at hSw); go_simp; (try with_reducible rfl))
          simp only [Act.put, List.setIfInBounds_toArray, List.set_cons_zero, List.set_cons_succ]
          refine wpAnyH_ready (rs := [14]) (by kernel_rfl) (by simp) ?_
          refine AllReadyH.cons rfl (fun K hK => ?_) ?more14n27
          go_simp
          refine hK.out _ _ ?_ (fun hHeld => ?_)
          · first | exact ⟨p2, p3, p4, p5⟩ | exact ⟨(hO5'.out.set 1 _).cell 2, (World.cell?_setCell_far _ _ _ _ hnx2).trans p3, (World.cell?_setCell_far _ _ _ _ hnx2).trans p4, (World.cell?_setCell_far _ _ _ _ hngf2).trans p5⟩ | go_keep
          clear hK K
          try simp only [Act.put, List.setIfInBounds_toArray, List.set_cons_zero, List.set_cons_succ]
          refine wpAnyH_done (by kernel_rfl) ?_ _
          · skip
            have hf6 : Far (fun i => i = fb) w5 (w5.setCell ⟨fb, 1, none⟩ (.slice (some ⟨g2, 0, none⟩) (T.length + 1) c2)) := (Far.refl _ w5).set _ _ fun _ => rfl
            have hX6 : Bk (w5.setCell ⟨fb, 1, none⟩ (.slice (some ⟨g2, 0, none⟩) (T.length + 1) c2)) fb 70 #[.int .i64 ((s.n : Int) + 1), .slice (some ⟨g2, 0, none⟩) (T.length + 1) c2, .slice (some ⟨gL, 0, none⟩) 16 cL, .int .i64 (eI s.e)] := hO5'.out.set 1 _
            have hf5 : Far (fun i => (Value.slice qo T.length qc).ownBlock = some i) _ w5 := (Far.refl _ _).grown hg5'.out fun _ _ e => e
            have hM5 := RM.push hMA'.out hQA'.out hf5 ho5'.out
            have hM6 := hM5.box hO5'.out (by decide) (by decide) (by decide) hBf'.out hf6
            have hY6 := (Bk.grown hYA.out hg5'.out hqs.out).far' hf6 hnx
            have hA6 := Lib.hid (show Far (fun i => (Value.slice qo T.length qc).ownBlock = some i ∨ i = fb) W2 (w5.setCell ⟨fb, 1, none⟩ (.slice (some ⟨g2, 0, none⟩) (T.length + 1) c2)) from ((hWA'.out.mono (G := fun i => (Value.slice qo T.length qc).ownBlock = some i ∨ i = fb) fun _ _ q => q.elim).trans hf5 fun _ _ e => .inl e).trans hf6 fun _ _ e => .inr e)
            have hR5 := Lib.hid (show (Value.slice qo T.length qc).ownBlock ≠ some kR from fun e => own_ne hMA'.out.row (hR2'.out.far' hWA'.out id) (by decide) e)
            have hR6 := hR2'.out.far' hA6.out fun e => e.elim hR5.out hnf2
            have v0 : (w5.setCell ⟨fb, 1, none⟩ (.slice (some ⟨g2, 0, none⟩) (T.length + 1) c2)).cell? ⟨fb, 0, none⟩ = some (.int .i64 ((s.n : Int) + 1)) := hX6.cell 0
            have v1 : (w5.setCell ⟨fb, 1, none⟩ (.slice (some ⟨g2, 0, none⟩) (T.length + 1) c2)).cell? ⟨fb, 1, none⟩ = some (.slice (some ⟨g2, 0, none⟩) (T.length + 1) c2) := hX6.cell 1
            have v2 : (w5.setCell ⟨fb, 1, none⟩ (.slice (some ⟨g2, 0, none⟩) (T.length + 1) c2)).cell? ⟨fb, 2, none⟩ = some (.slice (some ⟨gL, 0, none⟩) 16 cL) := hX6.cell 2
            have v3 : (w5.setCell ⟨fb, 1, none⟩ (.slice (some ⟨g2, 0, none⟩) (T.length + 1) c2)).cell? ⟨fb, 3, none⟩ = some (.int .i64 (eI s.e)) := hX6.cell 3
            have v4 : (w5.setCell ⟨fb, 1, none⟩ (.slice (some ⟨g2, 0, none⟩) (T.length + 1) c2)).cell? ⟨sb, 1, none⟩ = some (.int .i64 (k : Int)) := hY6.cell 1
            have v5 : (w5.setCell ⟨fb, 1, none⟩ (.slice (some ⟨g2, 0, none⟩) (T.length + 1) c2)).cell? ⟨gL, k, none⟩ = some (.int .i64 (s.n : Int)) := (World.cell?_setCell_far _ _ _ _ hngf2).trans p5
            have hqw5 := Lib.hid (show ∀ i, (Value.slice (some ⟨g2, 0, none⟩) (T.length + 1) c2).ownBlock = some i → (Value.slice qo T.length qc).ownBlock = some i ∨ w.heap.size ≤ i from by
              intro i e
              have e : g2 = i := by simpa [Value.ownBlock] using e
              subst e
              rcases hw5'.out with h | h
              · exact .inl h
              · refine .inr ?_; have a1 := hF'.out.size; have a2 := hf12.out.size; have a3 := hWA'.out.size; omega)
            have hM6' := Lib.hid hM6
            have hR6' := Lib.hid hR6
            clear hf6 hX6 hf5 hM5 hM6 hY6 hR6 p2 p3 p4 p5 p9 u1 q1 q2 q3 q4 q5 ho5' hg5' hO5' hw5'
            generalize (w5.setCell ⟨fb, 1, none⟩ (.slice (some ⟨g2, 0, none⟩) (T.length + 1) c2)) = W6 at *
            have y0 : W6.cell? ⟨kR, 0, none⟩ = some (.int .i64 0) := hR6'.out.cell 0
            have y1 : W6.cell? ⟨kR, 1, none⟩ = some (.slice none 0 0) := hR6'.out.cell 1
            have y2 : W6.cell? ⟨kR, 2, none⟩ = some (.slice none 0 0) := hR6'.out.cell 2
            have y3 : W6.cell? ⟨kR, 3, none⟩ = some (.int .i64 0) := hR6'.out.cell 3
            have f0 : W6.frozen? ⟨kR, 0, none⟩ = false := hR6'.out.free 0
            have f1 : W6.frozen? ⟨kR, 1, none⟩ = false := hR6'.out.free 1
            have f2 : W6.frozen? ⟨kR, 2, none⟩ = false := hR6'.out.free 2
            have f3 : W6.frozen? ⟨kR, 3, none⟩ = false := hR6'.out.free 3
            go_upto_region 7 with fail
            go_region_held3 (fun w' => w'.cell? ⟨fb, 0, none⟩ = some (.int .i64 ((s.n : Int) + 1)) ∧ w'.cell? ⟨fb, 1, none⟩ = some (.slice (some ⟨g2, 0, none⟩) (T.length + 1) c2) ∧ w'.cell? ⟨fb, 2, none⟩ = some (.slice (some ⟨gL, 0, none⟩) 16 cL) ∧ w'.cell? ⟨fb, 3, none⟩ = some (.int .i64 (eI s.e)) ∧ w'.cell? ⟨sb, 1, none⟩ = some (.int .i64 (k : Int)) ∧ w'.cell? ⟨gL, k, none⟩ = some (.int .i64 (s.n : Int))) (go_keep) (fail)
            go_wp2_with fail
            obtain ⟨hB7, hM7, hS7⟩ := form_shut (.int .i64 ((s.n : Int) + 1)) (.slice (some ⟨g2, 0, none⟩) (T.length + 1) c2) (.slice (some ⟨gL, 0, none⟩) 16 cL) (.int .i64 (eI s.e)) (w1 := W6) hR6'.out hM6'.out (by have := hBf'.out; have := hsb'.out; have := hkR'.out; omega)
            have hM8 := Lib.hid (hM7.move (drew_far _))
            have hF8 := Lib.hid (((((hF'.out.mono (G := OF (.slice qo T.length qc) gL) fun _ _ q => q.elim).trans hf12.out fun i hi e => e.elim .inr fun e => by have := hqw.out.2.2; omega).trans hA6.out fun i hi e => e.elim .inl fun e => by have := hqw.out.2.2; omega).trans hS7 fun i hi e => by have := hqw.out.2.2; have := hsb'.out; have := hkR'.out; omega).trans (drew_far _) fun _ _ q => q.elim)
            clear v0 v1 v2 v3 v4 v5 y0 y1 y2 y3 f0 f1 f2 f3 hS7 hM7
            generalize ((((W6.setCell ⟨kR, 0, none⟩ (.int .i64 ((s.n : Int) + 1))).setCell ⟨kR, 1, none⟩ (.slice (some ⟨g2, 0, none⟩) (T.length + 1) c2)).setCell ⟨kR, 2, none⟩ (.slice (some ⟨gL, 0, none⟩) 16 cL)).setCell ⟨kR, 3, none⟩ (.int .i64 (eI s.e))) = W7 at *
            have c0 : W7.cell? ⟨kR, 0, none⟩ = some (.int .i64 ((s.n : Int) + 1)) := hB7.cell 0
            have c1 : W7.cell? ⟨kR, 1, none⟩ = some (.slice (some ⟨g2, 0, none⟩) (T.length + 1) c2) := hB7.cell 1
            have c2' : W7.cell? ⟨kR, 2, none⟩ = some (.slice (some ⟨gL, 0, none⟩) 16 cL) := hB7.cell 2
            have c3 : W7.cell? ⟨kR, 3, none⟩ = some (.int .i64 (eI s.e)) := hB7.cell 3
            exact bodyPost_ret (v := .tuple #[.agg #[.int .i64 ((s.n : Int) + 1), .slice (some ⟨g2, 0, none⟩) (T.length + 1) c2, .slice (some ⟨gL, 0, none⟩) 16 cL, .int .i64 (eI s.e)], .int .i64 (s.n : Int)]) (by simp [results, Try.f62, go_sem, c0, c1, c2', c3]) rfl ⟨_, _, by simp, hM8.out, hF8.out, hqw5.out⟩
          case more14n27 => exact AllReadyH.nil
          case more12n25 => exact AllReadyH.nil
          case more1n24 => exact AllReadyH.nil
          case more11n23 => exact AllReadyH.nil
        case more9n16 => exact AllReadyH.nil
end
end Go.Proofs.Ytjkfieilaahejaa
