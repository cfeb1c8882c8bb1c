/-
  Helpers of the weak form: of the empty word, of a label.
-/
import Derived.Test.YtjkfieilaahejaaFormer14
import Derived.StillTailTactics
namespace Go.Proofs.Ytjkfieilaahejaa
open Go.RowKit
open Go.Maps (Keyed)
set_option linter.unusedVariables false
set_option linter.unusedSimpArgs false
theorem Fm.noq {w : World} {B fB cB mB : Nat} {av : Nat → Prop} {qv : Value} {T : List Tr} {s : Fs} (h : Fm w B fB cB mB av qv T s) {k : Nat} (hk : k < B) : qv.ownBlock ≠ some k := fun e => by have := (h.row.lt k e).1; omega
theorem Fm.lm {w : World} {B fB cB mB : Nat} {av : Nat → Prop} {qv : Value} {T : List Tr} {s : Fs} (h : Fm w B fB cB mB av qv T s) : mB < w.heap.size := by obtain ⟨c, k, hm, _⟩ := h.m; exact hm.lt
theorem noSym_bk {w : World} {k : Nat} {t : TypeId} {cs : Array Value} (h : Bk w k t cs) (ht : t ≠ 50) : NoSym w k := fun cs' fr e => by
  rw [show w.heap[k]? = _ from h] at e
  cases e
  exact ht rfl
/-- One more is counted. -/
theorem Fm.count {w : World} {B fB cB mB : Nat} {av : Nat → Prop} {qv : Value} {T : List Tr} {s : Fs} (h : Fm w B fB cB mB av qv T s) : Fm (w.setCell ⟨cB, 0, none⟩ (.int .i64 ((s.n + 1 : Nat) : Int))) B fB cB mB av qv T { s with n := s.n + 1 } := by
  have hf : Far (fun k => k = cB) w (w.setCell ⟨cB, 0, none⟩ (.int .i64 ((s.n + 1 : Nat) : Int))) := (Far.refl _ w).set _ _ fun _ => rfl
  exact {
    f := h.f.far' hf h.ne.1
    c := h.c.set 0 _
    m := by
      obtain ⟨c, k, hm, h2, h3⟩ := h.m
      exact ⟨c, k, hm.same (hf.block _ h.lm fun e => h.ne.2.2 e.symm), Nat.le_succ_of_le h2, h3⟩
    row := row_far h.row hf fun k e q => by subst q; exact h.noq h.lo.2.1 e
    bod := fun t ht => (h.bod t ht).go hf (fun k _ e => .inr (e ▸ noSym_bk h.c (by decide))) fun _ _ q => q
    pl := h.pl
    nf := h.nf
    nq := h.nq
    lo := h.lo
    ne := h.ne
    hi := Nat.le_trans h.hi hf.size }
theorem FM.count {w : World} {B fB cB mB : Nat} {av : Nat → Prop} {s : Fs} (h : FM w B fB cB mB av s) : FM (w.setCell ⟨cB, 0, none⟩ (.int .i64 ((s.n + 1 : Nat) : Int))) B fB cB mB av { s with n := s.n + 1 } := by
  obtain ⟨qv, T, h⟩ := h
  exact ⟨qv, T, h.count⟩
/-- The empty helper is set down. -/
theorem Fm.empty {w : World} {B fB cB mB : Nat} {av : Nat → Prop} {qv : Value} {T : List Tr} {s : Fs} (h : Fm w B fB cB mB av qv T s) (m : Nat) : Fm (w.setCell ⟨fB, 2, none⟩ (.int .i64 (m : Int))) B fB cB mB av qv T { s with e := some m } := by
  have hf : Far (fun k => k = fB) w (w.setCell ⟨fB, 2, none⟩ (.int .i64 (m : Int))) := (Far.refl _ w).set _ _ fun _ => rfl
  exact {
    f := h.f.set 2 _
    c := h.c.far' hf fun e => h.ne.1 e.symm
    m := by
      obtain ⟨c, k, hm, h2, h3⟩ := h.m
      exact ⟨c, k, hm.same (hf.block _ h.lm fun e => h.ne.2.1 e.symm), h2, h3⟩
    row := row_far h.row hf fun k e q => by subst q; exact h.noq h.lo.1 e
    bod := fun t ht => (h.bod t ht).go hf (fun k _ e => .inr (e ▸ noSym_bk h.f (by decide))) fun _ _ q => q
    pl := h.pl
    nf := h.nf
    nq := h.nq
    lo := h.lo
    ne := h.ne
    hi := Nat.le_trans h.hi hf.size }
theorem FM.empty {w : World} {B fB cB mB : Nat} {av : Nat → Prop} {s : Fs} (h : FM w B fB cB mB av s) (m : Nat) : FM (w.setCell ⟨fB, 2, none⟩ (.int .i64 (m : Int))) B fB cB mB av { s with e := some m } := by
  obtain ⟨qv, T, h⟩ := h
  exact ⟨qv, T, h.empty m⟩
theorem FM.cells {w : World} {B fB cB mB : Nat} {av : Nat → Prop} {s : Fs} (h : FM w B fB cB mB av s) :
    w.cell? ⟨fB, 0, none⟩ = some (.func (.func 33) #[.pointer (some ⟨cB, 0, none⟩)] #[]) ∧ w.cell? ⟨fB, 1, none⟩ = some (.map (some mB)) ∧ w.cell? ⟨fB, 2, none⟩ = some (.int .i64 (eI s.e)) ∧ Bk w cB 60 #[.int .i64 (s.n : Int)] ∧ w.frozen? ⟨fB, 2, none⟩ = false ∧ fB < w.heap.size ∧ (¬ av fB ∧ ¬ av cB ∧ ¬ av mB) ∧ fB ≠ cB := by
  obtain ⟨qv, T, h⟩ := h
  exact ⟨h.f.cell 0, h.f.cell 1, h.f.cell 2, h.c, h.f.free 2, h.f.lt, h.nf, h.ne.1⟩
def empF (s : Fs) : Fs × Nat := match s.e with
  | some m => (s, m)
  | none => ({ s with n := s.n + 1, e := some s.n, ps := s.ps ++ [((s.n : Int), [])] }, s.n)
section
set_option maxHeartbeats 4000000
set_option maxRecDepth 100000
theorem empty_any (B fB cB mB : Nat) (av : Nat → Prop) (s : Fs) (w : World) (hM : FM w B fB cB mB av s) (hps : s.ps.length ≤ 1099511627776) (hn : s.n ≤ 1099511627776) (hav : ∀ k, av k → k < w.heap.size) :
    Calls Try.prog 57 #[.pointer (some ⟨fB, 0, none⟩)] w fun e w' => e = .returned (.agg #[.bool false, .int .i64 ((empF s).2 : Int)]) ∧ FM w' B fB cB mB av (empF s).1 ∧ Far (fun k => ¬ av k) w w' := by
  obtain ⟨kR, hkR⟩ : ∃ k, k = w.heap.size := ⟨_, rfl⟩
  obtain ⟨W, hW⟩ : ∃ W, W = w.alloc (.cells #[.bool false, .int .i64 0] 50) := ⟨_, rfl⟩
  have hF : Far (fun _ => False) w W := hW ▸ alloc_far0 _ _
  have hR : Bk W kR 50 #[.bool false, .int .i64 0] := hW ▸ Bk.new hkR
  have hMW : FM W B fB cB mB (fun k => av k ∨ k = kR) s := by
    have h1 := hM.go (av' := av) hF (fun _ _ q => q.elim) fun _ _ q => q
    exact hM.go (av' := fun k => av k ∨ k = kR) hF (fun _ _ q => q.elim) fun k hk q => q.elim id fun e => by omega
  have hav2 : ∀ k, (av k ∨ k = kR) → k < W.heap.size := fun k q => q.elim (fun q => Nat.lt_of_lt_of_le (hav k q) hF.size) fun e => e ▸ hR.lt
  obtain ⟨c0, c1, c2, cC, z2, lf, nf, nfc⟩ := hMW.cells
  have hkR' := Lib.hid hkR
  have hW' := Lib.hid hW
  have hF' := Lib.hid hF
  have hR' := Lib.hid hR
  have hMW' := Lib.hid hMW
  have hav' := Lib.hid hav2
  have hav0 := Lib.hid hav
  have r0 : W.cell? ⟨kR, 0, none⟩ = some (.bool false) := hR.cell 0
  have r1 : W.cell? ⟨kR, 1, none⟩ = some (.int .i64 0) := hR.cell 1
  have y0 : W.frozen? ⟨kR, 0, none⟩ = false := hR.free 0
  have y1 : W.frozen? ⟨kR, 1, none⟩ = false := hR.free 1
  clear hkR hW hF hR hMW hM hav hav2 nf
  cases hse : s.e with
  | some m =>
    have hemp : empF s = (s, m) := by unfold empF; rw [hse]
    rw [hemp]
    rw [hse, show eI (some m) = (m : Int) from rfl] at c2
    have d0 : decide ((m : Int) < 0) = false := by rw [decide_eq_false_iff_not]; omega
    clear hse hemp c0 c1 cC
    go_enter Try.func57, Try.ntmps57
    go_upto_region 1 with fail
    rw [← hkR'.out, ← hW'.out]
    go_wp2_with fail
    have hS5 := (Far.refl (fun k => k = kR) W).set ⟨kR, 0, none⟩ (.bool false) (fun _ => rfl)
    have hS6 := hS5.set ⟨kR, 1, none⟩ (.int .i64 (m : Int)) (fun _ => rfl)
    have hB6 : Bk ((W.setCell ⟨kR, 0, none⟩ (.bool false)).setCell ⟨kR, 1, none⟩ (.int .i64 (m : Int))) kR 50 #[.bool false, .int .i64 (m : Int)] := (hR'.out.set 0 (.bool false)).set 1 _
    have hM6 := Lib.hid (hMW'.out.go (av' := av) hS6 (fun k _ e => .inr e) fun k _ q => .inl q)
    have hF6 := Lib.hid ((hF'.out.mono (G := fun k => ¬ av k) fun _ _ q => q.elim).trans hS6 fun k hk e => by subst e; intro q; have := hav0.out _ q; have := hkR'.out; omega)
    clear r0 r1 y0 y1 hS5 hS6 c2 z2
    generalize ((W.setCell ⟨kR, 0, none⟩ (.bool false)).setCell ⟨kR, 1, none⟩ (.int .i64 (m : Int))) = W6 at *
    have c0 : W6.cell? ⟨kR, 0, none⟩ = some (.bool false) := hB6.cell 0
    have c1 : W6.cell? ⟨kR, 1, none⟩ = some (.int .i64 (m : Int)) := hB6.cell 1
    exact bodyPost_ret (v := .agg #[.bool false, .int .i64 (m : Int)]) (by simp [results, Try.f57, go_sem, c0, c1]) rfl ⟨rfl, hM6.out, hF6.out⟩
  | none =>
    have hemp : empF s = ({ s with n := s.n + 1, e := some s.n, ps := s.ps ++ [((s.n : Int), [])] }, s.n) := by unfold empF; rw [hse]
    rw [hemp]
    rw [hse, show eI none = (-1 : Int) from rfl] at c2
    have NX := next_any cB s.n W cC hn
    have hMc := hMW'.out.count
    have hfc := (Far.refl (fun k => k = cB) W).set ⟨cB, 0, none⟩ (.int .i64 ((s.n + 1 : Nat) : Int)) (fun _ => rfl)
    obtain ⟨Wc, hWc⟩ : ∃ Wc, Wc = W.setCell ⟨cB, 0, none⟩ (.int .i64 ((s.n + 1 : Nat) : Int)) := ⟨_, rfl⟩
    rw [← hWc] at NX hMc hfc
    have hMe := hMc.empty s.n
    have hfe := (Far.refl (fun k => k = fB) Wc).set ⟨fB, 2, none⟩ (.int .i64 (s.n : Int)) (fun _ => rfl)
    obtain ⟨We, hWe⟩ : ∃ We, We = Wc.setCell ⟨fB, 2, none⟩ (.int .i64 (s.n : Int)) := ⟨_, rfl⟩
    rw [← hWe] at hMe hfe
    obtain ⟨_, _, e2', _, ez2, elf, _, _⟩ := hMe.cells
    obtain ⟨_, _, b2, _, bz2, blf, _, _⟩ := hMc.cells
    have e2 : We.cell? ⟨fB, 2, none⟩ = some (.int .i64 (s.n : Int)) := e2'
    clear e2'
    have hfWe : Far (fun k => ¬ (av k ∨ k = kR)) W We := (hfc.mono (G := fun k => ¬ (av k ∨ k = kR)) fun k _ e => e ▸ hMW'.out.cells.2.2.2.2.2.2.1.2.1).trans hfe fun k _ e => e ▸ hMW'.out.cells.2.2.2.2.2.2.1.1
    have AD := add_any B fB cB mB (fun k => av k ∨ k = kR) { s with n := s.n + 1, e := some s.n } (s.n : Int) (.slice none 0 0) [] We hMe (FB.nil _ _) hps fun k q => Nat.lt_of_lt_of_le (hav'.out k q) hfWe.size
    have hWc' := Lib.hid hWc
    have hWe' := Lib.hid hWe
    have hfWe' := Lib.hid hfWe
    clear hse hemp c1 cC hMc hfc hWc hMe hfe hWe hfWe hps r0 r1 y0 y1
    go_enter Try.func57, Try.ntmps57
    go_upto_region 1 with fail
    rw [← hkR'.out, ← hW'.out]
    go_wp2_with fail
    refine NX.mono ?_
    rintro e w' ⟨rfl, rfl⟩
    clear NX c0 c2 z2
    go_upto_region 3 with fail
    rw [← hWe'.out]
    go_wp2_with fail
    refine AD.mono ?_
    rintro e w9 ⟨rfl, hM9, hf9⟩
    have hF9 := hfWe'.out.trans hf9 fun k _ q => q
    have hR9 := hR'.out.far' hF9 fun q => q (.inr rfl)
    obtain ⟨_, _, g2', _, _, _, _, _⟩ := hM9.cells
    have g2 : w9.cell? ⟨fB, 2, none⟩ = some (.int .i64 (s.n : Int)) := g2'
    have r0 : w9.cell? ⟨kR, 0, none⟩ = some (.bool false) := hR9.cell 0
    have r1 : w9.cell? ⟨kR, 1, none⟩ = some (.int .i64 0) := hR9.cell 1
    have y0 : w9.frozen? ⟨kR, 0, none⟩ = false := hR9.free 0
    have y1 : w9.frozen? ⟨kR, 1, none⟩ = false := hR9.free 1
    have hM9' := Lib.hid hM9
    have hR9' := Lib.hid hR9
    have hF9' := Lib.hid hF9
    clear AD hM9 hf9 hF9 hR9 g2' e2 ez2 elf bz2 blf b2
    go_wp2_with fail
    have hS5 := (Far.refl (fun k => k = kR) w9).set ⟨kR, 0, none⟩ (.bool false) (fun _ => rfl)
    have hS6 := hS5.set ⟨kR, 1, none⟩ (.int .i64 (s.n : Int)) (fun _ => rfl)
    have hB6 : Bk ((w9.setCell ⟨kR, 0, none⟩ (.bool false)).setCell ⟨kR, 1, none⟩ (.int .i64 (s.n : Int))) kR 50 #[.bool false, .int .i64 (s.n : Int)] := (hR9'.out.set 0 (.bool false)).set 1 _
    have hM6 := Lib.hid (hM9'.out.go (av' := av) hS6 (fun k _ e => .inr e) fun k _ q => .inl q)
    have hF6 := Lib.hid (((hF'.out.mono (G := fun k => ¬ av k) fun _ _ q => q.elim).trans hF9'.out fun k _ q p => q (.inl p)).trans hS6 fun k hk e => by subst e; intro q; have := hav0.out _ q; have := hkR'.out; omega)
    clear r0 r1 y0 y1 hS5 hS6 g2
    generalize ((w9.setCell ⟨kR, 0, none⟩ (.bool false)).setCell ⟨kR, 1, none⟩ (.int .i64 (s.n : Int))) = W6 at *
    have c0 : W6.cell? ⟨kR, 0, none⟩ = some (.bool false) := hB6.cell 0
    have c1 : W6.cell? ⟨kR, 1, none⟩ = some (.int .i64 (s.n : Int)) := hB6.cell 1
    exact bodyPost_ret (v := .agg #[.bool false, .int .i64 (s.n : Int)]) (by simp [results, Try.f57, go_sem, c0, c1]) rfl ⟨rfl, hM6.out, hF6.out⟩
end
end Go.Proofs.Ytjkfieilaahejaa
