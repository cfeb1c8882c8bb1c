/-
  The helper of a label.
-/
import Derived.Test.YtjkfieilaahejaaHelper14
namespace Go.Proofs.Ytjkfieilaahejaa
open Go.RowKit
open Go.Maps (Keyed)
set_option linter.unusedVariables false
set_option linter.unusedSimpArgs false
def updL (lab : Nat → Option Nat) (k m : Nat) : Nat → Option Nat := fun j => if j = k then some m else lab j
theorem Fm.label {w w' : World} {B fB cB mB : Nat} {av : Nat → Prop} {qv : Value} {T : List Tr} {s : Fs} {kk : Nat} (h : Fm w B fB cB mB av qv T s) (hf : Far (fun k => k = cB ∨ k = mB) w w') (hc : Bk w' cB 60 #[.int .i64 ((s.n + 1 : Nat) : Int)])
    (hm : ∃ c k, Tally w' 3 mB k c ∧ k ≤ s.n + 1 ∧ ∀ j : Nat, c (.int .i64 (j : Int)) = oI (updL s.lab kk s.n j)) : Fm w' B fB cB mB av qv T { s with n := s.n + 1, lab := updL s.lab kk s.n } := by
  exact {
    f := h.f.far' hf fun q => q.elim h.ne.1 h.ne.2.1
    c := hc
    m := hm
    row := row_far h.row hf fun k e q => q.elim (fun q => h.noq h.lo.2.1 (q ▸ e)) fun q => h.noq h.lo.2.2 (q ▸ e)
    bod := fun t ht => (h.bod t ht).go hf (fun k _ e => .inr (e.elim (fun e => e ▸ noSym_bk h.c (by decide)) fun e => by
      obtain ⟨c, n, h1, _⟩ := h.m
      exact fun cs fr q => h1.notCells (e ▸ q))) fun _ _ q => q
    pl := h.pl
    nf := h.nf
    nq := h.nq
    lo := h.lo
    ne := h.ne
    hi := Nat.le_trans h.hi hf.size }
def labF (s : Fs) (k : Nat) : Fs × Nat := match s.lab k with
  | some m => (s, m)
  | none => ({ s with n := s.n + 1, lab := updL s.lab k s.n, ps := s.ps ++ [((s.n : Int), [(true, (k : Int))])] }, s.n)
section
set_option maxHeartbeats 4000000
set_option maxRecDepth 100000
theorem label_any (B fB cB mB : Nat) (av : Nat → Prop) (s : Fs) (kk : Nat) (w : World) (hM : FM w B fB cB mB av s) (hk : kk < 16) (hps : s.ps.length ≤ 1099511627776) (hn : s.n ≤ 1099511627776) (hav : ∀ k, av k → k < w.heap.size) :
    Calls Try.prog 58 #[.pointer (some ⟨fB, 0, none⟩), .agg #[.bool true, .int .i64 (kk : Int)]] w fun e w' => e = .returned (.agg #[.bool false, .int .i64 ((labF s kk).2 : Int)]) ∧ FM w' B fB cB mB av (labF s kk).1 ∧ Far (fun k => ¬ av k) w w' := by
  obtain ⟨h0, hh0⟩ : ∃ k, k = w.heap.size := ⟨_, rfl⟩
  obtain ⟨kR, hkR⟩ : ∃ k, k = h0 + 1 := ⟨_, rfl⟩
  obtain ⟨W, hW⟩ : ∃ W, W = (w.alloc (.cells #[.bool true, .int .i64 (kk : Int)] 50)).alloc (.cells #[.bool false, .int .i64 0] 50) := ⟨_, rfl⟩
  have hF : Far (fun _ => False) w W := hW ▸ ((Far.refl _ w).alloc _).alloc _
  have hA : Bk W h0 50 #[.bool true, .int .i64 (kk : Int)] := hW ▸ (Bk.new hh0).alloc _
  have hR : Bk W kR 50 #[.bool false, .int .i64 0] := hW ▸ Bk.new (by simp [hkR, hh0])
  obtain ⟨av2, hav2d⟩ : ∃ av2 : Nat → Prop, av2 = fun k => av k ∨ k = h0 ∨ k = kR := ⟨_, rfl⟩
  have a2 : ∀ k, av k → av2 k := fun k q => hav2d ▸ .inl q
  have a2h : av2 h0 := hav2d ▸ .inr (.inl rfl)
  have a2R : av2 kR := hav2d ▸ .inr (.inr rfl)
  have hMW : FM W B fB cB mB av2 s := hM.go (av' := av2) hF (fun _ _ q => q.elim) fun k hk q => by
    rw [hav2d] at q
    exact q.elim id fun e => by omega
  have hav2 : ∀ k, av2 k → k < W.heap.size := fun k q => by
    rw [hav2d] at q
    exact q.elim (fun q => Nat.lt_of_lt_of_le (hav k q) hF.size) fun e => e.elim (fun e => e ▸ hA.lt) fun e => e ▸ hR.lt
  obtain ⟨c0, c1, c2, cC, z2, lf, nf, nfc⟩ := hMW.cells
  have hh0' := Lib.hid hh0
  have hkR' := Lib.hid hkR
  have hW' := Lib.hid hW
  have hF' := Lib.hid hF
  have hA' := Lib.hid hA
  have hR' := Lib.hid hR
  have hMW' := Lib.hid hMW
  have hav' := Lib.hid hav2
  have hav0 := Lib.hid hav
  have a2' := Lib.hid a2
  have nf' := Lib.hid nf
  have a0 : W.cell? ⟨h0, 0, none⟩ = some (.bool true) := hA.cell 0
  have a1 : W.cell? ⟨h0, 1, none⟩ = some (.int .i64 (kk : Int)) := hA.cell 1
  have r0 : W.cell? ⟨kR, 0, none⟩ = some (.bool false) := hR.cell 0
  have r1 : W.cell? ⟨kR, 1, none⟩ = some (.int .i64 0) := hR.cell 1
  have y0 : W.frozen? ⟨kR, 0, none⟩ = false := hR.free 0
  have y1 : W.frozen? ⟨kR, 1, none⟩ = false := hR.free 1
  have hkey : keyOf Try.prog 3 (.int .i64 (kk : Int)) = some (.int .i64 (kk : Int)) := key_int (WalkArith.wf_i64 (by omega))
  have LK := Lib.hid (fun (q : Nat) (m : Option Nat) (hl : s.lab kk = m) => (show (Instr.lookup 63 (.map (some mB)) (.int .i64 (kk : Int)) true).run Try.prog (W.drewN q) = .ok (.tuple #[.int .i64 ((oI m).getD 0), .bool (oI m).isSome]) (W.drewN q) by
    obtain ⟨qv, T, hm⟩ := hMW'.out
    obtain ⟨c, k, h1, _, h3⟩ := hm.m
    have := (h1.drewN q).look_ok law_int Try.underlying63 hkey
    rw [h3, hl] at this
    exact this))
  have hkey' := Lib.hid hkey
  have hdd : ∀ q, Far (fun _ => False) W (W.drewN q) := fun q => (Far.refl _ W).drewN q
  have hdd' := Lib.hid hdd
  clear hh0 hkR hW hF hA hR hMW hM hav hav2 nf hav2d a2 hkey hdd
  cases hse : s.lab kk with
  | some m =>
    have hlab : labF s kk = (s, m) := by unfold labF; rw [hse]
    rw [hlab]
    have LK1 : ∀ q : Nat, (Instr.lookup 63 (.map (some mB)) (.int .i64 (kk : Int)) true).run Try.prog (W.drewN q) = .ok (.tuple #[.int .i64 (m : Int), .bool true]) (W.drewN q) := fun q => LK.out q _ hse
    clear hse hlab c0 cC
    go_enter Try.func58, Try.ntmps58
    go_upto_region 1 with fail
    rw [← hh0'.out, ← hkR'.out, ← hW'.out]
    go_quiet (fail)
    go_wp2_with fail
    have hB1 : Bk (W.drewN nq) kR 50 #[.bool false, .int .i64 0] := hR'.out.far' (hdd'.out nq) id
    have hS5 := (Far.refl (fun k => k = kR) (W.drewN nq)).set ⟨kR, 0, none⟩ (.bool false) (fun _ => rfl)
    have hS6 := hS5.set ⟨kR, 1, none⟩ (.int .i64 (m : Int)) (fun _ => rfl)
    have hB6 : Bk (((W.drewN nq).setCell ⟨kR, 0, none⟩ (.bool false)).setCell ⟨kR, 1, none⟩ (.int .i64 (m : Int))) kR 50 #[.bool false, .int .i64 (m : Int)] := (hB1.set 0 (.bool false)).set 1 _
    have hM6 := Lib.hid ((hMW'.out.move (hdd'.out nq)).go (av' := av) hS6 (fun k _ e => e ▸ a2R) fun k _ q => a2'.out k q)
    have hF6 := Lib.hid (((hF'.out.then (hdd'.out nq)).mono (G := fun k => ¬ av k) fun _ _ q => q.elim).trans hS6 fun k hk e => by subst e; intro q; have := hav0.out _ q; have := hkR'.out; have := hh0'.out; omega)
    clear r0 r1 y0 y1 hS5 hS6 LK1 a0 a1 c1 c2 z2
    generalize (((W.drewN nq).setCell ⟨kR, 0, none⟩ (.bool false)).setCell ⟨kR, 1, none⟩ (.int .i64 (m : Int))) = W6 at *
    have c0 : W6.cell? ⟨kR, 0, none⟩ = some (.bool false) := hB6.cell 0
    have c1 : W6.cell? ⟨kR, 1, none⟩ = some (.int .i64 (m : Int)) := hB6.cell 1
    exact bodyPost_ret (v := .agg #[.bool false, .int .i64 (m : Int)]) (by simp [results, Try.f58, go_sem, c0, c1]) rfl ⟨rfl, hM6.out, hF6.out⟩
  | none =>
    have hlab : labF s kk = ({ s with n := s.n + 1, lab := updL s.lab kk s.n, ps := s.ps ++ [((s.n : Int), [(true, (kk : Int))])] }, s.n) := by unfold labF; rw [hse]
    rw [hlab]
    have LK1 : ∀ q : Nat, (Instr.lookup 63 (.map (some mB)) (.int .i64 (kk : Int)) true).run Try.prog (W.drewN q) = .ok (.tuple #[.int .i64 0, .bool false]) (W.drewN q) := fun q => LK.out q _ hse
    have hse' := Lib.hid hse
    clear hse hlab cC
    go_enter Try.func58, Try.ntmps58
    go_upto_region 1 with fail
    rw [← hh0'.out, ← hkR'.out, ← hW'.out]
    go_quiet (fail)
    clear LK1
    obtain ⟨Wq, hWq⟩ : ∃ Wq, Wq = W.drewN nq := ⟨_, rfl⟩
    have hfq : Far (fun _ => False) W Wq := hWq ▸ hdd'.out nq
    have hMq := hMW'.out.move hfq
    obtain ⟨_, m1, _, mC, _, _, _, _⟩ := hMq.cells
    have NX := next_any cB s.n Wq mC hn
    have f0 : Wq.cell? ⟨fB, 0, none⟩ = some (.func (.func 33) #[.pointer (some ⟨cB, 0, none⟩)] #[]) := hMq.cells.1
    have hfc := (Far.refl (fun k => k = cB) Wq).set ⟨cB, 0, none⟩ (.int .i64 ((s.n + 1 : Nat) : Int)) (fun _ => rfl)
    obtain ⟨Wc, hWc⟩ : ∃ Wc, Wc = Wq.setCell ⟨cB, 0, none⟩ (.int .i64 ((s.n + 1 : Nat) : Int)) := ⟨_, rfl⟩
    rw [← hWc] at NX hfc
    have hMq' := Lib.hid hMq
    have hfq' := Lib.hid hfq
    have hfc' := Lib.hid hfc
    have hWc' := Lib.hid hWc
    have hCc : Hid (Bk Wc cB 60 #[.int .i64 ((s.n + 1 : Nat) : Int)]) := Lib.hid (hWc ▸ mC.set 0 _)
    rw [← hWq]
    clear hMq hfq hfc hWq hWc mC m1 c0 c1 c2 z2 a0 a1 r0 r1 y0 y1
    go_wp2_with fail
    refine NX.mono ?_
    rintro e w' ⟨rfl, hw'⟩
    rw [hw']
    clear hw' NX f0
    have hA1 := (hA'.out.far' hfq'.out id).far' hfc'.out fun e => (hMq'.out.cells.2.2.2.2.2.2.1.2.1) (e ▸ a2h)
    have hR1 := (hR'.out.far' hfq'.out id).far' hfc'.out fun e => (hMq'.out.cells.2.2.2.2.2.2.1.2.1) (e ▸ a2R)
    have p1 : Wc.cell? ⟨fB, 1, none⟩ = some (.map (some mB)) := (cell_eq (hfc'.out.block _ hMq'.out.cells.2.2.2.2.2.1 nfc)).trans hMq'.out.cells.2.1
    have a1 : Wc.cell? ⟨h0, 1, none⟩ = some (.int .i64 (kk : Int)) := hA1.cell 1
    have hfB := hMq'.out.cells.2.2.2.2.2.1
    have l1 : fB < Wc.heap.size := Nat.lt_of_lt_of_le hfB hfc'.out.size
    have l2 : h0 < Wc.heap.size := hA1.lt
    obtain ⟨W2, hput, hM2, hf2, hg2⟩ : ∃ W2, (Instr.mapUpdate 63 (.map (some mB)) (.int .i64 (kk : Int)) (.int .i64 (s.n : Int))).run Try.prog Wc.drew = .ok () W2 ∧ FM W2 B fB cB mB av2 { s with n := s.n + 1, lab := updL s.lab kk s.n } ∧ Far (fun k => k = cB ∨ k = mB) Wq W2 ∧ Far (fun k => k = mB) Wc W2 := by
      obtain ⟨qv, T, hm⟩ := hMq'.out
      obtain ⟨c, k, h1, h2, h3⟩ := hm.m
      have hTc : Tally Wc 3 mB k c := h1.same (hfc'.out.block _ hm.lm fun e => hm.ne.2.2 e.symm)
      obtain ⟨W2, hput, hT2, hg2⟩ := (hTc.drew).put law_int Try.underlying63 (by unfold maxLen; omega) hkey'.out (x := s.n) (WalkArith.wf_i64 (by omega))
      have hfg : Far (fun k => k = mB) Wc W2 := ((Far.refl (fun k => k = mB) Wc).drew).trans ((Far.refl (fun k => k = mB) Wc.drew).grown hg2 fun k _ e => (Option.some.inj e).symm) fun _ _ q => q
      have hfw : Far (fun k => k = cB ∨ k = mB) Wq W2 := (hfc'.out.mono (G := fun k => k = cB ∨ k = mB) fun k _ e => .inl e).trans hfg fun k _ e => .inr e
      refine ⟨W2, hput, ⟨qv, T, hm.label hfw (hCc.out.far' hfg hm.ne.2.2) ⟨_, k + 1, hT2, by omega, fun j => ?_⟩⟩, hfw, hfg⟩
      unfold updL
      by_cases e : j = kk
      · subst e; rw [putAt_same, if_pos rfl]; rfl
      · rw [putAt_other, h3, if_neg e]
        intro q
        injection q with _ q
        omega
    have hA2 := hA1.far' hg2 fun e => (hM2.cells.2.2.2.2.2.2.1.2.2) (e ▸ a2h)
    have hR2 := hR1.far' hg2 fun e => (hM2.cells.2.2.2.2.2.2.1.2.2) (e ▸ a2R)
    have hfW2 : Far (fun k => ¬ av2 k) W W2 := (hfq'.out.mono (G := fun k => ¬ av2 k) fun _ _ q => q.elim).trans hf2 fun k _ e => e.elim (fun e => e ▸ hM2.cells.2.2.2.2.2.2.1.2.1) fun e => e ▸ hM2.cells.2.2.2.2.2.2.1.2.2
    have hav3 : ∀ k, av2 k → k < W2.heap.size := fun k q => Nat.lt_of_lt_of_le (hav'.out k q) hfW2.size
    have AD := add_any B fB cB mB av2 { s with n := s.n + 1, lab := updL s.lab kk s.n } (s.n : Int) (.slice (some ⟨W2.heap.size, 0, none⟩) 1 1) [(true, (kk : Int))] (W2.alloc (.cells #[.bool true, .int .i64 (kk : Int)] 50)) (hM2.move (alloc_far0 _ _)) (FB.new W2 av2 [(true, (kk : Int))] hav3) hps fun k q => by have := hav3 k q; simp; omega
    have b0 : W2.cell? ⟨h0, 0, none⟩ = some (.bool true) := hA2.cell 0
    have b1 : W2.cell? ⟨h0, 1, none⟩ = some (.int .i64 (kk : Int)) := hA2.cell 1
    have hR2' := Lib.hid hR2
    have hfW2' := Lib.hid (hfW2.trans ((alloc_far0 W2 (.cells #[.bool true, .int .i64 (kk : Int)] 50)).mono (G := fun k => ¬ av2 k) fun _ _ q => q.elim) fun _ _ q => q)
    have hA1' := Lib.hid hA1
    clear hA1 hR1 hM2 hf2 hg2 hA2 hR2 hfW2 hav3 hps
    go_upto_region 4 with fail
    go_still_tail 7, (by kernel_rfl)
    change wpList _ _ _ _ _ Wc.drew
    clear p1 a1
    go_wp2_with fail
    refine AD.mono ?_
    rintro e w9 ⟨rfl, hM9, hf9⟩
    have hF9 := hfW2'.out.trans hf9 fun k _ q => q
    have hR9 := (hR2'.out.alloc (.cells #[.bool true, .int .i64 (kk : Int)] 50)).far' hf9 fun q => q a2R
    have r0 : w9.cell? ⟨kR, 0, none⟩ = some (.bool false) := hR9.cell 0
    have r1 : w9.cell? ⟨kR, 1, none⟩ = some (.int .i64 0) := hR9.cell 1
    have y0 : w9.frozen? ⟨kR, 0, none⟩ = false := hR9.free 0
    have y1 : w9.frozen? ⟨kR, 1, none⟩ = false := hR9.free 1
    have hM9' := Lib.hid hM9
    have hR9' := Lib.hid hR9
    have hF9' := Lib.hid hF9
    clear AD hM9 hf9 hF9 hR9 b0 b1 hput
    go_wp2_with fail
    have hS5 := (Far.refl (fun k => k = kR) w9).set ⟨kR, 0, none⟩ (.bool false) (fun _ => rfl)
    have hS6 := hS5.set ⟨kR, 1, none⟩ (.int .i64 (s.n : Int)) (fun _ => rfl)
    have hB6 : Bk ((w9.setCell ⟨kR, 0, none⟩ (.bool false)).setCell ⟨kR, 1, none⟩ (.int .i64 (s.n : Int))) kR 50 #[.bool false, .int .i64 (s.n : Int)] := (hR9'.out.set 0 (.bool false)).set 1 _
    have hM6 := Lib.hid (hM9'.out.go (av' := av) hS6 (fun k _ e => e ▸ a2R) fun k _ q => a2'.out k q)
    have hF6 := Lib.hid (((hF'.out.mono (G := fun k => ¬ av k) fun _ _ q => q.elim).trans hF9'.out fun k _ q p => q (a2'.out k p)).trans hS6 fun k hk e => by subst e; intro q; have := hav0.out _ q; have := hkR'.out; have := hh0'.out; omega)
    clear r0 r1 y0 y1 hS5 hS6
    generalize ((w9.setCell ⟨kR, 0, none⟩ (.bool false)).setCell ⟨kR, 1, none⟩ (.int .i64 (s.n : Int))) = W6 at *
    have c0 : W6.cell? ⟨kR, 0, none⟩ = some (.bool false) := hB6.cell 0
    have c1 : W6.cell? ⟨kR, 1, none⟩ = some (.int .i64 (s.n : Int)) := hB6.cell 1
    exact bodyPost_ret (v := .agg #[.bool false, .int .i64 (s.n : Int)]) (by simp [results, Try.f58, go_sem, c0, c1]) rfl ⟨rfl, hM6.out, hF6.out⟩
end
end Go.Proofs.Ytjkfieilaahejaa
