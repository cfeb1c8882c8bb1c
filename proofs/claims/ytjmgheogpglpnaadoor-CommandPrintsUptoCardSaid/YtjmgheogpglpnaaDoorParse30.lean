/-
  The program's Parse; the verbs whose lines hold names alone; what the laws ask first.
-/
import Derived.Test.YtjmgheogpglpnaaDoorRead30
namespace Go.Proofs.YtjmgheogpglpnaaDoor
open Go.RowKit
set_option linter.unusedVariables false
set_option linter.unusedSimpArgs false
/-- What a line is, its length counted. -/
def parseL (l : Tx) : Nat ⊕ Cm := if 2064 < l.length then .inl 3 else parseF l
theorem read_any (L : Nat → Nat → World → Prop) (l : Tx) (w : World) (hs : l.length ≤ 140737488351232) (hR : verbOf (cutT l).1 ≠ 0 → ReadsV L (verbOf (cutT l).1)) (hL : ∀ kr kc W, Far (fun k => w.heap.size ≤ k) w W → w.heap.size ≤ kr → w.heap.size ≤ kc → L kr kc W) : Calls Tryd.prog 20 #[st l] w (PPost w (parseF l)) := by
  by_cases hv : verbOf (cutT l).1 = 0
  · have : parseF l = .inl 400 := by unfold parseF parseV; rw [if_pos hv]
    rw [this]
    exact read_verb l w hs hv
  · exact read_go L l w hs hv (hR hv) hL
theorem cd_nil {w : World} {kc v : Nat} (B : Nat) (h : Bk w kc 27 (cmdNil v)) : Cd w B kc { cm0 with v := v } := ⟨_, _, h, World.ownsRow_nil _ _ _ _, World.ownsRow_nil _ _ _ _⟩
theorem names_reads (v n hb : Nat) (h : Nat) (hv : rdV h v = clV hb) (hf : ∀ s, readF v s = match namesF n [] s with
    | none => none
    | some (l, s1) => some ({ cm0 with v := v, names := l }, s1)) (kr kc B : Nat) (s : St) (w : World) (f : FuncId) (cp : Array Value) (e : rdV h v = .func (.func f) #[] cp) (hbk : Bk w hb 3 #[.int .i64 (n : Int)]) (hn : n ≤ 100)
    (hr : RdB w kr s) (hc : Bk w kc 27 (cmdNil v)) (h1 : hb < B) (h2 : kr < B) (h3 : kc < B) (h4 : B ≤ w.heap.size) (hs : s.1.length ≤ 140737488351232) :
    Calls Tryd.prog f (#[.pointer (some ⟨kr, 0, none⟩), .pointer (some ⟨kc, 0, none⟩)] ++ cp) w (RPost B kr kc w (readF v s)) := by
  rw [hv] at e
  unfold clV at e
  simp only [Value.func.injEq, Fn.func.injEq] at e
  obtain ⟨rfl, _, rfl⟩ := e
  refine (names_any n hb kr kc B s { cm0 with v := v } w hbk hr (cd_nil B hc) h4 h1 h2 h3 (by show n + 0 ≤ 1000; omega) hs).mono ?_
  rintro e w' ⟨hF, hm⟩
  refine ⟨hF, ?_⟩
  rw [hf]
  have hm' : (match namesF n [] s with
    | none => e = .panicked wrongP ∧ ∃ cs : Array Value, cs.size = 5 ∧ Bk w' kc 27 cs
    | some (l, s) => e = .returned (.tuple #[]) ∧ RdB w' kr s ∧ Cd w' B kc { cm0 with v := v, names := l }) := hm
  cases hx : namesF n [] s with
  | none => rw [hx] at hm'; exact hm'
  | some p => obtain ⟨l, s1⟩ := p; rw [hx] at hm'; exact hm'
theorem reads3 (L : Nat → Nat → World → Prop) : ReadsV L 3 := fun h kr kc B s w f cp e hb hr hc h1 h2 h3 h4 hs _ => names_reads 3 1 h h rfl (fun s => rfl) kr kc B s w f cp e hb.1 (by decide) hr hc (by omega) h2 h3 h4 hs
theorem reads4 (L : Nat → Nat → World → Prop) : ReadsV L 4 := fun h kr kc B s w f cp e hb hr hc h1 h2 h3 h4 hs _ => names_reads 4 3 (h + 1) h rfl (fun s => rfl) kr kc B s w f cp e hb.2.1 (by decide) hr hc (by omega) h2 h3 h4 hs
theorem reads6 (L : Nat → Nat → World → Prop) : ReadsV L 6 := fun h kr kc B s w f cp e hb hr hc h1 h2 h3 h4 hs _ => names_reads 6 3 (h + 2) h rfl (fun s => rfl) kr kc B s w f cp e hb.2.2.1 (by decide) hr hc (by omega) h2 h3 h4 hs
theorem reads8 (L : Nat → Nat → World → Prop) : ReadsV L 8 := fun h kr kc B s w f cp e hb hr hc h1 h2 h3 h4 hs _ => names_reads 8 0 (h + 3) h rfl (fun s => rfl) kr kc B s w f cp e hb.2.2.2.1 (by decide) hr hc (by omega) h2 h3 h4 hs
theorem reads9 (L : Nat → Nat → World → Prop) : ReadsV L 9 := fun h kr kc B s w f cp e hb hr hc h1 h2 h3 h4 hs _ => names_reads 9 0 (h + 4) h rfl (fun s => rfl) kr kc B s w f cp e hb.2.2.2.2.1 (by decide) hr hc (by omega) h2 h3 h4 hs
theorem reads10 (L : Nat → Nat → World → Prop) : ReadsV L 10 := fun h kr kc B s w f cp e hb hr hc h1 h2 h3 h4 hs _ => names_reads 10 0 (h + 5) h rfl (fun s => rfl) kr kc B s w f cp e hb.2.2.2.2.2 (by decide) hr hc (by omega) h2 h3 h4 hs
theorem OwnC.far {w w' : World} {F : Nat → Prop} {B : Nat} {V : Value} {c : Cm} (h : OwnC w B V c) (hf : Far F w w') (hF : ∀ k, B ≤ k → ¬ F k) : OwnC w' B V c := by
  obtain ⟨nv, mv, e, h1, h2⟩ := h
  exact ⟨nv, mv, e, row_far h1 hf fun k hk => hF k (h1.lt k hk).1, row_far h2 hf fun k hk => hF k (h2.lt k hk).1⟩
theorem OwnC.up {w : World} {B B' : Nat} {V : Value} {c : Cm} (h : OwnC w B V c) (hB : B' ≤ B) : OwnC w B' V c := by
  obtain ⟨nv, mv, e, h1, h2⟩ := h
  exact ⟨nv, mv, e, rowUp h1 hB, rowUp h2 hB⟩
theorem OwnC.form {w : World} {B : Nat} {V : Value} {c : Cm} (h : OwnC w B V c) : ∃ no nc mo mc, V = .agg #[.int .i64 (c.v : Int), .int .i64 (c.how : Int), .slice no c.names.length nc, .slice mo c.nums.length mc, .string ⟨c.text.toArray⟩] ∧ w.ownsRow B 9 1 (.slice no c.names.length nc) c.names.length (c.names.map st) ∧ w.ownsRow B 3 1 (.slice mo c.nums.length mc) c.nums.length (nums c.nums) := by
  obtain ⟨nv, mv, e, h1, h2⟩ := h
  obtain ⟨no, nc, rfl⟩ := Src.form (Src.own h1)
  obtain ⟨mo, mc, rfl⟩ := Src.form (Src.own h2)
  exact ⟨no, nc, mo, mc, e, h1, h2⟩
section
set_option maxHeartbeats 4000000
set_option maxRecDepth 100000
theorem parse_any (L : Nat → Nat → World → Prop) (l : Tx) (w : World) (hs : l.length ≤ 140737488351232) (hR : verbOf (cutT l).1 ≠ 0 → ReadsV L (verbOf (cutT l).1)) (hL : ∀ kr kc W, Far (fun k => w.heap.size ≤ k) w W → w.heap.size ≤ kr → w.heap.size ≤ kc → L kr kc W) : Calls Tryd.prog 10 #[st l] w (PPost w (parseL l)) := by
  obtain ⟨kc, hkc⟩ : ∃ k, k = w.heap.size := ⟨_, rfl⟩
  obtain ⟨w1, hw1⟩ : ∃ W, W = w.alloc (.cells #[.int .i64 0, .int .i64 0, .slice none 0 0, .slice none 0 0, .string ⟨#[]⟩] 27) := ⟨_, rfl⟩
  have hF1 : Far (fun _ => False) w w1 := hw1 ▸ (Far.refl _ w).alloc _
  have hC1 : Bk w1 kc 27 #[.int .i64 0, .int .i64 0, .slice none 0 0, .slice none 0 0, .string ⟨#[]⟩] := hw1 ▸ Bk.new hkc
  have RD := read_any L l w1 hs hR fun kr kc W h h1 h2 => hL kr kc W ((hF1.mono (G := fun k => w.heap.size ≤ k) fun _ _ h => h.elim).trans (h.mono (G := fun k => w.heap.size ≤ k) fun k _ hk => Nat.le_trans hF1.size hk) fun _ _ h => h) (Nat.le_trans hF1.size h1) (Nat.le_trans hF1.size h2)
  have hsz : (⟨l.toArray⟩ : ByteArray).size = l.length := by simp [ByteArray.size]
  unfold parseL
  unfold st at *
  have f0 := hC1.free 0
  have f1 := hC1.free 1
  have f2 := hC1.free 2
  have f3 := hC1.free 3
  have f4 := hC1.free 4
  have q0 : w1.cell? ⟨kc, 0, none⟩ = some (.int .i64 0) := hC1.cell 0
  have q1 : w1.cell? ⟨kc, 1, none⟩ = some (.int .i64 0) := hC1.cell 1
  have q2 : w1.cell? ⟨kc, 2, none⟩ = some (.slice none 0 0) := hC1.cell 2
  have q3 : w1.cell? ⟨kc, 3, none⟩ = some (.slice none 0 0) := hC1.cell 3
  have q4 : w1.cell? ⟨kc, 4, none⟩ = some (.string ⟨#[]⟩) := hC1.cell 4
  have l1 := hC1.lt
  have hC1' := Lib.hid hC1
  have hkc' := Lib.hid hkc
  have hw1' := Lib.hid hw1
  have hF1' := Lib.hid hF1
  clear hC1 hkc hw1 hF1 hR hs hL
  by_cases hl : 2064 < l.length
  · have e1 : decide ((l.length : Int) > 2064) = true := by rw [decide_eq_true_eq]; omega
    have e2 : decide ((2064 : Int) < (l.length : Int)) = true := by rw [decide_eq_true_eq]; omega
    rw [if_pos hl]
    clear hl RD
    go_enter Tryd.func10, Tryd.ntmps10
    go_upto_region 1 with fail
    rw [← hkc'.out, ← hw1'.out]
    go_wp2_with fail
    obtain ⟨V, hV⟩ : ∃ V, V = ((((w1.setCell ⟨kc, 0, none⟩ (.int .i64 0)).setCell ⟨kc, 1, none⟩ (.int .i64 0)).setCell ⟨kc, 2, none⟩ (.slice none 0 0)).setCell ⟨kc, 3, none⟩ (.slice none 0 0)).setCell ⟨kc, 4, none⟩ (.string ⟨#[]⟩) := ⟨_, rfl⟩
    rw [← hV]
    have hS : Far (fun k => k = kc) w1 V := hV ▸ (((((Far.refl (fun k => k = kc) w1).set ⟨kc, 0, none⟩ (.int .i64 0) (fun _ => rfl)).set ⟨kc, 1, none⟩ (.int .i64 0) (fun _ => rfl)).set ⟨kc, 2, none⟩ (.slice none 0 0) (fun _ => rfl)).set ⟨kc, 3, none⟩ (.slice none 0 0) (fun _ => rfl)).set ⟨kc, 4, none⟩ (.string ⟨#[]⟩) (fun _ => rfl)
    have e1 : Bk V kc 27 #[(.int .i64 0), (.int .i64 0), (.slice none 0 0), (.slice none 0 0), (.string ⟨#[]⟩)] := hV ▸ ((((hC1'.out.set 0 (.int .i64 0)).set 1 (.int .i64 0)).set 2 (.slice none 0 0)).set 3 (.slice none 0 0)).set 4 (.string ⟨#[]⟩)
    have x0 : V.cell? ⟨kc, 0, none⟩ = some (.int .i64 0) := e1.cell 0
    have x1 : V.cell? ⟨kc, 1, none⟩ = some (.int .i64 0) := e1.cell 1
    have x2 : V.cell? ⟨kc, 2, none⟩ = some (.slice none 0 0) := e1.cell 2
    have x3 : V.cell? ⟨kc, 3, none⟩ = some (.slice none 0 0) := e1.cell 3
    have x4 : V.cell? ⟨kc, 4, none⟩ = some (.string ⟨#[]⟩) := e1.cell 4
    refine ⟨rfl, .tuple #[.agg #[(.int .i64 0), (.int .i64 0), (.slice none 0 0), (.slice none 0 0), (.string ⟨#[]⟩)], .int .i64 3], by simp [results, Tryd.results10, go_sem, x0, x1, x2, x3, x4], ?_⟩
    exact ⟨hF1'.out.out hS (fun k hk e => by have := hkc'.out; omega), _, rfl, _, _, rfl, World.ownsRow_nil _ _ _ _, World.ownsRow_nil _ _ _ _⟩
  · have e1 : decide ((l.length : Int) > 2064) = false := by rw [decide_eq_false_iff_not]; omega
    have e2 : decide ((2064 : Int) < (l.length : Int)) = false := by rw [decide_eq_false_iff_not]; omega
    rw [if_neg hl]
    clear hl
    go_enter Tryd.func10, Tryd.ntmps10
    go_upto_region 1 with fail
    rw [← hkc'.out, ← hw1'.out]
    go_wp2_with (refine RD.mono ?_; rintro e w2 ⟨hf2, V, rfl, hV⟩; obtain ⟨no, nc, mo, mc, rfl, ho1, ho2⟩ := hV.form; have hC2 := Lib.hid (hC1'.out.far' hf2 id); have g0 := hC2.out.free 0; have g1 := hC2.out.free 1; have g2 := hC2.out.free 2; have g3 := hC2.out.free 3; have g4 := hC2.out.free 4; have p0 : w2.cell? ⟨kc, 0, none⟩ = some (.int .i64 0) := hC2.out.cell 0; have p1 : w2.cell? ⟨kc, 1, none⟩ = some (.int .i64 0) := hC2.out.cell 1; have p2 : w2.cell? ⟨kc, 2, none⟩ = some (.slice none 0 0) := hC2.out.cell 2; have p3 : w2.cell? ⟨kc, 3, none⟩ = some (.slice none 0 0) := hC2.out.cell 3; have p4 : w2.cell? ⟨kc, 4, none⟩ = some (.string ⟨#[]⟩) := hC2.out.cell 4; have l2 := hC2.out.lt; have hf2' := Lib.hid hf2; have ho1' := Lib.hid ho1; have ho2' := Lib.hid ho2; clear hf2 ho1 ho2 hV)
    obtain ⟨V, hV⟩ : ∃ V, V = ((((w2.setCell ⟨kc, 0, none⟩ (.int .i64 ((cmdR (parseF l)).v : Int))).setCell ⟨kc, 1, none⟩ (.int .i64 ((cmdR (parseF l)).how : Int))).setCell ⟨kc, 2, none⟩ (.slice no (cmdR (parseF l)).names.length nc)).setCell ⟨kc, 3, none⟩ (.slice mo (cmdR (parseF l)).nums.length mc)).setCell ⟨kc, 4, none⟩ (.string ⟨(cmdR (parseF l)).text.toArray⟩) := ⟨_, rfl⟩
    rw [← hV]
    have hS : Far (fun k => k = kc) w2 V := hV ▸ (((((Far.refl (fun k => k = kc) w2).set ⟨kc, 0, none⟩ (.int .i64 ((cmdR (parseF l)).v : Int)) (fun _ => rfl)).set ⟨kc, 1, none⟩ (.int .i64 ((cmdR (parseF l)).how : Int)) (fun _ => rfl)).set ⟨kc, 2, none⟩ (.slice no (cmdR (parseF l)).names.length nc) (fun _ => rfl)).set ⟨kc, 3, none⟩ (.slice mo (cmdR (parseF l)).nums.length mc) (fun _ => rfl)).set ⟨kc, 4, none⟩ (.string ⟨(cmdR (parseF l)).text.toArray⟩) (fun _ => rfl)
    have e1 : Bk V kc 27 #[(.int .i64 ((cmdR (parseF l)).v : Int)), (.int .i64 ((cmdR (parseF l)).how : Int)), (.slice no (cmdR (parseF l)).names.length nc), (.slice mo (cmdR (parseF l)).nums.length mc), (.string ⟨(cmdR (parseF l)).text.toArray⟩)] := hV ▸ ((((hC2.out.set 0 (.int .i64 ((cmdR (parseF l)).v : Int))).set 1 (.int .i64 ((cmdR (parseF l)).how : Int))).set 2 (.slice no (cmdR (parseF l)).names.length nc)).set 3 (.slice mo (cmdR (parseF l)).nums.length mc)).set 4 (.string ⟨(cmdR (parseF l)).text.toArray⟩)
    have x0 : V.cell? ⟨kc, 0, none⟩ = some (.int .i64 ((cmdR (parseF l)).v : Int)) := e1.cell 0
    have x1 : V.cell? ⟨kc, 1, none⟩ = some (.int .i64 ((cmdR (parseF l)).how : Int)) := e1.cell 1
    have x2 : V.cell? ⟨kc, 2, none⟩ = some (.slice no (cmdR (parseF l)).names.length nc) := e1.cell 2
    have x3 : V.cell? ⟨kc, 3, none⟩ = some (.slice mo (cmdR (parseF l)).nums.length mc) := e1.cell 3
    have x4 : V.cell? ⟨kc, 4, none⟩ = some (.string ⟨(cmdR (parseF l)).text.toArray⟩) := e1.cell 4
    refine ⟨rfl, .tuple #[.agg #[(.int .i64 ((cmdR (parseF l)).v : Int)), (.int .i64 ((cmdR (parseF l)).how : Int)), (.slice no (cmdR (parseF l)).names.length nc), (.slice mo (cmdR (parseF l)).nums.length mc), (.string ⟨(cmdR (parseF l)).text.toArray⟩)], .int .i64 (codeR (parseF l) : Int)], by simp [results, Tryd.results10, go_sem, x0, x1, x2, x3, x4], ?_⟩
    have hz1 := hF1'.out.size
    have hz2 : kc < w1.heap.size := l1
    refine ⟨(hF1'.out.then hf2'.out).out hS (fun k hk e => by have := hkc'.out; omega), _, rfl, _, _, rfl, ?_, ?_⟩
    · exact rowUp (row_far ho1'.out hS fun k hk e => by subst e; have := (ho1'.out.lt _ hk).1; omega) hz1
    · exact rowUp (row_far ho2'.out hS fun k hk e => by subst e; have := (ho2'.out.lt _ hk).1; omega) hz1
end
end Go.Proofs.YtjmgheogpglpnaaDoor
