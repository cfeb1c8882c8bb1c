/-
  The program reads a line.
-/
import Derived.Test.YtjmgheogpglpnaaDoorCatch30
import Derived.Defers
namespace Go.Proofs.YtjmgheogpglpnaaDoor
open Go.RowKit
set_option linter.unusedVariables false
set_option linter.unusedSimpArgs false
def codeR : Nat ⊕ Cm → Nat
  | .inl n => n
  | .inr _ => 0
def cmdR : Nat ⊕ Cm → Cm
  | .inl _ => cm0
  | .inr c => c
/-- A command's value, its lists in rows of the call's own from B on. -/
def OwnC (w : World) (B : Nat) (V : Value) (c : Cm) : Prop := ∃ nv mv, V = .agg #[.int .i64 (c.v : Int), .int .i64 (c.how : Int), nv, mv, st c.text] ∧ w.ownsRow B 9 1 nv c.names.length (c.names.map st) ∧ w.ownsRow B 3 1 mv c.nums.length (nums c.nums)
def PPost (w : World) (r : Nat ⊕ Cm) (e : Ending) (w' : World) : Prop := Far (fun _ => False) w w' ∧ ∃ V, e = .returned (.tuple #[V, .int .i64 (codeR r : Int)]) ∧ OwnC w' w.heap.size V (cmdR r)
def RPost (B kr kc : Nat) (w : World) (r : Option (Cm × St)) (e : Ending) (w' : World) : Prop :=
  Far (FR B kr kc) w w' ∧ match r with
  | none => e = .panicked wrongP ∧ ∃ cs : Array Value, cs.size = 5 ∧ Bk w' kc 27 cs
  | some (c, s) => e = .returned (.tuple #[]) ∧ RdB w' kr s ∧ Cd w' B kc c
def cmdNil (v : Nat) : Array Value := #[.int .i64 (v : Int), .int .i64 0, .slice none 0 0, .slice none 0 0, .string ⟨#[]⟩]
/-- The reading function of a verb reads what is to be read. -/
def ReadsV (L : Nat → Nat → World → Prop) (v : Nat) : Prop := ∀ (h kr kc B : Nat) (s : St) (w : World) (f : FuncId) (cp : Array Value), rdV h v = .func (.func f) #[] cp → Boxes w h → RdB w kr s → Bk w kc 27 (cmdNil v) → h + 6 ≤ B → kr < B → kc < B → B ≤ w.heap.size → s.1.length ≤ 140737488351232 → L kr kc w →
  Calls Tryd.prog f (#[.pointer (some ⟨kr, 0, none⟩), .pointer (some ⟨kc, 0, none⟩)] ++ cp) w (RPost B kr kc w (readF v s))
theorem rdV_enter (h v : Nat) : ∃ f c, rdV h v = .func (.func f) #[] c ∧ ∀ args w, (callFunc f args).run Tryd.prog w = .ok (.enter f args) w := by
  unfold rdV fnV clV
  (repeat' split)
  · exact ⟨_, _, rfl, enters_of Tryd.func39 (by kernel_rfl) rfl⟩
  · exact ⟨_, _, rfl, enters_of Tryd.func43 (by kernel_rfl) rfl⟩
  · exact ⟨_, _, rfl, enters_of Tryd.func45 (by kernel_rfl) rfl⟩
  all_goals exact ⟨_, _, rfl, enters_of Tryd.func54 (by kernel_rfl) rfl⟩
theorem parseV_none {v : Nat} {s : St} (hv : v ≠ 0) (h : readF v s = none) : parseV v s = .inl 401 := by unfold parseV; rw [if_neg hv, h]
theorem parseV_more {v : Nat} {s s' : St} {c : Cm} (hv : v ≠ 0) (h : readF v s = some (c, s')) (hm : s'.2 = true) : parseV v s = .inl 401 := by unfold parseV; rw [if_neg hv, h]; exact if_pos hm
theorem parseV_ok {v : Nat} {s s' : St} {c : Cm} (hv : v ≠ 0) (h : readF v s = some (c, s')) (hm : s'.2 = false) : parseV v s = .inr c := by unfold parseV; rw [if_neg hv, h]; dsimp only; rw [hm]; rfl
theorem makeFunc_run (fn : Fn) (first cap : Array Value) (w : World) : (Instr.makeFunc fn first cap).run Tryd.prog w = .ok (.func fn first cap) w := rfl
section
set_option maxHeartbeats 4000000
set_option maxRecDepth 100000
theorem read_verb (l : Tx) (w : World) (hs : l.length ≤ 140737488351232) (hv : verbOf (cutT l).1 = 0) : Calls Tryd.prog 20 #[st l] w (PPost w (.inl 400)) := by
  have CL := cut_any l
  have FO := formOf_any (cutT l).1
  unfold FormPost at FO
  rw [hv] at FO
  simp only [if_true] at FO
  generalize (cutT l).1 = a at *
  generalize (cutT l).2.1 = b at *
  generalize (cutT l).2.2 = m at *
  clear hv
  unfold st at CL FO ⊢
  obtain ⟨kc, hkc⟩ : ∃ k, k = w.heap.size := ⟨_, rfl⟩
  obtain ⟨ke, hke⟩ : ∃ k, k = kc + 1 := ⟨_, rfl⟩
  obtain ⟨w1, hw1⟩ : ∃ W, W = w.alloc (.cells #[.int .i64 0, .int .i64 0, .slice none 0 0, .slice none 0 0, .string ⟨#[]⟩] 27) := ⟨_, rfl⟩
  obtain ⟨w2, hw2⟩ : ∃ W, W = w1.alloc (.cells #[.int .i64 0] 28) := ⟨_, rfl⟩
  have z1 : w1.heap.size = ke := by rw [hw1]; simp [hke, hkc]
  have hF2 : Far (fun _ => False) w w2 := hw2 ▸ (hw1 ▸ (Far.refl _ w).alloc _ : Far (fun _ => False) w w1).alloc _
  have hC2 : Bk w2 kc 27 #[.int .i64 0, .int .i64 0, .slice none 0 0, .slice none 0 0, .string ⟨#[]⟩] := hw2 ▸ (hw1 ▸ Bk.new hkc : Bk w1 kc 27 #[.int .i64 0, .int .i64 0, .slice none 0 0, .slice none 0 0, .string ⟨#[]⟩]).alloc _
  have hE2 : Bk w2 ke 28 #[.int .i64 0] := hw2 ▸ Bk.new z1.symm
  have MF := makeFunc_run
  have hkc' := Lib.hid hkc
  have hke' := Lib.hid hke
  have hw1' := Lib.hid hw1
  have hw2' := Lib.hid hw2
  have hF2' := Lib.hid hF2
  have hC2' := Lib.hid hC2
  have hE2' := Lib.hid hE2
  clear hkc hke hw1 hw2 z1 hF2 hC2 hE2
  go_enter_defers Tryd.func20, Tryd.ntmps20
  go_upto_region 2 with fail
  rw [← hkc'.out, ← hke'.out, ← hw1'.out, ← hw2'.out]
  go_wp2_with (first
    | (refine (CL _ hs).mono ?_; rintro e w3 ⟨rfl, hf3⟩; have hf3' := Lib.hid hf3; clear hf3)
    | (refine (FO _).mono ?_; rintro e w4 ⟨rfl, hf4⟩; have hf4' := Lib.hid (hf3'.out.then hf4); have hC4 := Lib.hid (hC2'.out.far' hf4'.out id); have hE4 := Lib.hid (hE2'.out.far' hf4'.out id); have f0 := hC4.out.free 0; have f1 := hC4.out.free 1; have f2 := hC4.out.free 2; have f3 := hC4.out.free 3; have f4 := hC4.out.free 4; have f5 := hE4.out.free 0; have q0 : w4.cell? ⟨kc, 0, none⟩ = some (.int .i64 0) := hC4.out.cell 0; have q1 : w4.cell? ⟨kc, 1, none⟩ = some (.int .i64 0) := hC4.out.cell 1; have q2 : w4.cell? ⟨kc, 2, none⟩ = some (.slice none 0 0) := hC4.out.cell 2; have q3 : w4.cell? ⟨kc, 3, none⟩ = some (.slice none 0 0) := hC4.out.cell 3; have q4 : w4.cell? ⟨kc, 4, none⟩ = some (.string ⟨#[]⟩) := hC4.out.cell 4; have q5 : w4.cell? ⟨ke, 0, none⟩ = some (.int .i64 0) := hE4.out.cell 0; have l1 := hC4.out.lt; have l2 := hE4.out.lt; have n1 : kc ≠ w4.heap.size := (by omega); have n2 : ke ≠ w4.heap.size := (by omega); have n3 : ke ≠ kc := (by have := hke'.out; omega); have n4 : kc ≠ ke := (by have := hke'.out; omega); clear hf4; unfold form0))
  obtain ⟨V0, hV0⟩ : ∃ V, V = (((((w4.setCell ⟨kc, 0, none⟩ (.int .i64 0)).setCell ⟨kc, 1, none⟩ (.int .i64 0)).setCell ⟨kc, 2, none⟩ (.slice none 0 0)).setCell ⟨kc, 3, none⟩ (.slice none 0 0)).setCell ⟨kc, 4, none⟩ (.string ⟨#[]⟩)).setCell ⟨ke, 0, none⟩ (.int .i64 400) := ⟨_, rfl⟩
  rw [← hV0]
  have hS : Far (fun k => k = kc ∨ k = ke) w4 V0 := hV0 ▸ ((((((Far.refl (fun k => k = kc ∨ k = ke) w4).set ⟨kc, 0, none⟩ (.int .i64 0) (fun _ => .inl rfl)).set ⟨kc, 1, none⟩ (.int .i64 0) (fun _ => .inl rfl)).set ⟨kc, 2, none⟩ (.slice none 0 0) (fun _ => .inl rfl)).set ⟨kc, 3, none⟩ (.slice none 0 0) (fun _ => .inl rfl)).set ⟨kc, 4, none⟩ (.string ⟨#[]⟩) (fun _ => .inl rfl)).set ⟨ke, 0, none⟩ (.int .i64 400) (fun _ => .inr rfl)
  have d1 : Bk V0 kc 27 (cmdNil 0) := hV0 ▸ (((((hC4.out.set 0 (.int .i64 0)).set 1 (.int .i64 0)).set 2 (.slice none 0 0)).set 3 (.slice none 0 0)).set 4 (.string ⟨#[]⟩)).far (p := ⟨ke, 0, none⟩) n4 (.int .i64 400)
  have d2 : Bk V0 ke 28 #[.int .i64 400] := hV0 ▸ (((((hE4.out.far (p := ⟨kc, 0, none⟩) n3 (.int .i64 0)).far (p := ⟨kc, 1, none⟩) n3 (.int .i64 0)).far (p := ⟨kc, 2, none⟩) n3 (.slice none 0 0)).far (p := ⟨kc, 3, none⟩) n3 (.slice none 0 0)).far (p := ⟨kc, 4, none⟩) n3 (.string ⟨#[]⟩)).set 0 (.int .i64 400)
  obtain ⟨V, hV⟩ : ∃ V, V = V0.alloc (.cells #[.int .i64 0, .string ⟨#[]⟩, .nilFunc, .nilFunc] 61) := ⟨_, rfl⟩
  rw [← hV]
  have e1 : Bk V kc 27 (cmdNil 0) := hV ▸ d1.alloc _
  have e2 : Bk V ke 28 #[.int .i64 400] := hV ▸ d2.alloc _
  have hR : Far (fun k => w.heap.size ≤ k) w V := hV ▸ (((hF2'.out.then hf4'.out).mono (G := fun k => w.heap.size ≤ k) fun _ _ h => h.elim).trans (hS.mono (G := fun k => w.heap.size ≤ k) fun k _ hk => by have := hkc'.out; have := hke'.out; rcases hk with rfl | rfl <;> omega) fun _ _ h => h).alloc _
  refine leaves_cons (f := 33) (args := #[.pointer (some ⟨kc, 0, none⟩), .pointer (some ⟨ke, 0, none⟩)]) (by simp) (by simp [go_sem]) ?_
  refine (catch_idle kc ke _).mono ?_
  rintro e u' V2 ⟨rfl, rfl, rfl⟩
  have x0 : V2.cell? ⟨kc, 0, none⟩ = some (.int .i64 0) := e1.cell 0
  have x1 : V2.cell? ⟨kc, 1, none⟩ = some (.int .i64 0) := e1.cell 1
  have x2 : V2.cell? ⟨kc, 2, none⟩ = some (.slice none 0 0) := e1.cell 2
  have x3 : V2.cell? ⟨kc, 3, none⟩ = some (.slice none 0 0) := e1.cell 3
  have x4 : V2.cell? ⟨kc, 4, none⟩ = some (.string ⟨#[]⟩) := e1.cell 4
  have x5 : V2.cell? ⟨ke, 0, none⟩ = some (.int .i64 400) := e2.cell 0
  have FIN : PPost w (.inl 400) (.returned (.tuple #[.agg (cmdNil 0), .int .i64 400])) V2 := ⟨hR.mono fun k hk h => by omega, _, rfl, .slice none 0 0, .slice none 0 0, rfl, World.ownsRow_nil _ _ _ _, World.ownsRow_nil _ _ _ _⟩
  unfold cmdNil at FIN
  simp [Leaves, settle, results, Tryd.results20, go_sem, x0, x1, x2, x3, x4, x5]
  exact FIN
theorem read_go (L : Nat → Nat → World → Prop) (l : Tx) (w : World) (hs : l.length ≤ 140737488351232) (hv : verbOf (cutT l).1 ≠ 0) (hR : ReadsV L (verbOf (cutT l).1)) (hL : ∀ kr kc W, Far (fun k => w.heap.size ≤ k) w W → w.heap.size ≤ kr → w.heap.size ≤ kc → L kr kc W) : Calls Tryd.prog 20 #[st l] w (PPost w (parseF l)) := by
  have CL := cut_any l
  have FO := formOf_any (cutT l).1
  have hbl : (cutT l).2.1.length ≤ 140737488351232 := Nat.le_trans (cut_len l) hs
  have hp : parseF l = parseV (verbOf (cutT l).1) ((cutT l).2.1, (cutT l).2.2) := rfl
  unfold FormPost at FO
  simp only [if_neg hv] at FO
  generalize parseF l = pr at *
  generalize hvv : verbOf (cutT l).1 = v at *
  clear hvv
  generalize (cutT l).1 = a at *
  generalize (cutT l).2.1 = b at *
  generalize (cutT l).2.2 = m at *
  have hv' := Lib.hid hv
  clear hv
  have hR' := Lib.hid hR
  have hL' := Lib.hid hL
  have hp' := Lib.hid hp
  clear hR hp hL
  unfold st at CL FO ⊢
  obtain ⟨kc, hkc⟩ : ∃ k, k = w.heap.size := ⟨_, rfl⟩
  obtain ⟨ke, hke⟩ : ∃ k, k = kc + 1 := ⟨_, rfl⟩
  obtain ⟨w1, hw1⟩ : ∃ W, W = w.alloc (.cells #[.int .i64 0, .int .i64 0, .slice none 0 0, .slice none 0 0, .string ⟨#[]⟩] 27) := ⟨_, rfl⟩
  obtain ⟨w2, hw2⟩ : ∃ W, W = w1.alloc (.cells #[.int .i64 0] 28) := ⟨_, rfl⟩
  have z1 : w1.heap.size = ke := by rw [hw1]; simp [hke, hkc]
  have z2 : w2.heap.size = ke + 1 := by rw [hw2]; simp [z1]
  have hF2 : Far (fun _ => False) w w2 := hw2 ▸ (hw1 ▸ (Far.refl _ w).alloc _ : Far (fun _ => False) w w1).alloc _
  have hC2 : Bk w2 kc 27 #[.int .i64 0, .int .i64 0, .slice none 0 0, .slice none 0 0, .string ⟨#[]⟩] := hw2 ▸ (hw1 ▸ Bk.new hkc : Bk w1 kc 27 #[.int .i64 0, .int .i64 0, .slice none 0 0, .slice none 0 0, .string ⟨#[]⟩]).alloc _
  have hE2 : Bk w2 ke 28 #[.int .i64 0] := hw2 ▸ Bk.new z1.symm
  have MF := makeFunc_run
  have hkc' := Lib.hid hkc
  have hke' := Lib.hid hke
  have hw1' := Lib.hid hw1
  have hw2' := Lib.hid hw2
  have hF2' := Lib.hid hF2
  have hC2' := Lib.hid hC2
  have hE2' := Lib.hid hE2
  have z2' := Lib.hid z2
  clear hkc hke hw1 hw2 z1 z2 hF2 hC2 hE2
  go_enter_defers Tryd.func20, Tryd.ntmps20
  go_upto_region 2 with fail
  rw [← hkc'.out, ← hke'.out, ← hw1'.out, ← hw2'.out]
  go_upto_region 8 with (first
    | (refine (CL _ hs).mono ?_; rintro e w3 ⟨rfl, hf3⟩; have hf3' := Lib.hid hf3; clear hf3)
    | (refine (FO _).mono ?_; rintro e w4 ⟨⟨h, hh, rfl, hbx⟩, hf4⟩; have hbx' := Lib.hid hbx; have hh' := Lib.hid hh; obtain ⟨rf, cp, hrd, hent⟩ := rdV_enter h v; obtain ⟨wf, hwr⟩ := wrV_form v; have hform : (formC h v).toArray = #[.int .i64 (v : Int), .string ⟨(wordV v).toArray⟩, .func (.func rf) #[] cp, .func (.func wf) #[] #[]] := (by unfold formC st; rw [hrd, hwr]); rw [hform]; have hrd' := Lib.hid hrd; clear hrd hwr hform hbx hh; have hf4' := Lib.hid (hf3'.out.then hf4); have hC4 := Lib.hid (hC2'.out.far' hf4'.out id); have hE4 := Lib.hid (hE2'.out.far' hf4'.out id); have f0 := hC4.out.free 0; have q0 : w4.cell? ⟨kc, 0, none⟩ = some (.int .i64 0) := hC4.out.cell 0; have l1 := hC4.out.lt; have l2 := hE4.out.lt; have n1 : kc ≠ w4.heap.size := (by omega); have n1' : w4.heap.size ≠ kc := (by omega); have n2 : ke ≠ w4.heap.size := (by omega); have n3 : ke ≠ kc := (by have := hke'.out; omega); have n4 : kc ≠ ke := (by have := hke'.out; omega); clear hf4))
  obtain ⟨kf, hkf⟩ : ∃ k, k = w4.heap.size := ⟨_, rfl⟩
  obtain ⟨kr, hkr⟩ : ∃ k, k = kf + 1 := ⟨_, rfl⟩
  rw [← hkf, ← hkr]
  obtain ⟨wx, hwx⟩ : ∃ W, W = w4.setCell ⟨kc, 0, none⟩ (.int .i64 (v : Int)) := ⟨_, rfl⟩
  obtain ⟨wy, hwy⟩ : ∃ W, W = wx.alloc (.cells #[.int .i64 (v : Int), .string ⟨(wordV v).toArray⟩, .func (.func rf) #[] cp, .func (.func wf) #[] #[]] 61) := ⟨_, rfl⟩
  obtain ⟨W5, hW5⟩ : ∃ W, W = wy.alloc (.cells #[.string ⟨b.toArray⟩, .bool m] 70) := ⟨_, rfl⟩
  rw [← hwx, ← hwy, ← hW5]
  have hSx : Far (fun k => k = kc) w4 wx := hwx ▸ (Far.refl (fun k => k = kc) w4).set ⟨kc, 0, none⟩ (.int .i64 (v : Int)) (fun _ => rfl)
  have sx : wx.heap.size = kf := by rw [hwx, hkf]; simp [World.setCell]
  have sy : wy.heap.size = kr := by rw [hwy]; simp [sx, hkr]
  have s5 : W5.heap.size = kr + 1 := by rw [hW5]; simp [sy]
  have hA5 : Far (fun _ => False) wx W5 := hW5 ▸ (hwy ▸ (Far.refl _ wx).alloc _ : Far (fun _ => False) wx wy).alloc _
  have cx : Bk wx kc 27 (cmdNil v) := hwx ▸ hC4.out.set 0 (.int .i64 (v : Int))
  have c5 := Lib.hid (cx.far' hA5 id)
  have ex : Bk wx ke 28 #[.int .i64 0] := hE4.out.far' hSx n3
  have e5 := Lib.hid (ex.far' hA5 id)
  have k5 : Bk W5 kf 61 #[.int .i64 (v : Int), .string ⟨(wordV v).toArray⟩, .func (.func rf) #[] cp, .func (.func wf) #[] #[]] := hW5 ▸ (hwy ▸ Bk.new sx.symm : Bk wy kf 61 #[.int .i64 (v : Int), .string ⟨(wordV v).toArray⟩, .func (.func rf) #[] cp, .func (.func wf) #[] #[]]).alloc _
  have r5 : RdB W5 kr (b, m) := hW5 ▸ Bk.new sy.symm
  have hlt := hkc'.out
  have hlt2 := hke'.out
  have hlt3 := z2'.out
  have hlt4 := hh'.out
  have hlt5 := hf3'.out.size
  have hlt6 := hf4'.out.size
  have hlt7 := hbx'.out.2.2.2.2.2.lt
  have b5 : Boxes W5 h := (hbx'.out.far hSx fun k h1 h2 e => by omega).far hA5 fun _ _ _ h => h
  have g2 : W5.cell? ⟨kf, 2, none⟩ = some (.func (.func rf) #[] cp) := k5.cell 2
  have hF5 := Lib.hid ((hf4'.out.mono (G := fun k => k = kc) fun _ _ h => h.elim).trans (hSx.trans (hA5.mono (G := fun k => k = kc) fun _ _ h => h.elim) fun _ _ h => h) fun _ _ h => h)
  have RV := hR'.out h kr kc W5.heap.size (b, m) W5 rf cp hrd'.out b5 r5 c5.out (by omega) (by omega) (by omega) (Nat.le_refl _) hbl (hL'.out kr kc W5 ((hF2'.out.mono (G := fun k => w.heap.size ≤ k) fun _ _ h => h.elim).trans (hF5.out.mono (G := fun k => w.heap.size ≤ k) fun k _ hk => by subst hk; omega) fun _ _ h => h) (by omega) (by omega))
  have hkc5 : kc < W5.heap.size := c5.out.lt
  have hke5 : ke < kf := by omega
  have h5w : w.heap.size ≤ kc := by omega
  have s5' := Lib.hid s5
  have hkr' := Lib.hid hkr
  have hb6 := Lib.hid (show w.heap.size ≤ kr from by omega)
  have hn6 := Lib.hid (show ke ≠ kr ∧ ke ≠ kc from ⟨by omega, by omega⟩)
  clear hkf hkr hwx hwy hW5 hSx sx sy s5 hA5 cx ex k5 r5 hlt hlt2 hlt3 hlt4 hlt5 hlt6 hlt7 b5 f0 q0 l1 l2 n1 n1' n2 n3 n4 FO CL MF
  have he5 := e5.out
  have hTo := Lib.hid (show ∀ w6, Far (FR W5.heap.size kr kc) W5 w6 → Far (fun k => w.heap.size ≤ k) w w6 from fun w6 h6 => ((hF2'.out.mono (G := fun k => w.heap.size ≤ k) fun _ _ h => h.elim).trans (hF5.out.mono (G := fun k => w.heap.size ≤ k) fun k _ hk => by subst hk; exact h5w) fun _ _ h => h).trans (h6.mono (G := fun k => w.heap.size ≤ k) fun k _ hk => by have h1 := hb6.out; have h2 := s5'.out; rcases hk with hk | hk | hk <;> omega) fun _ _ h => h)
  cases hrf : readF v (b, m) with
  | none =>
    rw [hrf] at RV
    have hpr := Lib.hid (hp'.out.trans (parseV_none hv'.out hrf))
    go_wp2_with (refine RV.mono ?_; rintro e w6 ⟨hf6, rfl, cs6, hs6, hc6⟩; have hf6' := Lib.hid hf6; have hc6' := Lib.hid hc6; have he6' := Lib.hid (he5.far' hf6 (fun q => by have h1 := hn6.out.1; have h2 := hn6.out.2; have h3 := s5'.out; have h4 := hkr'.out; rcases q with q | q | q <;> omega)); clear hf6 hc6)
    refine leaves_cons (f := 33) (args := #[.pointer (some ⟨kc, 0, none⟩), .pointer (some ⟨ke, 0, none⟩)]) (by simp) (by simp [go_sem]) ?_
    refine (catch_wrong kc ke _ _ [] _ hc6'.out hs6 he6'.out hn6.out.2.symm).mono ?_
    rintro e u' V2 ⟨rfl, rfl, hfz, e1, e2⟩
    have x0 : V2.cell? ⟨kc, 0, none⟩ = some (.int .i64 0) := e1.cell 0
    have x1 : V2.cell? ⟨kc, 1, none⟩ = some (.int .i64 0) := e1.cell 1
    have x2 : V2.cell? ⟨kc, 2, none⟩ = some (.slice none 0 0) := e1.cell 2
    have x3 : V2.cell? ⟨kc, 3, none⟩ = some (.slice none 0 0) := e1.cell 3
    have x4 : V2.cell? ⟨kc, 4, none⟩ = some (.string ⟨#[]⟩) := e1.cell 4
    have x5 : V2.cell? ⟨ke, 0, none⟩ = some (.int .i64 401) := e2.cell 0
    have FIN : PPost w pr (.returned (.tuple #[.agg (cmdNil 0), .int .i64 401])) V2 := by
      refine ⟨(hTo.out w6 hf6'.out).trans (hfz.mono (G := fun k => w.heap.size ≤ k) fun k _ hk => by have h1 := hkc'.out; have h2 := hke'.out; rcases hk with rfl | rfl <;> omega) (fun _ _ h => h) |>.mono fun k hk h => by omega, ?_⟩
      rw [hpr.out]
      exact ⟨_, rfl, .slice none 0 0, .slice none 0 0, rfl, World.ownsRow_nil _ _ _ _, World.ownsRow_nil _ _ _ _⟩
    unfold cmdNil at FIN
    simp [Leaves, settle, results, Tryd.results20, go_sem, x0, x1, x2, x3, x4, x5]
    exact FIN
  | some p =>
    obtain ⟨c, s'⟩ := p
    rw [hrf] at RV
    cases hm : s'.2 with
    | true =>
      have hpr := Lib.hid (hp'.out.trans (parseV_more hv'.out hrf hm))
      obtain ⟨r', m'⟩ := s'
      dsimp only at hm
      subst hm
      go_wp2_with (refine RV.mono ?_; rintro e w6 ⟨hf6, rfl, hr6, nv, mv, hc6, hnv, hmv⟩; have hf6' := Lib.hid hf6; have hc6' := Lib.hid hc6; have he6' := Lib.hid (he5.far' hf6 (fun q => by have h1 := hn6.out.1; have h2 := hn6.out.2; have h3 := s5'.out; have h4 := hkr'.out; rcases q with q | q | q <;> omega)); have y1 : w6.cell? ⟨kr, 1, none⟩ = some (.bool true) := hr6.cell 1; clear hf6 hr6 hc6 hnv hmv)
      refine leaves_cons (f := 33) (args := #[.pointer (some ⟨kc, 0, none⟩), .pointer (some ⟨ke, 0, none⟩)]) (by simp) (by simp [go_sem]) ?_
      refine (catch_wrong kc ke _ _ [] _ hc6'.out rfl he6'.out hn6.out.2.symm).mono ?_
      rintro e u' V2 ⟨rfl, rfl, hfz, e1, e2⟩
      have x0 : V2.cell? ⟨kc, 0, none⟩ = some (.int .i64 0) := e1.cell 0
      have x1 : V2.cell? ⟨kc, 1, none⟩ = some (.int .i64 0) := e1.cell 1
      have x2 : V2.cell? ⟨kc, 2, none⟩ = some (.slice none 0 0) := e1.cell 2
      have x3 : V2.cell? ⟨kc, 3, none⟩ = some (.slice none 0 0) := e1.cell 3
      have x4 : V2.cell? ⟨kc, 4, none⟩ = some (.string ⟨#[]⟩) := e1.cell 4
      have x5 : V2.cell? ⟨ke, 0, none⟩ = some (.int .i64 401) := e2.cell 0
      have FIN : PPost w pr (.returned (.tuple #[.agg (cmdNil 0), .int .i64 401])) V2 := by
        refine ⟨(hTo.out w6 hf6'.out).trans (hfz.mono (G := fun k => w.heap.size ≤ k) fun k _ hk => by have h1 := hkc'.out; have h2 := hke'.out; rcases hk with rfl | rfl <;> omega) (fun _ _ h => h) |>.mono fun k hk h => by omega, ?_⟩
        rw [hpr.out]
        exact ⟨_, rfl, .slice none 0 0, .slice none 0 0, rfl, World.ownsRow_nil _ _ _ _, World.ownsRow_nil _ _ _ _⟩
      unfold cmdNil at FIN
      simp [Leaves, settle, results, Tryd.results20, go_sem, x0, x1, x2, x3, x4, x5]
      exact FIN
    | false =>
      have hpr := Lib.hid (hp'.out.trans (parseV_ok hv'.out hrf hm))
      obtain ⟨r', m'⟩ := s'
      dsimp only at hm
      subst hm
      go_wp2_with (refine RV.mono ?_; rintro e w6 ⟨hf6, rfl, hr6, nv, mv, hc6, hnv, hmv⟩; have he6 := he5.far' hf6 (fun q => by have h1 := hn6.out.1; have h2 := hn6.out.2; have h3 := s5'.out; have h4 := hkr'.out; rcases q with q | q | q <;> omega); obtain ⟨no, nc, rfl⟩ := Src.form (Src.own hnv); obtain ⟨mo, mc, rfl⟩ := Src.form (Src.own hmv); unfold st at hc6; have y1 : w6.cell? ⟨kr, 1, none⟩ = some (.bool false) := hr6.cell 1; have t0 : w6.cell? ⟨kc, 0, none⟩ = some (.int .i64 (c.v : Int)) := hc6.cell 0; have t1 : w6.cell? ⟨kc, 1, none⟩ = some (.int .i64 (c.how : Int)) := hc6.cell 1; have t2 : w6.cell? ⟨kc, 2, none⟩ = some (.slice no c.names.length nc) := hc6.cell 2; have t3 : w6.cell? ⟨kc, 3, none⟩ = some (.slice mo c.nums.length mc) := hc6.cell 3; have t4 : w6.cell? ⟨kc, 4, none⟩ = some (.string ⟨c.text.toArray⟩) := hc6.cell 4; have u0 := hc6.free 0; have u1 := hc6.free 1; have u2 := hc6.free 2; have u3 := hc6.free 3; have u4 := hc6.free 4; have u5 := he6.free 0; have t5 : w6.cell? ⟨ke, 0, none⟩ = some (.int .i64 0) := he6.cell 0; have v1 := hc6.lt; have v2 := he6.lt; have v3 : ke ≠ kc := hn6.out.2; have v4 : kc ≠ ke := (fun e => v3 e.symm); have hf6' := Lib.hid hf6; have hc6' := Lib.hid hc6; have he6' := Lib.hid he6; have hnv' := Lib.hid hnv; have hmv' := Lib.hid hmv; clear hf6 hr6 hc6 he6 hnv hmv)
      obtain ⟨V, hV⟩ : ∃ V, V = (((((w6.setCell ⟨kc, 0, none⟩ (.int .i64 (c.v : Int))).setCell ⟨kc, 1, none⟩ (.int .i64 (c.how : Int))).setCell ⟨kc, 2, none⟩ (.slice no c.names.length nc)).setCell ⟨kc, 3, none⟩ (.slice mo c.nums.length mc)).setCell ⟨kc, 4, none⟩ (.string ⟨c.text.toArray⟩)).setCell ⟨ke, 0, none⟩ (.int .i64 0) := ⟨_, rfl⟩
      rw [← hV]
      have hS : Far (fun k => k = kc ∨ k = ke) w6 V := hV ▸ ((((((Far.refl (fun k => k = kc ∨ k = ke) w6).set ⟨kc, 0, none⟩ (.int .i64 (c.v : Int)) (fun _ => .inl rfl)).set ⟨kc, 1, none⟩ (.int .i64 (c.how : Int)) (fun _ => .inl rfl)).set ⟨kc, 2, none⟩ (.slice no c.names.length nc) (fun _ => .inl rfl)).set ⟨kc, 3, none⟩ (.slice mo c.nums.length mc) (fun _ => .inl rfl)).set ⟨kc, 4, none⟩ (.string ⟨c.text.toArray⟩) (fun _ => .inl rfl)).set ⟨ke, 0, none⟩ (.int .i64 0) (fun _ => .inr rfl)
      have e1 := Lib.hid (show Bk V kc 27 #[.int .i64 (c.v : Int), .int .i64 (c.how : Int), .slice no c.names.length nc, .slice mo c.nums.length mc, .string ⟨c.text.toArray⟩] from hV ▸ (((((hc6'.out.set 0 (.int .i64 (c.v : Int))).set 1 (.int .i64 (c.how : Int))).set 2 (.slice no c.names.length nc)).set 3 (.slice mo c.nums.length mc)).set 4 (.string ⟨c.text.toArray⟩)).far (p := ⟨ke, 0, none⟩) v4 (.int .i64 0))
      have e2 := Lib.hid (show Bk V ke 28 #[.int .i64 0] from hV ▸ (((((he6'.out.far (p := ⟨kc, 0, none⟩) v3 (.int .i64 (c.v : Int))).far (p := ⟨kc, 1, none⟩) v3 (.int .i64 (c.how : Int))).far (p := ⟨kc, 2, none⟩) v3 (.slice no c.names.length nc)).far (p := ⟨kc, 3, none⟩) v3 (.slice mo c.nums.length mc)).far (p := ⟨kc, 4, none⟩) v3 (.string ⟨c.text.toArray⟩)).set 0 (.int .i64 0))
      have hwB : w.heap.size ≤ W5.heap.size := by omega
      have o1 := Lib.hid (rowUp (row_far hnv'.out hS fun k hk e => by have h1 := (hnv'.out.lt k hk).1; have h2 := s5'.out; have h3 := hkr'.out; rcases e with e | e <;> omega) hwB)
      have o2 := Lib.hid (rowUp (row_far hmv'.out hS fun k hk e => by have h1 := (hmv'.out.lt k hk).1; have h2 := s5'.out; have h3 := hkr'.out; rcases e with e | e <;> omega) hwB)
      have hR := Lib.hid ((hTo.out w6 hf6'.out).trans (hS.mono (G := fun k => w.heap.size ≤ k) fun k _ hk => by have h1 := hkc'.out; have h2 := hke'.out; rcases hk with rfl | rfl <;> omega) fun _ _ h => h)
      clear hV hS
      refine leaves_cons (f := 33) (args := #[.pointer (some ⟨kc, 0, none⟩), .pointer (some ⟨ke, 0, none⟩)]) (by simp) (by simp [go_sem]) ?_
      refine (catch_idle kc ke _).mono ?_
      rintro e u' V2 ⟨rfl, rfl, rfl⟩
      have x0 : V2.cell? ⟨kc, 0, none⟩ = some (.int .i64 (c.v : Int)) := e1.out.cell 0
      have x1 : V2.cell? ⟨kc, 1, none⟩ = some (.int .i64 (c.how : Int)) := e1.out.cell 1
      have x2 : V2.cell? ⟨kc, 2, none⟩ = some (.slice no c.names.length nc) := e1.out.cell 2
      have x3 : V2.cell? ⟨kc, 3, none⟩ = some (.slice mo c.nums.length mc) := e1.out.cell 3
      have x4 : V2.cell? ⟨kc, 4, none⟩ = some (.string ⟨c.text.toArray⟩) := e1.out.cell 4
      have x5 : V2.cell? ⟨ke, 0, none⟩ = some (.int .i64 0) := e2.out.cell 0
      have FIN : PPost w pr (.returned (.tuple #[.agg #[.int .i64 (c.v : Int), .int .i64 (c.how : Int), .slice no c.names.length nc, .slice mo c.nums.length mc, .string ⟨c.text.toArray⟩], .int .i64 0])) V2 := by
        refine ⟨hR.out.mono fun k hk h => by omega, ?_⟩
        rw [hpr.out]
        exact ⟨_, rfl, _, _, rfl, o1.out, o2.out⟩
      simp [Leaves, settle, results, Tryd.results20, go_sem, x0, x1, x2, x3, x4, x5]
      exact FIN
end
end Go.Proofs.YtjmgheogpglpnaaDoor
