/-
  A command of the call's own in memory.
-/
import Derived.Test.YtjmgheogpglpnaaDoorFormOf30
import Derived.Test.YtjmgheogpglpnaaDoorSrc
namespace Go.Proofs.YtjmgheogpglpnaaDoor
open Go.RowKit
set_option linter.unusedVariables false
set_option linter.unusedSimpArgs false
theorem drew_far (w : World) : Far (fun _ => False) w w.drew := (Far.refl _ w).drew
theorem Far.out {F : Nat → Prop} {a b c : World} (h : Far (fun _ => False) a b) (k : Far F b c) (hF : ∀ i, i < a.heap.size → ¬ F i) : Far (fun _ => False) a c := h.trans k fun i hi hf => hF i hi hf
theorem own_ne {w : World} {base sz n : Nat} {e t : TypeId} {v : Value} {xs : List Value} {g : Nat} {cs : Array Value} (h : w.ownsRow base e sz v n xs) (hB : Bk w g t cs) (hne : e ≠ t) : v.ownBlock ≠ some g := by
  intro he
  rcases h.2 with ⟨rfl, _⟩ | ⟨g', cap, cur, rfl, _, hg, _⟩
  · cases he
  · have : g' = g := Option.some.inj he
    subst this
    rw [show w.heap[g']? = _ from hB] at hg
    cases hg
    exact hne rfl
theorem info3 {P : Program} {t : TypeId} {n a b : Nat} (h : (P.info? t).map (fun i => (i.zero.map (·.cells.size), i.size, i.bytes)) = some (some n, a, b)) : ∃ i z, P.info? t = some i ∧ i.zero = some z ∧ i.size = a ∧ i.bytes = b ∧ z.cells.size = n := by
  cases hi : P.info? t with
  | none => rw [hi] at h; cases h
  | some i =>
    rw [hi] at h
    simp only [Option.map_some, Option.some.injEq, Prod.mk.injEq] at h
    obtain ⟨h1, h2, h3⟩ := h
    cases hz : i.zero with
    | none => rw [hz] at h1; cases h1
    | some z =>
      rw [hz] at h1
      exact ⟨i, z, rfl, hz, h2, h3, by simpa using h1⟩
theorem rows_ne {w : World} {b1 s1 n1 b2 s2 n2 : Nat} {e1 e2 : TypeId} {v1 v2 : Value} {x1 x2 : List Value} (h1 : w.ownsRow b1 e1 s1 v1 n1 x1) (h2 : w.ownsRow b2 e2 s2 v2 n2 x2) (hne : e1 ≠ e2) {k : Nat} (hk : v1.ownBlock = some k) : v2.ownBlock ≠ some k := by
  rcases h1.2 with ⟨rfl, _⟩ | ⟨g, cap, cur, rfl, _, hg, _⟩
  · cases hk
  · have : g = k := Option.some.inj hk
    subst this
    intro he
    exact own_ne h2 (show Bk w g e1 cur from hg) (fun e => hne e.symm) he
theorem row_far {w w' : World} {F : Nat → Prop} {base e size n : Nat} {v : Value} {xs : List Value} (h : w.ownsRow base e size v n xs) (hf : Far F w w') (hF : ∀ k, v.ownBlock = some k → ¬ F k) : w'.ownsRow base e size v n xs := row_same h fun k hk hk2 => hf.block k hk2 (hF k hk)
theorem grown_far {w w' : World} {v : Value} (hg : w.grownBy w' v.ownBlock) : Far (fun k => v.ownBlock = some k) w w' := (Far.refl _ w).grown hg fun k _ e => e
theorem rowUp {w : World} {base base' e size n : Nat} {v : Value} {xs : List Value} (h : w.ownsRow base e size v n xs) (hb : base' ≤ base) : w.ownsRow base' e size v n xs := ⟨h.1, h.2.imp id fun ⟨g, cap, cur, e, hg, r⟩ => ⟨g, cap, cur, e, Nat.le_trans hb hg, r⟩⟩
theorem step_call {P : Program} {w : World} {ops : Array Oper} {o : Oper} {a : Act} {K : Act → World → Prop} {Q : Exit → Act → World → Prop} {E : Prop} {R : Value → World → Prop} (hgd : o.guard = none) (f : FuncId) (args : Array Value)
    (hr : (execOp a.eval o).run P w = .ok (.enter f args) w) (hc : Calls P f args w fun e w' => ∃ v, e = .returned v ∧ R v w') (h : ∀ v w', R v w' → K (a.put o.dst v) w') : if Region.wanted o (yielded ops a.tmps) = true then Oper.wp P o a w K Q else E := by
  have hw : Region.wanted o (yielded ops a.tmps) = true := by simp [Region.wanted, hgd]
  rw [if_pos hw]
  unfold Oper.wp
  rw [hr]
  exact hc.mono fun e w' ⟨v, he, hR⟩ => by subst he; exact h v w' hR
theorem step_panic {P : Program} {w : World} {ops : Array Oper} {o : Oper} {a : Act} {K : Act → World → Prop} {Q : Exit → Act → World → Prop} {E : Prop} {R : World → Prop} {ch : List PanicEntry} (hgd : o.guard = none) (f : FuncId) (args : Array Value)
    (hr : (execOp a.eval o).run P w = .ok (.enter f args) w) (hc : Calls P f args w fun e w' => e = .panicked ch ∧ R w') (h : ∀ w', R w' → Q (.panic ch) a w') : if Region.wanted o (yielded ops a.tmps) = true then Oper.wp P o a w K Q else E := by
  have hw : Region.wanted o (yielded ops a.tmps) = true := by simp [Region.wanted, hgd]
  rw [if_pos hw]
  unfold Oper.wp
  rw [hr]
  exact hc.mono fun e w' ⟨he, hR⟩ => by subst he; exact h w' hR
/-- A callee that panics, in a region whose order is drawn: what is asked is proved on the spot; the walk goes on in an empty region. -/
theorem step_stop {P : Program} {w : World} {ops : Array Oper} {o : Oper} {a : Act} {K : Act → World → Prop} {Q : Exit → Act → World → Prop} {E : Prop} {R : World → Prop} {ch : List PanicEntry} (hgd : o.guard = none) (f : FuncId) (args : Array Value)
    (hr : (execOp a.eval o).run P w = .ok (.enter f args) w) (hc : Calls P f args w fun e w' => e = .panicked ch ∧ R w') (h : ∀ w', R w' → Q (.panic ch) a w') (_ : wpAny P .any #[] (fun _ _ _ => True) 0 #[] a w) : if Region.wanted o (yielded ops a.tmps) = true then Oper.wp P o a w K Q else E :=
  step_panic hgd f args hr hc h
theorem panic_post {P : Program} {fn : Func} {R : Ending → World → Prop} {ch : List PanicEntry} {a : Act} {w : World} (ha : a.defers = []) (h : R (.panicked ch) w) : bodyPost P fn R (.panic ch) a w := ⟨ha, h⟩
theorem info_str : (Tryd.prog.info? 9).map (fun i => (i.zero.map (·.cells.size), i.size, i.bytes)) = some (some 1, 1, 16) := by kernel_rfl
theorem info_int : (Tryd.prog.info? 3).map (fun i => (i.zero.map (·.cells.size), i.size, i.bytes)) = some (some 1, 1, 8) := by kernel_rfl
def nums (l : List Nat) : List Value := l.map fun (n : Nat) => .int .i64 (n : Int)
/-- A command in block k, its lists in rows of the call's own from B on. -/
def Cd (w : World) (B k : Nat) (c : Cm) : Prop := ∃ nv mv, Bk w k 27 #[.int .i64 (c.v : Int), .int .i64 (c.how : Int), nv, mv, st c.text] ∧ w.ownsRow B 9 1 nv c.names.length (c.names.map st) ∧ w.ownsRow B 3 1 mv c.nums.length (nums c.nums)
theorem st_one (l : List Tx) : ∀ u ∈ l.map st, u.oneCell' = true := by
  intro u hu
  obtain ⟨x, _, rfl⟩ := List.mem_map.1 hu
  rfl
theorem str_int : (9 : TypeId) ≠ 3 := by decide
theorem str_cmd : (9 : TypeId) ≠ 27 := by decide
theorem int_cmd : (3 : TypeId) ≠ 27 := by decide
theorem str_rd : (9 : TypeId) ≠ 70 := by decide
theorem int_rd : (3 : TypeId) ≠ 70 := by decide
theorem rd_cmd : (70 : TypeId) ≠ 27 := by decide
theorem bk_ne {w : World} {g g' : Nat} {t t' : TypeId} {cs cs' : Array Value} (h : Bk w g t cs) (h' : Bk w g' t' cs') (hne : t ≠ t') : g ≠ g' := by
  intro e
  subst e
  unfold Bk at h h'
  rw [h] at h'
  cases h'
  exact hne rfl
/-- What the readers may write to. -/
def FR (B kr kc : Nat) (k : Nat) : Prop := k = kr ∨ k = kc ∨ B ≤ k
end Go.Proofs.YtjmgheogpglpnaaDoor
