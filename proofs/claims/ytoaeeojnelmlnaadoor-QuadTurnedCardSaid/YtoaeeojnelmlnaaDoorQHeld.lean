/-
  Regions that draw their order and make or write memory: the steps of a walk over every order.
-/
import Derived.Test.YtoaeeojnelmlnaaDoorQHold
import Derived.Deep.RegionHeld3
namespace Go.Proofs.YtoaeeojnelmlnaaDoor
open Go.RowKit
set_option linter.unusedVariables false
section
variable {P : Program} {ops : Array Oper} {o : Oper} {a : Act} {w : World} {K : Act → World → Prop} {Q : Exit → Act → World → Prop}
/-- A call, by what its callee does. -/
theorem hw_call (v : Value) (f : FuncId) (args : Array Value) (R : World → Prop) (hw : Region.wanted o (yielded ops a.tmps) = true) (hr : (execOp a.eval o).run P w = .ok (.enter f args) w)
    (hc : Calls P f args w fun e w' => e = .returned v ∧ R w') (hk : ∀ w', R w' → K (a.put o.dst v) w') :
    if Region.wanted o (yielded ops a.tmps) = true then Oper.wp P o a w K Q else K (a.put o.dst undef) w := by
  rw [if_pos hw]
  unfold Oper.wp
  rw [hr]
  exact hc.mono fun e w' ⟨he, hR⟩ => by subst he; exact hk _ hR
/-- An operation that yields a value in a world that has moved on. -/
theorem hw_run (v : Value) (w1 : World) (hw : Region.wanted o (yielded ops a.tmps) = true) (hr : (execOp a.eval o).run P w = .ok (.value v) w1) (hk : K (a.put o.dst v) w1) :
    if Region.wanted o (yielded ops a.tmps) = true then Oper.wp P o a w K Q else K (a.put o.dst undef) w := by
  rw [if_pos hw]
  unfold Oper.wp
  rw [hr, Oper.upon_value]
  exact hk
end
/-- A block's variable is made. -/
theorem run_mk {o : Oper} {a : Act} (w : World) (ho : o.op = .alloc 97) : (execOp a.eval o).run Tryd.prog w = .ok (.value (.pointer (some ⟨w.heap.size, 0, none⟩))) (w.alloc (.cells (Rw fun _ => 0) 97)) := by
  have hz : ∀ w, (zeroValue 97).run Tryd.prog w = .ok (.agg (Rw fun _ => 0)) w := (zero_of_info blockZero).1
  unfold execOp
  simp only [ho, Sem.run_bind, Instr.alloc, hz, Result.andThen_ok, newVar, newRow, run_newObj_alloc, Sem.run_pure]
  rfl
/-- A block goes into a variable, whichever comes next. -/
theorem hw_st {ops : Array Oper} {o : Oper} {a : Act} {w : World} {K : Act → World → Prop} {Q : Exit → Act → World → Prop} (hw : Region.wanted o (yielded ops a.tmps) = true) (x y : Operand) (ho : o.op = .store 97 x y)
    (g : Nat) (hx : a.eval x = .pointer (some ⟨g, 0, none⟩)) {f : Nat → Nat} (f' : Nat → Nat) (hy : a.eval y = .agg (Rw f')) (hg : Hold w g (Rw f)) (hk : K (a.put o.dst undef) (w.setRow g (Rw f'))) :
    if Region.wanted o (yielded ops a.tmps) = true then Oper.wp Tryd.prog o a w K Q else K (a.put o.dst undef) w := by
  rw [if_pos hw]
  exact wp_store_row 97 x y ho g (Rw f') hx hy 97 (Rw f) hg (by rw [blockSize, Rw_size]) (by rw [Rw_size, Rw_size]) (Rw_one f') hk
/-- A load of a block, in every world of a class. -/
theorem yl {ops : Array Oper} {S : World → Prop} {o : Oper} {a : Act} (hw : Region.wanted o (yielded ops a.tmps) = true) (x : Operand) (ho : o.op = .load 97 x)
    (g : Nat) (hx : a.eval x = .pointer (some ⟨g, 0, none⟩)) {f : Nat → Nat} (hg : ∀ w, S w → Hold w g (Rw f)) : YieldsIf Tryd.prog ops S o (.agg (Rw f)) a :=
  .inl ⟨hw, fun w hS => by
    have hl := run_loadVar_row (P := Tryd.prog) w g 97 97 (Rw f) (0, 0) _ (hg w hS) blockType rfl (by rw [blockSize, Rw_size])
    unfold execOp
    simp only [ho, hx, Instr.loadAt, Instr.sureAddr, Sem.run_bind, Sem.run_pure, Result.andThen_ok, hl]⟩
end Go.Proofs.YtoaeeojnelmlnaaDoor
