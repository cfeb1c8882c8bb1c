/-
  The reference's Has, and what holds a block: the laws for a whole array.
-/
import Derived.Test.YtoaeeojnelmlnaaDoorRows
import Derived.Test.YtoaeeojnelmlnaaDoorBits
import Derived.WalkKit
import Derived.WalkSpells
import Derived.WalkLawsBesides
import Derived.Deep.WholeRow
import Derived.StillTailTactics
import Derived.Lib.Hide
namespace Go.Proofs.YtoaeeojnelmlnaaDoor
open Go.RowKit

theorem tb (a c : Nat) : (((a : Int) / 2 ^ c).tmod 2 == 1) = a.testBit c := by
  have h1 : ((a : Int) / 2 ^ c) = ((a / 2 ^ c : Nat) : Int) := by simp
  rw [h1, Int.tmod_eq_emod_of_nonneg (Int.natCast_nonneg _), Nat.testBit_eq_decide_div_mod_eq, Bool.eq_iff_iff]
  simp
  omega

theorem blockType : Tryd.prog.underlying 97 = some (.array 64 95) := by kernel_rfl
theorem blockSize : (Tryd.prog.info? 97).map (·.size) = some 64 := by kernel_rfl
theorem blockZero : (Tryd.prog.info? 97).map (fun i => (i.zero, i.size)) = some (some (.agg (Rw fun _ => 0)), 64) := by kernel_rfl

/-- Block number g of memory is a block's variable that holds X. -/
def Hold (w : World) (g : Nat) (X : Array Value) : Prop := w.heap[g]? = some (.cells X 97 (0, 0))
theorem Hold.new {w : World} {g : Nat} {X : Array Value} (h : g = w.heap.size) : Hold (w.alloc (.cells X 97)) g X := by
  subst h; exact heap_alloc_new w _
theorem Hold.lt {w : World} {g : Nat} {X : Array Value} (h : Hold w g X) : g < w.heap.size := (Array.getElem?_eq_some_iff.1 h).1
theorem Hold.alloc {w : World} {g : Nat} {X : Array Value} (h : Hold w g X) (o : Obj) : Hold (w.alloc o) g X := by
  exact (heap_alloc_old w o h.lt).trans h
theorem Hold.drew {w : World} {g : Nat} {X : Array Value} (h : Hold w g X) : Hold w.drew g X := h
theorem Hold.row {w : World} {g : Nat} {X : Array Value} (h : Hold w g X) (Y : Array Value) : Hold (w.setRow g Y) g Y := setRow_heap w g X Y _ _ h
theorem Hold.other {w : World} {g k : Nat} {X : Array Value} (h : Hold w g X) (hk : g ≠ k) (Y : Array Value) : Hold (w.setRow k Y) g X :=
  (setRow_other w k g Y (fun e => hk (by omega))).trans h
theorem Hold.far {w : World} {g : Nat} {X : Array Value} (h : Hold w g X) {p : Addr} (hk : g ≠ p.block) (v : Value) : Hold (w.setCell p v) g X :=
  (heap_setCell_other w p g v hk).trans h
theorem Hold.cell {w : World} {g i : Nat} {X : Array Value} {v : Value} (h : Hold w g X) (hv : X[i]? = some v) : w.cell? ⟨g, i, none⟩ = some v :=
  (cell_of_row w g i X _ _ h).trans hv
theorem Hold.free {w : World} {g i : Nat} {X : Array Value} (h : Hold w g X) : w.frozen? ⟨g, i, none⟩ = false := frozen_of_row w g i X _ h
theorem Hold.put {w : World} {g i : Nat} {X : Array Value} (h : Hold w g X) (v : Value) : Hold (w.setCell ⟨g, i, none⟩ v) g (X.setIfInBounds i v) :=
  heap_setCell_same w g i X _ v h
theorem Hold.below {B : Nat} {w w' : World} {g : Nat} {X : Array Value} (h : Hold w g X) (hb : Below B w w') (hg : g < B) : Hold w' g X :=
  (hb.block g hg).trans h

theorem Below.row {B : Nat} {a w : World} (h : Below B a w) {g : Nat} (hg : B ≤ g) (Y : Array Value) : Below B a (w.setRow g Y) :=
  ⟨h.os, h.tape, h.output, by rw [size_setRow]; exact h.size, fun i hi => (setRow_other w g i Y (by omega)).trans (h.block i hi)⟩

theorem wpList_want {P : Program} {ops : Array Oper} {Q : Exit → Act → World → Prop} {a : Act} {w : World} {rest : List Oper} {o : Oper} (hg : Region.wanted o (yielded ops a.tmps) = true)
    (h : ∀ K : Act → World → Prop, (∀ a w, wpList P ops Q rest a w → K a w) → o.wp P a w K Q) : wpList P ops Q (o :: rest) a w :=
  wpList_step fun K hK => by simp only [hg, if_true]; exact h K hK

/-- A whole block out of its variable. -/
theorem wpList_ld {ops : Array Oper} {rest : List Oper} {o : Oper} {a : Act} {w : World} {Q : Exit → Act → World → Prop} (hgd : Region.wanted o (yielded ops a.tmps) = true) (x : Operand) (ho : o.op = .load 97 x)
    (g : Nat) (hx : a.eval x = .pointer (some ⟨g, 0, none⟩)) {f : Nat → Nat} (hg : Hold w g (Rw f))
    (h : wpList Tryd.prog ops Q rest (a.put o.dst (.agg (Rw f))) w) : wpList Tryd.prog ops Q (o :: rest) a w :=
  wpList_want hgd fun _ hK => wp_load_row 97 x ho g hx 97 (Rw f) (0, 0) _ hg blockType rfl (by rw [blockSize, Rw_size]) (hK _ _ h)
/-- The same within a region that draws its order. -/
theorem wpStill_ld {ops : Array Oper} {rest : List Oper} {o : Oper} {a : Act} {w : World} {Q : Act → Prop} (hgd : Region.wanted o (yielded ops a.tmps) = true) (x : Operand) (ho : o.op = .load 97 x)
    (g : Nat) (hx : a.eval x = .pointer (some ⟨g, 0, none⟩)) {f : Nat → Nat} (hg : Hold w g (Rw f))
    (h : wpStill Tryd.prog ops w Q rest (a.put o.dst (.agg (Rw f)))) : wpStill Tryd.prog ops w Q (o :: rest) a := by
  have hl := run_loadVar_row (P := Tryd.prog) w g 97 97 (Rw f) (0, 0) _ hg blockType rfl (by rw [blockSize, Rw_size])
  unfold wpStill
  rw [if_pos hgd]
  unfold Oper.still execOp
  simp only [ho, hx, Instr.loadAt, Instr.sureAddr, Sem.run_bind, Sem.run_pure, Result.andThen_ok, hl]
  rw [Oper.stillUpon_value]
  exact h
/-- A whole block into its variable. -/
theorem wpList_st {ops : Array Oper} {rest : List Oper} {o : Oper} {a : Act} {w : World} {Q : Exit → Act → World → Prop} (hgd : o.guard = none) (x y : Operand) (ho : o.op = .store 97 x y)
    (g : Nat) (hx : a.eval x = .pointer (some ⟨g, 0, none⟩)) {f : Nat → Nat} (f' : Nat → Nat) (hy : a.eval y = .agg (Rw f')) (hg : Hold w g (Rw f))
    (h : wpList Tryd.prog ops Q rest (a.put o.dst undef) (w.setRow g (Rw f'))) : wpList Tryd.prog ops Q (o :: rest) a w :=
  wpList_store_row hgd 97 x y ho g (Rw f') hx hy 97 (Rw f) hg (by rw [blockSize, Rw_size]) (by rw [Rw_size, Rw_size]) (Rw_one f') h

/-- A region that draws its order: its reads first, then its tail in order; the world behind the draw is called w'. -/
theorem still_tail {P : Program} {id : Nat} {Q : Exit → Act → World → Prop} {a : Act} {w : World} {l : List Oper} (n : Nat) (hm : P.follows .mixedOrders = true) (hB : Region.lexTailB .any l.toArray n = true)
    (h : ∀ w', w' = w.drew → wpStill P l.toArray w' (fun a' => wpList P l.toArray Q (l.drop n) a' w') (l.take n) a) : (Code.region id l.toArray true).wp P Q a w :=
  wp_region_still_tail n hm hB (h _ rfl)
theorem Below.drew_eq {B : Nat} {a w w' : World} (h : Below B a w) (e : w' = w.drew) : Below B a w' := by subst e; exact h.drew
theorem Hold.drew_eq {w w' : World} {g : Nat} {X : Array Value} (h : Hold w g X) (e : w' = w.drew) : Hold w' g X := by subst e; exact h
theorem wordSize : (Tryd.prog.info? 95).map (·.size) = some 1 := by kernel_rfl
/-- A row's word out of a block by value. -/
theorem run_ix (f : Nat → Nat) (k : Nat) (hk : k < 64) (w : World) : (Instr.index 97 (.agg (Rw f)) (.int .i64 k)).run Tryd.prog w = .ok (.int .u64 (f k)) w := by
  have hs : ∃ i, Tryd.prog.info? 95 = some i ∧ i.size = 1 := by
    have := wordSize
    cases h : Tryd.prog.info? 95 with
    | none => rw [h] at this; cases this
    | some i => rw [h] at this; exact ⟨i, rfl, by simpa using this⟩
  obtain ⟨i, hi, h1⟩ := hs
  have hsz : (sizeOf 95).run Tryd.prog w = .ok 1 w := by simp [sizeOf, typeInfo, hi, h1]
  unfold Instr.index
  simp [asIntOf, run_underlying blockType, part, hsz, Rw_get f k hk, Sem.run_bind, Result.andThen]
  intro h
  omega
theorem blockEmpty : Tryd.prog.built 97 [] = some (Rw fun _ => 0) := by kernel_rfl
/-- The empty block, as a literal. -/
theorem wpList_bd {ops : Array Oper} {rest : List Oper} {o : Oper} {a : Act} {w : World} {Q : Exit → Act → World → Prop} (hgd : o.guard = none) (ho : o.op = .build 97 #[])
    (h : wpList Tryd.prog ops Q rest (a.put o.dst (.agg (Rw fun _ => 0))) w) : wpList Tryd.prog ops Q (o :: rest) a w :=
  wpList_build hgd 97 #[] ho (by simp [blockEmpty]) (by simpa [blockEmpty] using h)
/-- A block is handed back out of its variable; the same beside a second result. -/
theorem ret_blk {f : Nat → Nat} {fn : Func} {p : Tmp} {R : Ending → World → Prop} {a : Act} {w : World} (h : fn.results = #[.cell p 97]) (g : Nat) (hp : a.tmps.getD p undef = .pointer (some ⟨g, 0, none⟩))
    (hg : Hold w g (Rw f)) (hd : a.defers = []) (hR : R (.returned (.agg (Rw f))) w) : bodyPost Tryd.prog fn R .ret a w :=
  bodyPost_ret (results_cell_row h a.tmps w g 97 (Rw f) (0, 0) _ hp hg blockType rfl (by rw [blockSize, Rw_size])) hd hR
theorem ret_blk2 {f : Nat → Nat} {fn : Func} {p u : Tmp} {R : Ending → World → Prop} {a : Act} {w : World} (h : fn.results = #[.cell p 97, .tmp u]) (g : Nat) (hp : a.tmps.getD p undef = .pointer (some ⟨g, 0, none⟩))
    (hg : Hold w g (Rw f)) (hd : a.defers = []) (hR : R (.returned (.tuple #[.agg (Rw f), a.tmps.getD u undef])) w) : bodyPost Tryd.prog fn R .ret a w := by
  refine bodyPost_ret (v := .tuple #[.agg (Rw f), a.tmps.getD u undef]) ?_ hd hR
  have hl := run_loadVar_row (P := Tryd.prog) w g 97 97 (Rw f) (0, 0) _ hg blockType rfl (by rw [blockSize, Rw_size])
  rw [results_cell_tmp h, hp]
  simp [asAddr, hl, Result.andThen]
end Go.Proofs.YtoaeeojnelmlnaaDoor
