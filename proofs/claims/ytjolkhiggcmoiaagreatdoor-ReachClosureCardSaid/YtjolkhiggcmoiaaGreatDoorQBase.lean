/-
  QBase: QHold, QTree, QSmall, QRow, QMat, QEq, QOr, QLen, QPop, QFind, QTz, QCorner, QHeld.
-/
import Derived.Test.YtjolkhiggcmoiaaGreatDoorRows
import Derived.Test.YtjolkhiggcmoiaaGreatDoorBits
import Derived.WalkKit
import Derived.WalkSpells
import Derived.WalkLawsBesides
import Derived.Deep.WholeRow
import Derived.StillTailTactics
import Derived.Lib.Hide
import Derived.Test.YtjolkhiggcmoiaaGreatDoorMath
import Derived.Test.YtjolkhiggcmoiaaGreatDoorMem
import Derived.Deep.MidRow
import Derived.Lib.TrailingZeros
import Derived.Deep.RegionHeld3
/-! ## QHold: The reference's Has, and what holds a block: the laws for a whole array. -/
namespace Go.Proofs.YtjolkhiggcmoiaaGreatDoor
open Go.RowKit

theorem tb (a c : Nat) : (((a : Int) / 2 ^ c).tmod 2 == 1) = a.testBit c := by
  have h1 : ((a : Int) / 2 ^ c) = ((a / 2 ^ c : Nat) : Int) := by simp
  rw [h1, Int.tmod_eq_emod_of_nonneg (Int.natCast_nonneg _), Nat.testBit_eq_decide_div_mod_eq, Bool.eq_iff_iff]
  simp
  omega

theorem blockType : Tryz.prog.underlying 108 = some (.array 64 102) := by kernel_rfl
theorem blockSize : (Tryz.prog.info? 108).map (·.size) = some 64 := by kernel_rfl
theorem blockZero : (Tryz.prog.info? 108).map (fun i => (i.zero, i.size)) = some (some (.agg (Rw fun _ => 0)), 64) := by kernel_rfl

/-- Block number g of memory is a block's variable that holds X. -/
def Hold (w : World) (g : Nat) (X : Array Value) : Prop := w.heap[g]? = some (.cells X 108 (0, 0))
theorem Hold.new {w : World} {g : Nat} {X : Array Value} (h : g = w.heap.size) : Hold (w.alloc (.cells X 108)) g X := by
  subst h; exact heap_alloc_new w _
theorem Hold.lt {w : World} {g : Nat} {X : Array Value} (h : Hold w g X) : g < w.heap.size := (Array.getElem?_eq_some_iff.1 h).1
theorem Hold.alloc {w : World} {g : Nat} {X : Array Value} (h : Hold w g X) (o : Obj) : Hold (w.alloc o) g X := by
  exact (heap_alloc_old w o h.lt).trans h
theorem Hold.drew {w : World} {g : Nat} {X : Array Value} (h : Hold w g X) : Hold w.drew g X := h
theorem Hold.row {w : World} {g : Nat} {X : Array Value} (h : Hold w g X) (Y : Array Value) : Hold (w.setRow g Y) g Y := setRow_heap w g X Y _ _ h
theorem Hold.other {w : World} {g k : Nat} {X : Array Value} (h : Hold w g X) (hk : g ≠ k) (Y : Array Value) : Hold (w.setRow k Y) g X :=
  (setRow_other w k g Y (fun e => hk (by omega))).trans h
theorem Hold.far {w : World} {g : Nat} {X : Array Value} (h : Hold w g X) {p : Addr} (hk : g ≠ p.block) (v : Value) : Hold (w.setCell p v) g X :=
  (heap_setCell_other w p g v hk).trans h
theorem Hold.cell {w : World} {g i : Nat} {X : Array Value} {v : Value} (h : Hold w g X) (hv : X[i]? = some v) : w.cell? ⟨g, i, none⟩ = some v :=
  (cell_of_row w g i X _ _ h).trans hv
theorem Hold.free {w : World} {g i : Nat} {X : Array Value} (h : Hold w g X) : w.frozen? ⟨g, i, none⟩ = false := frozen_of_row w g i X _ h
theorem Hold.put {w : World} {g i : Nat} {X : Array Value} (h : Hold w g X) (v : Value) : Hold (w.setCell ⟨g, i, none⟩ v) g (X.setIfInBounds i v) :=
  heap_setCell_same w g i X _ v h
theorem Hold.below {B : Nat} {w w' : World} {g : Nat} {X : Array Value} (h : Hold w g X) (hb : Below B w w') (hg : g < B) : Hold w' g X :=
  (hb.block g hg).trans h

theorem Below.row {B : Nat} {a w : World} (h : Below B a w) {g : Nat} (hg : B ≤ g) (Y : Array Value) : Below B a (w.setRow g Y) :=
  ⟨h.os, h.tape, h.output, by rw [size_setRow]; exact h.size, fun i hi => (setRow_other w g i Y (by omega)).trans (h.block i hi)⟩

theorem wpList_want {P : Program} {ops : Array Oper} {Q : Exit → Act → World → Prop} {a : Act} {w : World} {rest : List Oper} {o : Oper} (hg : Region.wanted o (yielded ops a.tmps) = true)
    (h : ∀ K : Act → World → Prop, (∀ a w, wpList P ops Q rest a w → K a w) → o.wp P a w K Q) : wpList P ops Q (o :: rest) a w :=
  wpList_step fun K hK => by simp only [hg, if_true]; exact h K hK

/-- A whole block out of its variable. -/
theorem wpList_ld {ops : Array Oper} {rest : List Oper} {o : Oper} {a : Act} {w : World} {Q : Exit → Act → World → Prop} (hgd : Region.wanted o (yielded ops a.tmps) = true) (x : Operand) (ho : o.op = .load 108 x)
    (g : Nat) (hx : a.eval x = .pointer (some ⟨g, 0, none⟩)) {f : Nat → Nat} (hg : Hold w g (Rw f))
    (h : wpList Tryz.prog ops Q rest (a.put o.dst (.agg (Rw f))) w) : wpList Tryz.prog ops Q (o :: rest) a w :=
  wpList_want hgd fun _ hK => wp_load_row 108 x ho g hx 108 (Rw f) (0, 0) _ hg blockType rfl (by rw [blockSize, Rw_size]) (hK _ _ h)
/-- The same within a region that draws its order. -/
theorem wpStill_ld {ops : Array Oper} {rest : List Oper} {o : Oper} {a : Act} {w : World} {Q : Act → Prop} (hgd : Region.wanted o (yielded ops a.tmps) = true) (x : Operand) (ho : o.op = .load 108 x)
    (g : Nat) (hx : a.eval x = .pointer (some ⟨g, 0, none⟩)) {f : Nat → Nat} (hg : Hold w g (Rw f))
    (h : wpStill Tryz.prog ops w Q rest (a.put o.dst (.agg (Rw f)))) : wpStill Tryz.prog ops w Q (o :: rest) a := by
  have hl := run_loadVar_row (P := Tryz.prog) w g 108 108 (Rw f) (0, 0) _ hg blockType rfl (by rw [blockSize, Rw_size])
  unfold wpStill
  rw [if_pos hgd]
  unfold Oper.still execOp
  simp only [ho, hx, Instr.loadAt, Instr.sureAddr, Sem.run_bind, Sem.run_pure, Result.andThen_ok, hl]
  rw [Oper.stillUpon_value]
  exact h
/-- A whole block into its variable. -/
theorem wpList_st {ops : Array Oper} {rest : List Oper} {o : Oper} {a : Act} {w : World} {Q : Exit → Act → World → Prop} (hgd : o.guard = none) (x y : Operand) (ho : o.op = .store 108 x y)
    (g : Nat) (hx : a.eval x = .pointer (some ⟨g, 0, none⟩)) {f : Nat → Nat} (f' : Nat → Nat) (hy : a.eval y = .agg (Rw f')) (hg : Hold w g (Rw f))
    (h : wpList Tryz.prog ops Q rest (a.put o.dst undef) (w.setRow g (Rw f'))) : wpList Tryz.prog ops Q (o :: rest) a w :=
  wpList_store_row hgd 108 x y ho g (Rw f') hx hy 108 (Rw f) hg (by rw [blockSize, Rw_size]) (by rw [Rw_size, Rw_size]) (Rw_one f') h

/-- A region that draws its order: its reads first, then its tail in order; the world behind the draw is called w'. -/
theorem still_tail {P : Program} {id : Nat} {Q : Exit → Act → World → Prop} {a : Act} {w : World} {l : List Oper} (n : Nat) (hm : P.follows .mixedOrders = true) (hB : Region.lexTailB .any l.toArray n = true)
    (h : ∀ w', w' = w.drew → wpStill P l.toArray w' (fun a' => wpList P l.toArray Q (l.drop n) a' w') (l.take n) a) : (Code.region id l.toArray true).wp P Q a w :=
  wp_region_still_tail n hm hB (h _ rfl)
theorem Below.drew_eq {B : Nat} {a w w' : World} (h : Below B a w) (e : w' = w.drew) : Below B a w' := by subst e; exact h.drew
theorem Hold.drew_eq {w w' : World} {g : Nat} {X : Array Value} (h : Hold w g X) (e : w' = w.drew) : Hold w' g X := by subst e; exact h
theorem wordSize : (Tryz.prog.info? 102).map (·.size) = some 1 := by kernel_rfl
/-- A row's word out of a block by value. -/
theorem run_ix (f : Nat → Nat) (k : Nat) (hk : k < 64) (w : World) : (Instr.index 108 (.agg (Rw f)) (.int .i64 k)).run Tryz.prog w = .ok (.int .u64 (f k)) w := by
  have hs : ∃ i, Tryz.prog.info? 102 = some i ∧ i.size = 1 := by
    have := wordSize
    cases h : Tryz.prog.info? 102 with
    | none => rw [h] at this; cases this
    | some i => rw [h] at this; exact ⟨i, rfl, by simpa using this⟩
  obtain ⟨i, hi, h1⟩ := hs
  have hsz : (sizeOf 102).run Tryz.prog w = .ok 1 w := by simp [sizeOf, typeInfo, hi, h1]
  unfold Instr.index
  simp [asIntOf, run_underlying blockType, part, hsz, Rw_get f k hk, Sem.run_bind, Result.andThen]
  intro h
  omega
theorem blockEmpty : Tryz.prog.built 108 [] = some (Rw fun _ => 0) := by kernel_rfl
/-- The empty block, as a literal. -/
theorem wpList_bd {ops : Array Oper} {rest : List Oper} {o : Oper} {a : Act} {w : World} {Q : Exit → Act → World → Prop} (hgd : o.guard = none) (ho : o.op = .build 108 #[])
    (h : wpList Tryz.prog ops Q rest (a.put o.dst (.agg (Rw fun _ => 0))) w) : wpList Tryz.prog ops Q (o :: rest) a w :=
  wpList_build hgd 108 #[] ho (by simp [blockEmpty]) (by simpa [blockEmpty] using h)
/-- A block is handed back out of its variable; the same beside a second result. -/
theorem ret_blk {f : Nat → Nat} {fn : Func} {p : Tmp} {R : Ending → World → Prop} {a : Act} {w : World} (h : fn.results = #[.cell p 108]) (g : Nat) (hp : a.tmps.getD p undef = .pointer (some ⟨g, 0, none⟩))
    (hg : Hold w g (Rw f)) (hd : a.defers = []) (hR : R (.returned (.agg (Rw f))) w) : bodyPost Tryz.prog fn R .ret a w :=
  bodyPost_ret (results_cell_row h a.tmps w g 108 (Rw f) (0, 0) _ hp hg blockType rfl (by rw [blockSize, Rw_size])) hd hR
theorem ret_blk2 {f : Nat → Nat} {fn : Func} {p u : Tmp} {R : Ending → World → Prop} {a : Act} {w : World} (h : fn.results = #[.cell p 108, .tmp u]) (g : Nat) (hp : a.tmps.getD p undef = .pointer (some ⟨g, 0, none⟩))
    (hg : Hold w g (Rw f)) (hd : a.defers = []) (hR : R (.returned (.tuple #[.agg (Rw f), a.tmps.getD u undef])) w) : bodyPost Tryz.prog fn R .ret a w := by
  refine bodyPost_ret (v := .tuple #[.agg (Rw f), a.tmps.getD u undef]) ?_ hd hR
  have hl := run_loadVar_row (P := Tryz.prog) w g 108 108 (Rw f) (0, 0) _ hg blockType rfl (by rw [blockSize, Rw_size])
  rw [results_cell_tmp h, hp]
  simp [asAddr, hl, Result.andThen]
end Go.Proofs.YtjolkhiggcmoiaaGreatDoor
/-! ## QTree: The tree of four as numbers: where each part lies, what a part more does. -/
namespace Go.Proofs.YtjolkhiggcmoiaaGreatDoor
set_option linter.unusedVariables false
set_option linter.unusedSimpArgs false
/-- In which quarter of a square of level l + 1 a place lies. -/
def qd (i j l : Nat) : Nat := 2 * (i / 2 ^ l % 2) + j / 2 ^ l % 2
theorem qd_lt (i j l : Nat) : qd i j l < 4 := by unfold qd; omega
/-- At one level, one place: another number. -/
def put3 (A : Nat → Nat → Nat → Nat) (l a b v : Nat) : Nat → Nat → Nat → Nat := fun l' a' b' => if l' = l ∧ a' = a ∧ b' = b then v else A l' a' b'
theorem put3_at (A : Nat → Nat → Nat → Nat) (l a b v : Nat) : put3 A l a b v l a b = v := by simp [put3]
theorem put3_ne {A : Nat → Nat → Nat → Nat} {l a b v l' a' b' : Nat} (h : ¬ (l' = l ∧ a' = a ∧ b' = b)) : put3 A l a b v l' a' b' = A l' a' b' := by simp [put3, h]
theorem half (i l : Nat) : i / 2 ^ (l + 1) = i / 2 ^ l / 2 := by rw [Nat.pow_succ, Nat.div_div_eq_div_mul]
/-- A tree: root's number, the nodes' parts; A: the number of the part at a level and place (0: none); ps: the leaves' places. -/
structure Tree (lv root : Nat) (ns : List (Nat → Nat)) (A : Nat → Nat → Nat → Nat) (ps : List (Nat × Nat)) : Prop where
  root : A lv 0 0 = root
  top : ∀ a b, A lv a b ≠ 0 → a = 0 ∧ b = 0
  high : ∀ l a b, lv < l → A l a b = 0
  node : ∀ l a b, A (l + 1) a b ≠ 0 → ∃ f, ns[A (l + 1) a b - 1]? = some f ∧ ∀ x y, x < 2 → y < 2 → f (2 * x + y) = A l (2 * a + x) (2 * b + y)
  up : ∀ l a b, l < lv → A l a b ≠ 0 → A (l + 1) (a / 2) (b / 2) ≠ 0
  inj : ∀ l a b l' a' b', A (l + 1) a b ≠ 0 → A (l + 1) a b = A (l' + 1) a' b' → l = l' ∧ a = a' ∧ b = b'
  leaf : ∀ a b, A 0 a b ≠ 0 → ps[A 0 a b - 1]? = some (a, b)
  place : ∀ (k : Nat) (p : Nat × Nat), ps[k]? = some p → A 0 p.1 p.2 = k + 1
variable {lv root : Nat} {ns : List (Nat → Nat)} {A : Nat → Nat → Nat → Nat} {ps : List (Nat × Nat)}
theorem Tree.empty (lv : Nat) : Tree lv 0 [] (fun _ _ _ => 0) [] :=
  ⟨rfl, fun _ _ h => absurd rfl h, fun _ _ _ _ => rfl, fun _ _ _ h => absurd rfl h, fun _ _ _ _ h => absurd rfl h, fun _ _ _ _ _ _ h => absurd rfl h, fun _ _ h => absurd rfl h, fun k p h => by simp at h⟩
theorem Tree.below (h : Tree lv root ns A ps) {l a b : Nat} (hn : A (l + 1) a b ≠ 0) : A (l + 1) a b ≤ ns.length := by
  obtain ⟨f, hf, _⟩ := h.node l a b hn
  have := (List.getElem?_eq_some_iff.1 hf).1
  omega
theorem Tree.leaf_below (h : Tree lv root ns A ps) {a b : Nat} (hn : A 0 a b ≠ 0) : A 0 a b ≤ ps.length := by
  have := (List.getElem?_eq_some_iff.1 (h.leaf a b hn)).1
  omega
/-- A step of the way down. -/
theorem Tree.step (h : Tree lv root ns A ps) {i j l : Nat} (hn : A (l + 1) (i / 2 ^ (l + 1)) (j / 2 ^ (l + 1)) ≠ 0) :
    ∃ f, ns[A (l + 1) (i / 2 ^ (l + 1)) (j / 2 ^ (l + 1)) - 1]? = some f ∧ f (qd i j l) = A l (i / 2 ^ l) (j / 2 ^ l) := by
  obtain ⟨f, hf, hp⟩ := h.node _ _ _ hn
  refine ⟨f, hf, ?_⟩
  have := hp (i / 2 ^ l % 2) (j / 2 ^ l % 2) (Nat.mod_lt _ (by decide)) (Nat.mod_lt _ (by decide))
  rw [half i l, half j l] at this
  unfold qd
  rw [this]
  congr 1
  · omega
  · omega
/-- Where a part is missing, all below is. -/
theorem Tree.none (h : Tree lv root ns A ps) {i j : Nat} : ∀ {l : Nat}, l ≤ lv → A l (i / 2 ^ l) (j / 2 ^ l) = 0 → A 0 i j = 0
  | 0, _, h0 => by simpa using h0
  | l + 1, hl, h0 => h.none (l := l) (by omega) (Classical.byContradiction fun hne => h.up l _ _ (by omega) hne (by rw [← half, ← half]; exact h0))
theorem Tree.range (h : Tree lv root ns A ps) {i j : Nat} (hn : A 0 i j ≠ 0) : i < 2 ^ lv ∧ j < 2 ^ lv := by
  have key : ∀ l, l ≤ lv → A l (i / 2 ^ l) (j / 2 ^ l) ≠ 0 := fun l => by
    induction l with
    | zero => intro _; simpa using hn
    | succ l ih => intro hl; rw [half, half]; exact h.up l _ _ (by omega) (ih (by omega))
  obtain ⟨h1, h2⟩ := h.top _ _ (key lv (Nat.le_refl _))
  exact ⟨(Nat.div_eq_zero_iff_lt (Nat.two_pow_pos _)).1 h1, (Nat.div_eq_zero_iff_lt (Nat.two_pow_pos _)).1 h2⟩
theorem Tree.apart (h : Tree lv root ns A ps) {a b c d : Nat} (hn : A 0 a b ≠ 0) (he : A 0 a b = A 0 c d) : a = c ∧ b = d := by
  have h1 := h.leaf a b hn
  have h2 := h.leaf c d (by omega)
  rw [he, h2] at h1
  simp at h1
  exact ⟨h1.1.symm, h1.2.symm⟩
theorem Tree.nodup (h : Tree lv root ns A ps) : ps.Nodup := by
  refine List.pairwise_iff_getElem.2 fun i j hi hj hij he => ?_
  have h1 := h.place i _ (List.getElem?_eq_getElem hi)
  have h2 := h.place j _ (List.getElem?_eq_getElem hj)
  rw [he] at h1
  omega
/-- The root, where there was none and it is a node. -/
theorem Tree.root_node {l : Nat} (h : Tree (l + 1) 0 ns A ps) : Tree (l + 1) (ns.length + 1) (ns ++ [fun _ => 0]) (put3 A (l + 1) 0 0 (ns.length + 1)) ps := by
  have h0 : ∀ a b, A (l + 1) a b = 0 := fun a b => Classical.byContradiction fun hne => by
    obtain ⟨rfl, rfl⟩ := h.top a b hne
    exact hne h.root
  have hl : ∀ a b, A l a b = 0 := fun a b => Classical.byContradiction fun hne => h.up l a b (by omega) hne (h0 _ _)
  refine ⟨put3_at .., fun a b hne => ?_, fun l' a b hlt => ?_, fun l' a b hne => ?_, fun l' a b hlt hne => ?_, fun l1 a b l2 c d hne he => ?_, fun a b hne => ?_, fun k p hp => ?_⟩
  · by_cases e : a = 0 ∧ b = 0
    · exact e
    · rw [put3_ne (by intro h; exact e h.2)] at hne
      exact absurd (h0 a b) hne
  · rw [put3_ne (by omega)]; exact h.high _ _ _ hlt
  · by_cases e : l' + 1 = l + 1 ∧ a = 0 ∧ b = 0
    · obtain ⟨e1, rfl, rfl⟩ := e
      obtain rfl : l' = l := by omega
      rw [put3_at]
      refine ⟨fun _ => 0, by simp, fun x y _ _ => ?_⟩
      rw [put3_ne (by omega)]
      exact (hl _ _).symm
    · rw [put3_ne e] at hne ⊢
      obtain ⟨f, hf, hp⟩ := h.node l' a b hne
      refine ⟨f, by rw [List.getElem?_append_left (List.getElem?_eq_some_iff.1 hf).1]; exact hf, fun x y hx hy => ?_⟩
      rw [hp x y hx hy]
      by_cases e2 : l' = l + 1 ∧ 2 * a + x = 0 ∧ 2 * b + y = 0
      · obtain ⟨rfl, _, _⟩ := e2
        exact absurd (h.high _ _ _ (by omega)) hne
      · rw [put3_ne e2]
  · have hA : A l' a b ≠ 0 := by
      rw [put3_ne (by omega)] at hne
      exact hne
    have h1 := h.up l' a b hlt hA
    by_cases e : l' + 1 = l + 1 ∧ a / 2 = 0 ∧ b / 2 = 0
    · obtain ⟨e1, e2, e3⟩ := e; rw [e1, e2, e3, put3_at]; omega
    · rw [put3_ne e]; exact h1
  · by_cases e1 : l1 + 1 = l + 1 ∧ a = 0 ∧ b = 0
    · by_cases e2 : l2 + 1 = l + 1 ∧ c = 0 ∧ d = 0
      · omega
      · obtain ⟨e1, rfl, rfl⟩ := e1
        rw [e1, put3_at, put3_ne e2] at he
        have := h.below (l := l2) (a := c) (b := d) (by omega)
        omega
    · rw [put3_ne e1] at hne he
      by_cases e2 : l2 + 1 = l + 1 ∧ c = 0 ∧ d = 0
      · obtain ⟨e2, rfl, rfl⟩ := e2
        rw [e2, put3_at] at he
        have := h.below hne
        omega
      · rw [put3_ne e2] at he
        exact h.inj _ _ _ _ _ _ hne he
  · rw [put3_ne (by omega)] at hne ⊢
    exact h.leaf a b hne
  · rw [put3_ne (by omega)]
    exact h.place k p hp
/-- The root, where it is a leaf. -/
theorem Tree.root_leaf (h : Tree 0 0 ns A ps) : Tree 0 (ps.length + 1) ns (put3 A 0 0 0 (ps.length + 1)) (ps ++ [(0, 0)]) := by
  have h0 : ∀ a b, A 0 a b = 0 := fun a b => Classical.byContradiction fun hne => by
    obtain ⟨rfl, rfl⟩ := h.top a b hne
    exact hne h.root
  have hz : ∀ l a b, A l a b = 0 := fun l a b => by
    rcases Nat.eq_zero_or_pos l with rfl | hl
    · exact h0 a b
    · exact h.high _ _ _ hl
  have hps : ps = [] := by
    cases ps with
    | nil => rfl
    | cons p ps => have := h.place 0 p rfl; rw [h0] at this; omega
  subst hps
  refine ⟨put3_at .., fun a b hne => ?_, fun l' a b hlt => ?_, fun l' a b hne => ?_, fun l' a b hlt hne => by omega, fun l1 a b l2 c d hne he => ?_, fun a b hne => ?_, fun k p hp => ?_⟩
  · by_cases e : a = 0 ∧ b = 0
    · exact e
    · rw [put3_ne (by intro h; exact e h.2)] at hne
      exact absurd (h0 a b) hne
  · rw [put3_ne (by omega)]; exact hz _ _ _
  · rw [put3_ne (by omega)] at hne; exact absurd (hz _ _ _) hne
  · rw [put3_ne (by omega)] at hne; exact absurd (hz _ _ _) hne
  · by_cases e : a = 0 ∧ b = 0
    · obtain ⟨rfl, rfl⟩ := e; rw [put3_at]; rfl
    · rw [put3_ne (by intro h; exact e h.2)] at hne
      exact absurd (h0 a b) hne
  · cases k with
    | zero => simp at hp; subst hp; rw [put3_at]; rfl
    | succ k => simp at hp
theorem set_two {f : Nat → Nat} {q v : Nat} (x : Nat) : upd f q v x = if x = q then v else f x := rfl
/-- A node more, below a node. -/
theorem Tree.more_node (h : Tree lv root ns A ps) {l a b : Nat} {f : Nat → Nat} (hl : l + 1 < lv) (hn : A (l + 2) (a / 2) (b / 2) ≠ 0) (h0 : A (l + 1) a b = 0) (hf : ns[A (l + 2) (a / 2) (b / 2) - 1]? = some f) :
    Tree lv root ((ns ++ [fun _ => 0]).set (A (l + 2) (a / 2) (b / 2) - 1) (upd f (2 * (a % 2) + b % 2) (ns.length + 1))) (put3 A (l + 1) a b (ns.length + 1)) ps := by
  obtain ⟨n, hN⟩ : ∃ n, n = A (l + 2) (a / 2) (b / 2) := ⟨_, rfl⟩
  rw [← hN] at hn hf ⊢
  have hfl := (List.getElem?_eq_some_iff.1 hf).1
  have hl0 : ∀ x y, x < 2 → y < 2 → A l (2 * a + x) (2 * b + y) = 0 := fun x y hx hy => Classical.byContradiction fun hne => h.up l _ _ (by omega) hne (by rw [show (2 * a + x) / 2 = a by omega, show (2 * b + y) / 2 = b by omega]; exact h0)
  refine ⟨?_, fun c d hne => ?_, fun l' c d hlt => ?_, fun l' c d hne => ?_, fun l' c d hlt hne => ?_, fun l1 c d l2 c' d' hne he => ?_, fun c d hne => ?_, fun k p hp => ?_⟩
  · rw [put3_ne (by omega)]; exact h.root
  · rw [put3_ne (by omega)] at hne; exact h.top _ _ hne
  · rw [put3_ne (by omega)]; exact h.high _ _ _ hlt
  · by_cases e : l' + 1 = l + 1 ∧ c = a ∧ d = b
    · obtain ⟨e1, rfl, rfl⟩ := e
      obtain rfl : l' = l := by omega
      rw [put3_at]
      refine ⟨fun _ => 0, by rw [List.getElem?_set_ne (by omega)]; simp, fun x y hx hy => ?_⟩
      rw [put3_ne (by omega)]
      exact (hl0 x y hx hy).symm
    · rw [put3_ne e] at hne ⊢
      by_cases e2 : l' = l + 1 ∧ c = a / 2 ∧ d = b / 2
      · obtain ⟨rfl, rfl, rfl⟩ := e2
        rw [← hN]
        refine ⟨_, by rw [List.getElem?_set_self (by simp; omega)], fun x y hx hy => ?_⟩
        obtain ⟨f', hf', hp⟩ := h.node (l + 1) _ _ hne
        rw [← hN, hf] at hf'
        cases hf'
        rw [set_two]
        by_cases e3 : 2 * x + y = 2 * (a % 2) + b % 2
        · rw [if_pos e3, show 2 * (a / 2) + x = a by omega, show 2 * (b / 2) + y = b by omega, put3_at]
        · rw [if_neg e3, hp x y hx hy, put3_ne (by intro e4; apply e3; omega)]
      · obtain ⟨f', hf', hp⟩ := h.node l' c d hne
        have hne2 : A (l' + 1) c d ≠ n := fun e3 => by
          have := h.inj l' c d (l + 1) (a / 2) (b / 2) hne (by rw [e3, hN])
          omega
        have hlt := (List.getElem?_eq_some_iff.1 hf').1
        refine ⟨f', by rw [List.getElem?_set_ne (by omega), List.getElem?_append_left hlt]; exact hf', fun x y hx hy => ?_⟩
        rw [hp x y hx hy, put3_ne]
        rintro ⟨rfl, e4, e5⟩
        apply e2
        omega
  · by_cases e : l' = l + 1 ∧ c = a ∧ d = b
    · obtain ⟨rfl, rfl, rfl⟩ := e
      rw [put3_ne (by omega), ← hN]
      exact hn
    · rw [put3_ne e] at hne
      by_cases e2 : l' + 1 = l + 1 ∧ c / 2 = a ∧ d / 2 = b
      · obtain ⟨e2, rfl, rfl⟩ := e2
        rw [e2, put3_at]; omega
      · rw [put3_ne e2]; exact h.up _ _ _ hlt hne
  · by_cases e1 : l1 + 1 = l + 1 ∧ c = a ∧ d = b
    · by_cases e2 : l2 + 1 = l + 1 ∧ c' = a ∧ d' = b
      · omega
      · obtain ⟨e1, rfl, rfl⟩ := e1
        rw [e1, put3_at, put3_ne e2] at he
        have := h.below (l := l2) (a := c') (b := d') (by omega)
        omega
    · rw [put3_ne e1] at hne he
      by_cases e2 : l2 + 1 = l + 1 ∧ c' = a ∧ d' = b
      · obtain ⟨e2, rfl, rfl⟩ := e2
        rw [e2, put3_at] at he
        have := h.below hne
        omega
      · rw [put3_ne e2] at he
        exact h.inj _ _ _ _ _ _ hne he
  · rw [put3_ne (by omega)] at hne ⊢
    exact h.leaf c d hne
  · rw [put3_ne (by omega)]
    exact h.place k p hp
/-- A leaf more, below a node. -/
theorem Tree.more_leaf (h : Tree lv root ns A ps) {a b : Nat} {f : Nat → Nat} (hl : 0 < lv) (hn : A 1 (a / 2) (b / 2) ≠ 0) (h0 : A 0 a b = 0) (hf : ns[A 1 (a / 2) (b / 2) - 1]? = some f) :
    Tree lv root (ns.set (A 1 (a / 2) (b / 2) - 1) (upd f (2 * (a % 2) + b % 2) (ps.length + 1))) (put3 A 0 a b (ps.length + 1)) (ps ++ [(a, b)]) := by
  obtain ⟨n, hN⟩ : ∃ n, n = A 1 (a / 2) (b / 2) := ⟨_, rfl⟩
  rw [← hN] at hn hf ⊢
  have hfl := (List.getElem?_eq_some_iff.1 hf).1
  refine ⟨?_, fun c d hne => ?_, fun l' c d hlt => ?_, fun l' c d hne => ?_, fun l' c d hlt hne => ?_, fun l1 c d l2 c' d' hne he => ?_, fun c d hne => ?_, fun k p hp => ?_⟩
  · rw [put3_ne (by omega)]; exact h.root
  · rw [put3_ne (by omega)] at hne; exact h.top _ _ hne
  · rw [put3_ne (by omega)]; exact h.high _ _ _ hlt
  · rw [put3_ne (by omega)] at hne ⊢
    by_cases e2 : l' = 0 ∧ c = a / 2 ∧ d = b / 2
    · obtain ⟨rfl, rfl, rfl⟩ := e2
      rw [← hN]
      refine ⟨_, by rw [List.getElem?_set_self hfl], fun x y hx hy => ?_⟩
      obtain ⟨f', hf', hp⟩ := h.node 0 _ _ hne
      rw [← hN, hf] at hf'
      cases hf'
      rw [set_two]
      by_cases e3 : 2 * x + y = 2 * (a % 2) + b % 2
      · rw [if_pos e3, show 2 * (a / 2) + x = a by omega, show 2 * (b / 2) + y = b by omega, put3_at]
      · rw [if_neg e3, hp x y hx hy, put3_ne (by intro e4; apply e3; omega)]
    · obtain ⟨f', hf', hp⟩ := h.node l' c d hne
      have hne2 : A (l' + 1) c d ≠ n := fun e3 => by
        have := h.inj l' c d 0 (a / 2) (b / 2) hne (by rw [e3, hN])
        omega
      refine ⟨f', by rw [List.getElem?_set_ne (by omega)]; exact hf', fun x y hx hy => ?_⟩
      rw [hp x y hx hy, put3_ne]
      rintro ⟨rfl, e4, e5⟩
      apply e2
      omega
  · by_cases e : l' = 0 ∧ c = a ∧ d = b
    · obtain ⟨rfl, rfl, rfl⟩ := e
      rw [put3_ne (by omega), ← hN]
      exact hn
    · rw [put3_ne e] at hne
      rw [put3_ne (by omega)]; exact h.up _ _ _ hlt hne
  · rw [put3_ne (by omega)] at hne he
    rw [put3_ne (by omega)] at he
    exact h.inj _ _ _ _ _ _ hne he
  · by_cases e : c = a ∧ d = b
    · obtain ⟨rfl, rfl⟩ := e
      rw [put3_at]; simp
    · rw [put3_ne (by intro h; exact e h.2)] at hne ⊢
      have := h.leaf c d hne
      rw [List.getElem?_append_left (List.getElem?_eq_some_iff.1 this).1]; exact this
  · rcases Nat.lt_or_ge k ps.length with hk | hk
    · rw [List.getElem?_append_left hk] at hp
      have h1 := h.place k p hp
      rw [put3_ne]
      · exact h1
      · rintro ⟨_, e1, e2⟩; rw [e1, e2, h0] at h1; omega
    · rw [List.getElem?_append_right hk] at hp
      rcases hk2 : k - ps.length with _ | m
      · rw [hk2] at hp
        have : p = (a, b) := by simpa using hp.symm
        subst this
        rw [put3_at]; omega
      · rw [hk2] at hp; simp at hp
end Go.Proofs.YtjolkhiggcmoiaaGreatDoor
/-! ## QSmall: Small functions of the program and of the reference, by their contracts. -/
namespace Go.Proofs.YtjolkhiggcmoiaaGreatDoor
open Go.RowKit
set_option linter.unusedVariables false
set_option linter.unusedSimpArgs false

theorem same_symm {P : Program} {f : FuncId} {args : Array Value} {w : World} {v : Value} (h : Calls P f args w fun e w' => e = .returned v ∧ w = w') :
    Calls P f args w fun e w' => e = .returned v ∧ w' = w := h.mono fun _ _ ⟨a, b⟩ => ⟨a, b.symm⟩
/-- A region that draws its order and only reads; the world behind the draw is called w'. -/
theorem still_all {P : Program} {id : Nat} {Q : Exit → Act → World → Prop} {a : Act} {w : World} {l : List Oper} (hm : P.follows .mixedOrders = true) (hB : Region.lexB .any l.toArray = true)
    (h : ∀ w', w' = w.drew → wpStill P l.toArray w' (fun a' => Q .normal a' w') l a) : (Code.region id l.toArray true).wp P Q a w :=
  wp_region_still_lit hm hB (h _ rfl)

section
set_option maxHeartbeats 400000
set_option maxRecDepth 100000
theorem bit_any (c : Nat) (w : World) (hc : c < 64) : Calls Tryz.prog 147 #[.int .i64 c] w fun e w' => e = .returned (.int .u64 (pw c)) ∧ w = w' := by
  have h := wrap_pw hc
  go_enter Tryz.func147, Tryz.ntmps147
  go_wp2
  go_ret
  exact ⟨rfl, rfl⟩
end
end Go.Proofs.YtjolkhiggcmoiaaGreatDoor
/-! ## QRow: Rows of rows: cells of a list whose elements are many cells each; reading and writing a part. -/
namespace Go.Proofs.YtjolkhiggcmoiaaGreatDoor
open Go.RowKit
set_option linter.unusedVariables false
set_option linter.unusedSimpArgs false
/-- All elements have s cells. -/
def Even (s : Nat) (L : List (List Value)) : Prop := ∀ x ∈ L, x.length = s
theorem Even.cons {s : Nat} {x : List Value} {L : List (List Value)} (h : Even s (x :: L)) : x.length = s ∧ Even s L := ⟨h x (List.mem_cons_self ..), fun y hy => h y (List.mem_cons_of_mem _ hy)⟩
theorem flat_len {s : Nat} : ∀ {L : List (List Value)}, Even s L → L.flatten.length = L.length * s
  | [], _ => by simp
  | x :: L, h => by
    have := flat_len h.cons.2
    rw [List.flatten_cons, List.length_append, this, h.cons.1, List.length_cons, Nat.succ_mul]; omega
theorem flat_get {s : Nat} : ∀ {L : List (List Value)}, Even s L → ∀ {k : Nat} {x : List Value}, L[k]? = some x → ∀ {r : Nat}, r < s → L.flatten[k * s + r]? = x[r]?
  | [], _, k, x, hk, _, _ => by simp at hk
  | y :: L, h, 0, x, hk, r, hr => by
    have e : y = x := by simpa using hk
    subst e
    rw [List.flatten_cons, Nat.zero_mul, Nat.zero_add, List.getElem?_append_left (by rw [h.cons.1]; exact hr)]
  | y :: L, h, k + 1, x, hk, r, hr => by
    have h1 := h.cons
    rw [List.flatten_cons, List.getElem?_append_right (by rw [h1.1, Nat.succ_mul]; omega), h1.1, show (k + 1) * s + r - s = k * s + r by rw [Nat.succ_mul]; omega]
    exact flat_get h1.2 (by simpa using hk) hr
theorem flat_set {s : Nat} : ∀ {L : List (List Value)}, Even s L → ∀ {k : Nat} {x : List Value}, L[k]? = some x → ∀ {r : Nat} (u : Value), r < s → L.flatten.set (k * s + r) u = (L.set k (x.set r u)).flatten
  | [], _, k, x, hk, _, _, _ => by simp at hk
  | y :: L, h, 0, x, hk, r, u, hr => by
    have e : y = x := by simpa using hk
    subst e
    simp only [List.flatten_cons, Nat.zero_mul, Nat.zero_add, List.set_cons_zero]
    rw [List.set_append_left _ _ (by rw [h.cons.1]; exact hr)]
  | y :: L, h, k + 1, x, hk, r, u, hr => by
    have h1 := h.cons
    simp only [List.flatten_cons, List.set_cons_succ]
    rw [List.set_append_right _ _ (by rw [h1.1, Nat.succ_mul]; omega), h1.1, show (k + 1) * s + r - s = k * s + r by rw [Nat.succ_mul]; omega, flat_set h1.2 (by simpa using hk) u hr]
/-- Cells written one behind the other. -/
def setAll (xs : List Value) (o : Nat) : List Value → List Value
  | [] => xs
  | v :: vs => setAll (xs.set o v) (o + 1) vs
theorem setAll_get : ∀ (vs xs : List Value) (o j : Nat), o + vs.length ≤ xs.length → (setAll xs o vs)[j]? = if o ≤ j ∧ j < o + vs.length then vs[j - o]? else xs[j]?
  | [], xs, o, j, _ => by
    rw [if_neg (by simp)]; rfl
  | v :: vs, xs, o, j, h => by
    rw [setAll, setAll_get vs _ _ _ (by simp at h ⊢; omega)]
    simp only [List.length_cons] at h ⊢
    by_cases e : j = o
    · subst e
      rw [if_neg (by omega), if_pos (by omega), List.getElem?_set_self (by omega)]; simp
    · rw [List.getElem?_set_ne (by omega)]
      by_cases e2 : o ≤ j ∧ j < o + (vs.length + 1)
      · rw [if_pos (by omega), if_pos e2, show j - o = (j - (o + 1)) + 1 by omega]; simp
      · rw [if_neg (by omega), if_neg e2]
theorem flat_setAll {s : Nat} {L : List (List Value)} (h : Even s L) {k : Nat} {x y : List Value} (hk : L[k]? = some x) (hy : y.length = s) : setAll L.flatten (k * s) y = (L.set k y).flatten := by
  have hkl := (List.getElem?_eq_some_iff.1 hk).1
  have hE : Even s (L.set k y) := fun z hz => by
    rcases List.mem_or_eq_of_mem_set hz with hz | rfl
    · exact h z hz
    · exact hy
  have hle : k * s + s ≤ L.length * s := by
    have : (k + 1) * s ≤ L.length * s := Nat.mul_le_mul_right s hkl
    rwa [Nat.succ_mul] at this
  apply List.ext_getElem?
  intro j
  rw [setAll_get _ _ _ _ (by rw [flat_len h, hy]; exact hle), hy]
  rcases Nat.eq_zero_or_pos s with hs | hs
  · have h1 : L.flatten.length = 0 := by rw [flat_len h, hs, Nat.mul_zero]
    have h2 : (L.set k y).flatten.length = 0 := by rw [flat_len hE, hs, Nat.mul_zero]
    rw [if_neg (by omega), List.getElem?_eq_none (by omega), List.getElem?_eq_none (by omega)]
  · obtain ⟨q, r, hj, hr⟩ : ∃ q r, j = q * s + r ∧ r < s := ⟨j / s, j % s, by rw [Nat.mul_comm]; exact (Nat.div_add_mod j s).symm, Nat.mod_lt _ hs⟩
    rcases Nat.lt_or_ge q L.length with hq | hq
    · by_cases e : q = k
      · subst e
        rw [if_pos (by omega), hj, flat_get hE (x := y) (by rw [List.getElem?_set_self hkl]) hr, show q * s + r - q * s = r by omega]
      · have hne : ¬ (k * s ≤ j ∧ j < k * s + s) := by
          rintro ⟨a, b⟩
          rcases Nat.lt_or_gt_of_ne e with e | e
          · have := Nat.mul_le_mul_right s (show q + 1 ≤ k from e)
            rw [Nat.succ_mul] at this; omega
          · have := Nat.mul_le_mul_right s (show k + 1 ≤ q from e)
            rw [Nat.succ_mul] at this; omega
        rw [if_neg hne, hj, flat_get hE (x := L[q]) (by rw [List.getElem?_set_ne (by omega)]; exact List.getElem?_eq_getElem hq) hr, flat_get h (List.getElem?_eq_getElem hq) hr]
    · have h3 := Nat.mul_le_mul_right s hq
      rw [if_neg (by omega), List.getElem?_eq_none (by rw [flat_len h]; omega), List.getElem?_eq_none (by rw [flat_len hE, List.length_set]; omega)]
theorem flat_one {L : List (List Value)} (h : ∀ x ∈ L, ∀ u ∈ x, u.oneCell' = true) : ∀ u ∈ L.flatten, u.oneCell' = true := fun u hu => by
  obtain ⟨x, hx, hux⟩ := List.mem_flatten.1 hu
  exact h x hx u hux
/-- A part of a row in memory. -/
theorem own_range {w : World} {base : Nat} {e : TypeId} {s n g cap : Nat} {L : List (List Value)} (h : w.ownsRow base e s (.slice (some ⟨g, 0, none⟩) n cap) n L.flatten) (hE : Even s L) {k : Nat} {x : List Value} (hk : L[k]? = some x) : w.rangeAt g (k * s) x := fun j v hv => by
  have hj := (List.getElem?_eq_some_iff.1 hv).1
  have hx := hE x (List.mem_of_getElem? hk)
  have hkl := (List.getElem?_eq_some_iff.1 hk).1
  have hn : n * s = L.length * s := by rw [← h.1, flat_len hE]
  have hle : k * s + s ≤ L.length * s := by
    have : (k + 1) * s ≤ L.length * s := Nat.mul_le_mul_right s hkl
    rwa [Nat.succ_mul] at this
  rw [h.cellAt (k * s + j) (by omega), flat_get hE hk (by omega)]
  exact hv
theorem own_there {w : World} {base : Nat} {e : TypeId} {s n g cap : Nat} {L : List (List Value)} (h : w.ownsRow base e s (.slice (some ⟨g, 0, none⟩) n cap) n L.flatten) (hE : Even s L) {k : Nat} {x : List Value} (hk : L[k]? = some x) : w.there g (k * s) s := fun j hj => by
  have hx := hE x (List.mem_of_getElem? hk)
  exact ⟨(own_range h hE hk).isSome j (by omega), h.frozenAt _⟩
theorem own_setCells {base : Nat} {e : TypeId} {s n g cap : Nat} : ∀ (vs : List Value) {w : World} {xs : List Value} (o : Nat), w.ownsRow base e s (.slice (some ⟨g, 0, none⟩) n cap) n xs → (w.setCells g o vs).ownsRow base e s (.slice (some ⟨g, 0, none⟩) n cap) n (setAll xs o vs)
  | [], w, xs, o, h => h
  | v :: vs, w, xs, o, h => own_setCells vs (o + 1) (h.stored o v).1
theorem far_setCells (g : Nat) : ∀ (vs : List Value) (w : World) (o : Nat), Far (fun k => k = g) w (w.setCells g o vs)
  | [], w, o => Far.refl _ w
  | v :: vs, w, o => ((Far.refl _ w).set (F := fun k => k = g) ⟨g, o, none⟩ v (fun _ => rfl)).trans (far_setCells g vs _ (o + 1)) fun _ _ h => h
end Go.Proofs.YtjolkhiggcmoiaaGreatDoor
/-! ## QMat: A matrix in memory: its tree, its leaves, the cells that it stands for. -/
namespace Go.Proofs.YtjolkhiggcmoiaaGreatDoor
open Go.RowKit
set_option linter.unusedVariables false
set_option linter.unusedSimpArgs false
/-- The block at a place, of cells M. -/
def sub (M : Nat → Nat → Bool) (i j : Nat) : Nat → Nat → Bool := fun r c => M (64 * i + r) (64 * j + c)
def nrows (ns : List (Nat → Nat)) : List (List Value) := ns.map fun f => [.int .i64 (f 0 : Nat), .int .i64 (f 1 : Nat), .int .i64 (f 2 : Nat), .int .i64 (f 3 : Nat)]
def lrow (M : Nat → Nat → Bool) (p : Nat × Nat) : List Value := (Rw (blk (sub M p.1 p.2))).toList
def lrows (M : Nat → Nat → Bool) (ps : List (Nat × Nat)) : List (List Value) := ps.map (lrow M)
theorem nrows_even (ns : List (Nat → Nat)) : Even 4 (nrows ns) := fun x hx => by
  simp only [nrows, List.mem_map] at hx
  obtain ⟨f, _, rfl⟩ := hx
  rfl
theorem lrow_len (M : Nat → Nat → Bool) (p : Nat × Nat) : (lrow M p).length = 64 := by simp [lrow, Rw_size]
theorem lrows_even (M : Nat → Nat → Bool) (ps : List (Nat × Nat)) : Even 64 (lrows M ps) := fun x hx => by
  simp only [lrows, List.mem_map] at hx
  obtain ⟨p, _, rfl⟩ := hx
  exact lrow_len M p
theorem lrow_toArray (M : Nat → Nat → Bool) (p : Nat × Nat) : (lrow M p).toArray = Rw (blk (sub M p.1 p.2)) := by simp [lrow]
theorem nrows_get {ns : List (Nat → Nat)} {k : Nat} {f : Nat → Nat} (h : ns[k]? = some f) : (nrows ns)[k]? = some [.int .i64 (f 0 : Nat), .int .i64 (f 1 : Nat), .int .i64 (f 2 : Nat), .int .i64 (f 3 : Nat)] := by simp [nrows, h]
theorem lrows_get {M : Nat → Nat → Bool} {ps : List (Nat × Nat)} {k : Nat} {p : Nat × Nat} (h : ps[k]? = some p) : (lrows M ps)[k]? = some (lrow M p) := by simp [lrows, h]
theorem nrows_set {ns : List (Nat → Nat)} {k q v : Nat} {f : Nat → Nat} (h : ns[k]? = some f) (hq : q < 4) : (nrows ns).flatten.set (k * 4 + q) (.int .i64 (v : Nat)) = (nrows (ns.set k (upd f q v))).flatten := by
  rw [flat_set (nrows_even ns) (nrows_get h) _ hq]
  congr 1
  simp only [nrows, List.map_set]
  congr 1
  rcases (show q = 0 ∨ q = 1 ∨ q = 2 ∨ q = 3 by omega) with rfl | rfl | rfl | rfl <;> simp [upd]
theorem nrows_app (ns : List (Nat → Nat)) : (nrows (ns ++ [fun _ => 0])).flatten = (nrows ns).flatten ++ [.int .i64 0, .int .i64 0, .int .i64 0, .int .i64 0] := by simp [nrows]
theorem lrows_app (M : Nat → Nat → Bool) (ps : List (Nat × Nat)) (p : Nat × Nat) : (lrows M (ps ++ [p])).flatten = (lrows M ps).flatten ++ lrow M p := by simp [lrows]
theorem lrows_one (M : Nat → Nat → Bool) (ps : List (Nat × Nat)) : ∀ u ∈ (lrows M ps).flatten, u.oneCell' = true := flat_one fun x hx u hu => by
  simp only [lrows, List.mem_map] at hx
  obtain ⟨p, _, rfl⟩ := hx
  have := Rw_one (blk (sub M p.1 p.2))
  exact (Array.all_eq_true_iff_forall_mem.1 this) u (by simpa [lrow] using hu)
theorem qb_grown {w w' : World} {g : Nat} {t : TypeId} {cs : Array Value} {row : Option Nat} (h : Bk w g t cs) (hg : w.grownBy w' row) (hne : some g ≠ row) : Bk w' g t cs := (hg.block g h.lt hne).trans h
theorem q_row_ne {w : World} {g : Nat} {t : TypeId} {cs : Array Value} (h : Bk w g t cs) {base : Nat} {e : TypeId} {size : Nat} {v : Value} {n : Nat} {xs : List Value} (hr : w.ownsRow base e size v n xs) (hte : t ≠ e) : v.ownBlock ≠ some g := fun e' => by
  rcases hr.2 with ⟨rfl, _⟩ | ⟨g', cap, cur, rfl, _, hg, _⟩
  · cases e'
  · have : g' = g := Option.some.inj e'
    subst this
    rw [show w.heap[g']? = _ from h] at hg
    cases hg
    exact hte rfl
theorem q_rows_ne {w : World} {b1 s1 n1 b2 s2 n2 : Nat} {e1 e2 : TypeId} {v1 v2 : Value} {x1 x2 : List Value} (h1 : w.ownsRow b1 e1 s1 v1 n1 x1) (h2 : w.ownsRow b2 e2 s2 v2 n2 x2) (hne : e1 ≠ e2) {k : Nat} (hk : v1.ownBlock = some k) : v2.ownBlock ≠ some k := fun e' => by
  rcases h1.2 with ⟨rfl, _⟩ | ⟨g', cap, cur, rfl, _, hg, _⟩
  · cases hk
  · have : g' = k := Option.some.inj hk
    subst this
    exact q_row_ne hg h2 hne e'
theorem q_form {w : World} {b e s n : Nat} {v : Value} {xs : List Value} (h : w.ownsRow b e s v n xs) : ∃ ao cap, v = .slice ao n cap := by
  rcases h.2 with ⟨rfl, rfl⟩ | ⟨g, cap, _, rfl, _⟩
  · exact ⟨none, 0, rfl⟩
  · exact ⟨_, _, rfl⟩
/-- What a matrix's memory is. -/
structure Qc (w : World) (B side lv root : Nat) (nv lvv : Value) (ns : List (Nat → Nat)) (A : Nat → Nat → Nat → Nat) (ps : List (Nat × Nat)) (M : Nat → Nat → Bool) : Prop where
  box : Bk w B 99 #[.int .i64 (side : Nat), .int .i64 (lv : Nat), .int .i64 (root : Nat), nv, lvv]
  nodes : w.ownsRow 0 142 4 nv ns.length (nrows ns).flatten
  leaves : w.ownsRow 0 108 64 lvv ps.length (lrows M ps).flatten
  tree : Tree lv root ns A ps
  side1 : 1 ≤ side
  side2 : side ≤ 1024
  wide : side ≤ 64 * 2 ^ lv
  lv4 : lv ≤ 4
  within : ∀ r c, M r c = true → r < side ∧ c < side
  bare : ∀ i j, A 0 i j = 0 → ∀ r c, r < 64 → c < 64 → M (64 * i + r) (64 * j + c) = false
  small : ∀ p ∈ ps, p.1 < 16 ∧ p.2 < 16
  nfew : ns.length ≤ 2000
/-- .. and each node leads to a leaf. -/
structure Qd (w : World) (B side lv root : Nat) (nv lvv : Value) (ns : List (Nat → Nat)) (A : Nat → Nat → Nat → Nat) (ps : List (Nat × Nat)) (M : Nat → Nat → Bool) : Prop extends Qc w B side lv root nv lvv ns A ps M where
  few : ns.length ≤ lv * ps.length
/-- A list of places without repeats, all small, is short. -/
theorem short_of_nodup : ∀ (n : Nat) (l : List Nat), l.Nodup → (∀ x ∈ l, x < n) → l.length ≤ n
  | 0, [], _, _ => Nat.le_refl _
  | 0, x :: l, _, h => by have := h x (List.mem_cons_self ..); omega
  | n + 1, l, hn, h => by
    have h1 := short_of_nodup n (l.filter fun x => x != n) (hn.filter _) (fun x hx => by
      simp at hx
      have := h x hx.1
      omega)
    have h2 : l.length ≤ (l.filter fun x => x != n).length + 1 := by
      clear h1 h
      induction l with
      | nil => simp
      | cons y l ih =>
        rw [List.nodup_cons] at hn
        by_cases e : y = n
        · subst e
          have h3 : l.filter (fun x => x != y) = l := by
            rw [List.filter_eq_self]
            intro z hz
            simp
            rintro rfl
            exact hn.1 hz
          simp [h3]
        · have := ih hn.2
          have h4 : (y != n) = true := by simp [e]
          rw [List.filter_cons, if_pos h4]
          simp only [List.length_cons]
          omega
    omega
theorem few_places {ps : List (Nat × Nat)} (hn : ps.Nodup) (h : ∀ p ∈ ps, p.1 < 16 ∧ p.2 < 16) : ps.length ≤ 256 := by
  have h1 : (ps.map fun p => 16 * p.1 + p.2).Nodup := by
    refine List.pairwise_map.2 (hn.imp_of_mem ?_)
    intro a b ha hb hne e
    apply hne
    have := h a ha
    have := h b hb
    exact Prod.ext (by omega) (by omega)
  have := short_of_nodup 256 _ h1 (fun x hx => by
    obtain ⟨p, hp, rfl⟩ := List.mem_map.1 hx
    have := h p hp
    omega)
  simpa using this
section
variable {w w' : World} {B side lv root : Nat} {nv lvv : Value} {ns : List (Nat → Nat)} {A : Nat → Nat → Nat → Nat} {ps : List (Nat × Nat)} {M : Nat → Nat → Bool}
theorem Qd.many (h : Qd w B side lv root nv lvv ns A ps M) : ps.length ≤ 256 ∧ ns.length ≤ 1024 := by
  have h1 := few_places h.tree.nodup h.small
  have h2 : lv * ps.length ≤ 4 * 256 := Nat.mul_le_mul h.lv4 h1
  have := h.few
  omega
/-- The blocks that a matrix takes up. -/
def Qf (B : Nat) (nv lvv : Value) (k : Nat) : Prop := k = B ∨ nv.ownBlock = some k ∨ lvv.ownBlock = some k
theorem Qc.lt (h : Qc w B side lv root nv lvv ns A ps M) : ∀ k, Qf B nv lvv k → k < w.heap.size := by
  rintro k (rfl | e | e)
  · exact h.box.lt
  · exact (h.nodes.lt k e).2
  · exact (h.leaves.lt k e).2
theorem Qc.kept {F : Nat → Prop} (h : Qc w B side lv root nv lvv ns A ps M) (hf : Far F w w') (hF : ∀ k, Qf B nv lvv k → ¬ F k) : Qc w' B side lv root nv lvv ns A ps M :=
  ⟨h.box.far' hf (hF B (.inl rfl)), row_same h.nodes fun k hk hl => hf.block k hl (hF k (.inr (.inl hk))), row_same h.leaves fun k hk hl => hf.block k hl (hF k (.inr (.inr hk))), h.tree, h.side1, h.side2, h.wide, h.lv4, h.within, h.bare, h.small, h.nfew⟩
theorem Qd.kept {F : Nat → Prop} (h : Qd w B side lv root nv lvv ns A ps M) (hf : Far F w w') (hF : ∀ k, Qf B nv lvv k → ¬ F k) : Qd w' B side lv root nv lvv ns A ps M := ⟨h.toQc.kept hf hF, h.few⟩
theorem Qd.still (h : Qd w B side lv root nv lvv ns A ps M) (hf : Far (fun _ => False) w w') : Qd w' B side lv root nv lvv ns A ps M := h.kept hf fun _ _ h => h
end
end Go.Proofs.YtjolkhiggcmoiaaGreatDoor
/-! ## QEq: A block is equal to itself, by the language's comparison of arrays. -/
namespace Go.Proofs.YtjolkhiggcmoiaaGreatDoor
open Go.RowKit
set_option linter.unusedVariables false
set_option linter.unusedSimpArgs false
theorem forIn_yields {P : Program} {α σ : Type} (w : World) (s : σ) (b : α → σ → Sem (ForInStep σ)) : ∀ l : List α, (∀ i ∈ l, (b i s).run P w = .ok (.yield s) w) → (forIn l s b).run P w = .ok s w
  | [], _ => by simp
  | x :: l, h => by
    rw [List.forIn_cons, Sem.run_bind, h x (by simp)]
    exact forIn_yields w s b l fun i hi => h i (by simp [hi])
set_option maxRecDepth 100000 in
theorem eq_self (f : Nat → Nat) (w : World) : (Op.equalIn 10000 108 (.agg (Rw f)) (.agg (Rw f))).run Tryz.prog w = .ok true w := by
  have hs : ∃ i, Tryz.prog.info? 102 = some i ∧ i.size = 1 := by
    have := wordSize
    cases h : Tryz.prog.info? 102 with
    | none => rw [h] at this; cases this
    | some i => rw [h] at this; exact ⟨i, rfl, by simpa using this⟩
  obtain ⟨i, hi, h1⟩ := hs
  have hsz : (sizeOf 102).run Tryz.prog w = .ok 1 w := by simp [sizeOf, typeInfo, hi, h1]
  have wd : Tryz.prog.underlying 102 = some (.int .u64) := by kernel_rfl
  show (Op.equalIn (9998 + 1 + 1) 108 (.agg (Rw f)) (.agg (Rw f))).run Tryz.prog w = .ok true w
  generalize 9998 = d
  unfold Op.equalIn
  simp only [Sem.run_bind, run_underlying blockType, hsz, Result.andThen_ok]
  have hl : ∀ i ∈ List.range' 0 64, i < 64 := fun i hi => by simpa using (List.mem_range'_1.1 hi).2
  simp
  rw [forIn_yields w (none, ()) _ _ (fun i hi => ?_)]
  · rfl
  · have g := Rw_get f i (hl i hi)
    have e := run_equalIn_int (P := Tryz.prog) w d 102 .u64 .u64 (f i) (f i) wd
    simp [Sem.run_bind, part, g, e, Result.andThen]
/-- Two blocks that are the same: the comparison at a walk. -/
theorem eq_blk {f g : Nat → Nat} (h : Rw f = Rw g) (w : World) : (Op.equalIn 10000 108 (.agg (Rw f)) (.agg (Rw g))).run Tryz.prog w = .ok true w := by
  rw [← h]; exact eq_self f w
/-- Are the first 64 rows the same? -/
def sameB (f g : Nat → Nat) : Bool := (List.range' 0 64).all fun i => ((f i : Int) == (g i : Int))
theorem forIn_first {P : Program} {α σ : Type} (w : World) (p : α → Bool) (s d : σ) (b : α → σ → Sem (ForInStep σ)) :
    ∀ l : List α, (∀ i ∈ l, (b i s).run P w = .ok (if p i then .yield s else .done d) w) → (forIn l s b).run P w = .ok (if l.all p then s else d) w
  | [], _ => by simp
  | x :: l, h => by
    rw [List.forIn_cons, Sem.run_bind, h x (by simp)]
    have ih := forIn_first w p s d b l fun i hi => h i (by simp [hi])
    cases hp : p x
    · simp [hp]
    · simp [hp, ih]
theorem eq_run (f g : Nat → Nat) (w : World) : (Op.equalIn 10000 108 (.agg (Rw f)) (.agg (Rw g))).run Tryz.prog w = .ok (sameB f g) w := by
  have hs : ∃ i, Tryz.prog.info? 102 = some i ∧ i.size = 1 := by
    have := wordSize
    cases h : Tryz.prog.info? 102 with
    | none => rw [h] at this; cases this
    | some i => rw [h] at this; exact ⟨i, rfl, by simpa using this⟩
  obtain ⟨i, hi, h1⟩ := hs
  have hsz : (sizeOf 102).run Tryz.prog w = .ok 1 w := by simp [sizeOf, typeInfo, hi, h1]
  have wd : Tryz.prog.underlying 102 = some (.int .u64) := by kernel_rfl
  show (Op.equalIn (9998 + 1 + 1) 108 (.agg (Rw f)) (.agg (Rw g))).run Tryz.prog w = .ok (sameB f g) w
  generalize 9998 = d
  unfold Op.equalIn
  simp only [Sem.run_bind, run_underlying blockType, hsz, Result.andThen_ok]
  have hl : ∀ i ∈ List.range' 0 64, i < 64 := fun i hi => by simpa using (List.mem_range'_1.1 hi).2
  simp
  rw [forIn_first w (fun i => ((f i : Int) == (g i : Int))) (none, ()) (some false, ()) _ _ (fun i hi => ?_)]
  · unfold sameB
    cases (List.range' 0 64).all fun i => ((f i : Int) == (g i : Int)) <;> rfl
  · have g1 := Rw_get f i (hl i hi)
    have g2 := Rw_get g i (hl i hi)
    have e := run_equalIn_int (P := Tryz.prog) w d 102 .u64 .u64 (f i) (g i) wd
    simp only [Sem.run_bind, part, g1, g2, e]
    cases hb : ((f i : Int) == (g i : Int)) <;> simp [Result.andThen, part, g1, g2, e, hb, Sem.run_bind]
theorem same_true {f g : Nat → Nat} (h : sameB f g = true) : ∀ i, i < 64 → f i = g i := fun i hi => by
  unfold sameB at h
  have := List.all_eq_true.1 h i (List.mem_range'_1.2 ⟨by omega, by omega⟩)
  simp at this
  omega
theorem same_false {f g : Nat → Nat} (h : sameB f g = false) : ∃ i, i < 64 ∧ f i ≠ g i := by
  unfold sameB at h
  obtain ⟨i, hi, hn⟩ := List.all_eq_false.1 h
  refine ⟨i, by have := (List.mem_range'_1.1 hi).2; omega, fun e => hn ?_⟩
  rw [e]; simp
/-- A bit that is new. -/
theorem new_bit {x y : Nat} (hx : x < 18446744073709551616) (hy : y < 18446744073709551616) (hne : x ||| y ≠ x) : ∃ c, c < 64 ∧ (x ||| y).testBit c = true ∧ x.testBit c = false := by
  refine Classical.byContradiction fun hno => hne (word_eq (Nat.or_lt_two_pow (n := 64) hx hy) hx fun c hc => ?_)
  cases h1 : x.testBit c
  · cases h2 : (x ||| y).testBit c
    · rfl
    · exact absurd ⟨c, hc, h2, h1⟩ hno
  · rw [Nat.testBit_or, h1, Bool.true_or]
end Go.Proofs.YtjolkhiggcmoiaaGreatDoor
/-! ## QOr: The program's Or, And, Less, One; the reference's One. -/
namespace Go.Proofs.YtjolkhiggcmoiaaGreatDoor
open Go.RowKit
set_option linter.unusedVariables false
set_option linter.unusedSimpArgs false
/-- The first k rows are h's, the others f's. -/
def rowsTo (h f : Nat → Nat) (k : Nat) : Nat → Nat := fun i => if i < k then h i else f i
theorem rowsTo_zero (h f : Nat → Nat) : rowsTo h f 0 = f := by funext i; simp [rowsTo]
theorem rowsTo_at (h f : Nat → Nat) (k : Nat) : rowsTo h f k k = f k := by simp [rowsTo]
theorem rowsTo_step (h f : Nat → Nat) (k : Nat) : Rw (upd (rowsTo h f k) k (h k)) = Rw (rowsTo h f (k + 1)) :=
  Rw_congr fun i _ => by
    unfold upd rowsTo
    by_cases e : i = k
    · subst e; simp
    · rw [if_neg e]
      by_cases l : i < k
      · rw [if_pos l, if_pos (by omega)]
      · rw [if_neg l, if_neg (by omega)]
theorem rowsTo_end (h f : Nat → Nat) : Rw (rowsTo h f 64) = Rw h := Rw_congr fun i hi => by simp [rowsTo, hi]
section
set_option maxHeartbeats 400000
set_option maxRecDepth 100000

theorem or_any (f g : Nat → Nat) (w : World) (hf : Wf f) (hg : Wf g) :
    Calls Tryz.prog 136 #[.agg (Rw f), .agg (Rw g)] w fun e w' => e = .returned (.agg (Rw (fun i => f i ||| g i))) ∧ Below w.heap.size w w' := by
  have hz : ∀ w, (zeroValue 108).run Tryz.prog w = .ok (.agg (Rw fun _ => 0)) w := (zero_of_info blockZero).1
  obtain ⟨h, hh⟩ : ∃ h : Nat → Nat, h = fun i => f i ||| g i := ⟨_, rfl⟩
  rw [← hh]
  have HH := Lib.hid hh
  clear hh
  go_enter Tryz.func136, Tryz.ntmps136
  go_wp2_with (first | (apply wpList_ld rfl _ rfl _ rfl; focus ((repeat' (first | (with_reducible assumption) | (refine Hold.new ?_; first | rfl | (simp; done)) | (refine Hold.alloc ?_ _) | (apply Hold.row) | (refine Hold.other ?_ ?_ _; rotate_left; focus (first | omega | (simp; omega))))); done)) | (apply wpList_st rfl _ _ rfl _ rfl _ rfl; focus ((repeat' (first | (with_reducible assumption) | (refine Hold.new ?_; first | rfl | (simp; done)) | (refine Hold.alloc ?_ _) | (apply Hold.row) | (refine Hold.other ?_ ?_ _; rotate_left; focus (first | omega | (simp; omega))))); done)) | (refine wpList_bd rfl rfl ?_))
  go_loopw [8] (fun i wr => ∃ k : Nat, k ≤ 64 ∧ i = .int .i64 k ∧ Hold wr w.heap.size (Rw (rowsTo h f k)) ∧ Hold wr (w.heap.size + 2) (Rw fun _ => 0) ∧ Below w.heap.size w wr) (fun i _ => 64 - (intOf i).toNat)
  case atStart => exact ⟨0, Nat.zero_le _, rfl, by rw [rowsTo_zero]; exact ((Hold.new rfl).alloc _).alloc _, Hold.new (by simp), (((Below.refl _ _).alloc (Nat.le_refl _) _).alloc (by simp) _).alloc (by simp; omega) _⟩
  case round =>
    obtain ⟨k, hk, rfl, d, d2, db⟩ := hrel
    by_cases hlt : k < 64
    · have hix := fun w => run_ix g k hlt w
      have hcell := d.cell (Rw_get _ k hlt)
      rw [rowsTo_at] at hcell
      have hfree : wr.frozen? ⟨w.heap.size, k, none⟩ = false := d.free
      have hst : bits .or .u64 (f k) (g k) = ((h k : Nat) : Int) := by rw [HH.out]; exact bits_or64 _ _ (hf k hlt) (hg k hlt)
      have d' : Hold (wr.setCell ⟨w.heap.size, k, none⟩ (.int .u64 ↑(h k))) w.heap.size (Rw (rowsTo h f (k + 1))) := by
        have := d.put (i := k) (.int .u64 ↑(h k)); rw [Rw_set, rowsTo_step] at this; exact this
      have d2' : Hold (wr.setCell ⟨w.heap.size, k, none⟩ (.int .u64 ↑(h k))) (w.heap.size + 2) (Rw fun _ => 0) := d2.far (by simp) _
      have db' := db.setCell (p := ⟨w.heap.size, k, none⟩) (Nat.le_refl _) (.int .u64 ↑(h k))
      clear d d2 db
      go_wp2_with fail
      go_roundw
      case rel => exact ⟨k + 1, by omega, by go_num, d', d2', db'⟩
      case measure => simp [intOf]; omega
    · have e : k = 64 := by omega
      subst e
      rw [rowsTo_end] at d
      go_wp2_with (first | (apply wpList_ld rfl _ rfl _ rfl; focus ((repeat' (first | (with_reducible assumption) | (refine Hold.new ?_; first | rfl | (simp; done)) | (refine Hold.alloc ?_ _) | (apply Hold.row) | (refine Hold.other ?_ ?_ _; rotate_left; focus (first | omega | (simp; omega))))); done)) | (apply wpList_st rfl _ _ rfl _ rfl _ rfl; focus ((repeat' (first | (with_reducible assumption) | (refine Hold.new ?_; first | rfl | (simp; done)) | (refine Hold.alloc ?_ _) | (apply Hold.row) | (refine Hold.other ?_ ?_ _; rotate_left; focus (first | omega | (simp; omega))))); done)) | (refine wpList_bd rfl rfl ?_))
      exact ret_blk rfl (w.heap.size + 2) rfl (Hold.row d2 _) rfl ⟨rfl, Below.row db (by omega) _⟩



theorem less_any (f g : Nat → Nat) (w : World) (hf : Wf f) (hg : Wf g) :
    Calls Tryz.prog 114 #[.agg (Rw f), .agg (Rw g)] w fun e w' => e = .returned (.agg (Rw (fun i => less (f i) (g i)))) ∧ Below w.heap.size w w' := by
  have hz : ∀ w, (zeroValue 108).run Tryz.prog w = .ok (.agg (Rw fun _ => 0)) w := (zero_of_info blockZero).1
  obtain ⟨h, hh⟩ : ∃ h : Nat → Nat, h = fun i => less (f i) (g i) := ⟨_, rfl⟩
  rw [← hh]
  have HH := Lib.hid hh
  clear hh
  go_enter Tryz.func114, Tryz.ntmps114
  go_wp2_with (first | (apply wpList_ld rfl _ rfl _ rfl; focus ((repeat' (first | (with_reducible assumption) | (refine Hold.new ?_; first | rfl | (simp; done)) | (refine Hold.alloc ?_ _) | (apply Hold.row) | (refine Hold.other ?_ ?_ _; rotate_left; focus (first | omega | (simp; omega))))); done)) | (apply wpList_st rfl _ _ rfl _ rfl _ rfl; focus ((repeat' (first | (with_reducible assumption) | (refine Hold.new ?_; first | rfl | (simp; done)) | (refine Hold.alloc ?_ _) | (apply Hold.row) | (refine Hold.other ?_ ?_ _; rotate_left; focus (first | omega | (simp; omega))))); done)) | (refine wpList_bd rfl rfl ?_))
  go_loopw [8] (fun i wr => ∃ k : Nat, k ≤ 64 ∧ i = .int .i64 k ∧ Hold wr w.heap.size (Rw (rowsTo h f k)) ∧ Hold wr (w.heap.size + 2) (Rw fun _ => 0) ∧ Below w.heap.size w wr) (fun i _ => 64 - (intOf i).toNat)
  case atStart => exact ⟨0, Nat.zero_le _, rfl, by rw [rowsTo_zero]; exact ((Hold.new rfl).alloc _).alloc _, Hold.new (by simp), (((Below.refl _ _).alloc (Nat.le_refl _) _).alloc (by simp) _).alloc (by simp; omega) _⟩
  case round =>
    obtain ⟨k, hk, rfl, d, d2, db⟩ := hrel
    by_cases hlt : k < 64
    · have hix := fun w => run_ix g k hlt w
      have hcell := d.cell (Rw_get _ k hlt)
      rw [rowsTo_at] at hcell
      have hfree : wr.frozen? ⟨w.heap.size, k, none⟩ = false := d.free
      have hst : bits .andNot .u64 (f k) (g k) = ((h k : Nat) : Int) := by rw [HH.out]; exact bits_less64 _ _ (hf k hlt) (hg k hlt)
      have d' : Hold (wr.setCell ⟨w.heap.size, k, none⟩ (.int .u64 ↑(h k))) w.heap.size (Rw (rowsTo h f (k + 1))) := by
        have := d.put (i := k) (.int .u64 ↑(h k)); rw [Rw_set, rowsTo_step] at this; exact this
      have d2' : Hold (wr.setCell ⟨w.heap.size, k, none⟩ (.int .u64 ↑(h k))) (w.heap.size + 2) (Rw fun _ => 0) := d2.far (by simp) _
      have db' := db.setCell (p := ⟨w.heap.size, k, none⟩) (Nat.le_refl _) (.int .u64 ↑(h k))
      clear d d2 db
      go_wp2_with fail
      go_roundw
      case rel => exact ⟨k + 1, by omega, by go_num, d', d2', db'⟩
      case measure => simp [intOf]; omega
    · have e : k = 64 := by omega
      subst e
      rw [rowsTo_end] at d
      go_wp2_with (first | (apply wpList_ld rfl _ rfl _ rfl; focus ((repeat' (first | (with_reducible assumption) | (refine Hold.new ?_; first | rfl | (simp; done)) | (refine Hold.alloc ?_ _) | (apply Hold.row) | (refine Hold.other ?_ ?_ _; rotate_left; focus (first | omega | (simp; omega))))); done)) | (apply wpList_st rfl _ _ rfl _ rfl _ rfl; focus ((repeat' (first | (with_reducible assumption) | (refine Hold.new ?_; first | rfl | (simp; done)) | (refine Hold.alloc ?_ _) | (apply Hold.row) | (refine Hold.other ?_ ?_ _; rotate_left; focus (first | omega | (simp; omega))))); done)) | (refine wpList_bd rfl rfl ?_))
      exact ret_blk rfl (w.heap.size + 2) rfl (Hold.row d2 _) rfl ⟨rfl, Below.row db (by omega) _⟩


end
end Go.Proofs.YtjolkhiggcmoiaaGreatDoor
/-! ## QLen: Len, and OnesCount64 of math/bits. -/
namespace Go.Proofs.YtjolkhiggcmoiaaGreatDoor
open Go.RowKit
set_option linter.unusedVariables false
set_option linter.unusedSimpArgs false
/-- What math/bits.OnesCount64 reckons, step by step. -/
def s1 (x : Nat) : Nat := (x / 2 &&& 6148914691236517205) + (x &&& 6148914691236517205)
def s2 (x : Nat) : Nat := (x / 4 &&& 3689348814741910323) + (x &&& 3689348814741910323)
def s3 (x : Nat) : Nat := (x / 16 + x) &&& 1085102592571150095
def s6 (x : Nat) : Nat := (let y := x + x / 256; let z := y + y / 65536; z + z / 4294967296) % 128
def oc (x : Nat) : Nat := s6 (s3 (s2 (s1 x)))
theorem oc_lt (x : Nat) : oc x < 128 := Nat.mod_lt _ (by decide)
theorem and_lit (x d m : Nat) (hx : x < 18446744073709551616) (hm : m < 18446744073709551616) : bits .and .u64 ((x : Int) / (d : Int)) (m : Int) = ((x / d &&& m : Nat) : Int) := by
  rw [show ((x : Int) / (d : Int)) = ((x / d : Nat) : Int) by simp]
  exact bits_and64 _ _ (Nat.lt_of_le_of_lt (Nat.div_le_self _ _) hx) hm
section
set_option maxHeartbeats 400000
set_option maxRecDepth 100000
theorem ones_any (x : Nat) (w : World) (hx : x < 18446744073709551616) :
    Calls Tryz.prog 110 #[.int .u64 x] w fun e w' => e = .returned (.int .i64 (oc x)) ∧ w = w' := by
  have r1 : s1 x ≤ 2 * 6148914691236517205 := by
    have a := Nat.and_le_right (n := x / 2) (m := 6148914691236517205)
    have b := Nat.and_le_right (n := x) (m := 6148914691236517205)
    unfold s1; omega
  have h1 : IntKind.u64.wrap (bits .and .u64 (↑x / 2) 6148914691236517205 + bits .and .u64 ↑x 6148914691236517205) = ((s1 x : Nat) : Int) := by
    have a := and_lit x 2 6148914691236517205 hx (by decide)
    have b := bits_and64 x 6148914691236517205 hx (by decide)
    rw [show (bits .and .u64 (↑x / 2) 6148914691236517205) = _ from a, show (bits .and .u64 ↑x 6148914691236517205) = _ from b, ← Int.natCast_add]
    exact wrap_u64_nat _ (by unfold s1 at r1; omega)
  have ho : oc x = s6 (s3 (s2 (s1 x))) := rfl
  generalize oc x = res at *
  generalize s1 x = y at *
  have r2 : s2 y ≤ 2 * 3689348814741910323 := by
    have a := Nat.and_le_right (n := y / 4) (m := 3689348814741910323)
    have b := Nat.and_le_right (n := y) (m := 3689348814741910323)
    unfold s2; omega
  have h2 : IntKind.u64.wrap (bits .and .u64 (↑y / 4) 3689348814741910323 + bits .and .u64 ↑y 3689348814741910323) = ((s2 y : Nat) : Int) := by
    have a := and_lit y 4 3689348814741910323 (by omega) (by decide)
    have b := bits_and64 y 3689348814741910323 (by omega) (by decide)
    rw [show (bits .and .u64 (↑y / 4) 3689348814741910323) = _ from a, show (bits .and .u64 ↑y 3689348814741910323) = _ from b, ← Int.natCast_add]
    exact wrap_u64_nat _ (by unfold s2 at r2; omega)
  generalize s2 y = z at *
  have r3 : s3 z ≤ 1085102592571150095 := Nat.and_le_right
  have h3 : bits .and .u64 (IntKind.u64.wrap (↑z / 16 + ↑z)) 1085102592571150095 = ((s3 z : Nat) : Int) := by
    have e : IntKind.u64.wrap (↑z / 16 + ↑z) = ((z / 16 + z : Nat) : Int) := by
      rw [← wrap_u64_nat (z / 16 + z) (by omega)]; simp
    rw [e]
    exact bits_and64 _ 1085102592571150095 (by omega) (by decide)
  generalize s3 z = t at *
  have h4 : IntKind.u64.wrap (↑t + ↑t / 256) = ((t + t / 256 : Nat) : Int) := by
    rw [← wrap_u64_nat (t + t / 256) (by omega)]; simp
  obtain ⟨u, hu⟩ : ∃ u, u = t + t / 256 := ⟨_, rfl⟩
  rw [← hu] at h4
  have h5 : IntKind.u64.wrap (↑u + ↑u / 65536) = ((u + u / 65536 : Nat) : Int) := by
    rw [← wrap_u64_nat (u + u / 65536) (by omega)]; simp
  obtain ⟨v, hv⟩ : ∃ v, v = u + u / 65536 := ⟨_, rfl⟩
  rw [← hv] at h5
  have h6 : IntKind.u64.wrap (↑v + ↑v / 4294967296) = ((v + v / 4294967296 : Nat) : Int) := by
    rw [← wrap_u64_nat (v + v / 4294967296) (by omega)]; simp
  obtain ⟨q, hq⟩ : ∃ q, q = v + v / 4294967296 := ⟨_, rfl⟩
  rw [← hq] at h6
  have h7 : bits .and .i64 (q : Int) 127 = (res : Int) := by
    rw [i64_and127, ho]
    unfold s6
    simp only []
    rw [← hu, ← hv, ← hq]
    omega
  have rq : (q : Int) < 9223372036854775808 := by omega
  clear ho hu hv hq r1 r2 r3
  go_enter Tryz.func110, Tryz.ntmps110
  go_wp2
  go_ret
  exact ⟨rfl, rfl⟩
/-- How many cells the first k rows have, by OnesCount64. -/
def lenB (f : Nat → Nat) : Nat → Nat
  | 0 => 0
  | k + 1 => lenB f k + oc (f k)
theorem lenB_le (f : Nat → Nat) : ∀ k, lenB f k ≤ 128 * k
  | 0 => Nat.le_refl _
  | k + 1 => by have := lenB_le f k; have := oc_lt (f k); unfold lenB; omega
theorem len_any (f : Nat → Nat) (w : World) (hf : Wf f) :
    Calls Tryz.prog 71 #[.agg (Rw f)] w fun e w' => e = .returned (.int .i64 (lenB f 64)) ∧ Below w.heap.size w w' := by
  go_enter Tryz.func71, Tryz.ntmps71
  go_wp2_with (first | (apply wpList_ld rfl _ rfl _ rfl; focus ((repeat' (first | (with_reducible assumption) | (refine Hold.new ?_; first | rfl | (simp; done)) | (refine Hold.alloc ?_ _))); done)) | (apply wpList_st rfl _ _ rfl _ rfl _ rfl; focus ((repeat' (first | (with_reducible assumption) | (refine Hold.new ?_; first | rfl | (simp; done)) | (refine Hold.alloc ?_ _))); done)) | (refine wpList_bd rfl rfl ?_))
  go_loop [3, 7] (fun v i => ∃ k : Nat, k ≤ 64 ∧ i = .int .i64 k ∧ v = .int .i64 (lenB f k)) (fun _ i => 64 - (intOf i).toNat)
  case atStart => exact ⟨0, Nat.zero_le _, rfl, rfl⟩
  case round =>
    obtain ⟨k, hk, rfl, rfl⟩ := hrel
    by_cases hlt : k < 64
    · have hix := fun w => run_ix f k hlt w
      have hl := lenB_le f k
      have ho := oc_lt (f k)
      go_wp2_with fail
      refine (ones_any (f k) _ (hf k hlt)).mono ?_
      rintro e w' ⟨rfl, rfl⟩
      go_wp2_with fail
      go_round
      case rel => exact ⟨k + 1, by omega, by go_num, by rw [show lenB f (k + 1) = lenB f k + oc (f k) from rfl]; go_num⟩
      case measure => simp [intOf]; omega
    · have e : k = 64 := by omega
      subst e
      go_wp2_with fail
      go_ret
      exact ⟨rfl, (Below.refl _ _).alloc (Nat.le_refl _) _⟩
end
end Go.Proofs.YtjolkhiggcmoiaaGreatDoor
/-! ## QPop: What OnesCount64 reckons is how many bits there are. -/
namespace Go.Proofs.YtjolkhiggcmoiaaGreatDoor
set_option linter.unusedVariables false
set_option linter.unusedSimpArgs false
/-- How many bits a word has. -/
def pop (n x : Nat) : Nat := (List.range n).countP fun i => x.testBit i
theorem and_split (x c m : Nat) (hc : c < 256) : x &&& (c + 256 * m) = (x % 256 &&& c) + 256 * (x / 256 &&& m) := by
  have h1 : (x &&& (c + 256 * m)) % 256 = x % 256 &&& c := by
    have := Nat.and_mod_two_pow (a := x) (b := c + 256 * m) (n := 8)
    rw [show (2 : Nat) ^ 8 = 256 from rfl] at this
    rw [this, show (c + 256 * m) % 256 = c by omega]
  have h2 : (x &&& (c + 256 * m)) / 256 = x / 256 &&& m := by
    have := Nat.and_div_two_pow (a := x) (b := c + 256 * m) (n := 8)
    rw [show (2 : Nat) ^ 8 = 256 from rfl] at this
    rw [this, show (c + 256 * m) / 256 = m by omega]
  have := Nat.div_add_mod (x &&& (c + 256 * m)) 256
  omega
/-- Byte by byte. -/
def by8 (g : Nat → Nat) : Nat → Nat → Nat
  | 0, _ => 0
  | n + 1, x => g (x % 256) + 256 * by8 g n (x / 256)
def msk (c : Nat) : Nat → Nat
  | 0 => 0
  | n + 1 => c + 256 * msk c n
theorem by8_comp {g h : Nat → Nat} (hh : ∀ v, v < 256 → h v < 256) : ∀ n x, by8 g n (by8 h n x) = by8 (fun v => g (h v)) n x
  | 0, _ => rfl
  | n + 1, x => by
    have h1 := hh (x % 256) (Nat.mod_lt _ (by decide))
    simp only [by8]
    rw [show (h (x % 256) + 256 * by8 h n (x / 256)) % 256 = h (x % 256) by omega, show (h (x % 256) + 256 * by8 h n (x / 256)) / 256 = by8 h n (x / 256) by omega, by8_comp hh n]
theorem by8_congr {g h : Nat → Nat} (e : ∀ v, v < 256 → g v = h v) : ∀ n x, by8 g n x = by8 h n x
  | 0, _ => rfl
  | n + 1, x => by simp only [by8]; rw [e _ (Nat.mod_lt _ (by decide)), by8_congr e n]
def b1 (v : Nat) : Nat := (v / 2 &&& 85) + (v &&& 85)
def b2 (v : Nat) : Nat := (v / 4 &&& 51) + (v &&& 51)
def b3 (v : Nat) : Nat := (v / 16 + v) &&& 15
theorem fin1 : ∀ v, v < 256 → ∀ e, e < 2 → (v / 2 + 128 * e) &&& 85 = v / 2 &&& 85 := by decide +kernel
theorem fin2 : ∀ v, v < 256 → ∀ e, e < 4 → (v / 4 + 64 * e) &&& 51 = v / 4 &&& 51 := by decide +kernel
theorem step1 : ∀ n x, (x / 2 &&& msk 85 n) + (x &&& msk 85 n) = by8 b1 n x
  | 0, x => by simp [msk, by8]
  | n + 1, x => by
    have ih := step1 n (x / 256)
    have f := fin1 (x % 256) (Nat.mod_lt _ (by decide)) (x / 256 % 2) (Nat.mod_lt _ (by decide))
    simp only [msk, by8]
    rw [and_split _ _ _ (by decide), and_split _ _ _ (by decide), show x / 2 % 256 = x % 256 / 2 + 128 * (x / 256 % 2) by omega, f, show x / 2 / 256 = x / 256 / 2 by omega, ← ih]
    unfold b1
    omega
theorem step2 : ∀ n x, (x / 4 &&& msk 51 n) + (x &&& msk 51 n) = by8 b2 n x
  | 0, x => by simp [msk, by8]
  | n + 1, x => by
    have ih := step2 n (x / 256)
    have f := fin2 (x % 256) (Nat.mod_lt _ (by decide)) (x / 256 % 4) (Nat.mod_lt _ (by decide))
    simp only [msk, by8]
    rw [and_split _ _ _ (by decide), and_split _ _ _ (by decide), show x / 4 % 256 = x % 256 / 4 + 64 * (x / 256 % 4) by omega, f, show x / 4 / 256 = x / 256 / 4 by omega, ← ih]
    unfold b2
    omega
/-- Each half of each byte is at most 4. -/
def Low : Nat → Nat → Prop
  | 0, x => x = 0
  | n + 1, x => x % 16 ≤ 4 ∧ x % 256 / 16 ≤ 4 ∧ Low n (x / 256)
theorem fin3 : ∀ v, v < 256 → v % 16 ≤ 4 → v / 16 ≤ 4 → ∀ e, e < 5 → (v / 16 + v + 16 * e) % 256 &&& 15 = (v / 16 + v) &&& 15 := by decide +kernel
theorem Low.mod : ∀ {n x : Nat}, Low n x → x % 16 ≤ 4
  | 0, x, h => by rw [show x = 0 from h]; decide
  | _ + 1, _, h => h.1
theorem step3 : ∀ n x, Low n x → (x / 16 + x) &&& msk 15 n = by8 b3 n x
  | 0, x, _ => by simp [msk, by8]
  | n + 1, x, h => by
    obtain ⟨h1, h2, h3⟩ := h
    have ih := step3 n (x / 256) h3
    have h4 := h3.mod
    have f := fin3 (x % 256) (Nat.mod_lt _ (by decide)) (by omega) h2 (x / 256 % 16) (by omega)
    simp only [msk, by8]
    rw [and_split _ _ _ (by decide), ← ih]
    have e1 : (x / 16 + x) % 256 = (x % 256 / 16 + x % 256 + 16 * (x / 256 % 16)) % 256 := by omega
    have e2 : (x / 16 + x) / 256 = x / 256 / 16 + x / 256 := by omega
    rw [e1, e2, f]
    rfl
theorem fin12 : ∀ v, v < 256 → b1 v < 256 ∧ b2 (b1 v) < 256 ∧ b2 (b1 v) % 16 ≤ 4 ∧ b2 (b1 v) / 16 ≤ 4 ∧ b3 (b2 (b1 v)) ≤ 8 := by decide +kernel
theorem fin_pop : ∀ v, v < 256 → b3 (b2 (b1 v)) = pop 8 v := by decide +kernel
theorem low_by8 : ∀ n x, Low n (by8 (fun v => b2 (b1 v)) n x)
  | 0, x => rfl
  | n + 1, x => by
    have h := fin12 (x % 256) (Nat.mod_lt _ (by decide))
    simp only [by8, Low]
    refine ⟨by omega, by omega, ?_⟩
    rw [show (b2 (b1 (x % 256)) + 256 * by8 (fun v => b2 (b1 v)) n (x / 256)) / 256 = by8 (fun v => b2 (b1 v)) n (x / 256) by omega]
    exact low_by8 n _
theorem m85 : msk 85 8 = 6148914691236517205 := by decide
theorem m51 : msk 51 8 = 3689348814741910323 := by decide
theorem m15 : msk 15 8 = 1085102592571150095 := by decide
theorem oc_by8 (x : Nat) : s3 (s2 (s1 x)) = by8 (pop 8) 8 x := by
  have h1 : s1 x = by8 b1 8 x := by unfold s1; rw [← m85]; exact step1 8 x
  have h2 : s2 (by8 b1 8 x) = by8 (fun v => b2 (b1 v)) 8 x := by
    unfold s2; rw [← m51, step2]; exact by8_comp (fun v hv => (fin12 v hv).1) 8 x
  have h3 : s3 (by8 (fun v => b2 (b1 v)) 8 x) = by8 (fun v => b3 (b2 (b1 v))) 8 x := by
    unfold s3; rw [← m15, step3 8 _ (low_by8 8 x)]; exact by8_comp (fun v hv => (fin12 v hv).2.1) 8 x
  rw [h1, h2, h3]
  exact by8_congr fin_pop 8 x
theorem pop_split (n x : Nat) : pop (8 + n) x = pop 8 (x % 256) + pop n (x / 256) := by
  unfold pop
  rw [List.range_add, List.countP_append, List.countP_map]
  congr 1
  · refine List.countP_congr fun i hi => ?_
    have hi' := List.mem_range.1 hi
    have := Nat.testBit_mod_two_pow x 8 i
    rw [show (2 : Nat) ^ 8 = 256 from rfl] at this
    rw [this]; simp [hi']
  · refine List.countP_congr fun i hi => ?_
    have : (x / 2 ^ 8).testBit i = x.testBit (i + 8) := Nat.testBit_div_two_pow ..
    rw [show (2 : Nat) ^ 8 = 256 from rfl] at this
    rw [this]
    simp [Function.comp, Nat.add_comm]
theorem pop_le (n x : Nat) : pop n x ≤ n := by
  have := List.countP_le_length (p := fun i => x.testBit i) (l := List.range n)
  simpa [pop] using this
theorem sum8 (c0 c1 c2 c3 c4 c5 c6 c7 : Nat) (h0 : c0 ≤ 8) (h1 : c1 ≤ 8) (h2 : c2 ≤ 8) (h3 : c3 ≤ 8) (h4 : c4 ≤ 8) (h5 : c5 ≤ 8) (h6 : c6 ≤ 8) (h7 : c7 ≤ 8) :
    s6 (c0 + 256 * (c1 + 256 * (c2 + 256 * (c3 + 256 * (c4 + 256 * (c5 + 256 * (c6 + 256 * c7))))))) = c0 + c1 + c2 + c3 + c4 + c5 + c6 + c7 := by
  obtain ⟨t, ht⟩ : ∃ t, t = c0 + 256 * (c1 + 256 * (c2 + 256 * (c3 + 256 * (c4 + 256 * (c5 + 256 * (c6 + 256 * c7)))))) := ⟨_, rfl⟩
  rw [← ht]
  have q1 : t / 256 = c1 + 256 * (c2 + 256 * (c3 + 256 * (c4 + 256 * (c5 + 256 * (c6 + 256 * c7))))) := by omega
  obtain ⟨y, hy⟩ : ∃ y, y = t + t / 256 := ⟨_, rfl⟩
  have q2 : y = (c0 + c1) + 256 * (c1 + c2) + 65536 * ((c2 + c3) + 256 * (c3 + c4) + 65536 * (c4 + c5) + 16777216 * (c5 + c6) + 4294967296 * (c6 + c7) + 1099511627776 * c7) := by omega
  have q3 : y / 65536 = (c2 + c3) + 256 * (c3 + c4) + 65536 * (c4 + c5) + 16777216 * (c5 + c6) + 4294967296 * (c6 + c7) + 1099511627776 * c7 := by omega
  obtain ⟨z, hz⟩ : ∃ z, z = y + y / 65536 := ⟨_, rfl⟩
  have q4 : z = ((c0 + c1) + (c2 + c3) + 256 * ((c1 + c2) + (c3 + c4)) + 65536 * ((c2 + c3) + (c4 + c5)) + 16777216 * ((c3 + c4) + (c5 + c6))) + 4294967296 * ((c4 + c5) + (c6 + c7) + 256 * ((c5 + c6) + c7) + 65536 * (c6 + c7) + 16777216 * c7) := by omega
  have q5 : z / 4294967296 = (c4 + c5) + (c6 + c7) + 256 * ((c5 + c6) + c7) + 65536 * (c6 + c7) + 16777216 * c7 := by omega
  show (t + t / 256 + (t + t / 256) / 65536 + (t + t / 256 + (t + t / 256) / 65536) / 4294967296) % 128 = _
  rw [← hy, ← hz, q5]
  clear q5 q3 q1 hy hz ht q2
  omega
theorem pop_mod8 (v : Nat) : pop 8 (v % 256) = pop 8 v := by
  have := pop_split 0 v
  simp only [Nat.add_zero] at this
  rw [this]; simp [pop]
/-- OnesCount64. -/
theorem oc_pop (x : Nat) : oc x = pop 64 x := by
  unfold oc
  rw [oc_by8]
  simp only [by8, Nat.mul_zero, Nat.add_zero]
  rw [sum8 _ _ _ _ _ _ _ _ (pop_le 8 _) (pop_le 8 _) (pop_le 8 _) (pop_le 8 _) (pop_le 8 _) (pop_le 8 _) (pop_le 8 _) (pop_le 8 _)]
  rw [show (64 : Nat) = 8 + 56 from rfl, pop_split, show (56 : Nat) = 8 + 48 from rfl, pop_split, show (48 : Nat) = 8 + 40 from rfl, pop_split, show (40 : Nat) = 8 + 32 from rfl, pop_split, show (32 : Nat) = 8 + 24 from rfl, pop_split,
    show (24 : Nat) = 8 + 16 from rfl, pop_split, show (16 : Nat) = 8 + 8 from rfl, pop_split]
  simp only [pop_mod8]
  omega
end Go.Proofs.YtjolkhiggcmoiaaGreatDoor
/-! ## QFind: The way down the tree. -/
namespace Go.Proofs.YtjolkhiggcmoiaaGreatDoor
open Go.RowKit
set_option linter.unusedVariables false
set_option linter.unusedSimpArgs false
theorem and_one (g j : Nat) : bits .and .i64 ((g : Int) / 2 ^ j) 1 = ((g / 2 ^ j % 2 : Nat) : Int) := by
  have h63 : (BitVec.ofInt 64 1).toNat = 2 ^ 1 - 1 := by decide
  have key : (BitVec.ofInt 64 ((g : Int) / 2 ^ j) &&& BitVec.ofInt 64 1).toNat = (((g : Int) / 2 ^ j) % ((2 ^ 64 : Nat) : Int)).toNat % 2 ^ 1 := by
    rw [BitVec.toNat_and, BitVec.toNat_ofInt, h63, Nat.and_two_pow_sub_one_eq_mod]
  show IntKind.i64.wrap ((BitVec.ofInt 64 ((g : Int) / 2 ^ j) &&& BitVec.ofInt 64 1).toNat : Nat) = _
  have e : (g : Int) / 2 ^ j = ((g / 2 ^ j : Nat) : Int) := by simp
  rw [key, IntKind.wrap_i64, e]
  omega
theorem or_bit : ∀ a, a < 2 → ∀ b, b < 2 → bits .or .i64 (((a : Nat) : Int) * 2) ((b : Nat) : Int) = ((2 * a + b : Nat) : Int) := by decide +kernel
section
set_option maxHeartbeats 1000000
set_option maxRecDepth 100000
theorem part_any (i j l : Nat) (hl : l < 4) (w : World) : Calls Tryz.prog 89 #[.int .i64 i, .int .i64 j, .int .i64 ((l + 1 : Nat) : Int)] w fun e w' => e = .returned (.int .i64 (qd i j l)) ∧ ∃ n, w' = w.drewN n := by
  have e1 : IntKind.i64.wrap (((l + 1 : Nat) : Int) - 1) = (l : Int) := by rw [IntKind.wrap_i64]; omega
  have h1 := and_one i l
  have h2 := and_one j l
  have h3 := or_bit (i / 2 ^ l % 2) (Nat.mod_lt _ (by decide)) (j / 2 ^ l % 2) (Nat.mod_lt _ (by decide))
  have h4 : (2 * (i / 2 ^ l % 2) + j / 2 ^ l % 2) = qd i j l := rfl
  rw [h4] at h3
  have h5 : bits .or .i64 ((i : Int) / 2 ^ l % 2 * 2) ((j : Int) / 2 ^ l % 2) = (qd i j l : Int) := by rw [← h3]; simp
  clear h3
  go_enter Tryz.func89, Tryz.ntmps89
  go_wp2_with fail
  go_quiet (fail)
  go_wp2_with fail
  go_ret
  exact ⟨rfl, _, rfl⟩
theorem node_cell {w : World} {ns : List (Nat → Nat)} {g cap k q : Nat} {f : Nat → Nat} (h : w.ownsRow 0 142 4 (.slice (some ⟨g, 0, none⟩) ns.length cap) ns.length (nrows ns).flatten) (hf : ns[k]? = some f) (hq : q < 4) : w.cell? ⟨g, k * 4 + q, none⟩ = some (.int .i64 (f q : Nat)) := by
  have hk := (List.getElem?_eq_some_iff.1 hf).1
  rw [h.cellAt (k * 4 + q) (by omega), flat_get (nrows_even ns) (nrows_get hf) hq]
  rcases (show q = 0 ∨ q = 1 ∨ q = 2 ∨ q = 3 by omega) with rfl | rfl | rfl | rfl <;> rfl
/-- The way down: the number of the leaf at a place. -/
theorem find_any {w : World} {B side lv root : Nat} {nv lvv : Value} {ns : List (Nat → Nat)} {A : Nat → Nat → Nat → Nat} {ps : List (Nat × Nat)} {M : Nat → Nat → Bool} (h : Qd w B side lv root nv lvv ns A ps M) (i j : Nat) (hi : i < 2 ^ lv) (hj : j < 2 ^ lv) :
    Calls Tryz.prog 59 #[.pointer (some ⟨B, 0, none⟩), .int .i64 i, .int .i64 j] w fun e w' => e = .returned (.int .i64 (A 0 i j)) ∧ Far (fun _ => False) w w' := by
  have p1 : w.cell? ⟨B, 1, none⟩ = some (.int .i64 (lv : Nat)) := h.box.cell 1
  have p2 : w.cell? ⟨B, 2, none⟩ = some (.int .i64 (root : Nat)) := h.box.cell 2
  have h' := Lib.hid h
  have hroot := h.tree.root
  have hlv := h.lv4
  have hmany := h.many
  clear h
  go_enter Tryz.func59, Tryz.ntmps59
  go_wp2_with fail
  go_loopw [7, 8] (fun nv' lvl wr => ∃ l : Nat, l ≤ lv ∧ nv' = .int .i64 (A l (i / 2 ^ l) (j / 2 ^ l) : Nat) ∧ lvl = .int .i64 (l : Nat) ∧ Far (fun _ => False) w wr) (fun _ lvl _ => (intOf lvl).toNat)
  case atStart => exact ⟨lv, Nat.le_refl _, by rw [(Nat.div_eq_zero_iff_lt (Nat.two_pow_pos _)).2 hi, (Nat.div_eq_zero_iff_lt (Nat.two_pow_pos _)).2 hj, hroot], rfl, Far.refl _ w⟩
  case round =>
    obtain ⟨l, hl, rfl, rfl, hfr⟩ := hrel
    have hQ := h'.out.still hfr
    clear p1 p2
    obtain ⟨x, hx⟩ : ∃ x, x = A l (i / 2 ^ l) (j / 2 ^ l) := ⟨_, rfl⟩
    rw [← hx]
    cases l with
    | zero =>
      go_wp2_with fail
      go_ret
      exact ⟨by rw [hx]; simp, hfr⟩
    | succ l =>
      by_cases hx0 : x = 0
      · subst hx0
        have hz := hQ.tree.none hl hx.symm
        go_wp2_with fail
        go_ret
        exact ⟨by rw [hz]; rfl, hfr⟩
      · obtain ⟨f, hf, hq⟩ := hQ.tree.step (i := i) (j := j) (l := l) (by rw [← hx]; exact hx0)
        rw [← hx] at hf
        have hnsl := (List.getElem?_eq_some_iff.1 hf).1
        obtain ⟨g, cap, rfl, _⟩ := hQ.nodes.form (by omega)
        have hcell : wr.cell? ⟨g, (x - 1) * 4 + qd i j l, none⟩ = some (.int .i64 (A l (i / 2 ^ l) (j / 2 ^ l) : Nat)) := by
          rw [← hq]
          exact node_cell hQ.nodes hf (qd_lt i j l)
        have p3 : wr.cell? ⟨B, 3, none⟩ = some (.slice (some ⟨g, 0, none⟩) ns.length cap) := hQ.box.cell 3
        have hqlt := qd_lt i j l
        have PT := fun w => part_any i j l (by omega) w
        rw [show ((l + 1 : Nat) : Int) = (l : Int) + 1 by omega] at PT ⊢
        have hx1 : IntKind.i64.wrap ((x : Int) - 1) = ((x - 1 : Nat) : Int) := by rw [IntKind.wrap_i64]; omega
        have hxl : x - 1 < ns.length := hnsl
        have hl1 : IntKind.i64.wrap (((l + 1 : Nat) : Int) - 1) = (l : Int) := by rw [IntKind.wrap_i64]; omega
        clear hf hq hx hQ
        go_wp2_with fail
        go_quiet ((go_at_call 89; exact Calls.quiet_of (PT _)))
        go_wp2_with fail
        go_roundw
        case rel => exact ⟨l, by omega, rfl, rfl, hfr.drewN _⟩
        case measure => simp [intOf]
end
end Go.Proofs.YtjolkhiggcmoiaaGreatDoor
/-! ## QTz: TrailingZeros64 of math/bits, over its table. -/
namespace Go.Proofs.YtjolkhiggcmoiaaGreatDoor
open Go.RowKit
set_option linter.unusedVariables false
set_option linter.unusedSimpArgs false
/-- The package's table lies in its variable. -/
def Tab (w : World) : Prop := ∀ j, j < 64 → w.cell? ⟨0, j, none⟩ = some (.int .u8 (Lib.deBruijn64tab.getD j 0))
theorem Tab.stays {w w' : World} (h : Tab w) (hb : Below w.heap.size w w') : Tab w' := fun j hj =>
  (hb.cell (p := ⟨0, j, none⟩) (block_lt_of_cell (h j hj))).trans (h j hj)
theorem neg_word (x a : Nat) (hx : x < 18446744073709551616) (hx0 : x ≠ 0) (hlow : x &&& (18446744073709551616 - x) = a) :
    IntKind.u64.wrap (bits .and .u64 (x : Int) (IntKind.u64.wrap (-(x : Int))) * 285870213051353865) / 288230376151711744 = ((a * 285870213051353865 % 18446744073709551616 / 288230376151711744 : Nat) : Int) := by
  have e : IntKind.u64.wrap (-(x : Int)) = ((18446744073709551616 - x : Nat) : Int) := by rw [IntKind.wrap_u64]; omega
  rw [e, bits_and64 x _ hx (by omega), hlow, IntKind.wrap_u64]
  omega
section
set_option maxHeartbeats 400000
set_option maxRecDepth 100000
theorem tz_core (x k idx : Nat) (w : World) (hne : ((x : Int) == 0) = false)
    (key : IntKind.u64.wrap (bits .and .u64 (x : Int) (IntKind.u64.wrap (-(x : Int))) * 285870213051353865) / 288230376151711744 = (idx : Int))
    (hi : idx < 64) (hk : k < 64) (hcell : w.cell? ⟨0, idx, none⟩ = some (.int .u8 k)) :
    Calls Tryz.prog 88 #[.int .u64 x] w fun e w' => e = .returned (.int .i64 k) ∧ w = w' := by
  go_enter Tryz.func88, Tryz.ntmps88
  go_wp2_with (simp only [key])
  go_ret
  exact ⟨rfl, rfl⟩
theorem tz_any (x : Nat) (w : World) (hx : x < 18446744073709551616) (hx0 : x ≠ 0) (hT : Tab w) :
    Calls Tryz.prog 88 #[.int .u64 x] w fun e w' => e = .returned (.int .i64 (Lib.ctz 64 x)) ∧ w = w' := by
  obtain ⟨hlow, hk⟩ := Lib.lowest_bit 64 x hx0 hx
  obtain ⟨hi, htab⟩ := Lib.deBruijn64_at _ hk
  have hcell := hT _ hi
  rw [htab] at hcell
  exact tz_core x _ _ w (by simp; omega) (neg_word x _ hx hx0 hlow) hi hk hcell
end
/-- The lowest bit of x, and x without it. -/
theorem low_facts (x : Nat) (hx : x < 18446744073709551616) (hx0 : x ≠ 0) :
    Lib.ctz 64 x < 64 ∧ x.testBit (Lib.ctz 64 x) = true ∧ ∀ i, (x &&& (x - 1)).testBit i = (x.testBit i && !decide (i = Lib.ctz 64 x)) := by
  have e : Lib.ctz 64 x = Lib.ctzFrom 64 x := by simp [Lib.ctz, hx0]
  rw [e]
  obtain ⟨m, hm, hk⟩ := Lib.ctzFrom_spec 64 x (by omega) hx
  generalize Lib.ctzFrom 64 x = k at *
  have hp : 0 < 2 ^ k := Nat.two_pow_pos k
  have hpp : 2 ^ (k + 1) = 2 ^ k * 2 := Nat.pow_succ 2 k
  have h1 : x = 2 ^ (k + 1) * m + 2 ^ k := by rw [hm, hpp, Nat.mul_add, Nat.mul_one, Nat.mul_assoc]
  have h2 : x - 1 = 2 ^ (k + 1) * m + (2 ^ k - 1) := by omega
  have b1 : ∀ i, x.testBit i = if i < k + 1 then (2 ^ k).testBit i else m.testBit (i - (k + 1)) := fun i => by
    rw [h1]; exact Nat.testBit_two_pow_mul_add m (by omega) i
  have b2 : ∀ i, (x - 1).testBit i = if i < k + 1 then (2 ^ k - 1).testBit i else m.testBit (i - (k + 1)) := fun i => by
    rw [h2]; exact Nat.testBit_two_pow_mul_add m (by omega) i
  refine ⟨hk, ?_, fun i => ?_⟩
  · rw [b1, if_pos (by omega)]; exact Nat.testBit_two_pow_self
  · rw [Nat.testBit_and, b1, b2]
    by_cases hi : i < k + 1
    · rw [if_pos hi, if_pos hi, Nat.testBit_two_pow, Nat.testBit_two_pow_sub_one]
      by_cases he : i = k
      · subst he; simp
      · have : ¬ k = i := fun h => he h.symm
        simp [this]
    · rw [if_neg hi, if_neg hi, Bool.and_self]
      have : ¬ i = k := by omega
      simp [this]
end Go.Proofs.YtjolkhiggcmoiaaGreatDoor
/-! ## QCorner: Corner, the program's and the reference's. -/
namespace Go.Proofs.YtjolkhiggcmoiaaGreatDoor
open Go.RowKit
set_option linter.unusedVariables false
set_option linter.unusedSimpArgs false
/-- The bits of a corner. -/
def cutS (f : Nat → Nat) (rows cols : Nat) (r c : Nat) : Bool := decide (r < rows) && decide (c < cols) && bt f r c
/-- The word of the first c columns. -/
def cm (c : Nat) : Nat := 2 ^ c - 1
theorem cm_lt {c : Nat} (hc : c ≤ 64) : cm c < 18446744073709551616 := by
  have : 2 ^ c ≤ 2 ^ 64 := Nat.pow_le_pow_right (by decide) hc
  have hp := Nat.two_pow_pos c
  unfold cm; omega
theorem corner_rows (f : Nat → Nat) (rows cols : Nat) (hf : Wf f) (hc : cols ≤ 64) : Rw (rowsTo (fun i => f i &&& cm cols) (fun _ => 0) rows) = Rw (blk (cutS f rows cols)) := by
  refine Rw_blk (fun i hi => ?_) fun r c hr hcc => ?_
  · unfold rowsTo
    split
    · exact Nat.lt_of_le_of_lt Nat.and_le_left (hf i hi)
    · exact Nat.zero_lt_succ _
  · unfold rowsTo cutS bt cm
    by_cases h : r < rows
    · rw [if_pos h, Nat.testBit_and, Nat.testBit_two_pow_sub_one]
      simp only [h, decide_true, Bool.true_and]
      exact Bool.and_comm _ _
    · rw [if_neg h]; simp [h]
section
set_option maxHeartbeats 1000000
set_option maxRecDepth 100000
theorem cut_yes (n : Nat) (w : World) (h : n ≤ 64) : Calls Tryz.prog 146 #[.int .i64 n] w fun e w' => e = .returned (.bool true) ∧ w = w' := by
  have hd : decide ((n : Int) ≤ 64) = true := by rw [decide_eq_true_eq]; omega
  go_enter Tryz.func146, Tryz.ntmps146
  go_wp2
  go_ret
  exact ⟨rfl, rfl⟩
theorem cut_no (n : Int) (w : World) (h : n < 0 ∨ 64 < n) : Calls Tryz.prog 146 #[.int .i64 n] w fun e w' => e = .returned (.bool false) ∧ w = w' := by
  rcases h with h | h
  · go_enter Tryz.func146, Tryz.ntmps146
    go_wp2
    go_ret
    exact ⟨rfl, rfl⟩
  · have h0 : 0 ≤ n := by omega
    have hd : decide (n ≤ 64) = false := by rw [decide_eq_false_iff_not]; omega
    go_enter Tryz.func146, Tryz.ntmps146
    go_wp2
    go_ret
    exact ⟨rfl, rfl⟩
theorem bit64 (w : World) : Calls Tryz.prog 147 #[.int .i64 64] w fun e w' => e = .returned (.int .u64 0) ∧ w = w' := by
  go_enter Tryz.func147, Tryz.ntmps147
  go_wp2
  go_ret
  exact ⟨rfl, rfl⟩
/-- bit of a number up to 64, and one less: the word of the first columns. -/
theorem bit_cut (c : Nat) (w : World) (hc : c ≤ 64) : Calls Tryz.prog 147 #[.int .i64 c] w fun e w' => (∃ x : Nat, e = .returned (.int .u64 x) ∧ x < 18446744073709551616 ∧ IntKind.u64.wrap ((x : Int) - 1) = (cm c : Int)) ∧ w = w' := by
  by_cases h : c = 64
  · subst h
    refine (bit64 w).mono fun e w' ⟨he, hw⟩ => ⟨⟨0, he, by decide, ?_⟩, hw⟩
    rw [IntKind.wrap_u64]; decide
  · refine (bit_any c w (by omega)).mono fun e w' ⟨he, hw⟩ => ⟨⟨pw c, he, pw_lt (by omega), ?_⟩, hw⟩
    have hp : 0 < pw c := Nat.two_pow_pos c
    have hl := pw_lt (c := c) (by omega)
    rw [show ((pw c : Int) - 1) = ((pw c - 1 : Nat) : Int) by omega, wrap_u64_nat _ (by omega)]
    rfl
theorem corner_no (f : Nat → Nat) (r c : Int) (w : World) (h : r < 0 ∨ 64 < r ∨ c < 0 ∨ 64 < c) :
    Calls Tryz.prog 143 #[.agg (Rw f), .int .i64 r, .int .i64 c] w fun e w' => e = .returned (.tuple #[.agg (Rw fun _ => 0), .int .i64 2]) ∧ Below w.heap.size w w' := by
  have hz : ∀ w, (zeroValue 108).run Tryz.prog w = .ok (.agg (Rw fun _ => 0)) w := (zero_of_info blockZero).1
  by_cases hr : r < 0 ∨ 64 < r
  · go_enter Tryz.func143, Tryz.ntmps143
    go_wp2_with fail
    refine (cut_no r _ hr).mono ?_
    rintro e w' ⟨rfl, rfl⟩
    go_wp2_with (first | (apply wpList_ld rfl _ rfl _ rfl; focus ((repeat' (first | (with_reducible assumption) | ((with_reducible refine Hold.new ?_); first | (with_reducible rfl) | (simp; done)) | (with_reducible apply Hold.alloc) | (with_reducible apply Hold.row) | ((with_reducible apply Hold.other); rotate_left; focus (first | omega | (simp; omega))))); done)) | (apply wpList_st rfl _ _ rfl _ rfl _ rfl; focus ((repeat' (first | (with_reducible assumption) | ((with_reducible refine Hold.new ?_); first | (with_reducible rfl) | (simp; done)) | (with_reducible apply Hold.alloc) | (with_reducible apply Hold.row) | ((with_reducible apply Hold.other); rotate_left; focus (first | omega | (simp; omega))))); done)) | (refine wpList_bd rfl rfl ?_))
    exact ret_blk2 rfl (w.heap.size + 1) rfl (Hold.row (Hold.new (by simp)) _) rfl ⟨rfl, Below.row (((Below.refl _ _).alloc (Nat.le_refl _) _).alloc (by simp) _) (by omega) _⟩
  · obtain ⟨n, rfl⟩ := Int.eq_ofNat_of_zero_le (show 0 ≤ r by omega)
    have hn : n ≤ 64 := by omega
    have hc : c < 0 ∨ 64 < c := by omega
    clear h hr
    go_enter Tryz.func143, Tryz.ntmps143
    go_wp2_with fail
    refine (cut_yes n _ hn).mono ?_
    rintro e w' ⟨rfl, rfl⟩
    go_wp2_with fail
    refine (cut_no c _ hc).mono ?_
    rintro e w' ⟨rfl, rfl⟩
    go_wp2_with (first | (apply wpList_ld rfl _ rfl _ rfl; focus ((repeat' (first | (with_reducible assumption) | ((with_reducible refine Hold.new ?_); first | (with_reducible rfl) | (simp; done)) | (with_reducible apply Hold.alloc) | (with_reducible apply Hold.row) | ((with_reducible apply Hold.other); rotate_left; focus (first | omega | (simp; omega))))); done)) | (apply wpList_st rfl _ _ rfl _ rfl _ rfl; focus ((repeat' (first | (with_reducible assumption) | ((with_reducible refine Hold.new ?_); first | (with_reducible rfl) | (simp; done)) | (with_reducible apply Hold.alloc) | (with_reducible apply Hold.row) | ((with_reducible apply Hold.other); rotate_left; focus (first | omega | (simp; omega))))); done)) | (refine wpList_bd rfl rfl ?_))
    exact ret_blk2 rfl (w.heap.size + 1) rfl (Hold.row (Hold.new (by simp)) _) rfl ⟨rfl, Below.row (((Below.refl _ _).alloc (Nat.le_refl _) _).alloc (by simp) _) (by omega) _⟩
theorem corner_yes (f : Nat → Nat) (r c : Nat) (w : World) (hf : Wf f) (hr : r ≤ 64) (hc : c ≤ 64) :
    Calls Tryz.prog 143 #[.agg (Rw f), .int .i64 r, .int .i64 c] w fun e w' => e = .returned (.tuple #[.agg (Rw (blk (cutS f r c))), .int .i64 0]) ∧ Below w.heap.size w w' := by
  have hz : ∀ w, (zeroValue 108).run Tryz.prog w = .ok (.agg (Rw fun _ => 0)) w := (zero_of_info blockZero).1
  have HE := Lib.hid (corner_rows f r c hf hc)
  have hm := cm_lt hc
  go_enter Tryz.func143, Tryz.ntmps143
  go_wp2_with fail
  refine (cut_yes r _ hr).mono ?_
  rintro e w' ⟨rfl, rfl⟩
  go_wp2_with fail
  refine (cut_yes c _ hc).mono ?_
  rintro e w' ⟨rfl, rfl⟩
  go_wp2_with fail
  refine (bit_cut c _ hc).mono ?_
  rintro e w' ⟨⟨x, rfl, hx, hx1⟩, rfl⟩
  go_wp2_with fail
  generalize cm c = m at *
  go_loopw [24] (fun i wr => ∃ k : Nat, k ≤ r ∧ i = .int .i64 k ∧ Hold wr (w.heap.size + 2) (Rw (rowsTo (fun i => f i &&& m) (fun _ => 0) k)) ∧ Hold wr w.heap.size (Rw f) ∧ Hold wr (w.heap.size + 1) (Rw fun _ => 0) ∧ Below w.heap.size w wr) (fun i _ => 64 - (intOf i).toNat)
  case atStart => exact ⟨0, Nat.zero_le _, rfl, by rw [rowsTo_zero]; exact Hold.new (by simp), ((Hold.new rfl).alloc _).alloc _, (Hold.new (by simp)).alloc _, (((Below.refl _ _).alloc (Nat.le_refl _) _).alloc (by simp) _).alloc (by simp; omega) _⟩
  case round =>
    obtain ⟨k, hk, rfl, d, d0, d1, db⟩ := hrel
    by_cases hlt : k < r
    · have hk6 : k < 64 := by omega
      have hcell := d.cell (Rw_get _ k hk6)
      rw [rowsTo_at] at hcell
      have hcf := d0.cell (Rw_get _ k hk6)
      have hfree : wr.frozen? ⟨w.heap.size + 2, k, none⟩ = false := d.free
      have hst : bits .and .u64 (f k) m = ((f k &&& m : Nat) : Int) := bits_and64 _ _ (hf k hk6) hm
      have d' : Hold (wr.setCell ⟨w.heap.size + 2, k, none⟩ (.int .u64 ↑(f k &&& m))) (w.heap.size + 2) (Rw (rowsTo (fun i => f i &&& m) (fun _ => 0) (k + 1))) := by
        have := d.put (i := k) (.int .u64 ↑(f k &&& m)); rw [Rw_set, show upd (rowsTo (fun i => f i &&& m) (fun _ => 0) k) k (f k &&& m) = upd (rowsTo (fun i => f i &&& m) (fun _ => 0) k) k ((fun i => f i &&& m) k) from rfl, rowsTo_step] at this; exact this
      have d0' : Hold (wr.setCell ⟨w.heap.size + 2, k, none⟩ (.int .u64 ↑(f k &&& m))) w.heap.size (Rw f) := d0.far (by simp) _
      have d1' : Hold (wr.setCell ⟨w.heap.size + 2, k, none⟩ (.int .u64 ↑(f k &&& m))) (w.heap.size + 1) (Rw fun _ => 0) := d1.far (by simp) _
      have db' := db.setCell (p := ⟨w.heap.size + 2, k, none⟩) (by simp) (.int .u64 ↑(f k &&& m))
      clear d d0 d1 db
      go_wp2_with fail
      go_roundw
      case rel => exact ⟨k + 1, by omega, by go_num, d', d0', d1', db'⟩
      case measure => simp [intOf]; omega
    · have e : k = r := by omega
      subst e
      rw [HE.out] at d
      go_wp2_with (first | (apply wpList_ld rfl _ rfl _ rfl; focus ((repeat' (first | (with_reducible assumption) | ((with_reducible refine Hold.new ?_); first | (with_reducible rfl) | (simp; done)) | (with_reducible apply Hold.alloc) | (with_reducible apply Hold.row) | ((with_reducible apply Hold.other); rotate_left; focus (first | omega | (simp; omega))))); done)) | (apply wpList_st rfl _ _ rfl _ rfl _ rfl; focus ((repeat' (first | (with_reducible assumption) | ((with_reducible refine Hold.new ?_); first | (with_reducible rfl) | (simp; done)) | (with_reducible apply Hold.alloc) | (with_reducible apply Hold.row) | ((with_reducible apply Hold.other); rotate_left; focus (first | omega | (simp; omega))))); done)) | (refine wpList_bd rfl rfl ?_))
      exact ret_blk2 rfl (w.heap.size + 1) rfl (Hold.row d1 _) rfl ⟨rfl, Below.row db (by omega) _⟩
end
end Go.Proofs.YtjolkhiggcmoiaaGreatDoor
/-! ## QHeld: Regions that draw their order and make or write memory: the steps of a walk over every order. -/
namespace Go.Proofs.YtjolkhiggcmoiaaGreatDoor
open Go.RowKit
set_option linter.unusedVariables false
section
variable {P : Program} {ops : Array Oper} {o : Oper} {a : Act} {w : World} {K : Act → World → Prop} {Q : Exit → Act → World → Prop}
/-- A call, by what its callee does. -/
theorem hw_call (v : Value) (f : FuncId) (args : Array Value) (R : World → Prop) (hw : Region.wanted o (yielded ops a.tmps) = true) (hr : (execOp a.eval o).run P w = .ok (.enter f args) w)
    (hc : Calls P f args w fun e w' => e = .returned v ∧ R w') (hk : ∀ w', R w' → K (a.put o.dst v) w') :
    if Region.wanted o (yielded ops a.tmps) = true then Oper.wp P o a w K Q else K (a.put o.dst undef) w := by
  rw [if_pos hw]
  unfold Oper.wp
  rw [hr]
  exact hc.mono fun e w' ⟨he, hR⟩ => by subst he; exact hk _ hR
/-- An operation that yields a value in a world that has moved on. -/
theorem hw_run (v : Value) (w1 : World) (hw : Region.wanted o (yielded ops a.tmps) = true) (hr : (execOp a.eval o).run P w = .ok (.value v) w1) (hk : K (a.put o.dst v) w1) :
    if Region.wanted o (yielded ops a.tmps) = true then Oper.wp P o a w K Q else K (a.put o.dst undef) w := by
  rw [if_pos hw]
  unfold Oper.wp
  rw [hr, Oper.upon_value]
  exact hk
end
/-- A block's variable is made. -/
theorem run_mk {o : Oper} {a : Act} (w : World) (ho : o.op = .alloc 108) : (execOp a.eval o).run Tryz.prog w = .ok (.value (.pointer (some ⟨w.heap.size, 0, none⟩))) (w.alloc (.cells (Rw fun _ => 0) 108)) := by
  have hz : ∀ w, (zeroValue 108).run Tryz.prog w = .ok (.agg (Rw fun _ => 0)) w := (zero_of_info blockZero).1
  unfold execOp
  simp only [ho, Sem.run_bind, Instr.alloc, hz, Result.andThen_ok, newVar, newRow, run_newObj_alloc, Sem.run_pure]
  rfl
/-- A block goes into a variable, whichever comes next. -/
theorem hw_st {ops : Array Oper} {o : Oper} {a : Act} {w : World} {K : Act → World → Prop} {Q : Exit → Act → World → Prop} (hw : Region.wanted o (yielded ops a.tmps) = true) (x y : Operand) (ho : o.op = .store 108 x y)
    (g : Nat) (hx : a.eval x = .pointer (some ⟨g, 0, none⟩)) {f : Nat → Nat} (f' : Nat → Nat) (hy : a.eval y = .agg (Rw f')) (hg : Hold w g (Rw f)) (hk : K (a.put o.dst undef) (w.setRow g (Rw f'))) :
    if Region.wanted o (yielded ops a.tmps) = true then Oper.wp Tryz.prog o a w K Q else K (a.put o.dst undef) w := by
  rw [if_pos hw]
  exact wp_store_row 108 x y ho g (Rw f') hx hy 108 (Rw f) hg (by rw [blockSize, Rw_size]) (by rw [Rw_size, Rw_size]) (Rw_one f') hk
/-- A load of a block, in every world of a class. -/
theorem yl {ops : Array Oper} {S : World → Prop} {o : Oper} {a : Act} (hw : Region.wanted o (yielded ops a.tmps) = true) (x : Operand) (ho : o.op = .load 108 x)
    (g : Nat) (hx : a.eval x = .pointer (some ⟨g, 0, none⟩)) {f : Nat → Nat} (hg : ∀ w, S w → Hold w g (Rw f)) : YieldsIf Tryz.prog ops S o (.agg (Rw f)) a :=
  .inl ⟨hw, fun w hS => by
    have hl := run_loadVar_row (P := Tryz.prog) w g 108 108 (Rw f) (0, 0) _ (hg w hS) blockType rfl (by rw [blockSize, Rw_size])
    unfold execOp
    simp only [ho, hx, Instr.loadAt, Instr.sureAddr, Sem.run_bind, Sem.run_pure, Result.andThen_ok, hl]⟩
end Go.Proofs.YtjolkhiggcmoiaaGreatDoor
