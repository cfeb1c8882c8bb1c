/-
  PM: maps from a nonterminal and a place to places, seen as functions.
-/
import Derived.Test.YteojbnkjphghkaaDoorPl15
import Derived.Maps.OwnSet
import Derived.DeepKeys4
import Derived.WideKeyEntry
namespace Go.Proofs.YteojbnkjphghkaaDoor
open Go.RowKit
open Go.Maps (Keyed)
set_option linter.unusedVariables false
set_option linter.unusedSimpArgs false
def sideV (a b : Int) : Value := .agg #[.int .i64 a, .int .i64 b]
theorem wf_fit15 {a : Int} (h : Fit a) : (Lit.int .i64 a).wf = true := WalkArith.wf_i64 (by unfold Fit at h; omega)
section
set_option maxRecDepth 100000
theorem laid_out : laidOutB Tryd.prog = true := by kernel_rfl
theorem row_side : (86 : TypeId) < Tryd.prog.types.size := of_decide_eq_true (by kernel_rfl)
theorem law_side : WideMaps.KeyLaw Tryd.prog 86 := deep_law_laid laid_out (m := 2) (by omega) row_side (by kernel_rfl) (by rw [Tryd.underlying86])
theorem keyT_side : Tryd.prog.keyType 86 = true := by kernel_rfl
theorem tsize : ∃ n, Tryd.prog.types.size = n + 2 := ⟨Tryd.prog.types.size - 2, by have := row_side; have : (2 : Nat) ≤ Tryd.prog.types.size := of_decide_eq_true (by kernel_rfl); omega⟩
theorem cells_side : Tryd.prog.cellsOf 86 = 2 := by kernel_rfl
theorem cells_int : Tryd.prog.cellsOf 3 = 1 := by kernel_rfl
theorem lits_int (n : Nat) {a : Int} (h : (Lit.int .i64 a).wf = true) : Tryd.prog.keyLits (n + 1) 3 [.int .i64 a] = some [.int .i64 a] := by
  unfold Program.keyLits
  rw [Tryd.underlying3]
  simp [h]
theorem lits_side (n : Nat) {a b : Int} (h1 : (Lit.int .i64 a).wf = true) (h2 : (Lit.int .i64 b).wf = true) : Tryd.prog.keyLits (n + 2) 86 [.int .i64 a, .int .i64 b] = some [.int .i64 a, .int .i64 b] := by
  have e1 := lits_int n h1
  have e2 := lits_int n h2
  generalize hk : Tryd.prog.keyLits (n + 1) = K at e1 e2
  unfold Program.keyLits
  rw [Tryd.underlying86, hk, cells_side]
  simp [e1, e2, cells_int]
theorem formed_agg {k : TypeId} {d : TypeDesc} {vs : Array Value} (hd : Tryd.prog.underlying k = some d) (h : (match d with | .array .. | .struct _ => true | _ => false) = true) (hc : vs.size = Tryd.prog.cellsOf k) : (Value.agg vs).formed Tryd.prog k = true := by
  cases d <;> simp at h <;> simp [Value.formed, hd, hc]
theorem key_side {a b : Int} (ha : Fit a) (hb : Fit b) : ∃ l, keyOf Tryd.prog 86 (sideV a b) = some l := by
  obtain ⟨n, hn⟩ := tsize
  have e := lits_side (n + 1) (wf_fit15 ha) (wf_fit15 hb)
  rw [show n + 1 + 2 = Tryd.prog.types.size + 1 by omega] at e
  have hf : (sideV a b).formed Tryd.prog 86 = true := formed_agg Tryd.underlying86 rfl (by rw [cells_side]; rfl)
  unfold keyOf
  rw [Tryd.underlying86]
  refine ⟨.string (keyBytes [.int .i64 a, .int .i64 b]), ?_⟩
  dsimp only
  rw [keyT_side, hf, show (sideV a b).cells.toList = [.int .i64 a, .int .i64 b] from rfl, e]
  rfl
theorem zero_pl (w : World) : (zeroValue 79).run Tryd.prog w = .ok (plV (0, 0)) w := by kernel_rfl
end
/-- How places read. -/
def rdP (v : Value) : Option (DataW Unit × List MemPlace) := match v with
  | .agg a => match a.toList with
    | [.int .u64 x, .int .u64 y] => some (.agg [.lit (.int .u64 x), .lit (.int .u64 y)], [])
    | _ => none
  | _ => none
def plD (p : Nat × Nat) : DataW Unit := .agg [.lit (.int .u64 (p.1 : Int)), .lit (.int .u64 (p.2 : Int))]
theorem rd_pl (p : Nat × Nat) : rdP (plV p) = some (plD p, []) := rfl
theorem rd_inv {v : Value} {p : Nat × Nat} {ps : List MemPlace} (h : rdP v = some (plD p, ps)) : v = plV p := by
  unfold rdP at h
  split at h
  · rename_i a
    split at h
    · rename_i x y e
      simp only [plD, Option.some.injEq, Prod.mk.injEq, DataW.agg.injEq, List.cons.injEq, DataW.lit.injEq, Lit.int.injEq, true_and, and_true] at h
      obtain ⟨⟨rfl, rfl⟩, _⟩ := h
      unfold plV
      congr 1
      exact Array.toList_inj.1 e
    · cases h
  · cases h
/-- Block b is a map of at most n entries that sends a nonterminal and a place to places. -/
def PM (w : World) (b n : Nat) (E : Int → Int → Nat × Nat) : Prop :=
  ∃ D : DataW Unit, w.ownsMap Tryd.prog 86 rdP b n D ∧ ∀ x y l, keyOf Tryd.prog 86 (sideV x y) = some l → D.atKey l (plD (0, 0)) = plD (E x y)
theorem PM.lt {w : World} {b n : Nat} {E : Int → Int → Nat × Nat} (h : PM w b n E) : b < w.heap.size := by obtain ⟨D, hD, _⟩ := h; exact hD.lt
theorem PM.mono {w : World} {b n n' : Nat} {E : Int → Int → Nat × Nat} (h : PM w b n E) (hn : n ≤ n') : PM w b n' E := by obtain ⟨D, hD, hc⟩ := h; exact ⟨D, hD.mono hn, hc⟩
theorem PM.same {w w' : World} {b n : Nat} {E : Int → Int → Nat × Nat} (h : PM w b n E) (hb : w'.heap[b]? = w.heap[b]?) : PM w' b n E := by
  obtain ⟨D, ⟨es, clock, h1, h2⟩, hc⟩ := h
  exact ⟨D, ⟨es, clock, hb.trans h1, h2⟩, hc⟩
theorem PM.far {w w' : World} {F : Nat → Prop} {b n : Nat} {E : Int → Int → Nat × Nat} (h : PM w b n E) (hf : Far F w w') (hF : ¬ F b) : PM w' b n E := h.same (hf.block b h.lt hF)
theorem PM.made (w : World) : PM (w.alloc (.map #[] 0)) w.heap.size 0 (fun _ _ => (0, 0)) := ⟨.map [], World.ownsMap_made w _ _ _, fun x y l _ => rfl⟩
theorem PM.notCells {w : World} {b n : Nat} {E : Int → Int → Nat × Nat} (h : PM w b n E) {cs : Array Value} {t : TypeId} : ¬ Bk w b t cs := by
  obtain ⟨D, ⟨es, clock, h1, _⟩, _⟩ := h
  intro hb
  unfold Bk at hb
  rw [h1] at hb
  cases hb
theorem PM.look {w : World} {b n : Nat} {E : Int → Int → Nat × Nat} (h : PM w b n E) {x y : Int} (hx : Fit x) (hy : Fit y) :
    (Instr.lookup 80 (.map (some b)) (sideV x y) false).run Tryd.prog w = .ok (plV (E x y)) w := by
  obtain ⟨l, hk⟩ := key_side hx hy
  obtain ⟨D, hD, hc⟩ := h
  obtain ⟨v, ps, hrun, hv⟩ := hD.lookup (Keyed.of_law law_side) Tryd.underlying80 (zero_pl _) (rd_pl (0, 0)) hk
  rw [hc x y l hk] at hv
  rw [rd_inv hv] at hrun
  exact hrun
/-- A function with one value turned. -/
def putE (E : Int → Int → Nat × Nat) (x y : Int) (p : Nat × Nat) : Int → Int → Nat × Nat := fun a b => if a = x ∧ b = y then p else E a b
theorem PM.put {w : World} {b n : Nat} {E : Int → Int → Nat × Nat} (h : PM w b n E) (hn : n < maxLen) {x y : Int} (hx : Fit x) (hy : Fit y) (p : Nat × Nat) :
    ∃ w', (Instr.mapUpdate 80 (.map (some b)) (sideV x y) (plV p)).run Tryd.prog w = .ok () w' ∧ PM w' b (n + 1) (putE E x y p) ∧ w.grownBy w' (some b) := by
  obtain ⟨l, hk⟩ := key_side hx hy
  obtain ⟨D, hD, hc⟩ := h
  have K := Keyed.of_law law_side
  obtain ⟨w', hrun, h1, h2⟩ := hD.update K Tryd.underlying80 hn hk (rd_pl p)
  refine ⟨w', hrun, ⟨_, h1, fun a c m hm => ?_⟩, h2⟩
  unfold putE
  by_cases e : a = x ∧ c = y
  · obtain ⟨rfl, rfl⟩ := e
    rw [hk] at hm
    cases hm
    rw [if_pos ⟨rfl, rfl⟩, Maps.atKey_put_same hD.isMap (K.key hk)]
  · have hne : m ≠ l := fun e' => by
      have := K.inj (e' ▸ hm) hk
      simp only [sideV, Value.agg.injEq] at this
      have h3 := congrArg Array.toList this
      simp only [List.cons.injEq, Value.int.injEq, true_and, and_true] at h3
      exact e h3
    rw [if_neg e, Maps.atKey_put_other hne]
    exact hc a c m hm
end Go.Proofs.YteojbnkjphghkaaDoor
