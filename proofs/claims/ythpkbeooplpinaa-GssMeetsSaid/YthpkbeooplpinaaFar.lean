/-
  Far: what a call leaves alone but for some blocks; keys that are tuples of numbers.
-/
import Derived.Test.YthpkbeooplpinaaSoFar
namespace Go.Proofs.Ythpkbeooplpinaa
open Go.RowKit
set_option linter.unusedVariables false
set_option linter.unusedSimpArgs false
/-- w' is w but for the blocks F and new ones. -/
structure Far (F : Nat → Prop) (w w' : World) : Prop where
  os : w'.os = w.os
  tape : w'.tape = w.tape
  output : w'.output = w.output
  size : w.heap.size ≤ w'.heap.size
  block : ∀ k, k < w.heap.size → ¬ F k → w'.heap[k]? = w.heap[k]?
theorem Far.refl (F : Nat → Prop) (w : World) : Far F w w := ⟨rfl, rfl, rfl, Nat.le_refl _, fun _ _ _ => rfl⟩
theorem Far.mono {F G : Nat → Prop} {w w' : World} (h : Far F w w') (hs : ∀ k, k < w.heap.size → F k → G k) : Far G w w' := ⟨h.os, h.tape, h.output, h.size, fun k hk hg => h.block k hk fun hf => hg (hs k hk hf)⟩
theorem Far.trans {F G : Nat → Prop} {a b c : World} (h : Far F a b) (k : Far G b c) (hs : ∀ i, i < a.heap.size → G i → F i) : Far F a c :=
  ⟨k.os.trans h.os, k.tape.trans h.tape, k.output.trans h.output, Nat.le_trans h.size k.size, fun i hi hf => (k.block i (Nat.lt_of_lt_of_le hi h.size) fun hg => hf (hs i hi hg)).trans (h.block i hi hf)⟩
theorem Far.alloc {F : Nat → Prop} {a w : World} (h : Far F a w) (o : Obj) : Far F a (w.alloc o) := h.trans (G := fun _ => False) ⟨rfl, rfl, rfl, by simp, fun k hk _ => heap_alloc_old w o hk⟩ (fun _ _ h => h.elim)
theorem Far.drew {F : Nat → Prop} {a w : World} (h : Far F a w) : Far F a w.drew := ⟨h.os, h.tape, h.output, h.size, h.block⟩
theorem Far.drewN {F : Nat → Prop} {a w : World} (h : Far F a w) (q : Nat) : Far F a (w.drewN q) := ⟨h.os, h.tape, h.output, h.size, h.block⟩
theorem Far.grown {F : Nat → Prop} {a w w' : World} {row : Option Nat} (h : Far F a w) (hg : w.grownBy w' row) (hr : ∀ k, k < a.heap.size → row = some k → F k) : Far F a w' :=
  h.trans (G := fun k => row = some k) ⟨hg.os, hg.tape, hg.output, hg.size, fun k hk hne => hg.block k hk fun e => hne e.symm⟩ (fun i hi hG => hr i hi hG)
theorem Far.set {F : Nat → Prop} {a w : World} (h : Far F a w) (p : Addr) (u : Value) (hp : p.block < a.heap.size → F p.block) : Far F a (w.setCell p u) :=
  h.trans (G := fun k => k = p.block) ⟨rfl, rfl, rfl, by simp [World.setCell], fun k hk hne => RowKit.Below.heap_setCell _ _ _ _ hne⟩ (fun i hi e => by subst e; exact hp hi)
theorem Far.below {F : Nat → Prop} {a b : World} {B : Nat} (h : Far F a b) (hB : B ≤ a.heap.size) (hF : ∀ k, k < B → ¬ F k) : Below B a b := ⟨h.os, h.tape, h.output, h.size, fun k hk => h.block k (by omega) (hF k hk)⟩
/-- Keys. -/
def sp (a b : Int) : Value := .agg #[.int .i64 a, .int .i64 b]
def tr (a b c : Int) : Value := .agg #[.int .i64 a, .int .i64 b, .int .i64 c]
def Fit (a : Int) : Prop := -9223372036854775808 ≤ a ∧ a ≤ 9223372036854775807
theorem wf_fit {a : Int} (h : Fit a) : (Lit.int .i64 a).wf = true := WalkArith.wf_i64 (by unfold Fit at h; omega)
section
set_option maxRecDepth 100000
theorem keyT_spot : Try.prog.keyType 79 = true := by kernel_rfl
theorem keyT_arr3 : Try.prog.keyType 88 = true := by kernel_rfl
theorem keyT_arr2 : Try.prog.keyType 70 = true := by kernel_rfl
theorem tsize : ∃ n, Try.prog.types.size = n + 2 := ⟨Try.prog.types.size - 2, by have := row_spot; have : (2 : Nat) ≤ Try.prog.types.size := of_decide_eq_true (by kernel_rfl); omega⟩
theorem cells_spot : Try.prog.cellsOf 79 = 2 := by kernel_rfl
theorem cells_arr2 : Try.prog.cellsOf 70 = 2 := by kernel_rfl
theorem cells_arr3 : Try.prog.cellsOf 88 = 3 := by kernel_rfl
theorem cells_int : Try.prog.cellsOf 3 = 1 := by kernel_rfl
theorem lits_int (n : Nat) {a : Int} (h : (Lit.int .i64 a).wf = true) : Try.prog.keyLits (n + 1) 3 [.int .i64 a] = some [.int .i64 a] := by
  unfold Program.keyLits
  rw [Try.underlying3]
  simp [h]
theorem lits_spot (n : Nat) {a b : Int} (h1 : (Lit.int .i64 a).wf = true) (h2 : (Lit.int .i64 b).wf = true) : Try.prog.keyLits (n + 2) 79 [.int .i64 a, .int .i64 b] = some [.int .i64 a, .int .i64 b] := by
  have e1 := lits_int n h1
  have e2 := lits_int n h2
  generalize hk : Try.prog.keyLits (n + 1) = K at e1 e2
  unfold Program.keyLits
  rw [Try.underlying79, hk, cells_spot]
  simp [e1, e2, cells_int]
theorem lits_arr2 (n : Nat) {a b : Int} (h1 : (Lit.int .i64 a).wf = true) (h2 : (Lit.int .i64 b).wf = true) : Try.prog.keyLits (n + 2) 70 [.int .i64 a, .int .i64 b] = some [.int .i64 a, .int .i64 b] := by
  have e1 := lits_int n h1
  have e2 := lits_int n h2
  generalize hk : Try.prog.keyLits (n + 1) = K at e1 e2
  unfold Program.keyLits
  rw [Try.underlying70, hk, cells_arr2]
  simp [e1, e2, cells_int, List.range_succ]
theorem lits_arr3 (n : Nat) {a b c : Int} (h1 : (Lit.int .i64 a).wf = true) (h2 : (Lit.int .i64 b).wf = true) (h3 : (Lit.int .i64 c).wf = true) : Try.prog.keyLits (n + 2) 88 [.int .i64 a, .int .i64 b, .int .i64 c] = some [.int .i64 a, .int .i64 b, .int .i64 c] := by
  have e1 := lits_int n h1
  have e2 := lits_int n h2
  have e3 := lits_int n h3
  generalize hk : Try.prog.keyLits (n + 1) = K at e1 e2 e3
  unfold Program.keyLits
  rw [Try.underlying88, hk, cells_arr3]
  simp [e1, e2, e3, cells_int, List.range_succ]
theorem formed_agg {k : TypeId} {d : TypeDesc} {vs : Array Value} (hd : Try.prog.underlying k = some d) (h : (match d with | .array .. | .struct _ => true | _ => false) = true) (hc : vs.size = Try.prog.cellsOf k) : (Value.agg vs).formed Try.prog k = true := by
  cases d <;> simp at h <;> simp [Value.formed, hd, hc]
theorem key_spot {a b : Int} (ha : Fit a) (hb : Fit b) : ∃ l, keyOf Try.prog 79 (sp a b) = some l := by
  obtain ⟨n, hn⟩ := tsize
  have e := lits_spot (n + 1) (wf_fit ha) (wf_fit hb)
  rw [show n + 1 + 2 = Try.prog.types.size + 1 by omega] at e
  have hf : (sp a b).formed Try.prog 79 = true := formed_agg Try.underlying79 rfl (by rw [cells_spot]; rfl)
  unfold keyOf
  rw [Try.underlying79]
  refine ⟨.string (keyBytes [.int .i64 a, .int .i64 b]), ?_⟩
  dsimp only
  rw [keyT_spot, hf, show (sp a b).cells.toList = [.int .i64 a, .int .i64 b] from rfl, e]
  rfl
theorem key_arr2 {a b : Int} (ha : Fit a) (hb : Fit b) : ∃ l, keyOf Try.prog 70 (sp a b) = some l := by
  obtain ⟨n, hn⟩ := tsize
  have e := lits_arr2 (n + 1) (wf_fit ha) (wf_fit hb)
  rw [show n + 1 + 2 = Try.prog.types.size + 1 by omega] at e
  have hf : (sp a b).formed Try.prog 70 = true := formed_agg Try.underlying70 rfl (by rw [cells_arr2]; rfl)
  unfold keyOf
  rw [Try.underlying70]
  refine ⟨.string (keyBytes [.int .i64 a, .int .i64 b]), ?_⟩
  dsimp only
  rw [keyT_arr2, hf, show (sp a b).cells.toList = [.int .i64 a, .int .i64 b] from rfl, e]
  rfl
theorem key_arr3 {a b c : Int} (ha : Fit a) (hb : Fit b) (hc : Fit c) : ∃ l, keyOf Try.prog 88 (tr a b c) = some l := by
  obtain ⟨n, hn⟩ := tsize
  have e := lits_arr3 (n + 1) (wf_fit ha) (wf_fit hb) (wf_fit hc)
  rw [show n + 1 + 2 = Try.prog.types.size + 1 by omega] at e
  have hf : (tr a b c).formed Try.prog 88 = true := formed_agg Try.underlying88 rfl (by rw [cells_arr3]; rfl)
  unfold keyOf
  rw [Try.underlying88]
  refine ⟨.string (keyBytes [.int .i64 a, .int .i64 b, .int .i64 c]), ?_⟩
  dsimp only
  rw [keyT_arr3, hf, show (tr a b c).cells.toList = [.int .i64 a, .int .i64 b, .int .i64 c] from rfl, e]
  rfl
end
end Go.Proofs.Ythpkbeooplpinaa
