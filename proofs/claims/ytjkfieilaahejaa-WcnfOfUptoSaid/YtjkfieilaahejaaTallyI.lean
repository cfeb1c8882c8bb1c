/-
  Tally: maps from numbers to numbers, seen as functions.
-/
import Derived.Test.YtjkfieilaahejaaRows
import Derived.WalkKit
import Derived.Lib.Hide
import Derived.Maps.OwnSet
import Derived.Maps.Own
import Derived.Maps.OwnOps
import Derived.Deep.AppendLies
import Derived.Deep.RegionLaw
import Derived.Deep.QuietTactic
import Derived.BigQuiet
namespace Go.Proofs.Ytjkfieilaahejaa
open Go.RowKit
open Go.Maps (Keyed)
set_option linter.unusedVariables false
set_option linter.unusedSimpArgs false
theorem zero_int (w : World) : (zeroValue 3).run Try.prog w = .ok (.int .i64 0) w := by kernel_rfl
/-- Block b is a map of at most n entries that sends each key v to c v; a key without an entry to nothing. -/
def Tally (w : World) (k b n : Nat) (c : Value → Option Int) : Prop :=
  ∃ D : DataW Unit, w.ownsMap Try.prog k (plainElem Try.prog 3) b n D ∧ ∀ v l, keyOf Try.prog k v = some l → Maps.has D l = (c v).isSome ∧ D.atKey l (.lit (.int .i64 0)) = .lit (.int .i64 ((c v).getD 0))
theorem Tally.lt {w : World} {k b n : Nat} {c : Value → Option Int} (h : Tally w k b n c) : b < w.heap.size := by obtain ⟨D, hD, _⟩ := h; exact hD.lt
theorem Tally.mono {w : World} {k b n n' : Nat} {c : Value → Option Int} (h : Tally w k b n c) (hn : n ≤ n') : Tally w k b n' c := by obtain ⟨D, hD, hc⟩ := h; exact ⟨D, hD.mono hn, hc⟩
theorem Tally.below {w w' : World} {k b n B : Nat} {c : Value → Option Int} (h : Tally w k b n c) (hb : Below B w w') (hB : b < B) : Tally w' k b n c := by
  obtain ⟨D, ⟨es, clock, h1, h2⟩, hc⟩ := h
  exact ⟨D, ⟨es, clock, (hb.block b hB).trans h1, h2⟩, hc⟩
theorem Tally.kept {w w' : World} {k b n : Nat} {c : Value → Option Int} {row : Option Nat} (h : Tally w k b n c) (hg : w.grownBy w' row) (hne : some b ≠ row) : Tally w' k b n c := by obtain ⟨D, hD, hc⟩ := h; exact ⟨D, hD.kept hg hne, hc⟩
theorem Tally.alloc {w : World} {k b n : Nat} {c : Value → Option Int} (h : Tally w k b n c) (o : Obj) : Tally (w.alloc o) k b n c := by obtain ⟨D, hD, hc⟩ := h; exact ⟨D, hD.alloc o, hc⟩
theorem Tally.set {w : World} {k b n : Nat} {c : Value → Option Int} (h : Tally w k b n c) {a : Addr} (ha : b ≠ a.block) (u : Value) : Tally (w.setCell a u) k b n c := by obtain ⟨D, hD, hc⟩ := h; exact ⟨D, hD.setCell ha u, hc⟩
theorem Tally.drew {w : World} {k b n : Nat} {c : Value → Option Int} (h : Tally w k b n c) : Tally w.drew k b n c := h
theorem Tally.drewN {w : World} {k b n : Nat} {c : Value → Option Int} (h : Tally w k b n c) (q : Nat) : Tally (w.drewN q) k b n c := h
theorem Tally.made (w : World) (k : Nat) : Tally (w.alloc (.map #[] 0)) k w.heap.size 0 (fun _ => none) :=
  ⟨.map [], World.ownsMap_made w _ _ _, fun v l _ => ⟨rfl, rfl⟩⟩
theorem Tally.notCells {w : World} {k b n : Nat} {c : Value → Option Int} (h : Tally w k b n c) {cs : Array Value} {t : TypeId} {fz : Nat × Nat} : w.heap[b]? ≠ some (.cells cs t fz) := by
  obtain ⟨D, ⟨es, clock, h1, _⟩, _⟩ := h
  rw [h1]; intro e; cases e
theorem Tally.look {w : World} {k b n t : Nat} {c : Value → Option Int} (h : Tally w k b n c) (K : Keyed Try.prog k) (ht : Try.prog.underlying t = some (.map k 3)) {v : Value} {l : Lit} (hk : keyOf Try.prog k v = some l) :
    (Instr.lookup t (.map (some b)) v false).run Try.prog w = .ok (.int .i64 ((c v).getD 0)) w := by
  obtain ⟨D, hD, hc⟩ := h
  obtain ⟨x, hrun, hat, _⟩ := hD.lookup_int K ht Try.underlying3 (zero_int _) hk
  rw [(hc v l hk).2] at hat
  cases hat
  exact hrun
theorem Tally.look_ok {w : World} {k b n t : Nat} {c : Value → Option Int} (h : Tally w k b n c) (K : Keyed Try.prog k) (ht : Try.prog.underlying t = some (.map k 3)) {v : Value} {l : Lit} (hk : keyOf Try.prog k v = some l) :
    (Instr.lookup t (.map (some b)) v true).run Try.prog w = .ok (.tuple #[.int .i64 ((c v).getD 0), .bool (c v).isSome]) w := by
  obtain ⟨D, hD, hc⟩ := h
  obtain ⟨x, ps, hrun, hR⟩ := hD.look_ok K ht (zero_int _) (plainElem_int Try.underlying3 (by decide)) hk
  obtain ⟨y, rfl, he, _⟩ := plainElem_int_inv Try.underlying3 hR
  have := (Prod.mk.inj he).1
  rw [(hc v l hk).2] at this
  cases this
  rw [(hc v l hk).1] at hrun
  exact hrun
/-- A function with one value turned. -/
noncomputable def putAt (c : Value → Option Int) (v : Value) (x : Int) : Value → Option Int := fun u => open Classical in if u = v then some x else c u
theorem putAt_same (c : Value → Option Int) (v : Value) (x : Int) : putAt c v x v = some x := by unfold putAt; rw [if_pos rfl]
theorem putAt_other (c : Value → Option Int) {u v : Value} (x : Int) (h : u ≠ v) : putAt c v x u = c u := by unfold putAt; rw [if_neg h]
theorem put_view {k : Nat} {D : DataW Unit} {c : Value → Option Int} (K : Keyed Try.prog k) (hm : Maps.IsMap D) (hc : ∀ v l, keyOf Try.prog k v = some l → Maps.has D l = (c v).isSome ∧ D.atKey l (.lit (.int .i64 0)) = .lit (.int .i64 ((c v).getD 0)))
    {v : Value} {l : Lit} (hk : keyOf Try.prog k v = some l) (x : Int) : ∀ u m, keyOf Try.prog k u = some m → Maps.has (D.put l (.lit (.int .i64 x))) m = (putAt c v x u).isSome ∧ (D.put l (.lit (.int .i64 x))).atKey m (.lit (.int .i64 0)) = .lit (.int .i64 ((putAt c v x u).getD 0)) := by
  intro u m hu
  by_cases e : u = v
  · subst e
    rw [hk] at hu
    cases hu
    rw [putAt_same, Maps.atKey_put_same hm (K.key hk)]
    exact ⟨Maps.has_true_of_atKey (fun z => Maps.atKey_put_same hm (K.key hk) _ z), rfl⟩
  · have hne : m ≠ l := fun e' => e (K.inj (e' ▸ hu) hk)
    rw [putAt_other _ _ e, Maps.atKey_put_other hne]
    refine ⟨?_, (hc u m hu).2⟩
    rw [← (hc u m hu).1]
    cases hh : Maps.has D m
    · exact Maps.has_false_of_atKey fun z => by rw [Maps.atKey_put_other hne]; exact Maps.atKey_of_not_has hh z
    · rw [Maps.has_put_other hne]; exact hh
theorem Tally.put {w : World} {k b n t : Nat} {c : Value → Option Int} (h : Tally w k b n c) (K : Keyed Try.prog k) (ht : Try.prog.underlying t = some (.map k 3)) (hn : n < maxLen) {v : Value} {l : Lit} (hk : keyOf Try.prog k v = some l) {x : Int} (hx : (Lit.int .i64 x).wf = true) :
    ∃ w', (Instr.mapUpdate t (.map (some b)) v (.int .i64 x)).run Try.prog w = .ok () w' ∧ Tally w' k b (n + 1) (putAt c v x) ∧ w.grownBy w' (some b) := by
  obtain ⟨D, hD, hc⟩ := h
  obtain ⟨w', hrun, h1, h2⟩ := hD.update K ht hn hk (plainElem_int Try.underlying3 hx)
  exact ⟨w', hrun, ⟨_, h1, put_view K hD.isMap hc hk x⟩, h2⟩
theorem law_int : Keyed Try.prog 3 := Go.Maps.int_keyed Try.underlying3
theorem key_int {n : Int} (h : (Lit.int .i64 n).wf = true) : keyOf Try.prog 3 (.int .i64 n) = some (.int .i64 n) := Go.Maps.keyOf_int_mk Try.underlying3 h
theorem Tally.same {w w' : World} {k b n : Nat} {c : Value → Option Int} (h : Tally w k b n c) (hb : w'.heap[b]? = w.heap[b]?) : Tally w' k b n c := by
  obtain ⟨D, ⟨es, clock, h1, h2⟩, hc⟩ := h
  exact ⟨D, ⟨es, clock, hb.trans h1, h2⟩, hc⟩
end Go.Proofs.Ytjkfieilaahejaa
