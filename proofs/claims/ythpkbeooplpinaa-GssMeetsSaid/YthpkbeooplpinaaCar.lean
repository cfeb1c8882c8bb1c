/-
  What meet's loops carry.
-/
import Derived.Test.YthpkbeooplpinaaHas2
namespace Go.Proofs.Ythpkbeooplpinaa
open Go.RowKit
set_option linter.unusedVariables false
set_option linter.unusedSimpArgs false
theorem i64_and63 (n : Int) : bits .and .i64 n 63 = n % 64 := by
  have h63 : (BitVec.ofInt 64 63).toNat = 2 ^ 6 - 1 := by decide
  have key : (BitVec.ofInt 64 n &&& BitVec.ofInt 64 63).toNat = (n % ((2 ^ 64 : Nat) : Int)).toNat % 2 ^ 6 := by
    rw [BitVec.toNat_and, BitVec.toNat_ofInt, h63, Nat.and_two_pow_sub_one_eq_mod]
  show IntKind.i64.wrap ((BitVec.ofInt 64 n &&& BitVec.ofInt 64 63).toNat : Nat) = n % 64
  rw [key, IntKind.wrap_i64]
  omega
theorem i64_and7 (n : Int) : bits .and .i64 n 7 = n % 8 := by
  have h7 : (BitVec.ofInt 64 7).toNat = 2 ^ 3 - 1 := by decide
  have key : (BitVec.ofInt 64 n &&& BitVec.ofInt 64 7).toNat = (n % ((2 ^ 64 : Nat) : Int)).toNat % 2 ^ 3 := by
    rw [BitVec.toNat_and, BitVec.toNat_ofInt, h7, Nat.and_two_pow_sub_one_eq_mod]
  show IntKind.i64.wrap ((BitVec.ofInt 64 n &&& BitVec.ofInt 64 7).toNat : Nat) = n % 8
  rw [key, IntKind.wrap_i64]
  omega
/-- A node's number, by what a thing says. -/
def atN (n : Nat) (N : Int) : Nat := (N % 64).toNat % n
theorem and63 (N : Int) : ∃ q : Nat, bits .and .i64 N 63 = (q : Int) ∧ q < 64 ∧ q = (N % 64).toNat := ⟨(N % 64).toNat, by rw [i64_and63]; omega, by omega, rfl⟩
theorem atN_lt {n : Nat} (hn : 0 < n) (N : Int) : atN n N < n := Nat.mod_lt _ hn
/-- A thing as it lies in memory. -/
abbrev Cm := Int × Int × Int × Bool
def th (n : Nat) (x : Cm) : Thing := if x.2.2.2 then .pop (atN n x.1) x.2.1 else .push (atN n x.1) ((atN n x.2.1 : Nat), x.2.2.1)
def ths (n : Nat) (f : Nat → Cm) (i : Nat) : List Thing := (List.range i).map fun j => th n (f j)
theorem ths_succ (n : Nat) (f : Nat → Cm) (i : Nat) : ths n f (i + 1) = ths n f i ++ [th n (f i)] := by simp [ths, List.range_succ]
theorem cell_eq {w w' : World} {p : Addr} (h : w'.heap[p.block]? = w.heap[p.block]?) : w'.cell? p = w.cell? p := by simp [World.cell?, h]
/-- A list of things in memory, outside blocks F. -/
def Cms (w : World) (F : Nat → Prop) (ao : Option Addr) (m : Nat) (f : Nat → Cm) : Prop := 0 < m → ∃ g off, ao = some ⟨g, off, none⟩ ∧ g < w.heap.size ∧ ¬ F g ∧ ∀ k, k < m → w.cell? ⟨g, off + k * 4, none⟩ = some (.int .i64 (f k).1) ∧ w.cell? ⟨g, off + k * 4 + 1, none⟩ = some (.int .i64 (f k).2.1) ∧ w.cell? ⟨g, off + k * 4 + 2, none⟩ = some (.int .i64 (f k).2.2.1) ∧ w.cell? ⟨g, off + k * 4 + 3, none⟩ = some (.bool (f k).2.2.2)
structure Car (W : World) (F0 : Nat → Prop) (B K : Nat) (l : List Nd) (F : Nat → Prop) (out : List Mt) (so : Option Addr) (cap : Nat) (wq : World) : Prop where
  stk : Stk wq B K l F
  row : wq.ownsRow W.heap.size 66 4 (.slice so out.length cap) out.length (mcells out)
  foot : ∀ k, F k → F0 k ∨ W.heap.size ≤ k
  far : Far F0 W wq
theorem Car.still {W : World} {F0 : Nat → Prop} {B K : Nat} {l : List Nd} {F : Nat → Prop} {out : List Mt} {so : Option Addr} {cap : Nat} {wq w' : World} (h : Car W F0 B K l F out so cap wq) (hf : Far (fun _ => False) wq w') : Car W F0 B K l F out so cap w' :=
  ⟨h.stk.still hf, row_same h.row fun k _ hk => hf.block k hk id, h.foot, h.far.trans hf fun _ _ h => h.elim⟩
theorem Car.apart {W : World} {F0 : Nat → Prop} {B K : Nat} {l : List Nd} {F : Nat → Prop} {out : List Mt} {so : Option Addr} {cap : Nat} {wq : World} (h : Car W F0 B K l F out so cap wq) : ∀ k, F k → (Value.slice so out.length cap).ownBlock ≠ some k := h.stk.apart h.row (by decide) (by decide) (by decide) (by decide)
/-- The stack moves. -/
theorem Car.moved {W : World} {F0 : Nat → Prop} {B K K' : Nat} {l l' : List Nd} {F F' : Nat → Prop} {out : List Mt} {so : Option Addr} {cap : Nat} {wq w' : World} (h : Car W F0 B K l F out so cap wq) (hS : Stk w' B K' l' F') (hM : Moves wq w' F F') : Car W F0 B K' l' F' out so cap w' := by
  refine ⟨hS, row_same h.row fun k hk hlt => hM.far.block k hlt fun hF => h.apart k hF hk, fun k hk => ?_, ?_⟩
  · rcases hM.more k hk with hF | hF
    · exact h.foot k hF
    · exact .inr (Nat.le_trans h.far.size hF)
  · exact h.far.trans hM.far fun k hk hF => (h.foot k hF).resolve_right (by omega)
/-- A meeting more. -/
theorem Car.app {W : World} {F0 : Nat → Prop} {B K : Nat} {l : List Nd} {F : Nat → Prop} {out : List Mt} {so so' : Option Addr} {cap cap' : Nat} {wq w1 w' : World} {m : Mt} (h : Car W F0 B K l F out so cap wq) (hf : Far (fun _ => False) wq w1)
    (hg : w1.grownBy w' (Value.slice so out.length cap).ownBlock) (ho : w'.ownsRow W.heap.size 66 4 (.slice so' (out.length + 1) cap') (out.length + 1) (mcells out ++ [.int .i64 (m.1 : Int), .int .i64 m.2.1, .int .i64 m.2.2.1, .int .i64 m.2.2.2])) :
    Car W F0 B K l F (out ++ [m]) so' cap' w' := by
  have h1 := h.still hf
  have hR : Far (fun k => (Value.slice so out.length cap).ownBlock = some k) w1 w' := (Far.refl _ w1).grown hg fun k _ e => e
  refine ⟨h1.stk.kept hR fun k hk e => h1.apart k hk e, by rw [mcells_app, List.length_append]; exact ho, h.foot, ?_⟩
  exact h1.far.trans hR fun k hk e => by have := (h1.row.lt k e).1; omega
/-- What is no stack's stays when a meeting is appended: a block of another type. -/
theorem Bk.app {w1 w' : World} {g : Nat} {t : TypeId} {cs : Array Value} {base n : Nat} {v : Value} {xs : List Value} (h : Bk w1 g t cs) (hr : w1.ownsRow base 66 4 v n xs) (ht : t ≠ 66) (hg : w1.grownBy w' v.ownBlock) : Bk w' g t cs := h.grown hg fun e => row_ne h hr ht e.symm
theorem row_app {w1 w' : World} {base n base' n' size : Nat} {e : TypeId} {v v' : Value} {xs xs' : List Value} (h : w1.ownsRow base' e size v' n' xs') (hr : w1.ownsRow base 66 4 v n xs) (ht : e ≠ 66) (hg : w1.grownBy w' v.ownBlock) : w'.ownsRow base' e size v' n' xs' := h.kept hg (rows_ne h hr ht)
end Go.Proofs.Ythpkbeooplpinaa
