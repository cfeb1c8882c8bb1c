/-
  Loops over a function: a drawn region that only reads in a round; what is kept of memory.
-/
import Derived.Test.YtoaeeojnelmlnaaDoorQOf
import Derived.RangeFuncNested
import Derived.RangeFuncBound
import Derived.RangeFuncCalls
import Derived.RangeFuncLeaves
import Derived.Shelf.Abstract
import Derived.Shelf.RegionOpen
import Derived.OwnWalkIn
import Derived.TacticsInMore
import Derived.LoopNIn
import Derived.LoopIn
import Derived.Sort.QuietTacIn
namespace Go.Proofs.YtoaeeojnelmlnaaDoor
open Go.RowKit Go.Shelf
set_option linter.unusedVariables false
set_option linter.unusedSimpArgs false
/-! ### A drawn region that only reads, whether or not it stands in a round -/
def noDefer (ops : Array Oper) : Bool := ops.toList.all fun o => match o.op with | .defer _ => false | _ => true
theorem sem_plain (r : Option Nat) (ρ : Operand → Value) (o : Oper) (h : ∀ c, o.op ≠ .defer c) : Oper.semAt r ρ o = execOp ρ o := by
  cases r with
  | none => exact Oper.semAt_none ρ o
  | some l => exact Oper.semAt_some l ρ o h
section
variable {F : Fence} {n : Nat} {P : Program} {ops : Array Oper} {C : World → Prop}
theorem op_reads {o : Oper} {a : Act} {K : Act → Prop} {K' : Act → World → Prop} {Q' : Exit → Act → World → Prop} {w : World} (hd : ∀ c, o.op ≠ .defer c) (hC : C w) (hK : ∀ a w', C w' → K a → K' a w')
    (ha : o.askedIn F P a C) (hq : o.quietIn F n P a C K) : o.wpIn F n P a w K' Q' := by
  obtain ⟨v, hv, hn⟩ := hq
  have hv := hv w hC
  refine ⟨ha w hC, ?_⟩
  rw [sem_plain F.round a.eval o hd]
  unfold Oper.quietAtIn at hv
  cases hr : (execOp a.eval o).run P w with
  | halt x w' => rw [hr] at hv; exact hv.elim
  | ok x w' =>
    rw [hr] at hv
    cases x with
    | value u => obtain ⟨rfl, rfl⟩ := hv; exact hK _ _ hC hn
    | skip => obtain ⟨rfl, rfl⟩ := hv; exact hK _ _ hC hn
    | enter f args =>
      obtain ⟨rfl, h1, hc⟩ := hv
      exact ⟨h1, hc.mono fun e w'' ⟨he, hw⟩ => by subst he; exact hK _ _ hw hn⟩
    | defer d => exact hv.elim
    | row r args => exact hv.elim
    | round l f t c1 c2 => exact hv.elim
    | _ => exact hv.elim
theorem any_reads {Q : Act → Prop} {Q' : Exit → Act → World → Prop} {md : Region.Mode} (hd : ∀ (i : Nat) (o : Oper), ops[i]? = some o → ∀ c, o.op ≠ .defer c) (hQ : ∀ a w, C w → Q a → Q' .normal a w) :
    ∀ (fuel : Nat) (listed : Array Bool) (a : Act) (w : World), C w → wpAnyQIn F n P md ops C Q fuel listed a → wpAnyIn F n P md ops Q' fuel listed a w
  | 0, _, _, _, hw, h => ⟨h.1, hQ _ _ hw h.2⟩
  | fuel + 1, listed, a, w, hw, h => ⟨fun h0 => hQ _ _ hw (h.1 h0), fun i hi => by
      have hi := h.2 i hi
      have ih := fun (a : Act) (w' : World) (hw' : C w') => any_reads (md := md) hd hQ fuel (listed.setIfInBounds i true) a w' hw'
      unfold qOpIn at hi
      unfold wpOpIn
      cases ho : ops[i]? with
      | none => rw [ho] at hi; exact ih _ _ hw hi
      | some o =>
        rw [ho] at hi
        simp only at hi ⊢
        obtain ⟨ha, hi⟩ := hi
        by_cases hwt : Region.wanted o (yielded ops a.tmps) = true
        · rw [if_pos hwt] at hi ⊢
          exact op_reads (hd i o ho) hw ih ha hi
        · rw [if_neg hwt] at hi ⊢
          exact ⟨ha _ hw, ih _ _ hw hi⟩⟩
theorem region_reads {id : Nat} {Q : Exit → Act → World → Prop} {a : Act} {w : World} {l : List Oper} (hnd : noDefer l.toArray = true) (hm : P.follows .mixedOrders = true) (hB : Region.lexB .any l.toArray = true)
    (h : wpQuietIn F n P l.toArray (fun w' => ∃ k, w' = w.drewN k) (fun a' => ∀ w', (∃ k, w' = w.drewN k) → Q .normal a' w') l a) : (Code.region id l.toArray true).wpIn F n P Q a w := by
  simp only [Region.lexB, Bool.and_eq_true] at hB
  have hd : ∀ (i : Nat) (o : Oper), l.toArray[i]? = some o → ∀ c, o.op ≠ .defer c := fun i o ho c hc => by
    have hm : o ∈ l := by have := Array.mem_of_getElem? ho; simpa using this
    have := List.all_eq_true.1 hnd o (by simpa using hm)
    rw [hc] at this
    cases this
  refine wpIn_region_any hm (any_reads (C := fun w' => ∃ k, w' = w.drewN k) (Q := fun a' => ∀ w', (∃ k, w' = w.drewN k) → Q .normal a' w') hd (fun _ w' hw' h => h w' hw') _ _ _ _ ⟨1, rfl⟩ ?_)
  have := wpAnyQIn_lex (F := F) (n := n) (C := fun w' => ∃ k, w' = w.drewN k) (md := .any) hB.1 l 0 (Array.replicate l.toArray.size false) a (by simp) (by simpa using hB.2) h
  simpa using this
end
/-! ### What is kept -/
theorem Bk.below {w w' : World} {g B : Nat} {t : TypeId} {cs : Array Value} (h : Bk w g t cs) (hb : Below B w w') (hg : g < B) : Bk w' g t cs := (hb.block g hg).trans h
theorem Bk.grownR {w w' : World} {g : Nat} {t : TypeId} {cs : Array Value} {row : Option Nat} (h : Bk w g t cs) (hg : w.grownBy w' row) (hne : some g ≠ row) : Bk w' g t cs := (hg.block g h.lt hne).trans h
theorem Bk.kept {w w' : World} {g : Nat} {t : TypeId} {cs : Array Value} {row : Option Nat} {B : Nat} (h : Bk w g t cs) (hg : w.grownBy w' row) (hr : ∀ r, row = some r → B ≤ r ∧ ∃ o : Obj, w.heap[r]? = some o ∧ o.isCells = false) : Bk w' g t cs :=
  h.grownR hg fun e => by
    obtain ⟨_, o, ho, hc⟩ := hr g e.symm
    have : w.heap[g]? = some (.cells cs t (0, 0)) := h
    rw [this] at ho
    cases ho
    cases hc
theorem Bk.drewN {w : World} {g : Nat} {t : TypeId} {cs : Array Value} (h : Bk w g t cs) (q : Nat) : Bk (w.drewN q) g t cs := h
/-- The blocks K are as they were. -/
def KeepK (K : Nat → Prop) (A B : World) : Prop := ∀ k, K k → B.heap[k]? = A.heap[k]?
theorem keepK_t {K : Nat → Prop} {A B C : World} (h : KeepK K A B) (k : KeepK K B C) : KeepK K A C := fun i hi => (k i hi).trans (h i hi)
theorem KeepK.of_far {K F : Nat → Prop} {A B : World} (h : Far F A B) (hK : ∀ k, K k → k < A.heap.size ∧ ¬ F k) : KeepK K A B := fun k hk => h.block k (hK k hk).1 (hK k hk).2
theorem Bk.keep {K : Nat → Prop} {A B : World} {g : Nat} {t : TypeId} {cs : Array Value} (h : Bk A g t cs) (k : KeepK K A B) (hg : K g) : Bk B g t cs := (k g hg).trans h
theorem keeps_far {B : Nat} {F : Nat → Prop} {W W' : World} (h : Far F W W') (hF : ∀ k, F k → ∃ cs t, Bk W k t cs) : KeepsFrom B W W' :=
  ⟨h.size, fun k o _ hk ho => by
    refine (h.block k (Array.getElem?_eq_some_iff.1 hk).1 fun hf => ?_).trans hk
    obtain ⟨cs, t, hb⟩ := hF k hf
    rw [hb] at hk
    cases hk
    cases ho⟩
theorem far_own {F : Nat → Prop} {W0 A B : World} {row : Option Nat} (h : Far F W0 A) (hg : A.grownBy B row) (hr : ∀ r, row = some r → W0.heap.size ≤ r ∧ ∃ o : Obj, A.heap[r]? = some o ∧ o.isCells = false) : Far F W0 B :=
  h.grown hg fun k hk e => absurd (hr k e).1 (by omega)
theorem prefix_next {α : Type} {pre l : List α} {x y : α} (hp : pre <+: l) (hy : l[pre.length]? = some y) : (pre ++ [x]) <+: l ↔ x = y := by
  obtain ⟨t, rfl⟩ := hp
  rw [List.getElem?_append_right (Nat.le_refl _), Nat.sub_self] at hy
  cases t with
  | nil => simp at hy
  | cons z t =>
    have hz : z = y := by simpa using hy
    rw [List.prefix_append_right_inj]
    subst hz
    simp [List.cons_prefix_cons]
theorem prefix_take {α : Type} {l : List α} {i : Nat} : l.take i <+: l := List.take_prefix i l
end Go.Proofs.YtoaeeojnelmlnaaDoor
