/-
  A region without defer that draws its order, walked as outside a round, serves within a round.
-/
import Derived.Test.YtoaeeojnelmlnaaDoorQBCells
import Derived.Deep.RegionHeld
namespace Go.Proofs.YtoaeeojnelmlnaaDoor
open Go.RowKit Go.Shelf
set_option linter.unusedVariables false
set_option linter.unusedSimpArgs false
section
variable {P : Program} {l n : Nat} {ops : Array Oper}
theorem op_in {o : Oper} {a : Act} {w : World} {K K' : Act → World → Prop} {Q Q' : Exit → Act → World → Prop} (hd : ∀ c, o.op ≠ .defer c) (hK : ∀ a w, K a w → K' a w) (hQ : ∀ c a w, ¬ Q (.panic c) a w) (hL : ¬ LetsOut Q)
    (h : o.wp P a w K Q) : o.wpIn (Fence.wide.inRound l) n P a w K' Q' := by
  refine ⟨fun _ _ => trivial, ?_⟩
  rw [sem_plain _ _ _ hd]
  unfold Oper.wp at h
  generalize (execOp a.eval o).run P w = r at h
  cases r with
  | halt x w' =>
    cases x with
    | panic v => exact (hQ _ _ _ h).elim
    | _ => exact False.elim h
  | ok x w' =>
    cases x with
    | value v => exact hK _ _ h
    | skip => exact hK _ _ h
    | defer d => exact hK _ _ h
    | enter f args =>
      refine ⟨(fun h => by cases h), (CallsIn.inRound l (callsIn_wide.2 h)).mono fun e w'' he => ?_⟩
      cases e with
      | returned v => exact hK _ _ he
      | panicked c => exact (hQ _ _ _ he).elim
      | outgrown => exact (hL he).elim
    | row r args =>
      exact ⟨(fun h => by cases h), fun c cs _ => let ⟨v, w', r, s⟩ := h c cs; ⟨v, w', hK _ _ r, stepsIn_wide.2 s⟩⟩
    | _ => exact False.elim h
theorem any_in {md : Region.Mode} {Q Q' : Exit → Act → World → Prop} (hd : ∀ (i : Nat) (o : Oper), ops[i]? = some o → ∀ c, o.op ≠ .defer c) (hQ : ∀ c a w, ¬ Q (.panic c) a w) (hL : ¬ LetsOut Q) (hN : ∀ a w, Q .normal a w → Q' .normal a w) :
    ∀ (fuel : Nat) (listed : Array Bool) (a : Act) (w : World), wpAny P md ops Q fuel listed a w → wpAnyIn (Fence.wide.inRound l) n P md ops Q' fuel listed a w
  | 0, listed, a, w, h => ⟨h.1, hN _ _ h.2⟩
  | fuel + 1, listed, a, w, h => ⟨fun h0 => hN _ _ (h.1 h0), fun i hi => by
      have hi := h.2 i hi
      have ih := fun (a : Act) (w : World) => any_in (md := md) hd hQ hL hN fuel (listed.setIfInBounds i true) a w
      unfold wpOp at hi
      unfold wpOpIn
      cases ho : ops[i]? with
      | none => rw [ho] at hi; exact ih _ _ hi
      | some o =>
        rw [ho] at hi
        simp only at hi ⊢
        by_cases hwt : Region.wanted o (yielded ops a.tmps) = true
        · rw [if_pos hwt] at hi ⊢
          rcases hi with hi | hi
          · exact op_in (hd i o ho) ih hQ hL hi
          · exact (hL hi.2).elim
        · rw [if_neg hwt] at hi ⊢
          exact ⟨fun _ _ => trivial, ih _ _ hi⟩⟩
/-- The post of a region that ends. -/
def OnlyNormal (Q : Act → World → Prop) : Exit → Act → World → Prop := fun e a w => match e with | .normal => Q a w | _ => False
theorem region_in {id : Nat} {Q : Exit → Act → World → Prop} {S : World → Prop} {a : Act} {w : World} {os : List Oper} (hnd : noDefer os.toArray = true) (hm : P.follows .mixedOrders = true) (hS : S w.drew)
    (h : S w.drew → wpAnyH P .any os.toArray (OnlyNormal (Q .normal)) S os.toArray.size (Array.replicate os.toArray.size false) a w.drew) : (Code.region id os.toArray true).wpIn (Fence.wide.inRound l) n P Q a w := by
  have hd : ∀ (i : Nat) (o : Oper), os.toArray[i]? = some o → ∀ c, o.op ≠ .defer c := fun i o ho c hc => by
    have hm : o ∈ os := by have := Array.mem_of_getElem? ho; simpa using this
    have := List.all_eq_true.1 hnd o (by simpa using hm)
    rw [hc] at this
    cases this
  exact wpIn_region_any hm (any_in (Q := OnlyNormal (Q .normal)) (Q' := Q) hd (fun c a w h => h) (fun ⟨_, _, h⟩ => h) (fun a w h => h) _ _ _ _ (wpAny_of_held _ _ _ _ (h hS)))
end
end Go.Proofs.YtoaeeojnelmlnaaDoor
