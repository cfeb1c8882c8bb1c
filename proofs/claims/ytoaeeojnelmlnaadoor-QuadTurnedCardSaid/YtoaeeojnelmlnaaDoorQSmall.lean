/-
  Small functions of the program and of the reference, by their contracts.
-/
import Derived.Test.YtoaeeojnelmlnaaDoorQHold
namespace Go.Proofs.YtoaeeojnelmlnaaDoor
open Go.RowKit
set_option linter.unusedVariables false
set_option linter.unusedSimpArgs false

theorem same_symm {P : Program} {f : FuncId} {args : Array Value} {w : World} {v : Value} (h : Calls P f args w fun e w' => e = .returned v ∧ w = w') :
    Calls P f args w fun e w' => e = .returned v ∧ w' = w := h.mono fun _ _ ⟨a, b⟩ => ⟨a, b.symm⟩
/-- A region that draws its order and only reads; the world behind the draw is called w'. -/
theorem still_all {P : Program} {id : Nat} {Q : Exit → Act → World → Prop} {a : Act} {w : World} {l : List Oper} (hm : P.follows .mixedOrders = true) (hB : Region.lexB .any l.toArray = true)
    (h : ∀ w', w' = w.drew → wpStill P l.toArray w' (fun a' => Q .normal a' w') l a) : (Code.region id l.toArray true).wp P Q a w :=
  wp_region_still_lit hm hB (h _ rfl)

section
set_option maxHeartbeats 400000
set_option maxRecDepth 100000
theorem bit_any (c : Nat) (w : World) (hc : c < 64) : Calls Tryd.prog 120 #[.int .i64 c] w fun e w' => e = .returned (.int .u64 (pw c)) ∧ w = w' := by
  have h := wrap_pw hc
  go_enter Tryd.func120, Tryd.ntmps120
  go_wp2
  go_ret
  exact ⟨rfl, rfl⟩
end
end Go.Proofs.YtoaeeojnelmlnaaDoor
