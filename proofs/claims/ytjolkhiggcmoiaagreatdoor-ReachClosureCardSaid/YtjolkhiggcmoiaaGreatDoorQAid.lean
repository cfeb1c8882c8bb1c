/-
  Small words on matrices and rows.
-/
import Derived.Test.YtjolkhiggcmoiaaGreatDoorQDoc
import Derived.Test.YtjolkhiggcmoiaaGreatDoorQHas
import Derived.Deep.AppendLies
namespace Go.Proofs.YtjolkhiggcmoiaaGreatDoor
open Go.RowKit Go.Shelf
set_option linter.unusedVariables false
set_option linter.unusedSimpArgs false
theorem HasF.mx {w : World} {v : Value} {F : Nat → Prop} {s : Nat} {M : Nat → Nat → Bool} (h : HasF w v F s M) (h0 : s ≠ 0) : ∃ B, v = .pointer (some ⟨B, 0, Option.none⟩) ∧ Mx w B F s M := by
  rcases h with ⟨_, h1, _⟩ | h
  · exact absurd h1 h0
  · exact h
theorem wrap_n {m : Nat} (h : m ≤ 4194304) : IntKind.i64.wrap (m : Int) = (m : Int) := by rw [IntKind.wrap_i64]; omega
theorem own_cap {w : World} {base n oc : Nat} {oo : Option Addr} {xs : List Value} (h : w.ownsRow base 71 2 (.slice oo n oc) n xs) : n ≤ oc := by
  rcases h.2 with ⟨e1, e2⟩ | ⟨g, c2, cur, e1, _, _, h5, _⟩
  · cases e1; omega
  · cases e1; exact h5
end Go.Proofs.YtjolkhiggcmoiaaGreatDoor
