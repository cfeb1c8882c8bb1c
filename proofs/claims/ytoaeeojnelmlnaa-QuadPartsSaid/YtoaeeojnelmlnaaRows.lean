/-
  No cell of these rows narrows 'for every input' (looked for: loops, veiled, ifaces, maps, wideKeys, modest, calm, conditions, laid).
  DERIVED. THE GIVEN ROWS OF THIS SEAT. 2 by the template 'for every input the law returns true; each argument reads behind the call as it read before'; 0 by the template 'total and deterministic' (their statements: YtoaeeojnelmlnaaTotals.lean).
  GIVEN WITH THE SEED: the statements are not yours to turn. If you find one false, say at which input.
  Laid BY PROGRAM, IN A SANDBOX (cutbox-rows.mjs): the forced cells as the released guide's own fill.sh prints them over the translation 30afd6c53b89b8b9… (all of the seat's roots in one cut). By AI agents, Wed Nov 11 2026. No macro, syntax, notation, axiom, sorry.
-/
import Derived.Test.YtoaeeojnelmlnaaChecked
import GoSem.Claim
import GoSem.ClaimJoined
import GoSem.ClaimMapViews
import Derived.JoinedTies
import Derived.KernelRfl
namespace Go.Proofs.Ytoaeeojnelmlnaa
/- THE CELL 'sum', in the pinned program and in every row, IS THE sha256 OF THE DUMP (.gsa) THAT YtoaeeojnelmlnaaProg.lean LOADS. Nothing in Lean hashes anything: it is a label: what it is worth is what the hold of that sum in a sandbox is worth. -/
noncomputable def Try.pinned : Pinned := { name := "ytoaeeojnelmlnaa", sum := "30afd6c53b89b8b966dee3689f1f79d4512c8d7d06b5af6f23e70da9ebee3cc3", checked := Try.checked }
namespace Rows
def none {H : Type} : Left H := { results := [], args := [] }

/-- 'bywaylaw02.QuadApart': WHATEVER THE INPUT: true; the input reads as it did. -/
def quadApartSpec : ChangeSpec := { name := "quadApart", fn := fun _ => fun
  | [d1, d2, d3, d4] => { results := [.lit (.bool true)], args := [d1, d2, d3, d4] }
  | _ => none }
def quadApartRow : OpenClaim := { program := "ytoaeeojnelmlnaa", sum := "30afd6c53b89b8b966dee3689f1f79d4512c8d7d06b5af6f23e70da9ebee3cc3", func := "byway/bywaylaw02.QuadApart", spec := "quadApart", unfollowed := true, recurses := true, apart := false }
def QuadApartSaid : Prop := quadApartRow.holds Try.pinned (OpenSpec.ofChange quadApartSpec)

/-- ITS FALSE NEIGHBOUR: 'it returns false'. Refute it at one input. -/
def quadApartWrong : ChangeSpec := { name := "quadApart", fn := fun _ => fun
  | [d1, d2, d3, d4] => { results := [.lit (.bool false)], args := [d1, d2, d3, d4] }
  | _ => none }
def QuadApartWrongFalsely : Prop := quadApartRow.holds Try.pinned (OpenSpec.ofChange quadApartWrong)

/-- 'bywaylaw02.QuadParts': WHATEVER THE INPUT: true; the input reads as it did. -/
def quadPartsSpec : ChangeSpec := { name := "quadParts", fn := fun _ => fun
  | [d1, d2] => { results := [.lit (.bool true)], args := [d1, d2] }
  | _ => none }
def quadPartsRow : OpenClaim := { program := "ytoaeeojnelmlnaa", sum := "30afd6c53b89b8b966dee3689f1f79d4512c8d7d06b5af6f23e70da9ebee3cc3", func := "byway/bywaylaw02.QuadParts", spec := "quadParts", unfollowed := true, recurses := true, apart := false }
def QuadPartsSaid : Prop := quadPartsRow.holds Try.pinned (OpenSpec.ofChange quadPartsSpec)

/-- ITS FALSE NEIGHBOUR: 'it returns false'. Refute it at one input. -/
def quadPartsWrong : ChangeSpec := { name := "quadParts", fn := fun _ => fun
  | [d1, d2] => { results := [.lit (.bool false)], args := [d1, d2] }
  | _ => none }
def QuadPartsWrongFalsely : Prop := quadPartsRow.holds Try.pinned (OpenSpec.ofChange quadPartsWrong)

/- THE SECOND FORM. 'bulk': how many values and letters a reading holds, each counted each time it is reached (what is shared counts as often as it is met; a slice's spare places count too). A statement '..UptoSaid' is the law's where the arguments, and the package variables that the reading takes, are together of bulk at most 1048576: NARROWER than '..Said'. Prove '..Said' where nothing that the law and all that it calls make is longer than what came in: it says more and counts as full. Else prove '..UptoSaid'. A law counts once. -/
mutual
def uptoBulk {H : Type} : DataW H → Nat
  | .lit (.string bytes) => bytes.length + 1
  | .lit _ => 1
  | .nil => 1
  | .ptr d => uptoBulk d + 1
  | .slice elems spare => uptoBulkAll elems + uptoBulkAll spare + 1
  | .agg parts => uptoBulkAll parts + 1
  | .iface _ d => uptoBulk d + 1
  | .map entries => uptoBulkEntries entries + 1
  | .held _ => 1
def uptoBulkAll {H : Type} : List (DataW H) → Nat
  | [] => 0
  | d :: r => uptoBulk d + uptoBulkAll r
def uptoBulkEntries {H : Type} : List (Lit × DataW H) → Nat
  | [] => 0
  | x :: r => uptoBulkEntry x + uptoBulkEntries r
def uptoBulkEntry {H : Type} : Lit × DataW H → Nat
  | (.string bytes, d) => bytes.length + uptoBulk d + 1
  | (_, d) => uptoBulk d + 1
 end
def uptoSmall : (H : Type) → List (DataW H) → Bool := fun _ ds => decide (uptoBulkAll ds ≤ 1048576)
def OpenSpec.upto (s : _root_.Go.ChangeSpec) : _root_.Go.OpenSpec := { _root_.Go.OpenSpec.ofChange s with cond := some uptoSmall }

/-- 'bywaylaw02.QuadApart', WHERE WHAT IT READS IS OF BULK AT MOST 1048576: true; the input reads as it did. -/
def quadApartUptoRow : OpenClaim := { program := "ytoaeeojnelmlnaa", sum := "30afd6c53b89b8b966dee3689f1f79d4512c8d7d06b5af6f23e70da9ebee3cc3", func := "byway/bywaylaw02.QuadApart", spec := "quadApart", unfollowed := true, recurses := true, apart := false, narrowed := true }
def QuadApartUptoSaid : Prop := quadApartUptoRow.holds Try.pinned (OpenSpec.upto quadApartSpec)

/-- 'bywaylaw02.QuadParts', WHERE WHAT IT READS IS OF BULK AT MOST 1048576: true; the input reads as it did. -/
def quadPartsUptoRow : OpenClaim := { program := "ytoaeeojnelmlnaa", sum := "30afd6c53b89b8b966dee3689f1f79d4512c8d7d06b5af6f23e70da9ebee3cc3", func := "byway/bywaylaw02.QuadParts", spec := "quadParts", unfollowed := true, recurses := true, apart := false, narrowed := true }
def QuadPartsUptoSaid : Prop := quadPartsUptoRow.holds Try.pinned (OpenSpec.upto quadPartsSpec)

end Rows
end Go.Proofs.Ytoaeeojnelmlnaa
