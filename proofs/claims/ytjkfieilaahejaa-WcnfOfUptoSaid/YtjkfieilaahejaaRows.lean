/-
  No cell of these rows narrows 'for every input' (looked for: loops, veiled, ifaces, maps, wideKeys, modest, calm, conditions, laid).
  DERIVED. THE GIVEN ROWS OF THIS SEAT. 5 by the template 'for every input the law returns true; each argument reads behind the call as it read before'; 0 by the template 'total and deterministic' (their statements: YtjkfieilaahejaaTotals.lean).
  GIVEN WITH THE SEED: the statements are not yours to turn. If you find one false, say at which input.
  Laid BY PROGRAM, IN A SANDBOX (cutbox-rows.mjs): the forced cells as the released guide's own fill.sh prints them over the translation ad53150faaeb795b… (all of the seat's roots in one cut). By AI agents, Wed Nov 11 2026. No macro, syntax, notation, axiom, sorry.
-/
import Derived.Test.YtjkfieilaahejaaChecked
import GoSem.Claim
import GoSem.ClaimJoined
import GoSem.ClaimMapViews
import Derived.JoinedTies
import Derived.KernelRfl
namespace Go.Proofs.Ytjkfieilaahejaa
/- THE CELL 'sum', in the pinned program and in every row, IS THE sha256 OF THE DUMP (.gsa) THAT YtjkfieilaahejaaProg.lean LOADS. Nothing in Lean hashes anything: it is a label: what it is worth is what the hold of that sum in a sandbox is worth. -/
noncomputable def Try.pinned : Pinned := { name := "ytjkfieilaahejaa", sum := "ad53150faaeb795ba7312e69085802e0c8ab0d9d0ad02f92af6da4b97d2bcbad", checked := Try.checked }
namespace Rows
def none {H : Type} : Left H := { results := [], args := [] }

/-- 'bywaylaw13.LeastLeaves': WHATEVER THE INPUT: true; the input reads as it did. -/
def leastLeavesSpec : ChangeSpec := { name := "leastLeaves", fn := fun _ => fun
  | [d] => { results := [.lit (.bool true)], args := [d] }
  | _ => none }
def leastLeavesRow : OpenClaim := { program := "ytjkfieilaahejaa", sum := "ad53150faaeb795ba7312e69085802e0c8ab0d9d0ad02f92af6da4b97d2bcbad", func := "byway/bywaylaw13.LeastLeaves", spec := "leastLeaves", unfollowed := true, recurses := true, apart := false }
def LeastLeavesSaid : Prop := leastLeavesRow.holds Try.pinned (OpenSpec.ofChange leastLeavesSpec)

/-- ITS FALSE NEIGHBOUR: 'it returns false'. Refute it at one input. -/
def leastLeavesWrong : ChangeSpec := { name := "leastLeaves", fn := fun _ => fun
  | [d] => { results := [.lit (.bool false)], args := [d] }
  | _ => none }
def LeastLeavesWrongFalsely : Prop := leastLeavesRow.holds Try.pinned (OpenSpec.ofChange leastLeavesWrong)

/-- 'bywaylaw13.LeastWithout': WHATEVER THE INPUT: true; the input reads as it did. -/
def leastWithoutSpec : ChangeSpec := { name := "leastWithout", fn := fun _ => fun
  | [d] => { results := [.lit (.bool true)], args := [d] }
  | _ => none }
def leastWithoutRow : OpenClaim := { program := "ytjkfieilaahejaa", sum := "ad53150faaeb795ba7312e69085802e0c8ab0d9d0ad02f92af6da4b97d2bcbad", func := "byway/bywaylaw13.LeastWithout", spec := "leastWithout", unfollowed := true, recurses := true, apart := false }
def LeastWithoutSaid : Prop := leastWithoutRow.holds Try.pinned (OpenSpec.ofChange leastWithoutSpec)

/-- ITS FALSE NEIGHBOUR: 'it returns false'. Refute it at one input. -/
def leastWithoutWrong : ChangeSpec := { name := "leastWithout", fn := fun _ => fun
  | [d] => { results := [.lit (.bool false)], args := [d] }
  | _ => none }
def LeastWithoutWrongFalsely : Prop := leastWithoutRow.holds Try.pinned (OpenSpec.ofChange leastWithoutWrong)

/-- 'bywaylaw14.WcnfAgain': WHATEVER THE INPUT: true; the input reads as it did. -/
def wcnfAgainSpec : ChangeSpec := { name := "wcnfAgain", fn := fun _ => fun
  | [d] => { results := [.lit (.bool true)], args := [d] }
  | _ => none }
def wcnfAgainRow : OpenClaim := { program := "ytjkfieilaahejaa", sum := "ad53150faaeb795ba7312e69085802e0c8ab0d9d0ad02f92af6da4b97d2bcbad", func := "byway/bywaylaw14.WcnfAgain", spec := "wcnfAgain", unfollowed := true, recurses := true, apart := false }
def WcnfAgainSaid : Prop := wcnfAgainRow.holds Try.pinned (OpenSpec.ofChange wcnfAgainSpec)

/-- ITS FALSE NEIGHBOUR: 'it returns false'. Refute it at one input. -/
def wcnfAgainWrong : ChangeSpec := { name := "wcnfAgain", fn := fun _ => fun
  | [d] => { results := [.lit (.bool false)], args := [d] }
  | _ => none }
def WcnfAgainWrongFalsely : Prop := wcnfAgainRow.holds Try.pinned (OpenSpec.ofChange wcnfAgainWrong)

/-- 'bywaylaw14.WcnfKeeps': WHATEVER THE INPUT: true; the input reads as it did. -/
def wcnfKeepsSpec : ChangeSpec := { name := "wcnfKeeps", fn := fun _ => fun
  | [d] => { results := [.lit (.bool true)], args := [d] }
  | _ => none }
def wcnfKeepsRow : OpenClaim := { program := "ytjkfieilaahejaa", sum := "ad53150faaeb795ba7312e69085802e0c8ab0d9d0ad02f92af6da4b97d2bcbad", func := "byway/bywaylaw14.WcnfKeeps", spec := "wcnfKeeps", unfollowed := true, recurses := true, apart := false }
def WcnfKeepsSaid : Prop := wcnfKeepsRow.holds Try.pinned (OpenSpec.ofChange wcnfKeepsSpec)

/-- ITS FALSE NEIGHBOUR: 'it returns false'. Refute it at one input. -/
def wcnfKeepsWrong : ChangeSpec := { name := "wcnfKeeps", fn := fun _ => fun
  | [d] => { results := [.lit (.bool false)], args := [d] }
  | _ => none }
def WcnfKeepsWrongFalsely : Prop := wcnfKeepsRow.holds Try.pinned (OpenSpec.ofChange wcnfKeepsWrong)

/-- 'bywaylaw14.WcnfOf': WHATEVER THE INPUT: true; the input reads as it did. -/
def wcnfOfSpec : ChangeSpec := { name := "wcnfOf", fn := fun _ => fun
  | [d] => { results := [.lit (.bool true)], args := [d] }
  | _ => none }
def wcnfOfRow : OpenClaim := { program := "ytjkfieilaahejaa", sum := "ad53150faaeb795ba7312e69085802e0c8ab0d9d0ad02f92af6da4b97d2bcbad", func := "byway/bywaylaw14.WcnfOf", spec := "wcnfOf", unfollowed := true, recurses := true, apart := false }
def WcnfOfSaid : Prop := wcnfOfRow.holds Try.pinned (OpenSpec.ofChange wcnfOfSpec)

/-- ITS FALSE NEIGHBOUR: 'it returns false'. Refute it at one input. -/
def wcnfOfWrong : ChangeSpec := { name := "wcnfOf", fn := fun _ => fun
  | [d] => { results := [.lit (.bool false)], args := [d] }
  | _ => none }
def WcnfOfWrongFalsely : Prop := wcnfOfRow.holds Try.pinned (OpenSpec.ofChange wcnfOfWrong)

/- THE SECOND FORM. 'bulk': how many values and letters a reading holds, each counted each time it is reached (what is shared counts as often as it is met; a slice's spare places count too). A statement '..UptoSaid' is the law's where the arguments, and the package variables that the reading takes, are together of bulk at most 1048576: NARROWER than '..Said'. Prove '..Said' where nothing that the law and all that it calls make is longer than what came in: it says more and counts as full. Else prove '..UptoSaid'. A law counts once. -/
mutual
def uptoBulk {H : Type} : DataW H → Nat
  | .lit (.string bytes) => bytes.length + 1
  | .lit _ => 1
  | .nil => 1
  | .ptr d => uptoBulk d + 1
  | .slice elems spare => uptoBulkAll elems + uptoBulkAll spare + 1
  | .agg parts => uptoBulkAll parts + 1
  | .iface _ d => uptoBulk d + 1
  | .map entries => uptoBulkEntries entries + 1
  | .held _ => 1
def uptoBulkAll {H : Type} : List (DataW H) → Nat
  | [] => 0
  | d :: r => uptoBulk d + uptoBulkAll r
def uptoBulkEntries {H : Type} : List (Lit × DataW H) → Nat
  | [] => 0
  | x :: r => uptoBulkEntry x + uptoBulkEntries r
def uptoBulkEntry {H : Type} : Lit × DataW H → Nat
  | (.string bytes, d) => bytes.length + uptoBulk d + 1
  | (_, d) => uptoBulk d + 1
 end
def uptoSmall : (H : Type) → List (DataW H) → Bool := fun _ ds => decide (uptoBulkAll ds ≤ 1048576)
def OpenSpec.upto (s : _root_.Go.ChangeSpec) : _root_.Go.OpenSpec := { _root_.Go.OpenSpec.ofChange s with cond := some uptoSmall }

/-- 'bywaylaw13.LeastLeaves', WHERE WHAT IT READS IS OF BULK AT MOST 1048576: true; the input reads as it did. -/
def leastLeavesUptoRow : OpenClaim := { program := "ytjkfieilaahejaa", sum := "ad53150faaeb795ba7312e69085802e0c8ab0d9d0ad02f92af6da4b97d2bcbad", func := "byway/bywaylaw13.LeastLeaves", spec := "leastLeaves", unfollowed := true, recurses := true, apart := false, narrowed := true }
def LeastLeavesUptoSaid : Prop := leastLeavesUptoRow.holds Try.pinned (OpenSpec.upto leastLeavesSpec)

/-- 'bywaylaw13.LeastWithout', WHERE WHAT IT READS IS OF BULK AT MOST 1048576: true; the input reads as it did. -/
def leastWithoutUptoRow : OpenClaim := { program := "ytjkfieilaahejaa", sum := "ad53150faaeb795ba7312e69085802e0c8ab0d9d0ad02f92af6da4b97d2bcbad", func := "byway/bywaylaw13.LeastWithout", spec := "leastWithout", unfollowed := true, recurses := true, apart := false, narrowed := true }
def LeastWithoutUptoSaid : Prop := leastWithoutUptoRow.holds Try.pinned (OpenSpec.upto leastWithoutSpec)

/-- 'bywaylaw14.WcnfAgain', WHERE WHAT IT READS IS OF BULK AT MOST 1048576: true; the input reads as it did. -/
def wcnfAgainUptoRow : OpenClaim := { program := "ytjkfieilaahejaa", sum := "ad53150faaeb795ba7312e69085802e0c8ab0d9d0ad02f92af6da4b97d2bcbad", func := "byway/bywaylaw14.WcnfAgain", spec := "wcnfAgain", unfollowed := true, recurses := true, apart := false, narrowed := true }
def WcnfAgainUptoSaid : Prop := wcnfAgainUptoRow.holds Try.pinned (OpenSpec.upto wcnfAgainSpec)

/-- 'bywaylaw14.WcnfKeeps', WHERE WHAT IT READS IS OF BULK AT MOST 1048576: true; the input reads as it did. -/
def wcnfKeepsUptoRow : OpenClaim := { program := "ytjkfieilaahejaa", sum := "ad53150faaeb795ba7312e69085802e0c8ab0d9d0ad02f92af6da4b97d2bcbad", func := "byway/bywaylaw14.WcnfKeeps", spec := "wcnfKeeps", unfollowed := true, recurses := true, apart := false, narrowed := true }
def WcnfKeepsUptoSaid : Prop := wcnfKeepsUptoRow.holds Try.pinned (OpenSpec.upto wcnfKeepsSpec)

/-- 'bywaylaw14.WcnfOf', WHERE WHAT IT READS IS OF BULK AT MOST 1048576: true; the input reads as it did. -/
def wcnfOfUptoRow : OpenClaim := { program := "ytjkfieilaahejaa", sum := "ad53150faaeb795ba7312e69085802e0c8ab0d9d0ad02f92af6da4b97d2bcbad", func := "byway/bywaylaw14.WcnfOf", spec := "wcnfOf", unfollowed := true, recurses := true, apart := false, narrowed := true }
def WcnfOfUptoSaid : Prop := wcnfOfUptoRow.holds Try.pinned (OpenSpec.upto wcnfOfSpec)

end Rows
end Go.Proofs.Ytjkfieilaahejaa
