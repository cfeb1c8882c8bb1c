/-
  No cell of these rows narrows 'for every input' (looked for: loops, veiled, ifaces, maps, wideKeys, modest, calm, conditions, laid).
  DERIVED. THE GIVEN ROWS OF THIS SEAT. 5 by the template 'for every input the law returns true; each argument reads behind the call as it read before'; 0 by the template 'total and deterministic' (their statements: YtfgoghmhjbhbiaaTotals.lean).
  GIVEN WITH THE SEED: the statements are not yours to turn. If you find one false, say at which input.
  Laid BY PROGRAM, IN A SANDBOX (cutbox-rows.mjs): the forced cells as the released guide's own fill.sh prints them over the translation 002fb9bb809c4571… (all of the seat's roots in one cut). By AI agents, Wed Nov 11 2026. No macro, syntax, notation, axiom, sorry.
-/
import Derived.Test.YtfgoghmhjbhbiaaChecked
import GoSem.Claim
import GoSem.ClaimJoined
import GoSem.ClaimMapViews
import Derived.JoinedTies
import Derived.KernelRfl
namespace Go.Proofs.Ytfgoghmhjbhbiaa
/- THE CELL 'sum', in the pinned program and in every row, IS THE sha256 OF THE DUMP (.gsa) THAT YtfgoghmhjbhbiaaProg.lean LOADS. Nothing in Lean hashes anything: it is a label: what it is worth is what the hold of that sum in a sandbox is worth. -/
noncomputable def Try.pinned : Pinned := { name := "ytfgoghmhjbhbiaa", sum := "002fb9bb809c45717f7cd7cbfc410623bb0fb563986815b94fddf80a5bd29ac5", checked := Try.checked }
namespace Rows
def none {H : Type} : Left H := { results := [], args := [] }

/-- 'bywaylaw12.CfgChecks': WHATEVER THE INPUT: true; the input reads as it did. -/
def cfgChecksSpec : ChangeSpec := { name := "cfgChecks", fn := fun _ => fun
  | [d] => { results := [.lit (.bool true)], args := [d] }
  | _ => none }
def cfgChecksRow : OpenClaim := { program := "ytfgoghmhjbhbiaa", sum := "002fb9bb809c45717f7cd7cbfc410623bb0fb563986815b94fddf80a5bd29ac5", func := "byway/bywaylaw12.CfgChecks", spec := "cfgChecks", unfollowed := true, recurses := true, apart := false }
def CfgChecksSaid : Prop := cfgChecksRow.holds Try.pinned (OpenSpec.ofChange cfgChecksSpec)

/-- ITS FALSE NEIGHBOUR: 'it returns false'. Refute it at one input. -/
def cfgChecksWrong : ChangeSpec := { name := "cfgChecks", fn := fun _ => fun
  | [d] => { results := [.lit (.bool false)], args := [d] }
  | _ => none }
def CfgChecksWrongFalsely : Prop := cfgChecksRow.holds Try.pinned (OpenSpec.ofChange cfgChecksWrong)

/-- 'bywaylaw12.CfgSorts': WHATEVER THE INPUT: true; the input reads as it did. -/
def cfgSortsSpec : ChangeSpec := { name := "cfgSorts", fn := fun _ => fun
  | [d] => { results := [.lit (.bool true)], args := [d] }
  | _ => none }
def cfgSortsRow : OpenClaim := { program := "ytfgoghmhjbhbiaa", sum := "002fb9bb809c45717f7cd7cbfc410623bb0fb563986815b94fddf80a5bd29ac5", func := "byway/bywaylaw12.CfgSorts", spec := "cfgSorts", unfollowed := true, recurses := true, apart := false }
def CfgSortsSaid : Prop := cfgSortsRow.holds Try.pinned (OpenSpec.ofChange cfgSortsSpec)

/-- ITS FALSE NEIGHBOUR: 'it returns false'. Refute it at one input. -/
def cfgSortsWrong : ChangeSpec := { name := "cfgSorts", fn := fun _ => fun
  | [d] => { results := [.lit (.bool false)], args := [d] }
  | _ => none }
def CfgSortsWrongFalsely : Prop := cfgSortsRow.holds Try.pinned (OpenSpec.ofChange cfgSortsWrong)

/-- 'bywaylaw12.CfgHeads': WHATEVER THE INPUT: true; the input reads as it did. -/
def cfgHeadsSpec : ChangeSpec := { name := "cfgHeads", fn := fun _ => fun
  | [d1, d2, d3] => { results := [.lit (.bool true)], args := [d1, d2, d3] }
  | _ => none }
def cfgHeadsRow : OpenClaim := { program := "ytfgoghmhjbhbiaa", sum := "002fb9bb809c45717f7cd7cbfc410623bb0fb563986815b94fddf80a5bd29ac5", func := "byway/bywaylaw12.CfgHeads", spec := "cfgHeads", unfollowed := true, recurses := true, apart := false }
def CfgHeadsSaid : Prop := cfgHeadsRow.holds Try.pinned (OpenSpec.ofChange cfgHeadsSpec)

/-- ITS FALSE NEIGHBOUR: 'it returns false'. Refute it at one input. -/
def cfgHeadsWrong : ChangeSpec := { name := "cfgHeads", fn := fun _ => fun
  | [d1, d2, d3] => { results := [.lit (.bool false)], args := [d1, d2, d3] }
  | _ => none }
def CfgHeadsWrongFalsely : Prop := cfgHeadsRow.holds Try.pinned (OpenSpec.ofChange cfgHeadsWrong)

/-- 'bywaylaw12.CfgTwice': WHATEVER THE INPUT: true; the input reads as it did. -/
def cfgTwiceSpec : ChangeSpec := { name := "cfgTwice", fn := fun _ => fun
  | [d] => { results := [.lit (.bool true)], args := [d] }
  | _ => none }
def cfgTwiceRow : OpenClaim := { program := "ytfgoghmhjbhbiaa", sum := "002fb9bb809c45717f7cd7cbfc410623bb0fb563986815b94fddf80a5bd29ac5", func := "byway/bywaylaw12.CfgTwice", spec := "cfgTwice", unfollowed := true, recurses := true, apart := false }
def CfgTwiceSaid : Prop := cfgTwiceRow.holds Try.pinned (OpenSpec.ofChange cfgTwiceSpec)

/-- ITS FALSE NEIGHBOUR: 'it returns false'. Refute it at one input. -/
def cfgTwiceWrong : ChangeSpec := { name := "cfgTwice", fn := fun _ => fun
  | [d] => { results := [.lit (.bool false)], args := [d] }
  | _ => none }
def CfgTwiceWrongFalsely : Prop := cfgTwiceRow.holds Try.pinned (OpenSpec.ofChange cfgTwiceWrong)

/-- 'bywaylaw14.WcnfParts': WHATEVER THE INPUT: true; the input reads as it did. -/
def wcnfPartsSpec : ChangeSpec := { name := "wcnfParts", fn := fun _ => fun
  | [d] => { results := [.lit (.bool true)], args := [d] }
  | _ => none }
def wcnfPartsRow : OpenClaim := { program := "ytfgoghmhjbhbiaa", sum := "002fb9bb809c45717f7cd7cbfc410623bb0fb563986815b94fddf80a5bd29ac5", func := "byway/bywaylaw14.WcnfParts", spec := "wcnfParts", unfollowed := true, recurses := true, apart := false }
def WcnfPartsSaid : Prop := wcnfPartsRow.holds Try.pinned (OpenSpec.ofChange wcnfPartsSpec)

/-- ITS FALSE NEIGHBOUR: 'it returns false'. Refute it at one input. -/
def wcnfPartsWrong : ChangeSpec := { name := "wcnfParts", fn := fun _ => fun
  | [d] => { results := [.lit (.bool false)], args := [d] }
  | _ => none }
def WcnfPartsWrongFalsely : Prop := wcnfPartsRow.holds Try.pinned (OpenSpec.ofChange wcnfPartsWrong)

/- THE SECOND FORM. 'bulk': how many values and letters a reading holds, each counted each time it is reached (what is shared counts as often as it is met; a slice's spare places count too). A statement '..UptoSaid' is the law's where the arguments, and the package variables that the reading takes, are together of bulk at most 1048576: NARROWER than '..Said'. Prove '..Said' where nothing that the law and all that it calls make is longer than what came in: it says more and counts as full. Else prove '..UptoSaid'. A law counts once. -/
mutual
def uptoBulk {H : Type} : DataW H → Nat
  | .lit (.string bytes) => bytes.length + 1
  | .lit _ => 1
  | .nil => 1
  | .ptr d => uptoBulk d + 1
  | .slice elems spare => uptoBulkAll elems + uptoBulkAll spare + 1
  | .agg parts => uptoBulkAll parts + 1
  | .iface _ d => uptoBulk d + 1
  | .map entries => uptoBulkEntries entries + 1
  | .held _ => 1
def uptoBulkAll {H : Type} : List (DataW H) → Nat
  | [] => 0
  | d :: r => uptoBulk d + uptoBulkAll r
def uptoBulkEntries {H : Type} : List (Lit × DataW H) → Nat
  | [] => 0
  | x :: r => uptoBulkEntry x + uptoBulkEntries r
def uptoBulkEntry {H : Type} : Lit × DataW H → Nat
  | (.string bytes, d) => bytes.length + uptoBulk d + 1
  | (_, d) => uptoBulk d + 1
 end
def uptoSmall : (H : Type) → List (DataW H) → Bool := fun _ ds => decide (uptoBulkAll ds ≤ 1048576)
def OpenSpec.upto (s : _root_.Go.ChangeSpec) : _root_.Go.OpenSpec := { _root_.Go.OpenSpec.ofChange s with cond := some uptoSmall }

/-- 'bywaylaw12.CfgChecks', WHERE WHAT IT READS IS OF BULK AT MOST 1048576: true; the input reads as it did. -/
def cfgChecksUptoRow : OpenClaim := { program := "ytfgoghmhjbhbiaa", sum := "002fb9bb809c45717f7cd7cbfc410623bb0fb563986815b94fddf80a5bd29ac5", func := "byway/bywaylaw12.CfgChecks", spec := "cfgChecks", unfollowed := true, recurses := true, apart := false, narrowed := true }
def CfgChecksUptoSaid : Prop := cfgChecksUptoRow.holds Try.pinned (OpenSpec.upto cfgChecksSpec)

/-- 'bywaylaw12.CfgSorts', WHERE WHAT IT READS IS OF BULK AT MOST 1048576: true; the input reads as it did. -/
def cfgSortsUptoRow : OpenClaim := { program := "ytfgoghmhjbhbiaa", sum := "002fb9bb809c45717f7cd7cbfc410623bb0fb563986815b94fddf80a5bd29ac5", func := "byway/bywaylaw12.CfgSorts", spec := "cfgSorts", unfollowed := true, recurses := true, apart := false, narrowed := true }
def CfgSortsUptoSaid : Prop := cfgSortsUptoRow.holds Try.pinned (OpenSpec.upto cfgSortsSpec)

/-- 'bywaylaw12.CfgHeads', WHERE WHAT IT READS IS OF BULK AT MOST 1048576: true; the input reads as it did. -/
def cfgHeadsUptoRow : OpenClaim := { program := "ytfgoghmhjbhbiaa", sum := "002fb9bb809c45717f7cd7cbfc410623bb0fb563986815b94fddf80a5bd29ac5", func := "byway/bywaylaw12.CfgHeads", spec := "cfgHeads", unfollowed := true, recurses := true, apart := false, narrowed := true }
def CfgHeadsUptoSaid : Prop := cfgHeadsUptoRow.holds Try.pinned (OpenSpec.upto cfgHeadsSpec)

/-- 'bywaylaw12.CfgTwice', WHERE WHAT IT READS IS OF BULK AT MOST 1048576: true; the input reads as it did. -/
def cfgTwiceUptoRow : OpenClaim := { program := "ytfgoghmhjbhbiaa", sum := "002fb9bb809c45717f7cd7cbfc410623bb0fb563986815b94fddf80a5bd29ac5", func := "byway/bywaylaw12.CfgTwice", spec := "cfgTwice", unfollowed := true, recurses := true, apart := false, narrowed := true }
def CfgTwiceUptoSaid : Prop := cfgTwiceUptoRow.holds Try.pinned (OpenSpec.upto cfgTwiceSpec)

/-- 'bywaylaw14.WcnfParts', WHERE WHAT IT READS IS OF BULK AT MOST 1048576: true; the input reads as it did. -/
def wcnfPartsUptoRow : OpenClaim := { program := "ytfgoghmhjbhbiaa", sum := "002fb9bb809c45717f7cd7cbfc410623bb0fb563986815b94fddf80a5bd29ac5", func := "byway/bywaylaw14.WcnfParts", spec := "wcnfParts", unfollowed := true, recurses := true, apart := false, narrowed := true }
def WcnfPartsUptoSaid : Prop := wcnfPartsUptoRow.holds Try.pinned (OpenSpec.upto wcnfPartsSpec)

end Rows
end Go.Proofs.Ytfgoghmhjbhbiaa
