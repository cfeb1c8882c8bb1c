/-
  DERIVED. GIVEN WITH THE SEED: THE CARDS: each row of YtjolkhiggcmoiaaDoorRows.lean that lists a variable, with what it lists TIED to the program's text (the seventh form; the later family's looks); each row that meets fmt, with fmt's text TOLD by the authors' own Lean function (tested against real Go, not proved from fmt's source: count such statements apart). THE CARD IS WHAT COUNTS. Prove the row's statement (the work); the ties are given (YtjolkhiggcmoiaaDoorTie.lean); close each card by the builder's one call (the guide's Derived/Test/ToyasCard.lean, 'card_holds'). Laid BY PROGRAM, IN A SANDBOX (cutbox-door.mjs). By AI agents, Wed Nov 11 2026. No macro, syntax, notation, axiom, sorry.
-/
import Derived.Test.YtjolkhiggcmoiaaDoorRows
import GoSem.ClaimSeven
namespace Go.Proofs.YtjolkhiggcmoiaaDoor
namespace Rows

/-- THE TIED CARD OF 'bywaylaw02.QuadPlays'. -/
def quadPlaysCard : Claim7 := { stood := { row := quadPlaysRow, standIns := [], harness := (true, "c06dc1a036ecdbde9e590ff2d7b190655016d037fae4218b37b72ec41d75042b"), looks := false }, kinds := [], alts := [], laidByText := true, laidKinds := [.data], laidTests := true, laidLooks := .later }
def QuadPlaysCardSaid : Prop := Claim7.holds Tryd.pinned (.plain (OpenSpec.ofChange quadPlaysSpec)) quadPlaysCard

/-- THE TIED CARD OF 'bywaylaw05.ReachLeast'. -/
def reachLeastCard : Claim7 := { stood := { row := reachLeastRow, standIns := [], harness := (true, "c06dc1a036ecdbde9e590ff2d7b190655016d037fae4218b37b72ec41d75042b"), looks := false }, kinds := [], alts := [], laidByText := true, laidKinds := [.data], laidTests := true, laidLooks := .later }
def ReachLeastCardSaid : Prop := Claim7.holds Tryd.pinned (.plain (OpenSpec.ofChange reachLeastSpec)) reachLeastCard

/-- THE TIED CARD OF 'bywaylaw05.ReachKept'. -/
def reachKeptCard : Claim7 := { stood := { row := reachKeptRow, standIns := [], harness := (true, "c06dc1a036ecdbde9e590ff2d7b190655016d037fae4218b37b72ec41d75042b"), looks := false }, kinds := [], alts := [], laidByText := true, laidKinds := [.data], laidTests := true, laidLooks := .later }
def ReachKeptCardSaid : Prop := Claim7.holds Tryd.pinned (.plain (OpenSpec.ofChange reachKeptSpec)) reachKeptCard

/-- THE SECOND FORM's CARD OF 'bywaylaw02.QuadPlays'. -/
def quadPlaysUptoCard : Claim7 := { stood := { row := quadPlaysUptoRow, standIns := [], harness := (true, "c06dc1a036ecdbde9e590ff2d7b190655016d037fae4218b37b72ec41d75042b"), looks := false }, kinds := [], alts := [], laidByText := true, laidKinds := [.data], laidTests := true, laidLooks := .later }
def QuadPlaysUptoCardSaid : Prop := Claim7.holds Tryd.pinned (.plain (OpenSpec.upto quadPlaysSpec)) quadPlaysUptoCard

/-- THE SECOND FORM's CARD OF 'bywaylaw05.ReachLeast'. -/
def reachLeastUptoCard : Claim7 := { stood := { row := reachLeastUptoRow, standIns := [], harness := (true, "c06dc1a036ecdbde9e590ff2d7b190655016d037fae4218b37b72ec41d75042b"), looks := false }, kinds := [], alts := [], laidByText := true, laidKinds := [.data], laidTests := true, laidLooks := .later }
def ReachLeastUptoCardSaid : Prop := Claim7.holds Tryd.pinned (.plain (OpenSpec.upto reachLeastSpec)) reachLeastUptoCard

/-- THE SECOND FORM's CARD OF 'bywaylaw05.ReachKept'. -/
def reachKeptUptoCard : Claim7 := { stood := { row := reachKeptUptoRow, standIns := [], harness := (true, "c06dc1a036ecdbde9e590ff2d7b190655016d037fae4218b37b72ec41d75042b"), looks := false }, kinds := [], alts := [], laidByText := true, laidKinds := [.data], laidTests := true, laidLooks := .later }
def ReachKeptUptoCardSaid : Prop := Claim7.holds Tryd.pinned (.plain (OpenSpec.upto reachKeptSpec)) reachKeptUptoCard
end Rows
end Go.Proofs.YtjolkhiggcmoiaaDoor
