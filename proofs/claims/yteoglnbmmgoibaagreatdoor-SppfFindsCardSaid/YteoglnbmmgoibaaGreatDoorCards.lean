/-
  DERIVED. GIVEN WITH THE SEED: THE CARDS: each row of YteoglnbmmgoibaaGreatDoorRows.lean that lists a variable, with what it lists TIED to the program's text (the seventh form; the later family's looks); each row that meets fmt, with fmt's text TOLD by the authors' own Lean function (tested against real Go, not proved from fmt's source: count such statements apart). THE CARD IS WHAT COUNTS. Prove the row's statement (the work); the ties are given (YteoglnbmmgoibaaGreatDoorTie.lean); close each card by the builder's one call (the guide's Derived/Test/ToyasCard.lean, 'card_holds'). Laid BY PROGRAM, IN A SANDBOX (cutbox-door.mjs). By AI agents, Wed Nov 11 2026. No macro, syntax, notation, axiom, sorry.
-/
import Derived.Test.YteoglnbmmgoibaaGreatDoorRows
import GoSem.ClaimSeven
namespace Go.Proofs.YteoglnbmmgoibaaGreatDoor
namespace Rows

/-- THE TIED CARD OF 'bywaylaw22.SppfChecks'. -/
def sppfChecksCard : Claim7 := { stood := { row := sppfChecksRow, standIns := [], harness := (true, "0fc002c3f347da0ed0005b81450803a4d4e3636e2732a2ee7b18bb023a2a115b"), looks := true }, kinds := [], alts := [], laidByText := true, laidKinds := [.data], laidTests := true, laidLooks := .later }
def SppfChecksCardSaid : Prop := Claim7.holds Tryz.pinned (.plain (OpenSpec.ofChange sppfChecksSpec)) sppfChecksCard

/-- THE TIED CARD OF 'bywaylaw22.SppfFinds'. -/
def sppfFindsCard : Claim7 := { stood := { row := sppfFindsRow, standIns := [], harness := (true, "0fc002c3f347da0ed0005b81450803a4d4e3636e2732a2ee7b18bb023a2a115b"), looks := true }, kinds := [], alts := [], laidByText := true, laidKinds := [.data], laidTests := true, laidLooks := .later }
def SppfFindsCardSaid : Prop := Claim7.holds Tryz.pinned (.plain (OpenSpec.ofChange sppfFindsSpec)) sppfFindsCard

/-- THE SECOND FORM's CARD OF 'bywaylaw22.SppfChecks'. -/
def sppfChecksUptoCard : Claim7 := { stood := { row := sppfChecksUptoRow, standIns := [], harness := (true, "0fc002c3f347da0ed0005b81450803a4d4e3636e2732a2ee7b18bb023a2a115b"), looks := true }, kinds := [], alts := [], laidByText := true, laidKinds := [.data], laidTests := true, laidLooks := .later }
def SppfChecksUptoCardSaid : Prop := Claim7.holds Tryz.pinned (.plain (OpenSpec.upto sppfChecksSpec)) sppfChecksUptoCard

/-- THE SECOND FORM's CARD OF 'bywaylaw22.SppfFinds'. -/
def sppfFindsUptoCard : Claim7 := { stood := { row := sppfFindsUptoRow, standIns := [], harness := (true, "0fc002c3f347da0ed0005b81450803a4d4e3636e2732a2ee7b18bb023a2a115b"), looks := true }, kinds := [], alts := [], laidByText := true, laidKinds := [.data], laidTests := true, laidLooks := .later }
def SppfFindsUptoCardSaid : Prop := Claim7.holds Tryz.pinned (.plain (OpenSpec.upto sppfFindsSpec)) sppfFindsUptoCard
end Rows
end Go.Proofs.YteoglnbmmgoibaaGreatDoor
