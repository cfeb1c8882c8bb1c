/-
  DERIVED. GIVEN WITH THE SEED: THE CARDS: each row of YtihlfphokgicbaaDoorRows.lean that lists a variable, with what it lists TIED to the program's text (the seventh form; the later family's looks); each row that meets fmt, with fmt's text TOLD by the authors' own Lean function (tested against real Go, not proved from fmt's source: count such statements apart). THE CARD IS WHAT COUNTS. Prove the row's statement (the work); the ties are given (YtihlfphokgicbaaDoorTie.lean); close each card by the builder's one call (the guide's Derived/Test/ToyasCard.lean, 'card_holds'). Laid BY PROGRAM, IN A SANDBOX (cutbox-door.mjs). By AI agents, Wed Nov 11 2026. No macro, syntax, notation, axiom, sorry.
-/
import Derived.Test.YtihlfphokgicbaaDoorRows
import GoSem.ClaimSeven
namespace Go.Proofs.YtihlfphokgicbaaDoor
namespace Rows

/-- THE TIED CARD OF 'bywaylaw10.BoxChecks'. -/
def boxChecksCard : Claim7 := { stood := { row := boxChecksRow, standIns := [], harness := (true, "fa90a1c68957d489e3bf2e29bcc5e60a8344ec5da8f6835c1bb3708575d1caf4"), looks := false }, kinds := [], alts := [], laidByText := true, laidKinds := [.data], laidTests := true, laidLooks := .later }
def BoxChecksCardSaid : Prop := Claim7.holds Tryd.pinned (.plain (OpenSpec.ofChange boxChecksSpec)) boxChecksCard

/-- THE TIED CARD OF 'bywaylaw10.BoxHas'. -/
def boxHasCard : Claim7 := { stood := { row := boxHasRow, standIns := [], harness := (true, "fa90a1c68957d489e3bf2e29bcc5e60a8344ec5da8f6835c1bb3708575d1caf4"), looks := false }, kinds := [], alts := [], laidByText := true, laidKinds := [.data], laidTests := true, laidLooks := .later }
def BoxHasCardSaid : Prop := Claim7.holds Tryd.pinned (.plain (OpenSpec.ofChange boxHasSpec)) boxHasCard

/-- THE TIED CARD OF 'bywaylaw10.BoxSteps'. -/
def boxStepsCard : Claim7 := { stood := { row := boxStepsRow, standIns := [], harness := (true, "fa90a1c68957d489e3bf2e29bcc5e60a8344ec5da8f6835c1bb3708575d1caf4"), looks := false }, kinds := [], alts := [], laidByText := true, laidKinds := [.data], laidTests := true, laidLooks := .later }
def BoxStepsCardSaid : Prop := Claim7.holds Tryd.pinned (.plain (OpenSpec.ofChange boxStepsSpec)) boxStepsCard

/-- THE SECOND FORM's CARD OF 'bywaylaw10.BoxChecks'. -/
def boxChecksUptoCard : Claim7 := { stood := { row := boxChecksUptoRow, standIns := [], harness := (true, "fa90a1c68957d489e3bf2e29bcc5e60a8344ec5da8f6835c1bb3708575d1caf4"), looks := false }, kinds := [], alts := [], laidByText := true, laidKinds := [.data], laidTests := true, laidLooks := .later }
def BoxChecksUptoCardSaid : Prop := Claim7.holds Tryd.pinned (.plain (OpenSpec.upto boxChecksSpec)) boxChecksUptoCard

/-- THE SECOND FORM's CARD OF 'bywaylaw10.BoxHas'. -/
def boxHasUptoCard : Claim7 := { stood := { row := boxHasUptoRow, standIns := [], harness := (true, "fa90a1c68957d489e3bf2e29bcc5e60a8344ec5da8f6835c1bb3708575d1caf4"), looks := false }, kinds := [], alts := [], laidByText := true, laidKinds := [.data], laidTests := true, laidLooks := .later }
def BoxHasUptoCardSaid : Prop := Claim7.holds Tryd.pinned (.plain (OpenSpec.upto boxHasSpec)) boxHasUptoCard

/-- THE SECOND FORM's CARD OF 'bywaylaw10.BoxSteps'. -/
def boxStepsUptoCard : Claim7 := { stood := { row := boxStepsUptoRow, standIns := [], harness := (true, "fa90a1c68957d489e3bf2e29bcc5e60a8344ec5da8f6835c1bb3708575d1caf4"), looks := false }, kinds := [], alts := [], laidByText := true, laidKinds := [.data], laidTests := true, laidLooks := .later }
def BoxStepsUptoCardSaid : Prop := Claim7.holds Tryd.pinned (.plain (OpenSpec.upto boxStepsSpec)) boxStepsUptoCard
end Rows
end Go.Proofs.YtihlfphokgicbaaDoor
