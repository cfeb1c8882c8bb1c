/-
  DERIVED. GIVEN WITH THE SEED: THE CARDS: each row of YteojbnkjphghkaaDoorRows.lean that lists a variable, with what it lists TIED to the program's text (the seventh form; the later family's looks); each row that meets fmt, with fmt's text TOLD by the authors' own Lean function (tested against real Go, not proved from fmt's source: count such statements apart). THE CARD IS WHAT COUNTS. Prove the row's statement (the work); the ties are given (YteojbnkjphghkaaDoorTie.lean); close each card by the builder's one call (the guide's Derived/Test/ToyasCard.lean, 'card_holds'). Laid BY PROGRAM, IN A SANDBOX (cutbox-door.mjs). By AI agents, Wed Nov 11 2026. No macro, syntax, notation, axiom, sorry.
-/
import Derived.Test.YteojbnkjphghkaaDoorRows
import GoSem.ClaimSeven
namespace Go.Proofs.YteojbnkjphghkaaDoor
namespace Rows

/-- THE TIED CARD OF 'bywaylaw15.DeriveRight'. -/
def deriveRightCard : Claim7 := { stood := { row := deriveRightRow, standIns := [], harness := (true, "b85c0eadf36307d59496b330ceea90b324dec9b5bbed74d8ed7f98a2957cd23d"), looks := false }, kinds := [], alts := [], laidByText := true, laidKinds := [.data], laidTests := true, laidLooks := .later }
def DeriveRightCardSaid : Prop := Claim7.holds Tryd.pinned (.plain (OpenSpec.ofChange deriveRightSpec)) deriveRightCard

/-- THE TIED CARD OF 'bywaylaw15.DeriveHas'. -/
def deriveHasCard : Claim7 := { stood := { row := deriveHasRow, standIns := [], harness := (true, "b85c0eadf36307d59496b330ceea90b324dec9b5bbed74d8ed7f98a2957cd23d"), looks := false }, kinds := [], alts := [], laidByText := true, laidKinds := [.data], laidTests := true, laidLooks := .later }
def DeriveHasCardSaid : Prop := Claim7.holds Tryd.pinned (.plain (OpenSpec.ofChange deriveHasSpec)) deriveHasCard

/-- THE TIED CARD OF 'bywaylaw15.DeriveBegins'. -/
def deriveBeginsCard : Claim7 := { stood := { row := deriveBeginsRow, standIns := [], harness := (true, "b85c0eadf36307d59496b330ceea90b324dec9b5bbed74d8ed7f98a2957cd23d"), looks := false }, kinds := [], alts := [], laidByText := true, laidKinds := [.data], laidTests := true, laidLooks := .later }
def DeriveBeginsCardSaid : Prop := Claim7.holds Tryd.pinned (.plain (OpenSpec.ofChange deriveBeginsSpec)) deriveBeginsCard

/-- THE TIED CARD OF 'bywaylaw15.DeriveRows'. -/
def deriveRowsCard : Claim7 := { stood := { row := deriveRowsRow, standIns := [], harness := (true, "b85c0eadf36307d59496b330ceea90b324dec9b5bbed74d8ed7f98a2957cd23d"), looks := false }, kinds := [], alts := [], laidByText := true, laidKinds := [.data], laidTests := true, laidLooks := .later }
def DeriveRowsCardSaid : Prop := Claim7.holds Tryd.pinned (.plain (OpenSpec.ofChange deriveRowsSpec)) deriveRowsCard

/-- THE TIED CARD OF 'bywaylaw15.DeriveTree'. -/
def deriveTreeCard : Claim7 := { stood := { row := deriveTreeRow, standIns := [], harness := (true, "b85c0eadf36307d59496b330ceea90b324dec9b5bbed74d8ed7f98a2957cd23d"), looks := false }, kinds := [], alts := [], laidByText := true, laidKinds := [.data], laidTests := true, laidLooks := .later }
def DeriveTreeCardSaid : Prop := Claim7.holds Tryd.pinned (.plain (OpenSpec.ofChange deriveTreeSpec)) deriveTreeCard

/-- THE TIED CARD OF 'bywaylaw15.DeriveAgrees'. -/
def deriveAgreesCard : Claim7 := { stood := { row := deriveAgreesRow, standIns := [], harness := (true, "b85c0eadf36307d59496b330ceea90b324dec9b5bbed74d8ed7f98a2957cd23d"), looks := false }, kinds := [], alts := [], laidByText := true, laidKinds := [.data], laidTests := true, laidLooks := .later }
def DeriveAgreesCardSaid : Prop := Claim7.holds Tryd.pinned (.plain (OpenSpec.ofChange deriveAgreesSpec)) deriveAgreesCard

/-- THE SECOND FORM's CARD OF 'bywaylaw15.DeriveRight'. -/
def deriveRightUptoCard : Claim7 := { stood := { row := deriveRightUptoRow, standIns := [], harness := (true, "b85c0eadf36307d59496b330ceea90b324dec9b5bbed74d8ed7f98a2957cd23d"), looks := false }, kinds := [], alts := [], laidByText := true, laidKinds := [.data], laidTests := true, laidLooks := .later }
def DeriveRightUptoCardSaid : Prop := Claim7.holds Tryd.pinned (.plain (OpenSpec.upto deriveRightSpec)) deriveRightUptoCard

/-- THE SECOND FORM's CARD OF 'bywaylaw15.DeriveHas'. -/
def deriveHasUptoCard : Claim7 := { stood := { row := deriveHasUptoRow, standIns := [], harness := (true, "b85c0eadf36307d59496b330ceea90b324dec9b5bbed74d8ed7f98a2957cd23d"), looks := false }, kinds := [], alts := [], laidByText := true, laidKinds := [.data], laidTests := true, laidLooks := .later }
def DeriveHasUptoCardSaid : Prop := Claim7.holds Tryd.pinned (.plain (OpenSpec.upto deriveHasSpec)) deriveHasUptoCard

/-- THE SECOND FORM's CARD OF 'bywaylaw15.DeriveBegins'. -/
def deriveBeginsUptoCard : Claim7 := { stood := { row := deriveBeginsUptoRow, standIns := [], harness := (true, "b85c0eadf36307d59496b330ceea90b324dec9b5bbed74d8ed7f98a2957cd23d"), looks := false }, kinds := [], alts := [], laidByText := true, laidKinds := [.data], laidTests := true, laidLooks := .later }
def DeriveBeginsUptoCardSaid : Prop := Claim7.holds Tryd.pinned (.plain (OpenSpec.upto deriveBeginsSpec)) deriveBeginsUptoCard

/-- THE SECOND FORM's CARD OF 'bywaylaw15.DeriveRows'. -/
def deriveRowsUptoCard : Claim7 := { stood := { row := deriveRowsUptoRow, standIns := [], harness := (true, "b85c0eadf36307d59496b330ceea90b324dec9b5bbed74d8ed7f98a2957cd23d"), looks := false }, kinds := [], alts := [], laidByText := true, laidKinds := [.data], laidTests := true, laidLooks := .later }
def DeriveRowsUptoCardSaid : Prop := Claim7.holds Tryd.pinned (.plain (OpenSpec.upto deriveRowsSpec)) deriveRowsUptoCard

/-- THE SECOND FORM's CARD OF 'bywaylaw15.DeriveTree'. -/
def deriveTreeUptoCard : Claim7 := { stood := { row := deriveTreeUptoRow, standIns := [], harness := (true, "b85c0eadf36307d59496b330ceea90b324dec9b5bbed74d8ed7f98a2957cd23d"), looks := false }, kinds := [], alts := [], laidByText := true, laidKinds := [.data], laidTests := true, laidLooks := .later }
def DeriveTreeUptoCardSaid : Prop := Claim7.holds Tryd.pinned (.plain (OpenSpec.upto deriveTreeSpec)) deriveTreeUptoCard

/-- THE SECOND FORM's CARD OF 'bywaylaw15.DeriveAgrees'. -/
def deriveAgreesUptoCard : Claim7 := { stood := { row := deriveAgreesUptoRow, standIns := [], harness := (true, "b85c0eadf36307d59496b330ceea90b324dec9b5bbed74d8ed7f98a2957cd23d"), looks := false }, kinds := [], alts := [], laidByText := true, laidKinds := [.data], laidTests := true, laidLooks := .later }
def DeriveAgreesUptoCardSaid : Prop := Claim7.holds Tryd.pinned (.plain (OpenSpec.upto deriveAgreesSpec)) deriveAgreesUptoCard
end Rows
end Go.Proofs.YteojbnkjphghkaaDoor
