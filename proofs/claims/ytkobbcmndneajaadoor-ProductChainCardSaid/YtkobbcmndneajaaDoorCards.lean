/-
  DERIVED. GIVEN WITH THE SEED: THE CARDS: each row of YtkobbcmndneajaaDoorRows.lean that lists a variable, with what it lists TIED to the program's text (the seventh form; the later family's looks); each row that meets fmt, with fmt's text TOLD by the authors' own Lean function (tested against real Go, not proved from fmt's source: count such statements apart). THE CARD IS WHAT COUNTS. Prove the row's statement (the work); the ties are given (YtkobbcmndneajaaDoorTie.lean); close each card by the builder's one call (the guide's Derived/Test/ToyasCard.lean, 'card_holds'). Laid BY PROGRAM, IN A SANDBOX (cutbox-door.mjs). By AI agents, Wed Nov 11 2026. No macro, syntax, notation, axiom, sorry.
-/
import Derived.Test.YtkobbcmndneajaaDoorRows
import GoSem.ClaimSeven
namespace Go.Proofs.YtkobbcmndneajaaDoor
namespace Rows

/-- THE TIED CARD OF 'bywaylaw02.QuadPlays'. -/
def quadPlaysCard : Claim7 := { stood := { row := quadPlaysRow, standIns := [], harness := (true, "b38b7d87ff652557a7457533746e604c606b860329d646d87a08f42a43e1e2d3"), looks := false }, kinds := [], alts := [], laidByText := true, laidKinds := [.data], laidTests := true, laidLooks := .later }
def QuadPlaysCardSaid : Prop := Claim7.holds Tryd.pinned (.plain (OpenSpec.ofChange quadPlaysSpec)) quadPlaysCard

/-- THE TIED CARD OF 'bywaylaw03.ProductInto'. -/
def productIntoCard : Claim7 := { stood := { row := productIntoRow, standIns := [], harness := (true, "b38b7d87ff652557a7457533746e604c606b860329d646d87a08f42a43e1e2d3"), looks := false }, kinds := [], alts := [], laidByText := true, laidKinds := [.data], laidTests := true, laidLooks := .later }
def ProductIntoCardSaid : Prop := Claim7.holds Tryd.pinned (.plain (OpenSpec.ofChange productIntoSpec)) productIntoCard

/-- THE TIED CARD OF 'bywaylaw03.ProductChain'. -/
def productChainCard : Claim7 := { stood := { row := productChainRow, standIns := [], harness := (true, "b38b7d87ff652557a7457533746e604c606b860329d646d87a08f42a43e1e2d3"), looks := false }, kinds := [], alts := [], laidByText := true, laidKinds := [.data], laidTests := true, laidLooks := .later }
def ProductChainCardSaid : Prop := Claim7.holds Tryd.pinned (.plain (OpenSpec.ofChange productChainSpec)) productChainCard

/-- THE TIED CARD OF 'bywaylaw04.KronProduct'. -/
def kronProductCard : Claim7 := { stood := { row := kronProductRow, standIns := [], harness := (true, "b38b7d87ff652557a7457533746e604c606b860329d646d87a08f42a43e1e2d3"), looks := false }, kinds := [], alts := [], laidByText := true, laidKinds := [.data], laidTests := true, laidLooks := .later }
def KronProductCardSaid : Prop := Claim7.holds Tryd.pinned (.plain (OpenSpec.ofChange kronProductSpec)) kronProductCard

/-- THE TIED CARD OF 'bywaylaw04.KronInto'. -/
def kronIntoCard : Claim7 := { stood := { row := kronIntoRow, standIns := [], harness := (true, "b38b7d87ff652557a7457533746e604c606b860329d646d87a08f42a43e1e2d3"), looks := false }, kinds := [], alts := [], laidByText := true, laidKinds := [.data], laidTests := true, laidLooks := .later }
def KronIntoCardSaid : Prop := Claim7.holds Tryd.pinned (.plain (OpenSpec.ofChange kronIntoSpec)) kronIntoCard

/-- THE TIED CARD OF 'bywaylaw04.KronTaken'. -/
def kronTakenCard : Claim7 := { stood := { row := kronTakenRow, standIns := [], harness := (true, "b38b7d87ff652557a7457533746e604c606b860329d646d87a08f42a43e1e2d3"), looks := false }, kinds := [], alts := [], laidByText := true, laidKinds := [.data], laidTests := true, laidLooks := .later }
def KronTakenCardSaid : Prop := Claim7.holds Tryd.pinned (.plain (OpenSpec.ofChange kronTakenSpec)) kronTakenCard

/-- THE TIED CARD OF 'bywaylaw04.KronBack'. -/
def kronBackCard : Claim7 := { stood := { row := kronBackRow, standIns := [], harness := (true, "b38b7d87ff652557a7457533746e604c606b860329d646d87a08f42a43e1e2d3"), looks := false }, kinds := [], alts := [], laidByText := true, laidKinds := [.data], laidTests := true, laidLooks := .later }
def KronBackCardSaid : Prop := Claim7.holds Tryd.pinned (.plain (OpenSpec.ofChange kronBackSpec)) kronBackCard

/-- THE SECOND FORM's CARD OF 'bywaylaw02.QuadPlays'. -/
def quadPlaysUptoCard : Claim7 := { stood := { row := quadPlaysUptoRow, standIns := [], harness := (true, "b38b7d87ff652557a7457533746e604c606b860329d646d87a08f42a43e1e2d3"), looks := false }, kinds := [], alts := [], laidByText := true, laidKinds := [.data], laidTests := true, laidLooks := .later }
def QuadPlaysUptoCardSaid : Prop := Claim7.holds Tryd.pinned (.plain (OpenSpec.upto quadPlaysSpec)) quadPlaysUptoCard

/-- THE SECOND FORM's CARD OF 'bywaylaw03.ProductInto'. -/
def productIntoUptoCard : Claim7 := { stood := { row := productIntoUptoRow, standIns := [], harness := (true, "b38b7d87ff652557a7457533746e604c606b860329d646d87a08f42a43e1e2d3"), looks := false }, kinds := [], alts := [], laidByText := true, laidKinds := [.data], laidTests := true, laidLooks := .later }
def ProductIntoUptoCardSaid : Prop := Claim7.holds Tryd.pinned (.plain (OpenSpec.upto productIntoSpec)) productIntoUptoCard

/-- THE SECOND FORM's CARD OF 'bywaylaw03.ProductChain'. -/
def productChainUptoCard : Claim7 := { stood := { row := productChainUptoRow, standIns := [], harness := (true, "b38b7d87ff652557a7457533746e604c606b860329d646d87a08f42a43e1e2d3"), looks := false }, kinds := [], alts := [], laidByText := true, laidKinds := [.data], laidTests := true, laidLooks := .later }
def ProductChainUptoCardSaid : Prop := Claim7.holds Tryd.pinned (.plain (OpenSpec.upto productChainSpec)) productChainUptoCard

/-- THE SECOND FORM's CARD OF 'bywaylaw04.KronProduct'. -/
def kronProductUptoCard : Claim7 := { stood := { row := kronProductUptoRow, standIns := [], harness := (true, "b38b7d87ff652557a7457533746e604c606b860329d646d87a08f42a43e1e2d3"), looks := false }, kinds := [], alts := [], laidByText := true, laidKinds := [.data], laidTests := true, laidLooks := .later }
def KronProductUptoCardSaid : Prop := Claim7.holds Tryd.pinned (.plain (OpenSpec.upto kronProductSpec)) kronProductUptoCard

/-- THE SECOND FORM's CARD OF 'bywaylaw04.KronInto'. -/
def kronIntoUptoCard : Claim7 := { stood := { row := kronIntoUptoRow, standIns := [], harness := (true, "b38b7d87ff652557a7457533746e604c606b860329d646d87a08f42a43e1e2d3"), looks := false }, kinds := [], alts := [], laidByText := true, laidKinds := [.data], laidTests := true, laidLooks := .later }
def KronIntoUptoCardSaid : Prop := Claim7.holds Tryd.pinned (.plain (OpenSpec.upto kronIntoSpec)) kronIntoUptoCard

/-- THE SECOND FORM's CARD OF 'bywaylaw04.KronTaken'. -/
def kronTakenUptoCard : Claim7 := { stood := { row := kronTakenUptoRow, standIns := [], harness := (true, "b38b7d87ff652557a7457533746e604c606b860329d646d87a08f42a43e1e2d3"), looks := false }, kinds := [], alts := [], laidByText := true, laidKinds := [.data], laidTests := true, laidLooks := .later }
def KronTakenUptoCardSaid : Prop := Claim7.holds Tryd.pinned (.plain (OpenSpec.upto kronTakenSpec)) kronTakenUptoCard

/-- THE SECOND FORM's CARD OF 'bywaylaw04.KronBack'. -/
def kronBackUptoCard : Claim7 := { stood := { row := kronBackUptoRow, standIns := [], harness := (true, "b38b7d87ff652557a7457533746e604c606b860329d646d87a08f42a43e1e2d3"), looks := false }, kinds := [], alts := [], laidByText := true, laidKinds := [.data], laidTests := true, laidLooks := .later }
def KronBackUptoCardSaid : Prop := Claim7.holds Tryd.pinned (.plain (OpenSpec.upto kronBackSpec)) kronBackUptoCard
end Rows
end Go.Proofs.YtkobbcmndneajaaDoor
