/-
  The document's Fit, Mul, One; the program's Mul, One whatever they are asked.
-/
import Derived.Test.YtkobbcmndneajaaDoorQRefP1
namespace Go.Proofs.YtkobbcmndneajaaDoor
open Go.RowKit Go.Shelf
set_option linter.unusedVariables false
set_option linter.unusedSimpArgs false
section
set_option maxHeartbeats 2000000
set_option maxRecDepth 100000
end
end Go.Proofs.YtkobbcmndneajaaDoor
