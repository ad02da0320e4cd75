/- HsM. -/
import Derived.Test.YtopgllmjeliklaaGreatDoorKhHsZ
import Derived.Laws.BitsLemmas
set_option maxRecDepth 100000
set_option linter.unusedSimpArgs false
set_option linter.unusedVariables false
namespace Go.Proofs.YtopgllmjeliklaaGreatDoor
open Go.Shelf Go.Lib Go.ChangeShapes Go.WideShapes Go.ChangeAt Go.RowKit
namespace Hs
open Bk Lg Pl Dk Tx Tn Ac
end Hs
end Go.Proofs.YtopgllmjeliklaaGreatDoor
