/- HvN. -/
import Derived.Test.YtopgllmjeliklaaGreatDoorKgCars
set_option maxRecDepth 100000
set_option linter.unusedSimpArgs false
set_option linter.unusedVariables false
namespace Go.Proofs.YtopgllmjeliklaaGreatDoor
open Go.Shelf Go.Lib Go.ChangeShapes Go.WideShapes Go.ChangeAt Go.RowKit Go.Maps
namespace Hs
open Bk Lg Pl Dk Tx Tn Ac
structure Gone (s : St) (l : List Int) : Prop where
 u : Uniq s
 c : ∀ x, l.count x = if x = 0 then 0 else Pl.cnt s x
end Hs
end Go.Proofs.YtopgllmjeliklaaGreatDoor
