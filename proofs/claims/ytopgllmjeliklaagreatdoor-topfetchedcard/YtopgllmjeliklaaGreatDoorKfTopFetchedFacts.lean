/- What the statement TopFetched's row says of the program (closed facts, limb by limb). -/
import Derived.Test.YtopgllmjeliklaaGreatDoorKfCardKit
namespace Go.Proofs.YtopgllmjeliklaaGreatDoor
open Go.ChangeShapes Go.WideShapes Go.ChangeAt Go.RowKit
set_option maxRecDepth 100000
namespace Hs
theorem topFetched_band {a b : Bool} (h : a = true) (k : b = true) : (a && b) = true := by rw [h, k]; rfl
set_option maxHeartbeats 40000000 in
theorem topFetched_facts : joinedFacts Tryz.pinned.checked.prog 11 Tryz.f11 (OpenSpec.ofChange Rows.topFetchedSpec).bare Rows.topFetchedRow = true := by
 unfold joinedFacts
 repeat' with_reducible apply topFetched_band
 all_goals (as_aux_lemma => kernel_rfl)
end Hs
end Go.Proofs.YtopgllmjeliklaaGreatDoor
