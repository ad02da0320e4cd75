/- What the statement TopGone's row says of the program (closed facts, limb by limb). -/
import Derived.Test.YtopgllmjeliklaaGreatDoorKgCardKit
namespace Go.Proofs.YtopgllmjeliklaaGreatDoor
open Go.ChangeShapes Go.WideShapes Go.ChangeAt Go.RowKit
set_option maxRecDepth 100000
namespace Hs
theorem topGone_band {a b : Bool} (h : a = true) (k : b = true) : (a && b) = true := by rw [h, k]; rfl
set_option maxHeartbeats 40000000 in
theorem topGone_facts : joinedFacts Tryz.pinned.checked.prog 6 Tryz.f6 (OpenSpec.ofChange Rows.topGoneSpec).bare Rows.topGoneRow = true := by
 unfold joinedFacts
 repeat' with_reducible apply topGone_band
 all_goals (as_aux_lemma => kernel_rfl)
end Hs
end Go.Proofs.YtopgllmjeliklaaGreatDoor
