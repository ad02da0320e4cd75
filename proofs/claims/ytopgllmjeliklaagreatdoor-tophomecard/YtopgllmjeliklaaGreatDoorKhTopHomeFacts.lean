/- What the statement TopHome's row says of the program (closed facts, limb by limb). -/
import Derived.Test.YtopgllmjeliklaaGreatDoorKhCardKit
namespace Go.Proofs.YtopgllmjeliklaaGreatDoor
open Go.ChangeShapes Go.WideShapes Go.ChangeAt Go.RowKit
set_option maxRecDepth 100000
namespace Hs
theorem topHome_band {a b : Bool} (h : a = true) (k : b = true) : (a && b) = true := by rw [h, k]; rfl
set_option maxHeartbeats 40000000 in
theorem topHome_facts : joinedFacts Tryz.pinned.checked.prog 9 Tryz.f9 (OpenSpec.ofChange Rows.topHomeSpec).bare Rows.topHomeRow = true := by
 unfold joinedFacts
 repeat' with_reducible apply topHome_band
 all_goals (as_aux_lemma => kernel_rfl)
end Hs
end Go.Proofs.YtopgllmjeliklaaGreatDoor
