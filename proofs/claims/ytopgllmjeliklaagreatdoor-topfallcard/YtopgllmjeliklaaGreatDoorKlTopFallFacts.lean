/- What the statement TopFall's row says of the program (closed facts, limb by limb). -/
import Derived.Test.YtopgllmjeliklaaGreatDoorKlCardKit
namespace Go.Proofs.YtopgllmjeliklaaGreatDoor
open Go.ChangeShapes Go.WideShapes Go.ChangeAt Go.RowKit
set_option maxRecDepth 100000
namespace Hs
theorem topFall_band {a b : Bool} (h : a = true) (k : b = true) : (a && b) = true := by rw [h, k]; rfl
set_option maxHeartbeats 40000000 in
theorem topFall_facts : joinedFacts Tryz.pinned.checked.prog 13 Tryz.f13 (OpenSpec.ofChange Rows.topFallSpec).bare Rows.topFallRow = true := by
 unfold joinedFacts
 repeat' with_reducible apply topFall_band
 all_goals (as_aux_lemma => kernel_rfl)
end Hs
end Go.Proofs.YtopgllmjeliklaaGreatDoor
