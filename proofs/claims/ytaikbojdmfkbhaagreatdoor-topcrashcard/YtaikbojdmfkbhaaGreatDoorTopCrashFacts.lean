/- What the statement TopCrash's row says of the program (closed facts, limb by limb). -/
import Derived.Test.YtaikbojdmfkbhaaGreatDoorCardKit
namespace Go.Proofs.YtaikbojdmfkbhaaGreatDoor
open Go.ChangeShapes Go.WideShapes Go.ChangeAt Go.RowKit
set_option maxRecDepth 100000

namespace Lg
theorem band {a b : Bool} (h : a = true) (k : b = true) : (a && b) = true := by rw [h, k]; rfl
set_option maxHeartbeats 40000000 in
theorem crash_facts : joinedFacts Tryz.pinned.checked.prog 4 Tryz.f4 (OpenSpec.ofChange Rows.topCrashSpec).bare Rows.topCrashRow = true := by
  unfold joinedFacts
  repeat' with_reducible apply band
  all_goals (as_aux_lemma => kernel_rfl)
end Lg
end Go.Proofs.YtaikbojdmfkbhaaGreatDoor
