/- Chapter 7: what the statements about the desk ask besides; contracts for the laws. -/
import Derived.Test.YtaikbojdmfkbhaaGreatDoorPick
import Derived.Test.YtaikbojdmfkbhaaGreatDoorBookCheckB
namespace Go.Proofs.YtaikbojdmfkbhaaGreatDoor
open Go.Shelf Go.Lib Go.ChangeShapes Go.WideShapes Go.ChangeAt Go.RowKit
set_option maxRecDepth 100000
set_option linter.unusedSimpArgs false
set_option linter.unusedVariables false

namespace Bk
set_option maxHeartbeats 1000000 in
theorem one_any (w : World) : Calls Tryz.prog 68 #[] w fun e w' => ∃ v, e = .returned v ∧ SizesAt w' v 1 (fun _ => (99, 99, 99)) ∧ Below w.heap.size w w' := by
  go_enter Tryz.func68, Tryz.ntmps68
  go_wp2
  go_returns
  refine ⟨_, rfl, ⟨_, _, rfl, by decide, by decide, fun _ => ⟨w.heap.size, 0, rfl, by simp, fun i hi => ?_⟩⟩, by go_grown⟩
  obtain rfl : i = 0 := by omega
  simp

def lightB (b : Book) : Bool := decide (b.stays.length ≤ 20) && decide (b.jobs.length ≤ 12)

-- left out: this seat has not what it speaks of

end Bk
end Go.Proofs.YtaikbojdmfkbhaaGreatDoor
