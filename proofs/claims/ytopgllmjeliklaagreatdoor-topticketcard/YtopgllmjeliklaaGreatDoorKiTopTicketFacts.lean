/- What the statement TopTicket's row says of the program (closed facts, limb by limb). -/
import Derived.Test.YtopgllmjeliklaaGreatDoorKiCardKit
namespace Go.Proofs.YtopgllmjeliklaaGreatDoor
open Go.ChangeShapes Go.WideShapes Go.ChangeAt Go.RowKit
set_option maxRecDepth 100000
namespace Hs
theorem topTicket_band {a b : Bool} (h : a = true) (k : b = true) : (a && b) = true := by rw [h, k]; rfl
set_option maxHeartbeats 40000000 in
theorem topTicket_facts : joinedFacts Tryz.pinned.checked.prog 7 Tryz.f7 (OpenSpec.ofChange Rows.topTicketSpec).bare Rows.topTicketRow = true := by
 unfold joinedFacts
 repeat' with_reducible apply topTicket_band
 all_goals (as_aux_lemma => kernel_rfl)
end Hs
end Go.Proofs.YtopgllmjeliklaaGreatDoor
