/- Chapter 7: what the statements about the desk ask besides; contracts for the laws. -/
import Derived.Test.YtkgicpialdhnhaaDoorPick
import Derived.Test.YtkgicpialdhnhaaDoorBookCheckB
namespace Go.Proofs.YtkgicpialdhnhaaDoor
open Go.Shelf Go.Lib Go.ChangeShapes Go.WideShapes Go.ChangeAt Go.RowKit
set_option maxRecDepth 100000
set_option linter.unusedSimpArgs false
set_option linter.unusedVariables false

namespace Bk
-- left out: this seat has not what it speaks of

def lightB (b : Book) : Bool := decide (b.stays.length ≤ 20) && decide (b.jobs.length ≤ 12)

set_option maxHeartbeats 1000000 in
theorem lightBook_any (b : Book) (w : World) (h : b.At w) : Calls Tryd.prog 5 #[b.val] w fun e w' => e = .returned (.bool (lightB b)) ∧ Below w.heap.size w w' := by
  have h1 := h.1.1; have h2 := h.1.2.1; have h3 := h.2.1; have h4 := h.2.2.1
  unfold maxLen at h2 h4
  have KL : Hid (lightB b = (decide (b.stays.length ≤ 20) && decide (b.jobs.length ≤ 12))) := rfl
  unfold Book.val
  by_cases l1 : b.stays.length ≤ 20
  · have l1z : (b.stays.length : Int) ≤ 20 := by omega
    have K2 : Hid (lightB b = decide ((b.jobs.length : Int) ≤ 12)) := by show _ = _; rw [KL.out]; simp only [l1, decide_true, Bool.true_and]; exact decide_eq_decide.2 (by omega)
    clear h
    go_enter Tryd.func5, Tryd.ntmps5
    go_wp2
    all_goals go_returns
    all_goals exact ⟨by rw [K2.out]; first | rfl | (simp [*]; done), by go_grown⟩
  · have l1z : ¬ (b.stays.length : Int) ≤ 20 := by omega
    have K2 : Hid (lightB b = false) := by show _ = _; rw [KL.out]; simp [l1]
    clear h
    go_enter Tryd.func5, Tryd.ntmps5
    go_wp2
    all_goals go_returns
    all_goals exact ⟨by rw [K2.out]; first | rfl | (simp [*]; done), by go_grown⟩

end Bk
end Go.Proofs.YtkgicpialdhnhaaDoor
