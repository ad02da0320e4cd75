/- Chapter 7: what the statements about the desk ask besides; contracts for the laws. -/
import Derived.Test.YtihapeagjikiaaaPick
import Derived.Test.YtihapeagjikiaaaBookCheckB
namespace Go.Proofs.Ytihapeagjikiaaa
open Go.Shelf Go.Lib Go.ChangeShapes Go.WideShapes Go.ChangeAt Go.RowKit
set_option maxRecDepth 100000
set_option linter.unusedSimpArgs false
set_option linter.unusedVariables false

namespace Bk
set_option maxHeartbeats 1000000 in
theorem one_any (w : World) : Calls Try.prog 24 #[] w fun e w' => ∃ v, e = .returned v ∧ SizesAt w' v 1 (fun _ => (99, 99, 99)) ∧ Below w.heap.size w w' := by
  go_enter Try.func24, Try.ntmps24
  go_wp2
  go_returns
  refine ⟨_, rfl, ⟨_, _, rfl, by decide, by decide, fun _ => ⟨w.heap.size, 0, rfl, by simp, fun i hi => ?_⟩⟩, by go_grown⟩
  obtain rfl : i = 0 := by omega
  simp

def lightB (b : Book) : Bool := decide (b.stays.length ≤ 20) && decide (b.jobs.length ≤ 12)

set_option maxHeartbeats 1000000 in
theorem lightBook_any (b : Book) (w : World) (h : b.At w) : Calls Try.prog 11 #[b.val] w fun e w' => e = .returned (.bool (lightB b)) ∧ Below w.heap.size w w' := by
  have h1 := h.1.1; have h2 := h.1.2.1; have h3 := h.2.1; have h4 := h.2.2.1
  unfold maxLen at h2 h4
  have KL : Hid (lightB b = (decide (b.stays.length ≤ 20) && decide (b.jobs.length ≤ 12))) := rfl
  unfold Book.val
  by_cases l1 : b.stays.length ≤ 20
  · have l1z : (b.stays.length : Int) ≤ 20 := by omega
    have K2 : Hid (lightB b = decide ((b.jobs.length : Int) ≤ 12)) := by show _ = _; rw [KL.out]; simp only [l1, decide_true, Bool.true_and]; exact decide_eq_decide.2 (by omega)
    clear h
    go_enter Try.func11, Try.ntmps11
    go_wp2
    all_goals go_returns
    all_goals exact ⟨by rw [K2.out]; first | rfl | (simp [*]; done), by go_grown⟩
  · have l1z : ¬ (b.stays.length : Int) ≤ 20 := by omega
    have K2 : Hid (lightB b = false) := by show _ = _; rw [KL.out]; simp [l1]
    clear h
    go_enter Try.func11, Try.ntmps11
    go_wp2
    all_goals go_returns
    all_goals exact ⟨by rw [K2.out]; first | rfl | (simp [*]; done), by go_grown⟩

end Bk
end Go.Proofs.Ytihapeagjikiaaa
