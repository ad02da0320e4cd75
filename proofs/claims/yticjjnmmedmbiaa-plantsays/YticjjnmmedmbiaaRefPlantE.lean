/- The document's machine: a new one; what is seen (B1, B2); contracts for PlantSays. -/
import Derived.Test.YticjjnmmedmbiaaRefPlantD
namespace Go.Proofs.Yticjjnmmedmbiaa
open Go.ChangeShapes Go.WideShapes Go.ChangeAt Go.RowKit Go.Maps
set_option maxRecDepth 100000
set_option linter.unusedSimpArgs false
set_option linter.unusedVariables false

namespace Pl
open Ac
theorem slot_new (lv : Int) (m : Nat) : slotN (newS lv) m = 0 := by
  unfold slotN
  split
  · rfl
  · exact carOf_of rfl

set_option maxHeartbeats 1000000 in
theorem rnew_any (lv : Int) (w : World) (h1 : 1 ≤ lv) (h4 : lv ≤ 4) :
    Calls Try.prog 37 #[.int .i64 lv] w fun e w' => e = .returned (.tuple #[.pointer (some ⟨w.heap.size, 0, none⟩), .int .i64 0]) ∧ IsR w' w.heap.size (newS lv) ∧ Below w.heap.size w w' := by
  have HR : Hid (rarr (newS lv) = #[.int .i64 lv, .int .i64 0, .int .i64 0, .bool true, .int .i64 0, .int .i64 0, .int .i64 0, .int .i64 0, .int .i64 0, .int .i64 0, .int .i64 0, .int .i64 0, .int .i64 0, .int .i64 0, .int .i64 0, .int .i64 0, .int .i64 0, .int .i64 0, .int .i64 0, .int .i64 0, .int .i64 0, .int .i64 0, .int .i64 0, .int .i64 0, .int .i64 0, .int .i64 0, .int .i64 0, .int .i64 0, .bool false]) := by
    show _ = _
    simp only [rarr, slot_new]
    rfl
  go_enter Try.func37, Try.ntmps37
  go_wp2
  all_goals first
    | (exfalso; go_light; omega)
    | skip
  go_returns
  refine ⟨rfl, ?_, by go_grown⟩
  show _ = _
  rw [HR.out]
  exact (MapKept.heap_alloc _ _).1

set_option maxHeartbeats 1000000 in
theorem rnew_bad (lv : Int) (w : World) (h : ¬(1 ≤ lv ∧ lv ≤ 4)) :
    Calls Try.prog 37 #[.int .i64 lv] w fun e w' => e = .returned (.tuple #[.pointer none, .int .i64 1]) ∧ w' = w := by
  have HK : Hid (¬(1 ≤ lv ∧ lv ≤ 4)) := h
  clear h
  go_enter Try.func37, Try.ntmps37
  go_wp2
  all_goals first
    | (exfalso; go_light; have := HK.out; omega)
    | (go_returns; exact ⟨rfl, rfl⟩)

end Pl
end Go.Proofs.Yticjjnmmedmbiaa
