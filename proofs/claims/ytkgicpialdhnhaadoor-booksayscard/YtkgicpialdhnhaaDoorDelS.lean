/- slices.DeleteFunc at stays of the call's own: what is kept, in its order; contract for the laws of stage 2. -/
import Derived.Test.YtkgicpialdhnhaaDoorDel
import Derived.Shelf.SlicesE.DeleteFunc
namespace Go.Proofs.YtkgicpialdhnhaaDoor
open Go.Shelf Go.Lib Go.ChangeShapes Go.WideShapes Go.ChangeAt Go.RowKit
set_option maxRecDepth 100000
set_option linter.unusedSimpArgs false
set_option linter.unusedVariables false

namespace Bk

theorem zeroS_run (w : World) : (zeroValue 47).run Tryd.prog w = .ok (.agg #[.int .i64 0, .int .i64 0, .int .i64 0, .int .i64 0, .int .i64 0, .int .i64 0, .int .i64 0, .int .i64 0]) w := by kernel_rfl
theorem zeroCellsS (n : Nat) : ((Builtin.zeroCells (Value.agg #[.int .i64 0, .int .i64 0, .int .i64 0, .int .i64 0, .int .i64 0, .int .i64 0, .int .i64 0, .int .i64 0]).cells n).toList).length = n * 8 ∧ ∀ v ∈ (Builtin.zeroCells (Value.agg #[.int .i64 0, .int .i64 0, .int .i64 0, .int .i64 0, .int .i64 0, .int .i64 0, .int .i64 0, .int .i64 0]).cells n).toList, v.oneCell' = true := by
  refine ⟨by simp [Builtin.zeroCells, Value.cells, Nat.mul_comm], fun v hv => ?_⟩
  simp only [Builtin.zeroCells, Value.cells] at hv
  simp at hv
  obtain ⟨i, hi, rfl⟩ := hv
  have h : i % 8 < 8 := Nat.mod_lt _ (by decide)
  generalize i % 8 = m at h
  have hm : m = 0 ∨ m = 1 ∨ m = 2 ∨ m = 3 ∨ m = 4 ∨ m = 5 ∨ m = 6 ∨ m = 7 := by omega
  rcases hm with rfl | rfl | rfl | rfl | rfl | rfl | rfl | rfl <;> rfl

-- left out: this seat has not what it speaks of

end Bk
end Go.Proofs.YtkgicpialdhnhaaDoor
