/- Chapter 7: the walk of the statement 'TopPick' (E3), so far its closed fact; under way. -/
import Derived.Test.YtaikbojdmfkbhaaGreatDoorTopPickA
namespace Go.Proofs.YtaikbojdmfkbhaaGreatDoor
open Go.Shelf Go.Lib Go.ChangeShapes Go.WideShapes Go.ChangeAt Go.RowKit
set_option maxRecDepth 100000
set_option linter.unusedSimpArgs false
set_option linter.unusedVariables false

namespace Bk
/-- No book at all. -/
def noBook : Book := ⟨0, none, 0, none, 0, [], []⟩
theorem noBook_at (w : World) : noBook.At w := ⟨⟨Nat.le_refl _, Nat.zero_le _, fun h => absurd h (Nat.lt_irrefl _)⟩, ⟨Nat.le_refl _, Nat.zero_le _, fun h => absurd h (Nat.lt_irrefl _)⟩⟩
theorem pick_first : pickV (pickO noBook (fun _ => (99, 99, 99)) 0 0 0 1) = .tuple #[.agg #[.int .i64 1, .int .i64 0, .int .i64 1], .bool true] := by
  have : pickO noBook (fun _ => (99, 99, 99)) 0 0 0 1 = some (1, 0, 1) := by decide
  rw [this]
  rfl

theorem pick_none (v : Value) (w : World) (h : SizesAt w v 1 (fun _ => (99, 99, 99))) :
    Calls Tryz.prog 50 #[.agg #[.int .i64 0, .slice none 0 0, .slice none 0 0], v, .agg #[.int .i64 1, .int .i64 0, .int .i64 0, .int .i64 0]] w fun e w' => e = .returned (.tuple #[.agg #[.int .i64 1, .int .i64 0, .int .i64 1], .bool true]) ∧ Below w.heap.size w w' := by
  rw [← pick_first]
  exact pick_any noBook v 1 _ 1 0 0 0 w (noBook_at w) h (by omega) (by omega)

end Bk
end Go.Proofs.YtaikbojdmfkbhaaGreatDoor
