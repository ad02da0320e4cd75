/- Chapter 7: the walk of the statement 'TopPick' (E3), so far its closed fact; under way. -/
import Derived.Test.YtkgicpialdhnhaaDoorTopPickA
namespace Go.Proofs.YtkgicpialdhnhaaDoor
open Go.Shelf Go.Lib Go.ChangeShapes Go.WideShapes Go.ChangeAt Go.RowKit
set_option maxRecDepth 100000
set_option linter.unusedSimpArgs false
set_option linter.unusedVariables false

namespace Bk
/-- No book at all. -/
def noBook : Book := ⟨0, none, 0, none, 0, [], []⟩
theorem noBook_at (w : World) : noBook.At w := ⟨⟨Nat.le_refl _, Nat.zero_le _, fun h => absurd h (Nat.lt_irrefl _)⟩, ⟨Nat.le_refl _, Nat.zero_le _, fun h => absurd h (Nat.lt_irrefl _)⟩⟩
theorem pick_first : pickV (pickO noBook (fun _ => (99, 99, 99)) 0 0 0 1) = .tuple #[.agg #[.int .i64 1, .int .i64 0, .int .i64 1], .bool true] := by
  have : pickO noBook (fun _ => (99, 99, 99)) 0 0 0 1 = some (1, 0, 1) := by decide
  rw [this]
  rfl

-- left out: this seat has not what it speaks of

end Bk
end Go.Proofs.YtkgicpialdhnhaaDoor
