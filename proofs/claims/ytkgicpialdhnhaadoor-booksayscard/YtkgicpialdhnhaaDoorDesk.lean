/- Chapter 7: which places are barred (E3); contracts for the laws. -/
import Derived.Test.YtkgicpialdhnhaaDoorSlicesJ
import Derived.Test.YtkgicpialdhnhaaDoorLevels
import Derived.Test.YtkgicpialdhnhaaDoorPlaces
import Derived.Test.YtkgicpialdhnhaaDoorQuiet
namespace Go.Proofs.YtkgicpialdhnhaaDoor
open Go.Shelf Go.Lib Go.ChangeShapes Go.WideShapes Go.ChangeAt Go.RowKit
set_option maxRecDepth 100000
set_option linter.unusedSimpArgs false
set_option linter.unusedVariables false

namespace Bk
/-- The places' equality. -/
def eqP (a b c x y z : Int) : Bool := a == x && b == y && c == z
theorem eqP_run (a b c x y z : Int) (w : World) : Sem.run Tryd.prog (binOp .eql 45 (.agg #[.int .i64 a, .int .i64 b, .int .i64 c]) (.agg #[.int .i64 x, .int .i64 y, .int .i64 z])) w = .ok (.bool (eqP a b c x y z)) w := eqPlace.1 (a, b, c) (x, y, z) w
theorem eqP_guard (a b c x y z : Int) (op : BinOp) (u v : Operand) (w : World) : Sem.run Tryd.prog (eqGuard op 45 u v (.agg #[.int .i64 a, .int .i64 b, .int .i64 c]) (.agg #[.int .i64 x, .int .i64 y, .int .i64 z])) w = .ok () w := eqPlace.2 op u v (a, b, c) (x, y, z) w

/-- A stay bars a place. -/
def barP (px py pz : Int) (jobs : List Job) (s : Stay) : Bool :=
  eqP s.x s.y s.z px py pz || eqP s.x s.y s.z px py 0 || (eqP s.x s.y 0 px py pz && hasJob jobs ⟨s.t, false⟩)

-- left out: this seat has not what it speaks of

/-- Is a place barred? -/
def barredB (px py pz : Int) (b : Book) : Bool := b.stays.any (barP px py pz b.jobs)

-- left out: this seat has not what it speaks of

end Bk
end Go.Proofs.YtkgicpialdhnhaaDoor
