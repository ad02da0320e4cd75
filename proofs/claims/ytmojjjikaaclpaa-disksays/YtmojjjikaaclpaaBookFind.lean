/- Chapter 6: whose stay is where (E1); contracts for the laws. -/
import Derived.Test.YtmojjjikaaclpaaSlicesJ
import Derived.Test.YtmojjjikaaclpaaQuiet
namespace Go.Proofs.Ytmojjjikaaclpaa
open Go.Shelf Go.Lib Go.ChangeShapes Go.WideShapes Go.ChangeAt Go.RowKit
set_option maxRecDepth 100000
set_option linter.unusedSimpArgs false
set_option linter.unusedVariables false

namespace Bk
-- left out: this seat has not what it speaks of

theorem makeFunc_run (fn : Fn) (first cap : Array Value) (w : World) : (Instr.makeFunc fn first cap).run Try.prog w = .ok (.func fn first cap) w := rfl

-- left out: this seat has not what it speaks of

-- left out: this seat has not what it speaks of

/-- Which stay has the ticket; whose car it is. -/
def findI (b : Book) (k : Int) : Int := stayIdx (fun s => s.t == k) b.stays
def ofI (b : Book) (k : Int) : Int := stayIdx (fun s => s.id == k) b.stays

-- left out: this seat has not what it speaks of

-- left out: this seat has not what it speaks of

end Bk
end Go.Proofs.Ytmojjjikaaclpaa
