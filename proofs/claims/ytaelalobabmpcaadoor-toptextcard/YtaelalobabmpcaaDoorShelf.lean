/- The library's functions on the road of texts, by their contracts of the shelf. -/
import Derived.Test.YtaelalobabmpcaaDoorChecked
import Derived.Shelf.Lay
import Derived.Shelf.Strconv.Itoa3
import Derived.Shelf.Strconv.AtoiAll
import Derived.Shelf.Strings.OnBuilder
import Derived.Shelf.Strings.SplitShaped
import Derived.Ground.NamesProg
namespace Go.Proofs.YtaelalobabmpcaaDoor
open Go.Shelf

shelf_lay LaysM.n171 Nm 171 at Tryd as Tryd.lItoa

shelf_lay LaysC.n172 Nm 172 at Tryd as Tryd.lAtoi

shelf_lay Lays.n156 Nm 156 at Tryd as Tryd.lJoin

shelf_lay LaysM.n147 Nm 147 at Tryd as Tryd.lSplitN

end Go.Proofs.YtaelalobabmpcaaDoor
