/- The document's machine: what is seen (B2); contract for PlantSays. -/
import Derived.Test.YtihapeagjikiaaaJRefPlantB
namespace Go.Proofs.Ytihapeagjikiaaa
open Go.ChangeShapes Go.WideShapes Go.ChangeAt Go.RowKit Go.Maps
set_option maxRecDepth 100000
set_option linter.unusedSimpArgs false
set_option linter.unusedVariables false

namespace Pl
open Ac
/-- Block b has these cells. -/
def Blk (w : World) (b : Nat) (arr : Array Value) (t : TypeId) : Prop := w.heap[b]? = some (.cells arr t (0, 0))
theorem Blk.lt {w : World} {b : Nat} {arr : Array Value} {t : TypeId} (h : Blk w b arr t) : b < w.heap.size := (Array.getElem?_eq_some_iff.1 h).1
theorem Blk.cell {w : World} {b : Nat} {arr : Array Value} {t : TypeId} (h : Blk w b arr t) (o : Nat) : w.cell? ⟨b, o, none⟩ = arr[o]? := by simp [World.cell?, (show w.heap[b]? = _ from h)]
theorem Blk.free {w : World} {b : Nat} {arr : Array Value} {t : TypeId} (h : Blk w b arr t) (o : Nat) : w.frozen? ⟨b, o, none⟩ = false := by simp [World.frozen?, (show w.heap[b]? = _ from h)]
theorem Blk.below {w w' : World} {b : Nat} {arr : Array Value} {t : TypeId} (h : Blk w b arr t) (hb : Below w.heap.size w w') : Blk w' b arr t := (hb.block b h.lt).trans h
theorem Blk.set {w : World} {b : Nat} {arr : Array Value} {t : TypeId} (h : Blk w b arr t) (o : Nat) (v : Value) : Blk (w.setCell ⟨b, o, none⟩ v) b (arr.setIfInBounds o v) t := by
  have := (show w.heap[b]? = _ from h)
  show (w.setCell ⟨b, o, none⟩ v).heap[b]? = _
  simp [World.setCell, Array.getElem?_modify, this]
theorem Blk.other {w : World} {b c : Nat} {arr : Array Value} {t : TypeId} (h : Blk w b arr t) (hc : c ≠ b) (o : Nat) (v : Value) : Blk (w.setCell ⟨c, o, none⟩ v) b arr t := by
  have := (show w.heap[b]? = _ from h)
  show (w.setCell ⟨c, o, none⟩ v).heap[b]? = _
  simp [World.setCell, Array.getElem?_modify, this, hc]
theorem Blk.new (w : World) (arr : Array Value) (t : TypeId) : Blk (w.alloc (.cells arr t (0, 0))) w.heap.size arr t := by
  show (w.heap.push _)[w.heap.size]? = _
  exact Array.getElem?_push_size
theorem size_setCell (w : World) (a : Addr) (v : Value) : (w.setCell a v).heap.size = w.heap.size := by
  simp [World.setCell]

-- left out: this seat has not what it speaks of

end Pl
end Go.Proofs.Ytihapeagjikiaaa
