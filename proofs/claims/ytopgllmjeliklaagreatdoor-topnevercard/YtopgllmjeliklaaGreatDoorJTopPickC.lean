/- Chapter 7: the walk of the statement 'TopPick' (E3): the place that is given is the first one that is free. -/
import Derived.Test.YtopgllmjeliklaaGreatDoorJPlantM
namespace Go.Proofs.YtopgllmjeliklaaGreatDoor
open Go.Shelf Go.Lib Go.ChangeShapes Go.WideShapes Go.ChangeAt Go.RowKit
set_option maxRecDepth 100000
set_option linter.unusedSimpArgs false
set_option linter.unusedVariables false

namespace Bk
/-- What the loops of the statement hold. -/
structure TPI (w wr : World) (bk car : Array Value) (pb : Nat) (pv : Array Value) (g m : Nat) (fP : Nat → Int × Int × Int) : Prop where
  below : Below w.heap.size w wr
  b0 : Blk wr w.heap.size bk 39
  b1 : Blk wr (w.heap.size + 1) car 34
  b2 : Blk wr pb pv 65
  pl : PlacesAt wr g m fP
theorem TPI.next {w wr wx : World} {bk car : Array Value} {pb : Nat} {pv : Array Value} {g m : Nat} {fP : Nat → Int × Int × Int} (h : TPI w wr bk car pb pv g m fP) (hb : Below wr.heap.size wr wx) : TPI w wx bk car pb pv g m fP :=
  ⟨B.next h.below hb h.below.size, h.b0.below hb, h.b1.below hb, h.b2.below hb, h.pl.below hb⟩

theorem RowsAt.cellAt {α : Type} [Inhabited α] {W : World} {b off cap k : Nat} {enc : α → List Value} {zs : List α} (h : RowsAt W (some ⟨b, off, none⟩) cap k enc zs) (j : Nat) (hj : j < zs.length) (i : Nat) (v : Value) (hv : (enc zs[j]!)[i]? = some v) : W.cell? ⟨b, off + j * k + i, none⟩ = some v := by
  obtain ⟨_, _, hc⟩ := h
  obtain ⟨b', off', e, _, hcell⟩ := hc (by omega)
  cases e
  exact hcell j hj i v hv
theorem RowsAt.isSome {α : Type} [Inhabited α] {W : World} {a : Option Addr} {cap k : Nat} {enc : α → List Value} {zs : List α} (h : RowsAt W a cap k enc zs) (h0 : 0 < zs.length) : ∃ b off, a = some ⟨b, off, none⟩ := by
  obtain ⟨b, off, e, _⟩ := h.2.2 h0
  exact ⟨b, off, e⟩
/-- What Pick told, cell by cell. -/
def pickP (o : Option (Int × Int × Int)) : Int × Int × Int := o.getD (0, 0, 0)
theorem pickV_eq (o : Option (Int × Int × Int)) : pickV o = .tuple #[.agg #[.int .i64 (pickP o).1, .int .i64 (pickP o).2.1, .int .i64 (pickP o).2.2], .bool o.isSome] := by cases o <;> rfl

-- left out: this seat has not what it speaks of

end Bk
end Go.Proofs.YtopgllmjeliklaaGreatDoor
