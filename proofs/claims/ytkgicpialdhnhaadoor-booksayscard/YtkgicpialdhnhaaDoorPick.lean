/- Chapter 7: which place is given (E3); contracts for the laws. -/
import Derived.Test.YtkgicpialdhnhaaDoorDesk
import Derived.Test.YtkgicpialdhnhaaDoorTopPlaces
namespace Go.Proofs.YtkgicpialdhnhaaDoor
open Go.Shelf Go.Lib Go.ChangeShapes Go.WideShapes Go.ChangeAt Go.RowKit
set_option maxRecDepth 100000
set_option linter.unusedSimpArgs false
set_option linter.unusedVariables false

namespace Bk
/-- A place that may be given. -/
def okP (b : Book) (f : Nat → Int × Int × Int) (ca cb cc : Int) (p : Int × Int × Int) : Bool :=
  fitsB ca cb cc (f (p.1 - 1).toNat).1 (f (p.1 - 1).toNat).2.1 (f (p.1 - 1).toNat).2.2 && !barredB p.1 p.2.1 p.2.2 b
def pickO (b : Book) (f : Nat → Int × Int × Int) (ca cb cc : Int) (n : Nat) : Option (Int × Int × Int) := (placesTo n (2 * n)).find? (okP b f ca cb cc)
def pickV : Option (Int × Int × Int) → Value
  | none => .tuple #[.agg #[.int .i64 0, .int .i64 0, .int .i64 0], .bool false]
  | some p => .tuple #[.agg #[.int .i64 p.1, .int .i64 p.2.1, .int .i64 p.2.2], .bool true]

theorem find_hit {α : Type} (p : α → Bool) (d : α) : ∀ (l : List α) (k : Nat), k < l.length → p (l.getD k d) = true → (∀ j, j < k → p (l.getD j d) = false) → l.find? p = some (l.getD k d)
  | [], k, h, _, _ => absurd h (Nat.not_lt_zero _)
  | a :: l, 0, _, h, _ => by
    have h' : p a = true := h
    simp [List.find?, h']
  | a :: l, k + 1, hk, h, hn => by
    have h' : p a = false := hn 0 (Nat.succ_pos _)
    have := find_hit p d l k (by simpa using hk) (by simpa using h) (fun j hj => by simpa using hn (j + 1) (by omega))
    simp only [List.find?, h']
    rw [this]
    simp
theorem find_miss {α : Type} (p : α → Bool) (d : α) : ∀ (l : List α), (∀ j, j < l.length → p (l.getD j d) = false) → l.find? p = none
  | [], _ => rfl
  | a :: l, hn => by
    have h' : p a = false := hn 0 (Nat.succ_pos _)
    have := find_miss p d l (fun j hj => by simpa using hn (j + 1) (by simpa using hj))
    simp only [List.find?, h']
    exact this

/-- What the loop of Pick holds. -/
structure PickI (w wr : World) (bk car : Array Value) (g m : Nat) (fP : Nat → Int × Int × Int) : Prop where
  below : Below w.heap.size w wr
  b0 : Blk wr w.heap.size bk 25
  b1 : Blk wr (w.heap.size + 1) car 43
  b2 : Blk wr (w.heap.size + 1 + 1) #[.int .i64 0, .int .i64 0, .int .i64 0] 45
  pl : PlacesAt wr g m fP
theorem PickI.next {w wr wx : World} {bk car : Array Value} {g m : Nat} {fP : Nat → Int × Int × Int} (h : PickI w wr bk car g m fP) (hb : Below wr.heap.size wr wx) : PickI w wx bk car g m fP :=
  ⟨B.next h.below hb h.below.size, h.b0.below hb, h.b1.below hb, h.b2.below hb, h.pl.below hb⟩

-- left out: this seat has not what it speaks of

end Bk
end Go.Proofs.YtkgicpialdhnhaaDoor
