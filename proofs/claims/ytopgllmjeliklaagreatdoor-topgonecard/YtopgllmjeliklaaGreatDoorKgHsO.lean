/- HsO. -/
import Derived.Test.YtopgllmjeliklaaGreatDoorKgHvN
set_option maxRecDepth 100000
set_option linter.unusedSimpArgs false
set_option linter.unusedVariables false
namespace Go.Proofs.YtopgllmjeliklaaGreatDoor
open Go.Shelf Go.Lib Go.ChangeShapes Go.WideShapes Go.ChangeAt Go.RowKit Go.Maps
namespace Hs
open Bk Lg Pl Dk Tx Tn Ac
structure HGone (w wx : World) (pb mb db sb hb : Nat) (lv : List (Int × Int × Int)) (σ : Sg) (n : Nat) (v : Value) (l : List Int) : Prop where
 x : HX wx w.heap.size pb mb db sb hb lv σ n
 b : Below w.heap.size w wx
 row : wx.ownsRow w.heap.size 3 1 v l.length (ints l)
 g : Gone σ.s l
section
variable {w wx w2 : World} {pb mb db sb hb n : Nat} {lv : List (Int × Int × Int)} {σ : Sg} {v : Value} {l : List Int}
end
structure HR (w wx : World) (base pb mb db sb hb : Nat) (lv : List (Int × Int × Int)) (σ : Sg) (n : Nat) (v v4 : Value) (L F : List Int) : Prop where
 row : wx.ownsRow base 3 1 v F.length (ints F)
 x : HX wx w.heap.size pb mb db sb hb lv σ n
 at4 : ∃ (ad : Option Addr) (cap : Nat), v4 = .slice ad L.length cap ∧ L.length ≤ cap ∧ cap ≤ maxLen ∧ (0 < L.length → ∃ b off, ad = some ⟨b, off, none⟩ ∧ b < base ∧ ∀ i, i < L.length → wx.cell? ⟨b, off + i, none⟩ = some (.int .i64 (L.getD i 0)))
 below : Below w.heap.size w wx
 base1 : base ≤ wx.heap.size
 base2 : w.heap.size ≤ base
section
variable {w wx w3 : World} {base pb mb db sb hb n : Nat} {lv : List (Int × Int × Int)} {σ : Sg} {v v' v4 : Value} {L F : List Int} {x : Int}
end
end Hs
end Go.Proofs.YtopgllmjeliklaaGreatDoor
