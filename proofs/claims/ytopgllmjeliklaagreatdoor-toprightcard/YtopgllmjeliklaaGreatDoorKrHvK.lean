/- HvK. -/
import Derived.Test.YtopgllmjeliklaaGreatDoorKrHvH
set_option maxRecDepth 100000
set_option linter.unusedSimpArgs false
set_option linter.unusedVariables false
namespace Go.Proofs.YtopgllmjeliklaaGreatDoor
open Go.Shelf Go.Lib Go.ChangeShapes Go.WideShapes Go.ChangeAt Go.RowKit Go.Maps
namespace Hs
open Bk Lg Pl Dk Tx Tn Ac
structure NotIn (c : Int) (σ : Sg) : Prop where
 c1 : 1 ≤ c
 st : ∀ v ∈ σ.b.stays, v.id ≠ c
 pl : placedB (C σ.s) c = false
 li : σ.s.li ≠ c
 ba : σ.s.ba = c → ∀ g ∈ σ.gs, g.1 ≠ 7
def Not7 (c : Int) (s : St) (gs : List (Int × Int)) : Prop := placedB (C s) c = false ∧ s.li ≠ c ∧ (s.ba = c → ∀ g ∈ gs, g.1 ≠ 7)
def RightR (σ σ' : Sg) : Prop := ∀ v ∈ σ.b.stays, (v ∈ σ'.b.stays) ∨ ((∀ u ∈ σ'.b.stays, u.t ≠ v.t) ∧ placedB (C σ'.s) v.id = false ∧ σ'.s.li ≠ v.id)
def Fit (lv : List (Int × Int × Int)) (b : PB) : Prop := ∀ v ∈ b.stays, fitsB v.a v.b v.c (fOf lv (v.x - 1).toNat).1 (fOf lv (v.x - 1).toNat).2.1 (fOf lv (v.x - 1).toNat).2.2 = true
end Hs
end Go.Proofs.YtopgllmjeliklaaGreatDoor
