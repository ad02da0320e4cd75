/- HvD HvE. -/
import Derived.Test.YtopgllmjeliklaaGreatDoorKiHvC
set_option maxRecDepth 100000
set_option linter.unusedSimpArgs false
set_option linter.unusedVariables false
namespace Go.Proofs.YtopgllmjeliklaaGreatDoor
open Go.Shelf Go.Lib Go.ChangeShapes Go.WideShapes Go.ChangeAt Go.RowKit Go.Maps
namespace Hs
open Bk Lg Pl Dk Tx Tn Ac
def waitJ (b : PB) (ba : Int) (j : Job) : Bool := decide (0 ≤ findI b.book j.t) && (!j.f && b.stays[(findI b.book j.t).toNat]!.id == ba)
def waitsB (b : PB) (ba : Int) : Bool := b.jobs.any (waitJ b ba)
def preS (b : PB) (s : St) : St := if s.op = true then (if s.ba ≠ 0 ∧ waitsB b s.ba = false then leaveS (walkS (-9) s) else walkS (-9) s) else s
structure Settled (b : PB) (s : St) : Prop where
 pe : s.pe = 0
 ba : s.op = true → s.ba = 0 ∨ waitsB b s.ba = true
def It (m : Nat) (σ σ' : Sg) : Prop := ∃ ρ, TickR m σ ρ ∧ σ' = ⟨preS ρ.b ρ.s, ρ.b, ρ.gs⟩
def bay' (b : PB) (ba : Int) : Int := if waitsB b ba = true then ba else 0
def actW (k : Int) : ActC := { ActC.none with kind := ⟨#[119, 97, 108, 107]⟩, a := k }
def actL : ActC := { ActC.none with kind := ⟨#[108, 101, 97, 118, 101]⟩ }
inductive Wi (m : Nat) (P : Sg → Prop) : Nat → Sg → Prop
 | here (d : Nat) (σ : Sg) : P σ → Wi m P d σ
 | step (d : Nat) (σ : Sg) : (∀ σ', It m σ σ' → Wi m P d σ') → Wi m P (d + 1) σ
 | stall (d : Nat) (σ : Sg) : 0 < σ.s.st → (∀ σ', It m σ σ' → σ'.s.st + 1 = σ.s.st) → (∀ σ', It m σ σ' → Wi m P d σ') → Wi m P d σ
def ItN (m : Nat) : Nat → Sg → Sg → Prop
 | 0, σ, σ' => σ' = σ
 | n + 1, σ, σ' => ∃ τ, It m σ τ ∧ ItN m n τ σ'
end Hs
namespace Hs
open Bk Lg Pl Dk Tx Tn Ac
section
variable {m : Nat} {P : Sg → Prop} {b : PB}
end
end Hs
end Go.Proofs.YtopgllmjeliklaaGreatDoor
