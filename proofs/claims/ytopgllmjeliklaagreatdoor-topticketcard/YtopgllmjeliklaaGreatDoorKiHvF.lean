/- HvF HvG. -/
import Derived.Test.YtopgllmjeliklaaGreatDoorKiHvD
set_option maxRecDepth 100000
set_option linter.unusedSimpArgs false
set_option linter.unusedVariables false
namespace Go.Proofs.YtopgllmjeliklaaGreatDoor
open Go.Shelf Go.Lib Go.ChangeShapes Go.WideShapes Go.ChangeAt Go.RowKit Go.Maps
namespace Hs
open Bk Lg Pl Dk Tx Tn Ac
def placedB (C : Int → Int → Int → Int) (id : Int) : Bool := spots.any fun p => C p.1 p.2.1 p.2.2 == id
def fph (m : Int) (v : Stay) (ss : List Stay) (li ba : Int) (op : Bool) (C : Int → Int → Int → Int) : Nat :=
 if placedB C v.id = true then
  (if li ≠ 0 then (if (ss.any fun x => x.id == li && v.z == 1 && x.x == v.x && x.y == v.y && x.z == 0) = true then (if ba ≠ 0 then 9 else 5) else 10)
  else if ba ≠ 0 then 8 else if op = true then 7 else if C v.x v.y 0 ≠ 0 then 6 else 4)
 else if li = v.id then 3 else if C m 1 0 ≠ 0 then 2 else if li ≠ 0 then 1 else 0
def phase (m : Int) (b : PB) (li ba : Int) (op : Bool) (C : Int → Int → Int → Int) : Nat :=
 if ba ≠ 0 ∧ waitsB b ba = true then 11 + (if li ≠ 0 then 1 else 0) + (if C m 1 0 ≠ 0 then 2 else 0)
 else match b.jobs.head? with
 | none => if li ≠ 0 then 2 else if op = true then 0 else 1
 | some j => if j.f = false then (if li ≠ 0 then 1 else 0) else fph m (StayOfJob b.book j.t) b.stays li ba op C
def rank (m : Int) (σ : Sg) : Nat := 9 * σ.b.jobs.length + phase m σ.b σ.s.li σ.s.ba σ.s.op (C σ.s)
section
variable {m li ba : Int} {b : PB} {op : Bool} {C : Int → Int → Int → Int}
end
structure Fin (σ : Sg) : Prop where
 op : σ.s.op = true
 ba : σ.s.ba = 0
 li : σ.s.li = 0
 js : σ.b.jobs = []
 gs : σ.gs = []
section
variable {m : Nat} {b : PB} {s : St}
def Near (m : Nat) (b : PB) (s : St) (τ : Sg) : Prop := τ.gs = [] ∧ rank m τ < rank m ⟨s, b, []⟩
end
end Hs
namespace Hs
open Bk Lg Pl Dk Tx Tn Ac
section
variable {m : Nat} {b : PB} {s : St}
end
end Hs
end Go.Proofs.YtopgllmjeliklaaGreatDoor
