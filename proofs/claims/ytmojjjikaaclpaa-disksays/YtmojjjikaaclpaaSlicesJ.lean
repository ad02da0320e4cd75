/- The library's functions on lists that the program calls (Contains, IndexFunc, ContainsFunc at stays, jobs and places), by the shelf's contracts; contracts for the laws of stage 2. -/
import Derived.Test.YtmojjjikaaclpaaBook
import Derived.Shelf.SlicesQ.IndexFunc
import Derived.Shelf.SlicesQ.Contains
import Derived.Laws.StructEq
import Derived.Ground.SlgqProg
import Derived.Ground.SlgfProg
namespace Go.Proofs.Ytmojjjikaaclpaa
open Go.Shelf Go.Lib Go.ChangeShapes Go.WideShapes Go.ChangeAt Go.RowKit
set_option maxRecDepth 100000
set_option linter.unusedSimpArgs false
set_option linter.unusedVariables false

-- left out: this seat has not what it speaks of

-- left out: this seat has not what it speaks of

-- left out: this seat has not what it speaks of

namespace Bk
def encP (p : Int × Int × Int) : List Value := [.int .i64 p.1, .int .i64 p.2.1, .int .i64 p.2.2]

theorem eqJob : EqlAt Try.prog 104 (fun x : Job => .agg x.enc.toArray) (fun x y => x.t == y.t && x.f == y.f) := by
  refine ⟨fun x y w => ?_, GuardAt.agg _ (by kernel_rfl)⟩
  have u3 := Try.underlying3
  have a3 := Try.isAgg3
  have z3 := Try.sizeOf3
  have u4 := Try.underlying4
  have a4 := Try.isAgg4
  have z4 := Try.sizeOf4
  have hS : Try.prog.underlying 104 = some (.struct (Try.prog.fieldsOf 104)) := by kernel_rfl
  have hp : Try.prog.stoodInHeld 104 = false := by kernel_rfl
  simp only [Job.enc]
  rw [run_eql_struct, show (10000 : Nat) = 9999 + 1 from rfl, run_equalIn_agg w 9999 104 _ _ hS hp]
  simp only [Program.fieldsOf, Try.underlying104]
  go_simp
  by_cases h1 : x.t = y.t <;> by_cases h2 : x.f = y.f <;> simp [h1, h2]

theorem eqPlace : EqlAt Try.prog 100 (fun x : Int × Int × Int => .agg (encP x).toArray) (fun x y => x.1 == y.1 && x.2.1 == y.2.1 && x.2.2 == y.2.2) := by
  refine ⟨fun x y w => ?_, GuardAt.agg _ (by kernel_rfl)⟩
  have u3 := Try.underlying3
  have a3 := Try.isAgg3
  have z3 := Try.sizeOf3
  have hS : Try.prog.underlying 100 = some (.struct (Try.prog.fieldsOf 100)) := by kernel_rfl
  have hp : Try.prog.stoodInHeld 100 = false := by kernel_rfl
  simp only [encP]
  rw [run_eql_struct, show (10000 : Nat) = 9999 + 1 from rfl, run_equalIn_agg w 9999 100 _ _ hS hp]
  simp only [Program.fieldsOf, Try.underlying100]
  go_simp
  by_cases h1 : x.1 = y.1 <;> by_cases h2 : x.2.1 = y.2.1 <;> by_cases h3 : x.2.2 = y.2.2 <;> simp [h1, h2, h3]

/-- Is a job in the list? -/
def hasJob (l : List Job) (j : Job) : Bool := l.any fun y => j.t == y.t && j.f == y.f

def jobIdx (l : List Job) (j : Job) : Int := Lib.idxBy (fun x y : Job => x.t == y.t && x.f == y.f) (l.take l.length) j

-- left out: this seat has not what it speaks of

-- left out: this seat has not what it speaks of

-- left out: this seat has not what it speaks of

-- left out: this seat has not what it speaks of

theorem RowsAt.take {α : Type} [Inhabited α] {W : World} {a : Option Addr} {cap k : Nat} {enc : α → List Value} {zs : List α} (h : RowsAt W a cap k enc zs) (n : Nat) (hn : n ≤ zs.length) : RowsAt W a cap k enc (zs.take n) := by
  obtain ⟨hl, hm, hc⟩ := h
  refine ⟨by simp; omega, hm, fun h0 => ?_⟩
  simp only [List.length_take] at h0 ⊢
  obtain ⟨b, off, ha, hb, hcell⟩ := hc (by omega)
  refine ⟨b, off, ha, hb, fun j hj i v hv => hcell j (by omega) i v ?_⟩
  have e : (zs.take n)[j]! = zs[j]! := by
    rw [getElem!_pos _ _ (by simp; omega), getElem!_pos _ _ (by omega), List.getElem_take]
  rw [e] at hv
  exact hv

/-- The first stay of which p holds; below 0: there is none. -/
def stayIdx (p : Stay → Bool) (l : List Stay) : Int := Lib.idxBy (fun _ y => p y) l default
theorem stayIdx_nonneg (p : Stay → Bool) (l : List Stay) : decide (0 ≤ stayIdx p l) = l.any p := Lib.idxBy_nonneg_iff (fun _ y => p y) l default
theorem stayIdx_nil (p : Stay → Bool) : stayIdx p [] = -1 := by unfold stayIdx; exact Lib.idxBy_miss (fun _ y => p y) [] 0 default (fun j hj => absurd hj (Nat.not_lt_zero _))

-- left out: this seat has not what it speaks of

-- left out: this seat has not what it speaks of

-- left out: this seat has not what it speaks of

/-- Is a place in the list? -/
def hasPlace (l : List (Int × Int × Int)) (p : Int × Int × Int) : Bool := l.any fun y => p.1 == y.1 && p.2.1 == y.2.1 && p.2.2 == y.2.2

-- left out: this seat has not what it speaks of

end Bk
end Go.Proofs.Ytmojjjikaaclpaa
