/- Chapter 6: may a book be (E1); contracts for the laws. -/
import Derived.Test.YticjjnmmedmbiacJBookFind
import Derived.Test.YticjjnmmedmbiacJDesk
import Derived.Test.YticjjnmmedmbiacJTopPlaces
namespace Go.Proofs.Yticjjnmmedmbiac
open Go.Shelf Go.Lib Go.ChangeShapes Go.WideShapes Go.ChangeAt Go.RowKit
set_option maxRecDepth 100000
set_option linter.unusedSimpArgs false
set_option linter.unusedVariables false

namespace Bk
/-- Two stays that may not be together. -/
def clash (s a : Stay) : Bool := eqP a.x a.y a.z s.x s.y s.z || a.id == s.id
/-- What is wrong with a stay, behind those ahead of it. -/
def stayN (last : Int) (n : Nat) (ahead : List Stay) (s : Stay) : Int :=
  if carN s.id s.a s.b s.c ≠ 0 then 1 else if placeB s.x s.y s.z n = false then 1 else if decide (1 ≤ s.t ∧ s.t ≤ last) = false then 1 else
  if hasPlace (placesTo n (2 * n)) (s.x, s.y, s.z) = false then 3 else if 0 < ahead.length ∧ s.t ≤ (ahead.getD (ahead.length - 1) default).t then 3 else
  if ahead.any (clash s) = true then 3 else 0

-- left out: this seat has not what it speaks of

theorem stayN_eq {last : Int} {n : Nat} {ahead : List Stay} {s : Stay} (h1 : carN s.id s.a s.b s.c = 0) (h2 : placeB s.x s.y s.z n = true) (h3 : decide (1 ≤ s.t ∧ s.t ≤ last) = true) :
    stayN last n ahead s = if hasPlace (placesTo n (2 * n)) (s.x, s.y, s.z) = false then 3 else if 0 < ahead.length ∧ s.t ≤ (ahead.getD (ahead.length - 1) default).t then 3 else if ahead.any (clash s) = true then 3 else 0 := by
  unfold stayN
  rw [if_neg (by rw [h1]; simp), if_neg (by rw [h2]; simp), if_neg (by rw [h3]; simp)]

/-- What checkStay holds from its first row on. -/
structure CS (w wx : World) (sb off sl sc : Nat) (ja : Option Addr) (jl jc : Nat) (last : Int) (s : Stay) : Prop where
  below : Below w.heap.size w wx
  b0 : Blk wx w.heap.size #[.int .i64 last, .slice (some ⟨sb, off, none⟩) sl sc, .slice ja jl jc] 40
  b1 : Blk wx (w.heap.size + 1) #[.int .i64 s.t, .int .i64 s.id, .int .i64 s.a, .int .i64 s.b, .int .i64 s.c, .int .i64 s.x, .int .i64 s.y, .int .i64 s.z] 89
theorem CS.next {w wx wy : World} {sb off sl sc : Nat} {ja : Option Addr} {jl jc : Nat} {last : Int} {s : Stay} (h : CS w wx sb off sl sc ja jl jc last s) (hb : Below wx.heap.size wx wy) : CS w wy sb off sl sc ja jl jc last s :=
  ⟨B.next h.below hb h.below.size, h.b0.below hb, h.b1.below hb⟩

theorem _root_.Go.Proofs.Yticjjnmmedmbiac.PlacesAt.rows {w : World} {g : Nat} {l : List (Int × Int × Int)} (h : PlacesAt w g l.length (fun k => l.getD k (0, 0, 0))) : ∀ j, j < l.length → ∀ i v, (encP l[j]!)[i]? = some v → w.cell? ⟨g, 0 + j * 3 + i, none⟩ = some v := by
  intro j hj i v hv
  obtain ⟨c0, c1, c2⟩ := h.2 j hj
  have e : l.getD j (0, 0, 0) = l[j]! := by rw [getElem!_pos l j hj]; simp [List.getD, hj]
  simp only [e] at c0 c1 c2
  rw [Nat.zero_add]
  match i, hv with
  | 0, hv => simp only [encP, List.getElem?_cons_zero, Option.some.injEq] at hv; rw [← hv]; exact c0
  | 1, hv => simp only [encP, List.getElem?_cons_succ, List.getElem?_cons_zero, Option.some.injEq] at hv; rw [← hv]; exact c1
  | 2, hv => simp only [encP, List.getElem?_cons_succ, List.getElem?_cons_zero, Option.some.injEq] at hv; rw [← hv]; exact c2
  | i + 3, hv => simp [encP] at hv

end Bk
end Go.Proofs.Yticjjnmmedmbiac
-- left out: this seat has not what it speaks of
namespace Go.Proofs.Yticjjnmmedmbiac
open Go.Shelf Go.Lib Go.ChangeShapes Go.WideShapes Go.ChangeAt Go.RowKit
set_option maxRecDepth 100000
set_option linter.unusedSimpArgs false
set_option linter.unusedVariables false

namespace Bk
/-- The first fault of so many stays from i on. -/
def staysF (last : Int) (n : Nat) (stays : List Stay) : Nat → Nat → Int
  | 0, _ => 0
  | m + 1, i => if stayN last n (stays.take i) stays[i]! = 0 then staysF last n stays m (i + 1) else stayN last n (stays.take i) stays[i]!
def jobBad (b : Book) (i : Nat) : Bool := decide (findI b b.jobs[i]!.t < 0) || hasJob (b.jobs.take i) b.jobs[i]!
/-- The first fault of so many jobs from i on. -/
def jobsF (b : Book) : Nat → Nat → Int
  | 0, _ => 0
  | m + 1, i => if jobBad b i = true then 3 else jobsF b m (i + 1)
/-- What is wrong with a book. -/
def bookN (b : Book) (n : Nat) : Int :=
  if decide (0 ≤ b.last ∧ b.last ≤ 999999) = false then 1 else if 16 < b.stays.length ∨ 8 < b.jobs.length then 2 else
  if staysF b.last n b.stays b.stays.length 0 ≠ 0 then staysF b.last n b.stays b.stays.length 0 else jobsF b b.jobs.length 0

-- left out: this seat has not what it speaks of

end Bk
end Go.Proofs.Yticjjnmmedmbiac
