/- Chapter 1: which places there are, the program's and the document's (A3); contracts for the laws. -/
import Derived.Test.YticjjnmmedmbiacJSizes
import Derived.Test.YticjjnmmedmbiacJVisit
import Derived.Deep.DeepCutAuto
import Derived.Deep.LoopGhost
namespace Go.Proofs.Yticjjnmmedmbiac
open Go.ChangeShapes Go.WideShapes Go.ChangeAt Go.RowKit
set_option maxRecDepth 100000
set_option linter.unusedSimpArgs false
set_option linter.unusedVariables false

/-- Places, one behind the other, as they lie in memory. -/
def flatP : List (Int × Int × Int) → List Value
  | [] => []
  | p :: l => .int .i64 p.1 :: .int .i64 p.2.1 :: .int .i64 p.2.2 :: flatP l
theorem flatP_length : ∀ l, (flatP l).length = l.length * 3
  | [] => rfl
  | p :: l => by simp [flatP, flatP_length l]; omega
theorem flatP_append : ∀ l m, flatP (l ++ m) = flatP l ++ flatP m
  | [], m => rfl
  | p :: l, m => by simp [flatP, flatP_append l m]

/-- The places of the first k sides of n levels: all but those at the side 1 of the last level. -/
def placesTo (n : Nat) : Nat → List (Int × Int × Int)
  | 0 => []
  | k + 1 => if k + 1 = 2 * n then placesTo n k else placesTo n k ++ [(((k / 2 : Nat) : Int) + 1, ((k % 2 : Nat) : Int), 1), (((k / 2 : Nat) : Int) + 1, ((k % 2 : Nat) : Int), 0)]
theorem placesTo_le (n : Nat) : ∀ k, (placesTo n k).length ≤ 2 * k
  | 0 => by simp [placesTo]
  | k + 1 => by
    have := placesTo_le n k
    unfold placesTo
    split
    · omega
    · simp; omega
theorem placesTo_0 (n k : Nat) (h : k < n) : placesTo n (2 * k + 1) = placesTo n (2 * k) ++ [((k : Int) + 1, 0, 1), ((k : Int) + 1, 0, 0)] := by
  have e1 : (2 * k) / 2 = k := by omega
  have e2 : (2 * k) % 2 = 0 := by omega
  show (if 2 * k + 1 = 2 * n then _ else _) = _
  rw [if_neg (by omega), e1, e2]
  rfl
theorem placesTo_1 (n k : Nat) (h : k + 1 < n) : placesTo n (2 * k + 1 + 1) = placesTo n (2 * k + 1) ++ [((k : Int) + 1, 1, 1), ((k : Int) + 1, 1, 0)] := by
  have e1 : (2 * k + 1) / 2 = k := by omega
  have e2 : (2 * k + 1) % 2 = 1 := by omega
  show (if 2 * k + 1 + 1 = 2 * n then _ else _) = _
  rw [if_neg (by omega), e1, e2]
  rfl
theorem placesTo_l (n k : Nat) (h : k + 1 = n) : placesTo n (2 * k + 1 + 1) = placesTo n (2 * k + 1) := by
  show (if 2 * k + 1 + 1 = 2 * n then _ else _) = _
  rw [if_pos (by omega)]

def PlacesOwn (w w' : World) (v : Value) (l : List (Int × Int × Int)) : Prop := w'.ownsRow w.heap.size 87 3 v l.length (flatP l) ∧ Below w.heap.size w w'

theorem Try.infoPlace : (Try.prog.info? 87).map (fun i => (i.zero, i.size, i.bytes)) = some (some (.agg #[.int .i64 0, .int .i64 0, .int .i64 0]), 3, 24) := by kernel_rfl

-- left out: this seat has not what it speaks of

/-- What the loops of Places hold: what has been gathered, and the spare place. -/
def PL (w wx : World) (N n : Nat) (v : Value) (l : List (Int × Int × Int)) : Prop :=
  wx.ownsRow (N + 1) 87 3 v l.length (flatP l) ∧ Below w.heap.size w wx ∧ w.heap.size ≤ N ∧ N + 1 ≤ wx.heap.size ∧ ∀ o, wx.cell? ⟨N, o, none⟩ = (#[.int .i64 n, .int .i64 1, .int .i64 0] : Array Value)[o]?
theorem owns_below {w W : World} {base : Nat} {e : TypeId} {size : Nat} {v : Value} {n : Nat} {xs : List Value} (h : w.ownsRow base e size v n xs) (hb : Below w.heap.size w W) : W.ownsRow base e size v n xs := by
  refine ⟨h.1, h.2.elim Or.inl (fun ⟨g, cap, cur, hv, hg, hh, r⟩ => Or.inr ⟨g, cap, cur, hv, hg, ?_, r⟩)⟩
  rw [hb.block g ?_]
  · exact hh
  · rcases Nat.lt_or_ge g w.heap.size with h' | h'
    · exact h'
    · rw [Array.getElem?_eq_none h'] at hh; cases hh
theorem PL.below {w wx W : World} {N n : Nat} {v : Value} {l : List (Int × Int × Int)} (h : PL w wx N n v l) (hb : Below wx.heap.size wx W) : PL w W N n v l := by
  obtain ⟨h0, h1, h2, h3, h4⟩ := h
  have hz := hb.size
  exact ⟨owns_below h0 hb, B.next h1 hb (by omega), h2, by omega, B.row hb h4 (by omega)⟩
theorem PL.grown {w W w3 : World} {N n : Nat} {v v' : Value} {l : List (Int × Int × Int)} {p q : Int × Int × Int} (h : PL w W N n v l)
    (ho : w3.ownsRow (N + 1) 87 3 v' (l.length + 2) (flatP l ++ [.int .i64 p.1, .int .i64 p.2.1, .int .i64 p.2.2, .int .i64 q.1, .int .i64 q.2.1, .int .i64 q.2.2])) (hg : W.grownBy w3 v.ownBlock) : PL w w3 N n v' (l ++ [p, q]) := by
  obtain ⟨h0, h1, h2, h3, h4⟩ := h
  have hz := hg.size
  refine ⟨?_, Below.grown h1 hg (by omega) (fun k hk => by have := (h0.lt k hk).1; omega), h2, by omega, fun o => ?_⟩
  · rw [flatP_append, List.length_append]
    exact ho
  · rw [← h4 o]
    exact World.cell?_of_block (w := W) (hg.block N (by omega) (fun e => by have := (h0.lt N e.symm).1; omega))

-- left out: this seat has not what it speaks of

end Go.Proofs.Yticjjnmmedmbiac
