/- Chapter 6: a copy of a book (E1); contract for the laws of stage 2. -/
import Derived.Test.YtmojjjikaaclpaaOwn
namespace Go.Proofs.Ytmojjjikaaclpaa
open Go.Shelf Go.Lib Go.ChangeShapes Go.WideShapes Go.ChangeAt Go.RowKit
set_option maxRecDepth 100000
set_option linter.unusedSimpArgs false
set_option linter.unusedVariables false

namespace Bk
/-- A book whose two lists are the call's own. -/
structure OwnBook (w : World) (base : Nat) (vs vj : Value) (stays : List Stay) (jobs : List Job) : Prop where
  s : OwnAt w base 102 8 Stay.enc vs stays
  j : OwnAt w base 104 2 Job.enc vj jobs
  ne : ∀ g, vs.ownBlock = some g → vj.ownBlock ≠ some g
theorem OwnBook.below {w w' : World} {base : Nat} {vs vj : Value} {stays : List Stay} {jobs : List Job} (h : OwnBook w base vs vj stays jobs) (hb : Below w.heap.size w w') : OwnBook w' base vs vj stays jobs := ⟨h.s.below hb, h.j.below hb, h.ne⟩
theorem OwnAt.base {α : Type} [Inhabited α] {w : World} {b b' : Nat} {T : TypeId} {k : Nat} {enc : α → List Value} {v : Value} {l : List α} (h : OwnAt w b T k enc v l) (hb : b' ≤ b) : OwnAt w b' T k enc v l := by
  rcases h with h | ⟨g, cap, cur, hv, hg, r⟩
  · exact Or.inl h
  · exact Or.inr ⟨g, cap, cur, hv, Nat.le_trans hb hg, r⟩
theorem OwnAt.block {α : Type} [Inhabited α] {w : World} {b : Nat} {T : TypeId} {k : Nat} {enc : α → List Value} {v : Value} {l : List α} (h : OwnAt w b T k enc v l) (g : Nat) (hg : v.ownBlock = some g) : b ≤ g ∧ g < w.heap.size := by
  rcases h with ⟨rfl, _⟩ | ⟨g', cap, cur, rfl, hg', hk, _⟩
  · simp [Value.ownBlock] at hg
  · simp [Value.ownBlock] at hg
    subst hg
    exact ⟨hg', hk.lt⟩

-- left out: this seat has not what it speaks of

end Bk
end Go.Proofs.Ytmojjjikaaclpaa
