/- Chapter 5: what the plans are, the program's and the document's (D2); contracts for the laws. -/
import Derived.Test.YtkgicpialdhnhaaDoorTower
namespace Go.Proofs.YtkgicpialdhnhaaDoor
open Go.ChangeShapes Go.WideShapes Go.ChangeAt Go.RowKit
set_option maxRecDepth 100000
set_option linter.unusedSimpArgs false
set_option linter.unusedVariables false

/-- Goals, one behind the other, as they lie in memory. -/
def flatG : List (Int × Int) → List Value
  | [] => []
  | g :: l => .int .i64 g.1 :: .int .i64 g.2 :: flatG l
theorem flatG_length : ∀ l, (flatG l).length = l.length * 2
  | [] => rfl
  | g :: l => by simp [flatG, flatG_length l]; omega

-- left out: this seat has not what it speaks of

-- left out: this seat has not what it speaks of

theorem news_new (w : World) (l : List Value) (t : TypeId) (n : Nat) (hn : n = w.heap.size) : ∀ j u, l[j]? = some u → (w.alloc (.cells l.toArray t)).cell? ((⟨n, 0, none⟩ : Addr).add j) = some u := by
  subst hn
  intro j u h
  have e : (⟨w.heap.size, 0, none⟩ : Addr).add j = ⟨w.heap.size, j, none⟩ := by
    unfold Addr.add
    split
    · rename_i h0; subst h0; rfl
    · simp
  rw [e, World.cell?_alloc_mark]
  simpa using h

-- left out: this seat has not what it speaks of

-- left out: this seat has not what it speaks of

-- left out: this seat has not what it speaks of

-- left out: this seat has not what it speaks of

-- left out: this seat has not what it speaks of

-- left out: this seat has not what it speaks of

-- left out: this seat has not what it speaks of

-- left out: this seat has not what it speaks of

end Go.Proofs.YtkgicpialdhnhaaDoor
