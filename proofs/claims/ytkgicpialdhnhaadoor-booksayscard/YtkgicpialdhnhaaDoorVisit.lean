/- Chapter 5: the plans that visit a place, the program's and the document's (D2); contracts for the laws. -/
import Derived.Test.YtkgicpialdhnhaaDoorPlan
import Derived.Deep.RegionHeld3
import Derived.Deep.RegionLawGrows
namespace Go.Proofs.YtkgicpialdhnhaaDoor
open Go.ChangeShapes Go.WideShapes Go.ChangeAt Go.RowKit
set_option maxRecDepth 100000
set_option linter.unusedSimpArgs false
set_option linter.unusedVariables false

theorem olds_old {w : World} {b : Nat} {l : List Value} (x : Obj) (hr : ∀ o, w.cell? ⟨b, o, none⟩ = l.toArray[o]?) (hlt : b < w.heap.size) :
    ∀ b', some (⟨b, 0, none⟩ : Addr) = some b' → ∀ j u, l[j]? = some u → (w.alloc x).cell? (b'.add j) = some u := by
  intro b' hb j u h
  cases hb
  have e : (⟨b, 0, none⟩ : Addr).add j = ⟨b, j, none⟩ := by
    unfold Addr.add
    split
    · rename_i h0; subst h0; rfl
    · simp
  rw [e, B.row_old x hr hlt j]
  simpa using h
theorem ints_one (l : List Int) : ∀ u ∈ l.map (Value.int .i64), u.oneCell' = true := by
  intro u hu
  obtain ⟨n, _, rfl⟩ := List.mem_map.1 hu
  rfl
theorem owns_le {w : World} {base base' : Nat} {e : TypeId} {size : Nat} {v : Value} {n : Nat} {xs : List Value} (h : w.ownsRow base e size v n xs) (hb : base' ≤ base) : w.ownsRow base' e size v n xs :=
  ⟨h.1, h.2.elim Or.inl (fun ⟨g, cap, cur, hv, hg, r⟩ => Or.inr ⟨g, cap, cur, hv, Nat.le_trans hb hg, r⟩)⟩

-- left out: this seat has not what it speaks of

-- left out: this seat has not what it speaks of

end Go.Proofs.YtkgicpialdhnhaaDoor
