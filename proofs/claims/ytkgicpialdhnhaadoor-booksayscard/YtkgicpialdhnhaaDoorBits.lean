/- Small facts on lists in memory, for the laws on books. -/
import Derived.Test.YtkgicpialdhnhaaDoorTopOverA
namespace Go.Proofs.YtkgicpialdhnhaaDoor
open Go.Shelf Go.Lib Go.ChangeShapes Go.WideShapes Go.ChangeAt Go.RowKit
set_option maxRecDepth 100000
set_option linter.unusedSimpArgs false
set_option linter.unusedVariables false

namespace Bk
theorem blk_type {w : World} {g : Nat} {a a' : Array Value} {T T' : TypeId} (h : Blk w g a T) (h' : Blk w g a' T') : T = T' := by
  have h1 : w.heap[g]? = _ := h
  have h2 : w.heap[g]? = _ := h'
  rw [h1] at h2
  simp at h2
  exact h2.2
theorem own_ne {α : Type} [Inhabited α] {w : World} {b : Nat} {T T' : TypeId} {k : Nat} {enc : α → List Value} {v : Value} {l : List α} {n : Nat} {a : Array Value} (h : OwnAt w b T k enc v l) (hk : Blk w n a T') (hT : T ≠ T') : v.ownBlock ≠ some n := by
  intro e
  rcases h with ⟨rfl, _⟩ | ⟨g, cap, cur, rfl, hg, hb, _⟩
  · simp [Value.ownBlock] at e
  · simp [Value.ownBlock] at e
    subst e
    exact hT (blk_type hb hk)
theorem news_cells {w : World} {N : Nat} (h : N = w.heap.size) (news : List Value) (T : TypeId) : ∀ j u, news[j]? = some u → (w.alloc (.cells news.toArray T (0, 0))).cell? ((⟨N, 0, none⟩ : Addr).add j) = some u := by
  intro j u hu
  rw [add_none, Nat.zero_add, (Blk.new1 h _ _).cell]
  simpa using hu
theorem carN_pos {ci ca cb cc : Int} (h : carN ci ca cb cc ≠ 0) : 0 < carN ci ca cb cc := by
  unfold carN faultN at *
  split <;> simp_all
theorem any_upto {α : Type} [Inhabited α] (p : α → Bool) (l : List α) (i : Nat) (h : i < l.length) : (l.take (i + 1)).any p = ((l.take i).any p || p l[i]!) := by
  rw [List.take_succ_eq_append_getElem h, List.any_append, getElem!_pos l i h]
  simp

end Bk
end Go.Proofs.YtkgicpialdhnhaaDoor
