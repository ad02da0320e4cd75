/- Small facts that the laws of this seat share: bounds of numbers, endings, what old memory reads behind a call. -/
import Derived.Test.YtmojjjikaaclpaaKit
import Derived.WalkSpells
import Derived.WalkLawsBesides
import Derived.Deep.QuietTactic
import Derived.BigQuiet
import Derived.Deep.RegionWith
import Derived.Deep.Light
namespace Go.Proofs.Ytmojjjikaaclpaa
open Go.ChangeShapes Go.WideShapes Go.ChangeAt Go.RowKit
set_option maxRecDepth 100000

namespace B
theorem i64_bounds {n : Int} (h : IntKind.i64.has n) : -9223372036854775808 ≤ n ∧ n ≤ 9223372036854775807 := by
  simpa [IntKind.has, IntKind.min, IntKind.max, IntKind.bits, IntKind.signed] using h
theorem has_of {n : Int} (h : -9223372036854775808 ≤ n ∧ n ≤ 9223372036854775807) : IntKind.i64.has n := by
  simpa [IntKind.has, IntKind.min, IntKind.max, IntKind.bits, IntKind.signed] using h
theorem ret_bool {a b : Bool} (h : a = b) : Ending.returned (.bool a) = .returned (.bool b) := by rw [h]
theorem ret_int {k : IntKind} {a b : Int} (h : a = b) : Ending.returned (.int k a) = .returned (.int k b) := by rw [h]
theorem ret_pair {k : IntKind} {a b : Int} {c d : Bool} (h : a = b) (h2 : c = d) : Ending.returned (.tuple #[.int k a, .bool c]) = .returned (.tuple #[.int k b, .bool d]) := by rw [h, h2]
theorem cell {W w1 : World} (hb : Below W.heap.size W w1) : ∀ b o, b < W.heap.size → w1.cell? ⟨b, o, none⟩ = W.cell? ⟨b, o, none⟩ := fun b o h => hb.cell (p := ⟨b, o, none⟩) h
theorem frozen {W w1 : World} (hb : Below W.heap.size W w1) : ∀ b o, b < W.heap.size → w1.frozen? ⟨b, o, none⟩ = W.frozen? ⟨b, o, none⟩ := fun b o h => hb.frozen (p := ⟨b, o, none⟩) h
/-- A call behind another step: below the first size nothing has turned. -/
theorem next {B : Nat} {w w1 w2 : World} (h : Below B w w1) (k : Below w1.heap.size w1 w2) (hB : B ≤ w1.heap.size) : Below B w w2 := h.trans (k.mono hB)
theorem new1 (w : World) (o : Obj) : Below w.heap.size w (w.alloc o) := (Below.refl _ _).alloc (Nat.le_refl _) o
theorem new_size (w : World) (o : Obj) : (w.alloc o).heap.size = w.heap.size + 1 := by simp
/-- A row of cells that lay there reads on. -/
theorem row {W w1 : World} {b : Nat} {C : Array Value} (hb : Below W.heap.size W w1) (h : ∀ o, W.cell? ⟨b, o, none⟩ = C[o]?) (hlt : b < W.heap.size) : ∀ o, w1.cell? ⟨b, o, none⟩ = C[o]? :=
  fun o => (hb.cell (p := ⟨b, o, none⟩) hlt).trans (h o)
theorem row_new (w : World) (C : Array Value) (t : TypeId) : ∀ o, (w.alloc (.cells C t)).cell? ⟨w.heap.size, o, none⟩ = C[o]? := fun o => World.cell?_alloc_mark w C t (0, 0) o
theorem row_old {w : World} {b : Nat} {C : Array Value} (x : Obj) (h : ∀ o, w.cell? ⟨b, o, none⟩ = C[o]?) (hlt : b < w.heap.size) : ∀ o, (w.alloc x).cell? ⟨b, o, none⟩ = C[o]? :=
  row (new1 w x) h hlt
end B

end Go.Proofs.Ytmojjjikaaclpaa
