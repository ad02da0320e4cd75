/- A region that draws its order, whose operations only read and whose callees leave all that lay there unturned: walked once, at the class of all worlds in which what lay in w lies unturned. -/
import Derived.Test.YtmojjjikaaclpaaBase
import Derived.Deep.QuietTactic
import Derived.Shelf.RegionOpenPlain
namespace Go.Proofs.Ytmojjjikaaclpaa
open Go.ChangeShapes Go.WideShapes Go.ChangeAt Go.RowKit
set_option maxRecDepth 100000
set_option linter.unusedSimpArgs false

/-- A world in which all that lay in w lies unturned. -/
structure BelowW (w : World) where
  wd : World
  hb : Below w.heap.size w wd

instance belowW_inhabited (w : World) : Inhabited (BelowW w) := ⟨⟨w, Below.refl _ _⟩⟩

theorem wp_region_below {P : Program} {id : Nat} {Q : Exit → Act → World → Prop} {a : Act} {w : World} {l : List Oper} (hm : P.follows .mixedOrders = true) (hB : Region.lexB .any l.toArray = true)
    (h : wpQuiet P l.toArray (fun w' => ∃ p : BelowW w, w' = p.wd) (fun a' => ∀ w', (∃ p : BelowW w, w' = p.wd) → Q .normal a' w') l a) : (Code.region id l.toArray true).wp P Q a w :=
  wp_region_quiet (C := fun w' => ∃ p : BelowW w, w' = p.wd) hm hB ⟨⟨w.drew, (Below.refl _ _).drew⟩, rfl⟩ (by simpa using h)

/-- The same from the middle of a region on, the first k operations being done. -/
theorem wpAny_below {P : Program} {l0 : List Oper} {Q : Exit → Act → World → Prop} {a : Act} {w : World} {fuel : Nat} {listed : Array Bool} (k : Nat) (hf : (l0.drop k).length = fuel) (hs : Region.noSelect l0.toArray = true)
    (hB : Region.lexFrom .any l0.toArray fuel k listed = true) (h : wpQuiet P l0.toArray (fun w' => ∃ p : BelowW w, w' = p.wd) (fun a' => ∀ w', (∃ p : BelowW w, w' = p.wd) → Q .normal a' w') (l0.drop k) a) : wpAny P .any l0.toArray Q fuel listed a w := by
  subst hf
  exact wpAny_of_quiet (Q := fun a' => ∀ w', (∃ p : BelowW w, w' = p.wd) → Q .normal a' w') (fun _ w' hw' h => h w' hw') _ _ _ _ ⟨⟨w, Below.refl _ _⟩, rfl⟩ (wpAnyQ_lex hs (l0.drop k) k listed a (fun j => by simp) hB h)

/-- An operation that isn't wanted. -/
theorem wpQuiet_skip {P : Program} {ops : Array Oper} {C : World → Prop} {Q : Act → Prop} {a : Act} {o : Oper} {rest : List Oper} (hw : Region.wanted o (yielded ops a.tmps) = false) (h : wpQuiet P ops C Q rest (a.put o.dst undef)) : wpQuiet P ops C Q (o :: rest) a := by
  refine wpQuiet_step (fun K hK => ?_)
  rw [if_neg (by rw [hw]; decide)]
  exact hK _ h

theorem Calls.wof {P : Program} {f : FuncId} {args : Array Value} {w : World} {p : BelowW w} {v : Value}
    (h : Calls P f args p.wd fun e w' => e = .returned v ∧ Below p.wd.heap.size p.wd w') : Calls P f args p.wd fun e w'' => e = .returned v ∧ ∃ q : BelowW w, w'' = q.wd :=
  h.mono fun _ w' ⟨he, hb⟩ => ⟨he, ⟨w', B.next p.hb hb p.hb.size⟩, rfl⟩

/-- Block b has these cells. -/
def Blk (w : World) (b : Nat) (arr : Array Value) (t : TypeId) : Prop := w.heap[b]? = some (.cells arr t (0, 0))
theorem Blk.lt {w : World} {b : Nat} {arr : Array Value} {t : TypeId} (h : Blk w b arr t) : b < w.heap.size := (Array.getElem?_eq_some_iff.1 h).1
theorem Blk.cell {w : World} {b : Nat} {arr : Array Value} {t : TypeId} (h : Blk w b arr t) (o : Nat) : w.cell? ⟨b, o, none⟩ = arr[o]? := by simp [World.cell?, (show w.heap[b]? = _ from h)]
theorem Blk.free {w : World} {b : Nat} {arr : Array Value} {t : TypeId} (h : Blk w b arr t) (o : Nat) : w.frozen? ⟨b, o, none⟩ = false := by simp [World.frozen?, (show w.heap[b]? = _ from h)]
theorem Blk.below {w w' : World} {b : Nat} {arr : Array Value} {t : TypeId} (h : Blk w b arr t) (hb : Below w.heap.size w w') : Blk w' b arr t := (hb.block b h.lt).trans h
theorem Blk.set {w : World} {b : Nat} {arr : Array Value} {t : TypeId} (h : Blk w b arr t) (o : Nat) (v : Value) : Blk (w.setCell ⟨b, o, none⟩ v) b (arr.setIfInBounds o v) t := by
  have := (show w.heap[b]? = _ from h)
  show (w.setCell ⟨b, o, none⟩ v).heap[b]? = _
  simp [World.setCell, Array.getElem?_modify, this]
theorem Blk.other {w : World} {b c : Nat} {arr : Array Value} {t : TypeId} (h : Blk w b arr t) (hc : c ≠ b) (o : Nat) (v : Value) : Blk (w.setCell ⟨c, o, none⟩ v) b arr t := by
  have := (show w.heap[b]? = _ from h)
  show (w.setCell ⟨c, o, none⟩ v).heap[b]? = _
  simp [World.setCell, Array.getElem?_modify, this, hc]
theorem Blk.new (w : World) (arr : Array Value) (t : TypeId) : Blk (w.alloc (.cells arr t (0, 0))) w.heap.size arr t := by
  show (w.heap.push _)[w.heap.size]? = _
  exact Array.getElem?_push_size
theorem Blk.new1 {w : World} {N : Nat} (h : N = w.heap.size) (arr : Array Value) (t : TypeId) : Blk (w.alloc (.cells arr t (0, 0))) N arr t := by
  subst h
  exact Blk.new w arr t
theorem Blk.old {w : World} {b : Nat} {arr : Array Value} {t : TypeId} (h : Blk w b arr t) (o : Obj) : Blk (w.alloc o) b arr t := h.below (B.new1 w o)
theorem size_setCell (w : World) (a : Addr) (v : Value) : (w.setCell a v).heap.size = w.heap.size := by
  simp [World.setCell]

theorem set3_0 {w : World} {b : Nat} {a0 a1 a2 : Value} (g : ∀ o, w.cell? ⟨b, o, none⟩ = #[a0, a1, a2][o]?) (x y z : Value) : (((w.setCell ⟨b, 0, none⟩ x).setCell ⟨b, 1, none⟩ y).setCell ⟨b, 2, none⟩ z).cell? ⟨b, 0, none⟩ = some x := by
  have h0 := g 0; have h1 := g 1; have h2 := g 2
  simp at h0 h1 h2
  simp [World.cell?_setCell_same', World.cell?_setCell_other, h0, h1, h2]
theorem set3_1 {w : World} {b : Nat} {a0 a1 a2 : Value} (g : ∀ o, w.cell? ⟨b, o, none⟩ = #[a0, a1, a2][o]?) (x y z : Value) : (((w.setCell ⟨b, 0, none⟩ x).setCell ⟨b, 1, none⟩ y).setCell ⟨b, 2, none⟩ z).cell? ⟨b, 1, none⟩ = some y := by
  have h0 := g 0; have h1 := g 1; have h2 := g 2
  simp at h0 h1 h2
  simp [World.cell?_setCell_same', World.cell?_setCell_other, h0, h1, h2]
theorem set3_2 {w : World} {b : Nat} {a0 a1 a2 : Value} (g : ∀ o, w.cell? ⟨b, o, none⟩ = #[a0, a1, a2][o]?) (x y z : Value) : (((w.setCell ⟨b, 0, none⟩ x).setCell ⟨b, 1, none⟩ y).setCell ⟨b, 2, none⟩ z).cell? ⟨b, 2, none⟩ = some z := by
  have h0 := g 0; have h1 := g 1; have h2 := g 2
  simp at h0 h1 h2
  simp [World.cell?_setCell_same', World.cell?_setCell_other, h0, h1, h2]

end Go.Proofs.Ytmojjjikaaclpaa
