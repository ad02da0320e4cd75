/- The document's DoneWith (E5); contract for the laws. -/
import Derived.Test.YtopgllmjeliklaaGreatDoorJBookPure
import Derived.Test.YtopgllmjeliklaaGreatDoorJPlantM
import Derived.Test.YtopgllmjeliklaaGreatDoorJBits
import Derived.Deep.DeepCutAuto
import Derived.Deep.LoopGhost
import Derived.Deep.RegionHeld3
import Derived.Deep.AppendLies
namespace Go.Proofs.YtopgllmjeliklaaGreatDoor
open Go.Shelf Go.Lib Go.ChangeShapes Go.WideShapes Go.ChangeAt Go.RowKit
set_option maxRecDepth 100000
set_option linter.unusedSimpArgs false
set_option linter.unusedVariables false

namespace Bk
/-- What DoneWith holds. -/
structure DWI (w wx : World) (bk : Array Value) (last : Int) (vs vj : Value) (t : Int) (f : Bool) (S : List Stay) (J : List Job) : Prop where
  below : Below w.heap.size w wx
  b0 : Blk wx w.heap.size bk 39
  b1 : Blk wx (w.heap.size + 1) #[.int .i64 t, .bool f] 88
  b2 : Blk wx (w.heap.size + 1 + 1) #[.int .i64 0, .slice none 0 0, .slice none 0 0] 39
  b3 : Blk wx (w.heap.size + 1 + 1 + 1) #[.int .i64 last, vs, vj] 39
  s : OwnAt wx (w.heap.size + 4) 67 8 Stay.enc vs S
  j : OwnAt wx (w.heap.size + 4) 88 2 Job.enc vj J
theorem DWI.next {w wx : World} {bk : Array Value} {last : Int} {vs vj : Value} {t : Int} {f : Bool} {S : List Stay} {J : List Job} (h : DWI w wx bk last vs vj t f S J) {wy : World} (hb : Below wx.heap.size wx wy) : DWI w wy bk last vs vj t f S J :=
  ⟨B.next h.below hb h.below.size, h.b0.below hb, h.b1.below hb, h.b2.below hb, h.b3.below hb, h.s.below hb, h.j.below hb⟩
theorem OwnAt.ge {α : Type} [Inhabited α] {w : World} {base : Nat} {T : TypeId} {k : Nat} {enc : α → List Value} {v : Value} {l : List α} (h : OwnAt w base T k enc v l) : ∀ g, v.ownBlock = some g → base ≤ g ∧ g < w.heap.size := by
  intro g e
  rcases h with ⟨rfl, _⟩ | ⟨n, cap, cur, rfl, hg, hk, _⟩
  · cases e
  · have : n = g := by simpa [Value.ownBlock] using e
    subst this
    exact ⟨hg, hk.lt⟩
theorem OwnAt.set {α : Type} [Inhabited α] {w : World} {base : Nat} {T : TypeId} {k : Nat} {enc : α → List Value} {v : Value} {l : List α} (h : OwnAt w base T k enc v l) {b o : Nat} (u : Value) (hne : b < base) : OwnAt (w.setCell ⟨b, o, none⟩ u) base T k enc v l := by
  rcases h with h | ⟨n, cap, cur, rfl, hg, hk, r⟩
  · exact Or.inl h
  · exact Or.inr ⟨n, cap, cur, rfl, hg, hk.other (by omega) _ _, r⟩
theorem DWI.apart {w wx : World} {bk : Array Value} {last : Int} {vs vj : Value} {t : Int} {f : Bool} {S : List Stay} {J : List Job} (h : DWI w wx bk last vs vj t f S J) : ∀ g, vs.ownBlock = some g → vj.ownBlock ≠ some g := fun g e e' => by
  rcases h.j with ⟨rfl, _⟩ | ⟨g', cap, cur, rfl, hg, hk, _⟩
  · cases e'
  · simp [Value.ownBlock] at e'
    subst e'
    exact own_ne h.s hk (by decide) e
/-- A stay more. -/
theorem DWI.moreS {w wx : World} {bk : Array Value} {last : Int} {vs vj : Value} {t : Int} {f : Bool} {S : List Stay} {J : List Job} (h : DWI w wx bk last vs vj t f S J) {wy : World} {vs' : Value} {S' : List Stay} (g : wx.grownBy wy vs.ownBlock) (ho : OwnAt wy (w.heap.size + 4) 67 8 Stay.enc vs' S') : DWI w (wy.setCell ⟨w.heap.size + 1 + 1 + 1, 1, none⟩ vs') bk last vs' vj t f S' J := by
  have kb : ∀ {n : Nat} {a : Array Value} {T : TypeId}, Blk wx n a T → n < w.heap.size + 4 → Blk wy n a T := fun hk hn => (g.block _ hk.lt (fun e => by have := (h.s.ge _ e.symm).1; omega)).trans hk
  refine ⟨(grown_below' h.below g (fun n e => Nat.le_trans (by omega) (h.s.ge n e).1) h.below.size).setCell (p := ⟨w.heap.size + 1 + 1 + 1, 1, none⟩) (by show w.heap.size ≤ w.heap.size + 1 + 1 + 1; omega) _, (kb h.b0 (by omega)).other (by omega) _ _, (kb h.b1 (by omega)).other (by omega) _ _, (kb h.b2 (by omega)).other (by omega) _ _, (kb h.b3 (by omega)).set 1 _, ho.set _ (by omega), (h.j.grown g (fun n e e' => h.apart n e' e)).set _ (by omega)⟩
/-- A job more. -/
theorem DWI.moreJ {w wx : World} {bk : Array Value} {last : Int} {vs vj : Value} {t : Int} {f : Bool} {S : List Stay} {J : List Job} (h : DWI w wx bk last vs vj t f S J) {wy : World} {vj' : Value} {J' : List Job} (g : wx.grownBy wy vj.ownBlock) (ho : OwnAt wy (w.heap.size + 4) 88 2 Job.enc vj' J') : DWI w (wy.setCell ⟨w.heap.size + 1 + 1 + 1, 2, none⟩ vj') bk last vs vj' t f S J' := by
  have kb : ∀ {n : Nat} {a : Array Value} {T : TypeId}, Blk wx n a T → n < w.heap.size + 4 → Blk wy n a T := fun hk hn => (g.block _ hk.lt (fun e => by have := (h.j.ge _ e.symm).1; omega)).trans hk
  refine ⟨(grown_below' h.below g (fun n e => Nat.le_trans (by omega) (h.j.ge n e).1) h.below.size).setCell (p := ⟨w.heap.size + 1 + 1 + 1, 2, none⟩) (by show w.heap.size ≤ w.heap.size + 1 + 1 + 1; omega) _, (kb h.b0 (by omega)).other (by omega) _ _, (kb h.b1 (by omega)).other (by omega) _ _, (kb h.b2 (by omega)).other (by omega) _ _, (kb h.b3 (by omega)).set 2 _, (h.s.grown g (fun n e e' => h.apart n e e')).set _ (by omega), ho.set _ (by omega)⟩
theorem DWI.appS {w wx : World} {bk : Array Value} {last : Int} {vs vj : Value} {t : Int} {f : Bool} {S : List Stay} {J : List Job} (h : DWI w wx bk last vs vj t f S J) {wy : World} {sv : Stay} {g cap : Nat} (hg : wx.grownBy wy vs.ownBlock) (ho : wy.ownsRow (w.heap.size + 4) 67 8 (.slice (some ⟨g, 0, none⟩) (S.length + 1) cap) (S.length + 1) (S.flatMap Stay.enc ++ [.int .i64 sv.t, .int .i64 sv.id, .int .i64 sv.a, .int .i64 sv.b, .int .i64 sv.c, .int .i64 sv.x, .int .i64 sv.y, .int .i64 sv.z])) : DWI w (wy.setCell ⟨w.heap.size + 1 + 1 + 1, 1, none⟩ (.slice (some ⟨g, 0, none⟩) (S.length + 1) cap)) bk last (.slice (some ⟨g, 0, none⟩) (S.length + 1) cap) vj t f (S ++ [sv]) J :=
  h.moreS hg (OwnAt.of_owns stay_len (by rw [List.length_append, List.flatMap_append]; exact ho))
theorem DWI.appJ {w wx : World} {bk : Array Value} {last : Int} {vs vj : Value} {t : Int} {f : Bool} {S : List Stay} {J : List Job} (h : DWI w wx bk last vs vj t f S J) {wy : World} {a : Int} {q : Bool} {g cap : Nat} (hg : wx.grownBy wy vj.ownBlock) (ho : wy.ownsRow (w.heap.size + 4) 88 2 (.slice (some ⟨g, 0, none⟩) (J.length + 1) cap) (J.length + 1) (J.flatMap Job.enc ++ [.int .i64 a, .bool q])) : DWI w (wy.setCell ⟨w.heap.size + 1 + 1 + 1, 2, none⟩ (.slice (some ⟨g, 0, none⟩) (J.length + 1) cap)) bk last vs (.slice (some ⟨g, 0, none⟩) (J.length + 1) cap) t f S (J ++ [⟨a, q⟩]) :=
  h.moreJ hg (OwnAt.of_owns job_len (by rw [List.length_append, List.flatMap_append]; exact ho))
theorem rows_lt {α : Type} [Inhabited α] {W : World} {b off cap k : Nat} {enc : α → List Value} {zs : List α} (h : RowsAt W (some ⟨b, off, none⟩) cap k enc zs) (h0 : 0 < zs.length) : b < W.heap.size := by
  obtain ⟨b', off', e, hb, _⟩ := h.2.2 h0
  cases e
  exact hb
theorem filter_upto {α : Type} [Inhabited α] (p : α → Bool) (l : List α) (i : Nat) (h : i < l.length) : (l.take (i + 1)).filter p = (l.take i).filter p ++ (if p l[i]! = true then [l[i]!] else []) := by
  rw [List.take_succ_eq_append_getElem h, List.filter_append, getElem!_pos l i h]
  cases hp : p l[i] <;> simp [hp]
theorem filter_few {α : Type} (p : α → Bool) (l : List α) (i : Nat) : ((l.take i).filter p).length ≤ i := Nat.le_trans (List.length_filter_le _ _) (by simp; omega)

-- left out: this seat has not what it speaks of

end Bk
end Go.Proofs.YtopgllmjeliklaaGreatDoor
