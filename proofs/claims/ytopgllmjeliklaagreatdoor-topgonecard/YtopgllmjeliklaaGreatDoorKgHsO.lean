/- HsO. -/
import Derived.Test.YtopgllmjeliklaaGreatDoorKgHvN
set_option maxRecDepth 100000
set_option linter.unusedSimpArgs false
set_option linter.unusedVariables false
namespace Go.Proofs.YtopgllmjeliklaaGreatDoor
open Go.Shelf Go.Lib Go.ChangeShapes Go.WideShapes Go.ChangeAt Go.RowKit Go.Maps
namespace Hs
open Bk Lg Pl Dk Tx Tn Ac
theorem LedS.farI {w w' : World} {base db sb : Nat} {secs : List Sec} {armed : Bool} {left : Int} {L n : Nat} {b : PB} (h : LedS w base db sb secs armed left L n b) (hf : ∀ k arr T, T ≠ 3 → Blk w k arr T → Blk w' k arr T) : LedS w' base db sb secs armed left L n b := by
 obtain ⟨vs, vj, h1, h2⟩ := h.l; exact ⟨⟨hf _ _ _ (by decide) h.d.d, hf _ _ _ (by decide) h.d.s, fun i hi => OwnAt.far2 (h.d.own i hi) (fun g arr hk => hf _ _ _ (by decide) hk), h.d.ne, h.d.hb⟩, h.len, h.few, h.wr, h.lo, ⟨vs, vj, hf _ _ _ (by decide) h1, ⟨OwnAt.far2 h2.s (fun g arr hk => hf _ _ _ (by decide) hk), OwnAt.far2 h2.j (fun g arr hk => hf _ _ _ (by decide) hk), h2.ne⟩⟩, h.hL, h.op⟩
theorem HX.grown {w w' : World} {base pb mb db sb hb n : Nat} {lv : List (Int × Int × Int)} {σ : Sg} {row : Option Nat} (h : HX w base pb mb db sb hb lv σ n) (g : w.grownBy w' row) (hr : ∀ k, row = some k → ∃ arr, Blk w k arr 3) : HX w' base pb mb db sb hb lv σ n := by
 have hf : ∀ k arr T, T ≠ 3 → Blk w k arr T → Blk w' k arr T := fun k arr T hT hk => (g.block k hk.lt (fun e => by
  obtain ⟨a, ha⟩ := hr k e.symm; exact hT (blk_typeD hk ha))).trans hk
 obtain ⟨L, secs, left, h⟩ := h; obtain ⟨vl, vg, h1, h2, h3⟩ := h.h; refine ⟨L, secs, left, ⟨vl, vg, hf _ _ _ (by decide) h1, OwnAt.far2 h2 fun _ _ hk => hf _ _ _ (by decide) hk, h3.far fun _ _ hk => hf _ _ _ (by decide) hk⟩, ⟨hf _ _ _ (by decide) h.p.row, World.ownsMap.kept h.p.cars g fun e => ?_⟩, h.iv, LedS.farI h.l hf, h.hpb, h.hmb, h.hhb, Nat.le_trans h.hsz g.size, h.n1, h.n4, h.ok⟩
 obtain ⟨a, ha⟩ := hr mb e.symm; obtain ⟨es, clock, hm, r⟩ := h.p.cars; have h1 : w.heap[mb]? = _ := ha; rw [hm] at h1
 cases h1
theorem row_far {w w' : World} {base n : Nat} {v : Value} {xs : List Value} (h : w.ownsRow base 3 1 v n xs) (hf : ∀ k arr, Blk w k arr 3 → Blk w' k arr 3) : w'.ownsRow base 3 1 v n xs :=
 ⟨h.1, h.2.elim Or.inl fun ⟨g, cap, cur, hv, hg, hh, r⟩ => Or.inr ⟨g, cap, cur, hv, hg, hf g cur hh, r⟩⟩
theorem row_blk {w : World} {base n : Nat} {v : Value} {xs : List Value} (h : w.ownsRow base 3 1 v n xs) : ∀ k, v.ownBlock = some k → base ≤ k ∧ ∃ arr, Blk w k arr 3 := fun k hk => by
 rcases h.2 with ⟨rfl, _⟩ | ⟨g, cap, cur, rfl, hg, hh, _⟩
 ·cases hk
 ·cases hk
  exact ⟨hg, cur, hh⟩
theorem row_at {w : World} {base : Nat} {v : Value} {l : List Int} (h : w.ownsRow base 3 1 v l.length (ints l)) : IntsAt w v l := by
 rcases h.2 with ⟨rfl, h0⟩ | ⟨g, cap, cur, rfl, hg, r⟩
 ·exact ⟨none, 0, by rw [h0], by omega, Nat.zero_le _, fun h => by omega⟩
 ·have hlt := (h.lt g rfl).2
  refine ⟨some ⟨g, 0, none⟩, cap, rfl, r.2.1, r.2.2.1, fun h0 => ⟨g, 0, rfl, hlt, fun i hi => ?_⟩⟩
  have := h.cells (g := g) rfl i (.int .i64 (l.getD i 0)) (by simp [ints, List.getD, List.getElem?_eq_getElem hi])
  have ad : (⟨g, 0, none⟩ : Addr).add i = ⟨g, 0 + i, none⟩ := by
   unfold Addr.add
   split
   ·rename_i h; subst h; rfl
   ·simp
  rw [ad] at this; exact this
structure HGone (w wx : World) (pb mb db sb hb : Nat) (lv : List (Int × Int × Int)) (σ : Sg) (n : Nat) (v : Value) (l : List Int) : Prop where
 x : HX wx w.heap.size pb mb db sb hb lv σ n
 b : Below w.heap.size w wx
 row : wx.ownsRow w.heap.size 3 1 v l.length (ints l)
 g : Gone σ.s l
section
variable {w wx w2 : World} {pb mb db sb hb n : Nat} {lv : List (Int × Int × Int)} {σ : Sg} {v : Value} {l : List Int}
theorem HGone.below (h : HGone w wx pb mb db sb hb lv σ n v l) (hB : Below wx.heap.size wx w2) : HGone w w2 pb mb db sb hb lv σ n v l := ⟨h.x.below hB, B.next h.b hB h.x.sz, row_far h.row fun _ _ hk => hk.below hB, h.g⟩
theorem HGone.done {hb' n' : Nat} {σ' : Sg} (h : HGone w wx pb mb db sb hb lv σ n v l) (f : HFr w.heap.size wx w2) (hx : HX w2 w.heap.size pb mb db sb hb' lv σ' n') (hc : ∀ x, x ≠ 0 → Pl.cnt σ'.s x = Pl.cnt σ.s x) : HGone w w2 pb mb db sb hb' lv σ' n' v l :=
 ⟨hx, ⟨f.b.os.trans h.b.os, f.b.tape.trans h.b.tape, f.b.output.trans h.b.output, Nat.le_trans h.b.size f.b.size, fun q hq => (f.b.block q hq).trans (h.b.block q hq)⟩, row_far h.row fun k arr hk => f.far k arr _ (by decide) (by decide) (by decide) (by decide) (by decide) (by decide) hk, h.g.same hc⟩
end
structure HR (w wx : World) (base pb mb db sb hb : Nat) (lv : List (Int × Int × Int)) (σ : Sg) (n : Nat) (v v4 : Value) (L F : List Int) : Prop where
 row : wx.ownsRow base 3 1 v F.length (ints F)
 x : HX wx w.heap.size pb mb db sb hb lv σ n
 at4 : ∃ (ad : Option Addr) (cap : Nat), v4 = .slice ad L.length cap ∧ L.length ≤ cap ∧ cap ≤ maxLen ∧ (0 < L.length → ∃ b off, ad = some ⟨b, off, none⟩ ∧ b < base ∧ ∀ i, i < L.length → wx.cell? ⟨b, off + i, none⟩ = some (.int .i64 (L.getD i 0)))
 below : Below w.heap.size w wx
 base1 : base ≤ wx.heap.size
 base2 : w.heap.size ≤ base
section
variable {w wx w3 : World} {base pb mb db sb hb n : Nat} {lv : List (Int × Int × Int)} {σ : Sg} {v v' v4 : Value} {L F : List Int} {x : Int}
theorem HR.alloc (h : HR w wx base pb mb db sb hb lv σ n v v4 L F) (o : Obj) : HR w (wx.alloc o) base pb mb db sb hb lv σ n v v4 L F := by
 refine ⟨h.row.alloc o, h.x.below (B.new1 _ _), ?_, h.below.alloc (Nat.le_trans h.base2 h.base1) o, by have := h.base1; simp; omega, h.base2⟩
 obtain ⟨ad, cap, e, a1, a2, hc⟩ := h.at4; refine ⟨ad, cap, e, a1, a2, fun h0 => ?_⟩
 obtain ⟨b, off, ha, hlt, hcell⟩ := hc h0; exact ⟨b, off, ha, hlt, fun i hi => (B.cell (B.new1 wx o) b _ (Nat.lt_of_lt_of_le hlt h.base1)).trans (hcell i hi)⟩
theorem HR.grown (h : HR w wx base pb mb db sb hb lv σ n v v4 L F) (ho : w3.ownsRow base 3 1 v' (F.length + 1) (ints F ++ [.int .i64 x])) (hg : wx.grownBy w3 v.ownBlock) : HR w w3 base pb mb db sb hb lv σ n v' v4 L (F ++ [x]) := by
 have hb' : ∀ k, v.ownBlock = some k → base ≤ k := fun k hk => (row_blk h.row k hk).1
 have b1 := h.base1; have b2 := h.base2; refine ⟨by rw [ints_append, List.length_append]; exact ho, h.x.grown hg (fun k hk => (row_blk h.row k hk).2), ?_, Below.grown h.below hg (by omega) (fun k hk => by have := hb' k hk; omega), Nat.le_trans b1 hg.size, b2⟩
 obtain ⟨ad, cap, e, a1, a2, hc⟩ := h.at4; refine ⟨ad, cap, e, a1, a2, fun h0 => ?_⟩
 obtain ⟨b, off, ha, hlt, hcell⟩ := hc h0; exact ⟨b, off, ha, hlt, fun i hi => (World.cell?_of_block (w := wx) (hg.block b (by omega) (fun e => by have := hb' _ e.symm; omega))).trans (hcell i hi)⟩
end
end Hs
end Go.Proofs.YtopgllmjeliklaaGreatDoor
