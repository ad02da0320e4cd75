/- Chapter 6: the disk behind a write: how it lies then; for the laws of stage 3. -/
import Derived.RangeFuncOwn
import Derived.Test.YtmojjjikaaclpaaDiskE
namespace Go.Proofs.Ytmojjjikaaclpaa
open Go.Shelf Go.Lib Go.ChangeShapes Go.WideShapes Go.ChangeAt Go.RowKit
set_option maxRecDepth 100000
set_option linter.unusedSimpArgs false
set_option linter.unusedVariables false

namespace Dk
open Bk
/-- Rows of 65 cells are what they are cell by cell. -/
theorem flat_of (A : Array Value) (l : List Sec) (hs : A.size = l.length * 65) (h : ∀ j, j < l.length → ∀ r, r < 65 → A[j * 65 + r]? = (Sec.enc l[j]!)[r]?) : A = (l.flatMap Sec.enc).toArray := by
  apply Array.ext_getElem?
  intro q
  have hlen := flat_len Sec.enc 65 Sec.enc_len l
  by_cases hq : q < l.length * 65
  · have hj : q / 65 < l.length := Nat.div_lt_of_lt_mul (by rw [Nat.mul_comm]; exact hq)
    have hr : q % 65 < 65 := Nat.mod_lt _ (by decide)
    have e : q = q / 65 * 65 + q % 65 := by have := Nat.div_add_mod q 65; omega
    have h1 := h (q / 65) hj (q % 65) hr
    have h2 := flat_get Sec.enc 65 Sec.enc_len l (q / 65) (q % 65) hj hr
    rw [← e] at h1 h2
    rw [h1, List.getElem?_toArray, h2]
  · rw [Array.getElem?_eq_none (by omega), Array.getElem?_eq_none (by simp only [List.size_toArray]; omega)]
/-- What an operation on the disk leaves alone. -/
structure DFr (base : Nat) (w w' : World) : Prop where
  b : Below base w w'
  far : ∀ k arr T, T ≠ 63 → T ≠ 74 → T ≠ 70 → Blk w k arr T → Blk w' k arr T
  oth : KeepsOthers w w'
theorem keeps_below {w w' : World} (h : Below w.heap.size w w') : KeepsOthers w w' := ⟨h.size, fun k o hk _ => (h.block k (Array.getElem?_eq_some_iff.1 hk).1).trans hk⟩
theorem DFr.refl (base : Nat) (w : World) : DFr base w w := ⟨Below.refl _ _, fun _ _ _ _ _ _ h => h, KeepsOthers.refl _⟩
theorem DFr.trans {base : Nat} {a b c : World} (h : DFr base a b) (k : DFr base b c) (hb : base ≤ a.heap.size) : DFr base a c := ⟨⟨k.b.os.trans h.b.os, k.b.tape.trans h.b.tape, k.b.output.trans h.b.output, Nat.le_trans h.b.size k.b.size, fun q hq => (k.b.block q hq).trans (h.b.block q hq)⟩, fun q arr T h1 h2 h3 h4 => k.far q arr T h1 h2 h3 (h.far q arr T h1 h2 h3 h4), h.oth.trans k.oth⟩
theorem DFr.of_below {base : Nat} {w w' : World} (h : Below w.heap.size w w') (hb : base ≤ w.heap.size) : DFr base w w' := ⟨⟨h.os, h.tape, h.output, h.size, fun k hk => h.block k (by omega)⟩, fun _ _ _ _ _ _ hk => hk.below h, keeps_below h⟩
theorem own_at {w : World} {base : Nat} {v : Value} {l : List Wr} (h : OwnAt w base 70 65 Wr.enc v l) {k : Nat} (e : v.ownBlock = some k) : base ≤ k ∧ k < w.heap.size ∧ ∃ cur, Blk w k cur 70 := by
  rcases h with ⟨rfl, _⟩ | ⟨g, cap, cur, rfl, hg, hb, _⟩
  · simp [Value.ownBlock] at e
  · simp [Value.ownBlock] at e
    subst e
    exact ⟨hg, hb.lt, cur, hb⟩
theorem DFr.of_add {base : Nat} {w w' : World} {sb : Nat} {C : Array Value} {v : Value} {l : List Wr} (h : AddFr w w' sb v) (hB : Blk w sb C 74) (hO : OwnAt w base 70 65 Wr.enc v l) (hb : base ≤ sb) : DFr base w w' := by
  have hsb := hB.lt
  refine ⟨⟨h.os, h.tape, h.output, h.size, fun k hk => h.block k (by omega) (by omega) (fun e => ?_)⟩, fun k arr T h1 h2 h3 hk => (h.block k hk.lt (fun e => ?_) (fun e => ?_)).trans hk, h.size, fun k o hk ho => (h.block k (Array.getElem?_eq_some_iff.1 hk).1 (fun e => ?_) (fun e => ?_)).trans hk⟩
  · have := (own_at hO e).1; omega
  · subst e; exact h2 (blk_typeD hk hB)
  · obtain ⟨_, _, cur, hc⟩ := own_at hO e
    exact h3 (blk_typeD hk hc)
  · subst e
    rw [show w.heap[k]? = _ from hB] at hk
    cases hk; cases ho
  · obtain ⟨_, _, cur, hc⟩ := own_at hO e
    rw [show w.heap[k]? = _ from hc] at hk
    cases hk; cases ho
theorem DFr.of_set {base : Nat} {w : World} {db : Nat} {D : Array Value} (hD : Blk w db D 63) (hb : base ≤ db) (o : Nat) (v : Value) : DFr base w (w.setCell ⟨db, o, none⟩ v) :=
  ⟨(Below.refl _ _).setCell (p := ⟨db, o, none⟩) hb v, fun k arr T h1 _ _ hk => hk.other (fun e => h1 (blk_typeD hk (e ▸ hD))) o v, KeepsOthers.setCell _ _ _⟩
theorem set_get (secs : List Sec) (i j : Nat) (s : Sec) (hi : i < secs.length) (hj : j < secs.length) : (secs.set i s)[j]! = if i = j then s else secs[j]! := by
  rw [getElem!_pos (secs.set i s) j (by simpa using hj), List.getElem_set]
  by_cases e : i = j
  · rw [if_pos e, if_pos e]
  · rw [if_neg e, if_neg e, getElem!_pos secs j hj]
/-- The disk behind a write. -/
theorem DiskAt.added {w w' : World} {base db sb : Nat} {secs : List Sec} {bit : Int} {armed : Bool} {left : Int} {down : Bool} {i : Nat} {x : Wr} {v' : Value} (h : DiskAt w base db sb secs bit armed left down) (hi : i < secs.length)
    (hO : OwnAt w' base 70 65 Wr.enc v' (secs[i]!.wr ++ [x])) (hB : Blk w' sb ((secs.flatMap Sec.enc).toArray.setIfInBounds (i * 65 + 64) v') 74) (hF : AddFr w w' sb secs[i]!.v) (hn : ∀ g, v'.ownBlock = some g → secs[i]!.v.ownBlock = some g ∨ w.heap.size ≤ g) :
    DiskAt w' base db sb (secs.set i ⟨secs[i]!.kept, v', secs[i]!.wr ++ [x]⟩) bit armed left down := by
  have hdb : db ≠ sb := fun e => by
    have h1 := h.d
    rw [e] at h1
    exact absurd (blk_typeD h1 h.s) (by decide)
  refine ⟨?_, ?_, ?_, ?_, h.hb⟩
  · rw [List.length_set]
    refine (hF.block db h.d.lt hdb (fun e => ?_)).trans h.d
    obtain ⟨_, _, cur, hc⟩ := own_at (h.own i hi) e
    exact absurd (blk_typeD h.d hc) (by decide)
  · have e : ((secs.flatMap Sec.enc).toArray.setIfInBounds (i * 65 + 64) v') = ((secs.set i ⟨secs[i]!.kept, v', secs[i]!.wr ++ [x]⟩).flatMap Sec.enc).toArray := by
      refine flat_of _ _ (by simp only [Array.size_setIfInBounds, List.size_toArray, List.length_set]; exact flat_len Sec.enc 65 Sec.enc_len secs) (fun j hj r hr => ?_)
      rw [List.length_set] at hj
      rw [set_get secs i j _ hi hj, Array.getElem?_setIfInBounds, List.getElem?_toArray, flat_get Sec.enc 65 Sec.enc_len secs j r hj hr]
      by_cases e : i = j
      · subst e
        rw [if_pos rfl]
        by_cases er : r = 64
        · subst er
          rw [if_pos rfl, if_pos (by simp only [List.size_toArray]; rw [flat_len Sec.enc 65 Sec.enc_len secs]; omega)]
          unfold Sec.enc
          rw [List.getElem?_append_right (by rw [conV_len]; exact Nat.le_refl _), conV_len]
          rfl
        · rw [if_neg (by omega)]
          unfold Sec.enc
          rw [List.getElem?_append_left (by rw [conV_len]; omega), List.getElem?_append_left (by rw [conV_len]; omega)]
      · rw [if_neg e, if_neg (by omega)]
    rw [← e]
    exact hB
  · intro j hj
    rw [List.length_set] at hj
    rw [set_get secs i j _ hi hj]
    by_cases e : i = j
    · rw [if_pos e]; exact hO
    · rw [if_neg e]
      rcases h.own j hj with h1 | ⟨g, cap, cur, hv, hg, hk, r⟩
      · exact Or.inl h1
      · refine Or.inr ⟨g, cap, cur, hv, hg, (hF.block g hk.lt (fun e' => ?_) (fun e' => ?_)).trans hk, r⟩
        · subst e'; exact absurd (blk_typeD hk h.s) (by decide)
        · exact h.ne i j hi hj e g e' (by rw [hv]; rfl)
  · intro a b ha hb hab g hg
    rw [List.length_set] at ha hb
    rw [set_get secs i a _ hi ha] at hg
    rw [set_get secs i b _ hi hb]
    by_cases ea : i = a
    · rw [if_pos ea] at hg
      rw [if_neg (by omega)]
      rcases hn g hg with h1 | h1
      · exact h.ne i b hi hb (by omega) g h1
      · intro h2
        have := (own_at (h.own b hb) h2).2.1
        omega
    · rw [if_neg ea] at hg
      by_cases eb : i = b
      · rw [if_pos eb]
        intro h2
        rcases hn g h2 with h1 | h1
        · exact h.ne i a hi ha ea g h1 hg
        · have := (own_at (h.own a ha) hg).2.1
          omega
      · rw [if_neg eb]
        exact h.ne a b ha hb hab g hg
/-- Its bit is another. -/
theorem DiskAt.setBit {w : World} {base db sb : Nat} {secs : List Sec} {bit : Int} {armed : Bool} {left : Int} {down : Bool} (h : DiskAt w base db sb secs bit armed left down) (b2 : Int) : DiskAt (w.setCell ⟨db, 1, none⟩ (.int .i64 b2)) base db sb secs b2 armed left down := by
  have hdb : db ≠ sb := fun e => by
    have h1 := h.d
    rw [e] at h1
    exact absurd (blk_typeD h1 h.s) (by decide)
  refine ⟨h.d.set 1 _, h.s.other hdb _ _, fun i hi => (h.own i hi).grown (grown_set w db 1 _) (fun g e e' => ?_), h.ne, h.hb⟩
  injection e' with e'
  subst e'
  exact own_neD (h.own i hi) h.d (by decide) e

end Dk
end Go.Proofs.Ytmojjjikaaclpaa
