/- StoreC. -/
import Derived.Test.YtopgllmjeliklaaGreatDoorKiDone
set_option maxRecDepth 100000
set_option linter.unusedSimpArgs false
set_option linter.unusedVariables false
namespace Go.Proofs.YtopgllmjeliklaaGreatDoor
open Go.Shelf Go.Lib Go.ChangeShapes Go.WideShapes Go.ChangeAt Go.RowKit
attribute [local go_sem] Oper.semAt_some
namespace Lg
open Bk Dk Tx
structure LeftOk (armed : Bool) (left : Int) : Prop where
 lo : 0 ≤ left ∨ armed = false
 hi : left ≤ 9223372036854775807
theorem LeftOk.next {armed : Bool} {left : Int} {down : Bool} (h : LeftOk armed left) : LeftOk armed (leftN armed left down) := by
 unfold leftN
 split
 ·rename_i hh
  have h1 := h.lo; have h2 := h.hi; refine ⟨?_, by omega⟩
  cases armed
  ·exact Or.inr rfl
  ·left
   have h3 : downB true left down = false := by simpa using hh
   unfold downB at h3
   simp at h3
   rcases h1 with h1 | h1
   ·omega
   ·cases h1
 ·exact h
theorem down_armed {armed : Bool} {left : Int} (h : downB armed left false = true) : armed = true := by
 cases armed
 ·simp [downB] at h
 ·rfl
theorem blkKept {W W' : World} {row : Option Nat} {k : Nat} {arr : Array Value} {T : TypeId} (h : Blk W k arr T) (hg : W.grownBy W' row) (hr : ∀ r, row = some r → ∃ o : Obj, W.heap[r]? = some o ∧ o.isCells = false) : Blk W' k arr T := by
 refine (hg.block k h.lt (fun e => ?_)).trans h
 obtain ⟨o, ho, hc⟩ := hr k e.symm; rw [show W.heap[k]? = _ from h] at ho
 cases ho; cases hc
theorem diskKept {W W' : World} {row : Option Nat} {base db sb : Nat} {secs : List Sec} {bit : Int} {armed : Bool} {left : Int} {down : Bool} (h : DiskAt W base db sb secs bit armed left down) (hg : W.grownBy W' row) (hr : ∀ r, row = some r → ∃ o : Obj, W.heap[r]? = some o ∧ o.isCells = false) : DiskAt W' base db sb secs bit armed left down := by
 refine ⟨blkKept h.d hg hr, blkKept h.s hg hr, fun i hi => (h.own i hi).grown hg (fun g e e' => ?_), h.ne, h.hb⟩
 obtain ⟨_, _, cur, hc⟩ := own_at (h.own i hi) e; obtain ⟨o, ho, hcc⟩ := hr g e'; rw [show W.heap[g]? = _ from hc] at ho
 cases ho; cases hcc
theorem dfrKept {w W W' : World} {row : Option Nat} {base B : Nat} (h : DFr base w W) (hg : W.grownBy W' row) (hr : ∀ r, row = some r → B ≤ r ∧ ∃ o : Obj, W.heap[r]? = some o ∧ o.isCells = false) (hb : base ≤ w.heap.size) (hB : w.heap.size ≤ B) : DFr base w W' := by
 refine ⟨grown_below' h.b hg (fun g e => by have := (hr g e).1; omega) (Nat.le_trans hb h.b.size), fun k arr T a1 a2 a3 hk => blkKept (h.far k arr T a1 a2 a3 hk) hg (fun r e => (hr r e).2), Nat.le_trans h.oth.size hg.size, fun k o hk ho => ?_⟩
 have h1 := h.oth.same k o hk ho; refine (hg.block k (Array.getElem?_eq_some_iff.1 h1).1 (fun e => ?_)).trans h1
 have := (hr k e.symm).1; have := (Array.getElem?_eq_some_iff.1 hk).1
 omega
theorem farSet {base : Nat} {w w' : World} (h : DFr base w w') (hb : base ≤ w.heap.size) (k : Nat) (hk : w.heap.size ≤ k) (o : Nat) (v : Value) : DFr base w (w'.setCell ⟨k, o, none⟩ v) :=
 ⟨h.b.setCell (p := ⟨k, o, none⟩) (by show base ≤ k; omega) v, fun q arr T h1 h2 h3 hq => (h.far q arr T h1 h2 h3 hq).other (by have := hq.lt; omega) o v, h.oth.trans (KeepsOthers.setCell _ _ _)⟩
theorem diskFar {w : World} {base db sb : Nat} {secs : List Sec} {bit : Int} {armed : Bool} {left : Int} {down : Bool} {X : Nat} {arr : Array Value} {T : TypeId} (h : DiskAt w base db sb secs bit armed left down) (hX : Blk w X arr T) (n1 : T ≠ 124) (n2 : T ≠ 157) (n3 : T ≠ 194) (o : Nat) (v : Value) : DiskAt (w.setCell ⟨X, o, none⟩ v) base db sb secs bit armed left down := by
 refine ⟨h.d.other (fun e => ?_) _ _, h.s.other (fun e => ?_) _ _, fun i hi => (h.own i hi).grown (grown_set w X o v) (fun g e e' => ?_), h.ne, h.hb⟩
 ·subst e; exact n1 (blk_typeD hX h.d)
 ·subst e; exact n2 (blk_typeD hX h.s)
 ·injection e' with e'
  subst e'; obtain ⟨_, _, cur, hc⟩ := own_at (h.own i hi) e; exact n3 (blk_typeD hX hc)
theorem putKept {W : World} {D : Nat} (hK : W.heap[D]? = some (.deferred (some []))) : W.grownBy (W.putObj D (.deferred none)) (some D) ∧ ∀ r, some D = some r → ∃ o : Obj, W.heap[r]? = some o ∧ o.isCells = false :=
 ⟨grownBy_putObj' W D _, fun r e => by cases e; exact ⟨_, hK, rfl⟩⟩
theorem putKept2 {W : World} {D B : Nat} (hB : B ≤ D) (hK : W.heap[D]? = some (.deferred (some []))) : ∀ r, some D = some r → B ≤ r ∧ ∃ o : Obj, W.heap[r]? = some o ∧ o.isCells = false :=
 fun r e => by cases e; exact ⟨hB, _, hK, rfl⟩
theorem nameB_size (nx : Nat) (h : nx ≤ 1) : (nameB nx).size ≤ 64 := by
 have h1 : (Lib.itoa (nx : Int)).length = 1 := by
  unfold Lib.itoa; rw [if_neg (by omega), Lib.decDigits_one (by omega), List.length_singleton]
 unfold nameB; rw [ByteArray.size_append]; have h2 : preB.size = 18 := rfl
 have h3 : (⟨(Lib.itoa (nx : Int)).toArray⟩ : ByteArray).size = 1 := by
  show (Lib.itoa (nx : Int)).toArray.size = 1
  rw [List.size_toArray, h1]
 omega
def nxN (secs : List Sec) : Nat := if slotP secs[0]!.now = 0 then 1 else 0
def StorePost (base db sb : Nat) (secs : List Sec) (armed : Bool) (t : ByteArray) (w : World) (e : Ending) (w' : World) : Prop := DFr base w w' ∧
 ((e = .returned .nilIface ∧ ∃ secs' left', LeftOk armed left' ∧ DiskAt w' base db sb secs' 0 armed left' false ∧ Stored secs secs' (nxN secs) t) ∨
  (armed = true ∧ e = .returned (errV 9) ∧ ∃ secs' bit' left', LeftOk armed left' ∧ DiskAt w' base db sb secs' bit' armed left' true ∧ Fell secs secs' (nxN secs) t))
theorem cut_any (t : ByteArray) (w : World) : Calls Tryz.prog 124 #[.string t] w fun e w' => e = .returned (.func (.func 148) #[] #[.pointer (some ⟨w.heap.size, 0, none⟩)]) ∧ w' = w.alloc (.cells #[.string t] 9) := by
 go_enter Tryz.func124, Tryz.ntmps124
 go_wp2; go_returns; exact ⟨rfl, rfl⟩
set_option maxHeartbeats 8000000 in
theorem store_any (base db sb : Nat) (secs : List Sec) (armed : Bool) (left : Int) (t : ByteArray) (w : World) (h : DiskAt w base db sb secs 0 armed left false) (hbase : base ≤ w.heap.size) (hlo : LeftOk armed left) (hw : ∀ j, j < secs.length → secs[j]!.wr = []) (h22 : 22 ≤ secs.length) (hn : secs.length ≤ 1000) (ht : t.size ≤ 100000000) (G : Glob w) (hbg : Tryz.prog.globals.size ≤ base) :
  Calls Tryz.prog 87 #[.pointer (some ⟨db, 0, none⟩), .string t] w (StorePost base db sb secs armed t w) := by
 have HOK : Hid (∀ w', DFr base w w' → ∀ secs' left', LeftOk armed left' → DiskAt w' base db sb secs' 0 armed left' false → Stored secs secs' (nxN secs) t → StorePost base db sb secs armed t w (.returned .nilIface) w') := fun w' h1 s' l' h2 h3 h4 => ⟨h1, Or.inl ⟨rfl, s', l', h2, h3, h4⟩⟩
 have HNO : Hid (armed = true → ∀ w', DFr base w w' → ∀ secs' bit' left', LeftOk armed left' → DiskAt w' base db sb secs' bit' armed left' true → Fell secs secs' (nxN secs) t → StorePost base db sb secs armed t w (.returned (.iface 103 (.int .i64 9))) w') := fun ha w' h1 s' b' l' h2 h3 h4 => ⟨h1, Or.inr ⟨ha, rfl, s', b', l', h2, h3, h4⟩⟩
 generalize StorePost base db sb secs armed t w = PP at *; obtain ⟨w0, hw0⟩ : ∃ w0, (w.alloc (.cells #[.pointer (some ⟨db, 0, none⟩)] 26)).alloc (.cells #[.nilIface] 50) = w0 := ⟨_, rfl⟩
 have N0 : Hid (Below w.heap.size w w0 ∧ Blk w0 w.heap.size #[.pointer (some ⟨db, 0, none⟩)] 26 ∧ Blk w0 (w.heap.size + 1) #[.nilIface] 50 ∧ w0.heap.size = w.heap.size + 2) := by
  show _ ∧ _ ∧ _ ∧ _
  rw [← hw0]; exact ⟨(B.new1 _ _).alloc (by simp) _, (Blk.new _ _ _).old _, Blk.new1 (by simp) _ _, by simp⟩
 have HNM : Hid (Calls Tryz.prog 99 #[.pointer (some ⟨db, 0, none⟩)] w0 fun e w' => e = .returned (.tuple #[.int .i64 (slotP secs[0]!.now), .nilIface]) ∧ Below w0.heap.size w0 w') :=
  named_any base db sb secs 0 armed left false w0 (h.below N0.out.1) (fun i hi => by rw [hw i hi]; simp) hn (by omega) (G.new N0.out.1)
 have HSL : Hid (nxN secs = if slotP secs[0]!.now = 0 then 1 else 0) := rfl
 have HGL : Hid (∀ W, DFr base w W → Glob W) := fun W hW => G.same hW.b.size (fun k hk => hW.b.block k (by have := hbg; omega))
 generalize slotP secs[0]!.now = sl at *; have c0 := N0.out.2.1.cell 0; simp only [List.getElem?_toArray, List.getElem?_cons_zero] at c0; refine (callsIn_wide (n := 8)).1 ?_; refine callsIn_of_wp_marks Tryz.func87 rfl trivial ?_ rfl; simp only [Tryz.ntmps87, List.size_toArray, List.length_cons, List.length_nil, Nat.reduceAdd, Nat.reduceSub, Array.replicate_succ, Array.replicate_zero, List.push_toArray, List.append_toArray, List.nil_append, List.cons_append]
 gi_wp2
 refine ⟨trivial, (callsIn_wide.2 HNM.out).mono ?_⟩; rintro e w1 ⟨rfl, b1⟩; have N1 : Hid (Below w.heap.size w w1 ∧ Blk w1 w.heap.size #[.pointer (some ⟨db, 0, none⟩)] 26 ∧ Blk w1 (w.heap.size + 1) #[.nilIface] 50 ∧ w.heap.size + 2 ≤ w1.heap.size) := ⟨B.next N0.out.1 b1 N0.out.1.size, N0.out.2.1.below b1, N0.out.2.2.1.below b1, by have := b1.size; have := N0.out.2.2.2; omega⟩
 clear N0 b1 HNM hw0 c0; have HX : ∃ nx : Nat, nx ≤ 1 ∧ nxN secs = nx ∧ nx = (if sl = 0 then 1 else 0) := ⟨if sl = 0 then 1 else 0, by split <;> omega, HSL.out, rfl⟩
 obtain ⟨nx, hnx1, hnx, hnxs⟩ := HX; rw [hnx] at HOK HNO; obtain ⟨w2, hw2⟩ : ∃ w2, w1.alloc (.cells #[.int .i64 0] 3) = w2 := ⟨_, rfl⟩
 have N2 : Hid (Below w.heap.size w w2 ∧ Blk w2 w.heap.size #[.pointer (some ⟨db, 0, none⟩)] 26 ∧ Blk w2 (w.heap.size + 1) #[.nilIface] 50 ∧ Blk w2 w1.heap.size #[.int .i64 0] 3 ∧ w2.heap.size = w1.heap.size + 1) := by
  show _ ∧ _ ∧ _ ∧ _ ∧ _
  rw [← hw2]; exact ⟨N1.out.1.alloc N1.out.1.size _, N1.out.2.1.old _, N1.out.2.2.1.old _, Blk.new _ _ _, by simp⟩
 have f2 := N2.out.2.2.2.1.free; have c2 := N2.out.2.2.2.1.cell; have HDS : Hid (∀ W, Below w.heap.size w W → DiskAt W base db sb secs 0 armed left false ∧ DFr base w W) := fun W hb => ⟨h.below hb, DFr.of_below hb hbase⟩
 have HW3 : Hid (∀ q, (sl == 0) = q → ∃ w3, (if q = true then (w2.setCell ⟨w1.heap.size, 0, none⟩ (.int .i64 0)).setCell ⟨w1.heap.size, 0, none⟩ (.int .i64 1) else w2.setCell ⟨w1.heap.size, 0, none⟩ (.int .i64 0)) = w3 ∧
   Hid (Below w.heap.size w w3 ∧ Blk w3 w.heap.size #[.pointer (some ⟨db, 0, none⟩)] 26 ∧ Blk w3 (w.heap.size + 1) #[.nilIface] 50 ∧ Blk w3 w1.heap.size #[.int .i64 nx] 3 ∧ w3.heap.size = w1.heap.size + 1)) := by
  intro q hq
  have hle := N1.out.2.2.2; have k1 : Blk (w2.setCell ⟨w1.heap.size, 0, none⟩ (.int .i64 0)) w1.heap.size #[.int .i64 0] 3 := N2.out.2.2.2.1.set 0 _; have bb := N2.out.1.setCell (p := ⟨w1.heap.size, 0, none⟩) (by show w.heap.size ≤ w1.heap.size; omega) (.int .i64 0)
  have x1 := N2.out.2.1.other (c := w1.heap.size) (by omega) 0 (.int .i64 0); have x2 := N2.out.2.2.1.other (c := w1.heap.size) (by omega) 0 (.int .i64 0); have sz := N2.out.2.2.2.2
  cases q
  ·have hsl : ¬ sl = 0 := by simpa using hq
   rw [if_neg hsl] at hnxs; subst hnxs; exact ⟨_, rfl, bb, x1, x2, k1, by rw [if_neg (by decide), size_setCell]; exact sz⟩
  ·have hsl : sl = 0 := by simpa using hq
   rw [if_pos hsl] at hnxs; subst hnxs; exact ⟨_, rfl, bb.setCell (p := ⟨w1.heap.size, 0, none⟩) (by show w.heap.size ≤ w1.heap.size; omega) _, x1.other (by omega) _ _, x2.other (by omega) _ _, k1.set 0 _, by rw [if_pos rfl, size_setCell, size_setCell]; exact sz⟩
 clear hnxs HSL
 cases hq : (sl == 0)
 ·obtain ⟨w3, hw3, N3⟩ := HW3.out _ hq
  rw [if_neg (by decide)] at hw3; clear HW3
  gi_wp2
  refine ⟨trivial, (callsIn_wide.2 (cut_any t w3)).mono ?_⟩; rintro e w4 ⟨rfl, hw4⟩; have hs4 : w4.heap.size = w3.heap.size + 1 := by rw [hw4]; simp
  have N4 : Hid (Below w.heap.size w w4 ∧ Blk w4 w.heap.size #[.pointer (some ⟨db, 0, none⟩)] 26 ∧ Blk w4 (w.heap.size + 1) #[.nilIface] 50 ∧ Blk w4 w1.heap.size #[.int .i64 nx] 3 ∧ w4.cell? ⟨w3.heap.size, 0, none⟩ = some (.string t) ∧ w.heap.size + 4 ≤ w4.heap.size) := by
   have hle := N1.out.2.2.2; have hs3 := N3.out.2.2.2.2; rw [hw4]; refine ⟨N3.out.1.alloc N3.out.1.size _, N3.out.2.1.old _, N3.out.2.2.1.old _, N3.out.2.2.2.1.old _, ?_, by simp; omega⟩
   rw [(Blk.new w3 #[.string t] 9).cell]
   rfl
  have hX4 : w3.heap.size < w4.heap.size := by omega
  clear hw3 hw4 f2 c2 hw2
  gi_wp2
  refine wpIn_rangeFunc_ownF rfl (by omega) (gf := 148) (lb := #[.pointer (some ⟨w3.heap.size, 0, none⟩)]) rfl trivial (enters_of Tryz.func148 (by kernel_rfl) rfl)
   (cut1_stops Fence.wide 7 trivial rfl (by omega) w3.heap.size t ht w4 hX4 N4.out.2.2.2.2.1) (fun _ _ => trivial) (fun _ _ _ _ _ _ _ _ => trivial) (Below.refl _ _) (fun _ => rfl)
   (fun pre W => ∃ secs' left', LeftOk armed left' ∧ DiskAt W base db sb secs' (pre.length : Nat) armed left' false ∧ Wrd secs secs' (1 + 10 * nx) pre ∧ DFr base w W ∧ Blk W w.heap.size #[.pointer (some ⟨db, 0, none⟩)] 26 ∧ Blk W (w.heap.size + 1) #[.nilIface] 50 ∧ Blk W w1.heap.size #[.int .i64 nx] 3)
   (fun c pre W => c = .ret ∧ armed = true ∧ DFr base w W ∧ Blk W (w.heap.size + 1) #[.iface 103 (.int .i64 9)] 50 ∧ ∃ secs' bit' left', LeftOk armed left' ∧ DiskAt W base db sb secs' bit' armed left' true ∧ Fell secs secs' nx t)
   ?hI ?hIx ?h0
   (fun x => { tmps := #[.pointer (some ⟨db, 0, none⟩), .string t, .pointer (some ⟨w.heap.size, 0, none⟩), undef, .pointer (some ⟨w.heap.size + 1, 0, none⟩), .int .i64 sl, .nilIface, .pointer (some ⟨w1.heap.size, 0, none⟩), .int .i64 (x.1.1 : Int), .string x.1.2, undef, undef, undef, .tuple #[.int .i64 sl, .nilIface], .pointer (some ⟨db, 0, none⟩), .tuple #[.int .i64 sl, .nilIface], .int .i64 sl, .nilIface, .nilIface, .bool false, undef, .int .i64 sl, .bool false, .string t, .func (.func 148) #[] #[.pointer (some ⟨w3.heap.size, 0, none⟩)], .int .i64 (x.1.1 : Int), .string x.1.2, undef, undef, undef, undef, undef, undef, undef, undef, undef, undef, undef, undef, undef, undef, undef, undef, undef, undef, undef, undef, undef, undef, undef, undef], defers := [] }) ?assign ?body ?done ?stop
  case hI =>
   rintro pre W W' row ⟨s', l', h1, h2, h3, h4, h5, h6, h7⟩ hg hr; exact ⟨s', l', h1, diskKept h2 hg (fun r e => (hr r e).2), h3, dfrKept h4 hg hr hbase (by have := N4.out.1.size; omega), blkKept h5 hg (fun r e => (hr r e).2), blkKept h6 hg (fun r e => (hr r e).2), blkKept h7 hg (fun r e => (hr r e).2)⟩
  case hIx =>
   rintro c pre W W' row ⟨h1, h2, h3, h4, s', b', l', h5, h6, h7⟩ hg hr; exact ⟨h1, h2, dfrKept h3 hg hr hbase (by have := N4.out.1.size; omega), blkKept h4 hg (fun r e => (hr r e).2), s', b', l', h5, diskKept h6 hg (fun r e => (hr r e).2), h7⟩
  case h0 =>
   exact ⟨secs, left, hlo, (HDS.out _ N4.out.1).1, Wrd.zero hw _, (HDS.out _ N4.out.1).2, N4.out.2.1, N4.out.2.2.1, N4.out.2.2.2.1⟩
  case assign =>
   intro l x W K hK
   unfold encP
   gi_wp2
   exact hK
  case body =>
   rintro l pre x W ⟨s', l', h1, h2, h3, h4, h5, h6, h7⟩ hlen; have k0 := h5.cell 0; have k7 := h7.cell 0; simp only [List.getElem?_toArray, List.getElem?_cons_zero] at k0 k7; obtain ⟨⟨i, S⟩, hi10, hS64⟩ := x; simp only at hi10 hS64; have e1 : IntKind.i64.wrap (1 + (nx : Int) * 10 + i) = 1 + (nx : Int) * 10 + i := by rw [IntKind.wrap_i64]; omega
   have HST : Hid (Calls Tryz.prog 126 #[.int .i64 nx] W.drew fun e w' => e = .returned (.int .i64 (1 + (nx : Int) * 10)) ∧ w' = W.drew) := start_any nx W.drew (by omega) (by omega)
   have hix : 1 + 10 * nx + i < secs.length := by omega
   have hD : Hid (DiskAt W.drew base db sb s' (pre.length : Nat) armed l' false) := h2.below (Below.refl _ _).drew; have hbW : base ≤ W.drew.heap.size := Nat.le_trans hbase h4.b.size
   have HWR : Hid (Calls Tryz.prog 125 #[.pointer (some ⟨db, 0, none⟩), .int .i64 (1 + (nx : Int) * 10 + i), .string S] W.drew fun e w' => ∃ ev, e = .returned ev ∧ DFr base W.drew w' ∧
     ((downB armed l' false = true ∧ ev = .iface 103 (.int .i64 9) ∧ DiskAt w' base db sb s' (pre.length : Nat) armed (leftN armed l' false) true) ∨
      (downB armed l' false = false ∧ ev = .nilIface ∧ ∃ v', DiskAt w' base db sb (s'.set (1 + 10 * nx + i) ⟨s'[1 + 10 * nx + i]!.kept, v', s'[1 + 10 * nx + i]!.wr ++ [⟨(pre.length : Nat), padF S⟩]⟩) ((pre.length : Nat) + 1) armed (leftN armed l' false) false))) := by
    refine ((writeG_any base db sb s' (pre.length : Nat) armed l' false (1 + (nx : Int) * 10 + i) S W.drew hD.out hbW h1.lo h1.hi (by omega) (by omega) ?_ ?_ (by rw [h3.len]; exact hn) (by unfold maxLen; omega)).mono ?_)
    ·intro j hj y hy
     rw [h3.len] at hj; rw [h3.wr j hj] at hy; have := wrsAt_bit _ j pre 0 y hy
     omega
    ·intro j hj
     rw [h3.len] at hj; rw [h3.wr j hj]; have := wrsAt_len (1 + 10 * nx) j pre 0
     omega
    ·have hh : (hasN s'.length (1 + (nx : Int) * 10 + i) && decide (S.size ≤ 64)) = true := by
      unfold hasN; rw [h3.len]
      simp
      omega
     have hx : (1 + (nx : Int) * 10 + i).toNat = 1 + 10 * nx + i := by omega
     rintro e w' (⟨hb, _⟩ | ⟨_, hd, rfl, hf, hk⟩ | ⟨_, hd, rfl, hf, v', hk⟩)
     ·rw [hh] at hb; cases hb
     ·exact ⟨_, rfl, hf, Or.inl ⟨hd, rfl, hk⟩⟩
     ·rw [hx] at hk
      exact ⟨_, rfl, hf, Or.inr ⟨hd, rfl, v', hk⟩⟩
   have hmix : Tryz.prog.follows .mixedOrders = true := by kernel_rfl
   have H1 : Hid (LeftOk armed l') := h1; have H3 : Hid (Wrd secs s' (1 + 10 * nx) pre) := h3; have H4 : Hid (DFr base w W) := h4; have H5 : Hid (Blk W w.heap.size #[.pointer (some ⟨db, 0, none⟩)] 26 ∧ Blk W (w.heap.size + 1) #[.nilIface] 50 ∧ Blk W w1.heap.size #[.int .i64 nx] 3) := ⟨h5, h6, h7⟩; clear h1 h2 h3 h4 h5 h6 h7 hD HDS HOK HNO N1 N2 N3 N4 h hw
   gi_wp2
   have HSD : Hid ((fun W' : World => W'.cell? ⟨w.heap.size, 0, none⟩ = some (.pointer (some ⟨db, 0, none⟩)) ∧ W'.cell? ⟨w1.heap.size, 0, none⟩ = some (.int .i64 nx)) W.drew) := ⟨k0, k7⟩
   refine Rd.region_onward (S := fun W' => W'.cell? ⟨w.heap.size, 0, none⟩ = some (.pointer (some ⟨db, 0, none⟩)) ∧ W'.cell? ⟨w1.heap.size, 0, none⟩ = some (.int .i64 nx)) (by kernel_rfl) (by kernel_rfl) ?_
   refine wpAnyH_take (fuel := 7) (i := 0) (v := .pointer (some ⟨db, 0, none⟩)) rfl (by kernel_rfl) (by kernel_rfl) (by kernel_rfl) (fun _ _ _ h => h) (Or.inl ⟨by rfl, ?_⟩) HSD.out ?_
   ·intro Wx hSw
    obtain ⟨y0, y1⟩ := hSw
    go_simp
    try rfl
   (try simp only [Act.put, List.setIfInBounds_toArray, List.set_cons_zero, List.set_cons_succ, List.getElem_toArray, List.getElem_cons_zero, List.getElem_cons_succ])
   refine wpAnyH_take (fuel := 6) (i := 1) (v := .int .i64 nx) rfl (by kernel_rfl) (by kernel_rfl) (by kernel_rfl) (fun _ _ _ h => h) (Or.inl ⟨by rfl, ?_⟩) HSD.out ?_
   ·intro Wx hSw
    obtain ⟨y0, y1⟩ := hSw
    go_simp
    try rfl
   (try simp only [Act.put, List.setIfInBounds_toArray, List.set_cons_zero, List.set_cons_succ, List.getElem_toArray, List.getElem_cons_zero, List.getElem_cons_succ])
   refine wpAnyH_take (fuel := 5) (i := 3) (v := .int .i64 i) rfl (by kernel_rfl) (by kernel_rfl) (by kernel_rfl) (fun _ _ _ h => h) (Or.inl ⟨by rfl, ?_⟩) HSD.out ?_
   ·intro Wx hSw
    obtain ⟨y0, y1⟩ := hSw
    go_simp
    try rfl
   (try simp only [Act.put, List.setIfInBounds_toArray, List.set_cons_zero, List.set_cons_succ, List.getElem_toArray, List.getElem_cons_zero, List.getElem_cons_succ])
   refine wpAnyH_take (fuel := 4) (i := 5) (v := .string S) rfl (by kernel_rfl) (by kernel_rfl) (by kernel_rfl) (fun _ _ _ h => h) (Or.inl ⟨by rfl, ?_⟩) HSD.out ?_
   ·intro Wx hSw
    obtain ⟨y0, y1⟩ := hSw
    go_simp
    try rfl
   (try simp only [Act.put, List.setIfInBounds_toArray, List.set_cons_zero, List.set_cons_succ, List.getElem_toArray, List.getElem_cons_zero, List.getElem_cons_succ])
   refine wpAnyH_ready (fuel := 3) (rs := [2]) (by kernel_rfl) (by simp) ?_; refine AllReadyH.cons rfl (fun K hK => ?_) AllReadyH.nil
   go_simp
   refine HST.out.mono ?_; rintro e wx ⟨rfl, rfl⟩; simp only []; refine hK.out _ _ HSD.out (fun _ => ?_)
   clear hK K
   (try simp only [Act.put, List.setIfInBounds_toArray, List.set_cons_zero, List.set_cons_succ, List.getElem_toArray, List.getElem_cons_zero, List.getElem_cons_succ])
   refine wpAnyH_take (fuel := 2) (i := 4) (v := .int .i64 (1 + (nx : Int) * 10 + i)) rfl (by kernel_rfl) (by kernel_rfl) (by kernel_rfl) (fun _ _ _ h => h) (Or.inl ⟨by rfl, ?_⟩) HSD.out ?_
   ·intro Wx hSw
    obtain ⟨y0, y1⟩ := hSw
    go_simp
    try rfl
   (try simp only [Act.put, List.setIfInBounds_toArray, List.set_cons_zero, List.set_cons_succ, List.getElem_toArray, List.getElem_cons_zero, List.getElem_cons_succ])
   refine wpAnyH_ready (fuel := 1) (rs := [6]) (by kernel_rfl) (by simp) ?_; refine AllReadyH.cons rfl (fun K hK => ?_) AllReadyH.nil
   go_simp
   refine HWR.out.mono ?_; rintro e wx ⟨ev, rfl, hF, hP⟩; have HF : Hid (DFr base W.drew wx) := hF
   have HPP : Hid ((downB armed l' false = true ∧ ev = .iface 103 (.int .i64 9) ∧ DiskAt wx base db sb s' (pre.length : Nat) armed (leftN armed l' false) true) ∨
      (downB armed l' false = false ∧ ev = .nilIface ∧ ∃ v', DiskAt wx base db sb (s'.set (1 + 10 * nx + i) ⟨s'[1 + 10 * nx + i]!.kept, v', s'[1 + 10 * nx + i]!.wr ++ [⟨(pre.length : Nat), padF S⟩]⟩) ((pre.length : Nat) + 1) armed (leftN armed l' false) false)) := hP
   clear hF hP HST HWR
   have H6 : Hid (Blk wx w.heap.size #[.pointer (some ⟨db, 0, none⟩)] 26 ∧ Blk wx (w.heap.size + 1) #[.nilIface] 50 ∧ Blk wx w1.heap.size #[.int .i64 nx] 3) :=
    ⟨HF.out.far _ _ _ (by decide) (by decide) (by decide) H5.out.1, HF.out.far _ _ _ (by decide) (by decide) (by decide) H5.out.2.1, HF.out.far _ _ _ (by decide) (by decide) (by decide) H5.out.2.2⟩
   have HS4 : Hid ((fun W' : World => W'.cell? ⟨w.heap.size, 0, none⟩ = some (.pointer (some ⟨db, 0, none⟩)) ∧ W'.cell? ⟨w1.heap.size, 0, none⟩ = some (.int .i64 nx)) wx) := ⟨H6.out.1.cell 0, H6.out.2.2.cell 0⟩
   simp only []; refine hK.out _ _ HS4.out (fun _ => ?_)
   clear hK K
   (try simp only [Act.put, List.setIfInBounds_toArray, List.set_cons_zero, List.set_cons_succ, List.getElem_toArray, List.getElem_cons_zero, List.getElem_cons_succ])
   refine wpAnyH_ready (fuel := 0) (rs := [7]) (by kernel_rfl) (by simp) ?_; refine AllReadyH.cons rfl (fun K hK => ?_) AllReadyH.nil
   go_simp
   refine hK.out _ _ HS4.out (fun _ => ?_)
   clear hK K; refine wpAnyH_done (by kernel_rfl) ?_ _
   (try simp only [Act.put])
   have HFW : Hid (DFr base w wx) := (H4.out.trans (DFr.of_below (Below.refl _ _).drew (Nat.le_trans hbase H4.out.b.size)) hbase).trans HF.out hbase; have hoth : KeepsOthers W wx := ⟨HF.out.oth.size, fun k o hk ho => HF.out.oth.same k o hk ho⟩
   rcases HPP.out with ⟨hd, rfl, hk⟩ | ⟨hd, rfl, v', hk⟩
   ·have f6 := H6.out.2.1.free
    have c6 := H6.out.2.1.cell
    have HXX : Hid (KeepsOthers W (wx.setCell ⟨w.heap.size + 1, 0, none⟩ (.iface 103 (.int .i64 9))) ∧ armed = true ∧ DFr base w (wx.setCell ⟨w.heap.size + 1, 0, none⟩ (.iface 103 (.int .i64 9))) ∧ Blk (wx.setCell ⟨w.heap.size + 1, 0, none⟩ (.iface 103 (.int .i64 9))) (w.heap.size + 1) #[.iface 103 (.int .i64 9)] 50 ∧
      ∃ secs' bit' left', LeftOk armed left' ∧ DiskAt (wx.setCell ⟨w.heap.size + 1, 0, none⟩ (.iface 103 (.int .i64 9))) base db sb secs' bit' armed left' true ∧ Fell secs secs' nx t) := by
     refine ⟨hoth.trans (KeepsOthers.setCell _ _ _), down_armed hd, farSet HFW.out hbase (w.heap.size + 1) (by omega) 0 _, H6.out.2.1.set 0 _, s', (pre.length : Nat), leftN armed l' false, H1.out.next (down := false), ?_, H3.out.fell (by omega) t⟩
     exact diskFar hk H6.out.2.1 (by decide) (by decide) (by decide) 0 _
    clear HF HPP HFW HSD HS4 hoth H1 H3 H4 H5 hk; simp only [Rd.Onward]
    gi_wp2
    exact ⟨HXX.out.1, rfl, HXX.out.2.1, HXX.out.2.2.1, HXX.out.2.2.2.1, HXX.out.2.2.2.2⟩
   ·have HXX : Hid (KeepsOthers W wx ∧ ∃ secs' left', LeftOk armed left' ∧ DiskAt wx base db sb secs' ((pre ++ [(⟨(i, S), hi10, hS64⟩ : Pc)]).length : Nat) armed left' false ∧ Wrd secs secs' (1 + 10 * nx) (pre ++ [(⟨(i, S), hi10, hS64⟩ : Pc)]) ∧ DFr base w wx) := by
     refine ⟨hoth, _, leftN armed l' false, H1.out.next (down := false), ?_, H3.out.more (⟨(i, S), hi10, hS64⟩ : Pc) hix v', HFW.out⟩; rw [List.length_append, List.length_singleton]; exact hk
    clear HF HPP HFW HSD HS4 hoth H1 H3 H4 H5 hk; simp only [Rd.Onward]
    gi_wp2
    obtain ⟨a1, s2, l2, b1, b2, b3, b4⟩ := HXX.out; exact ⟨a1, trivial, s2, l2, b1, b2, b3, b4, H6.out⟩
  case done =>
   rintro D ys W hD rfl ⟨s', l', h1, h2, h3, h4, h5, h6, h7⟩ hK; have k0 := h5.cell 0; simp only [List.getElem?_toArray, List.getElem?_cons_zero] at k0; rw [pcsT_len] at h2; have hbW : base ≤ W.heap.size := Nat.le_trans hbase h4.b.size
   have HFL : Hid (Calls Tryz.prog 127 #[.pointer (some ⟨db, 0, none⟩)] W fun e w' => ∃ ev, e = .returned ev ∧ DFr base W w' ∧
     ((downB armed l' false = true ∧ ev = .iface 103 (.int .i64 9) ∧ DiskAt w' base db sb s' (10 : Nat) armed (leftN armed l' false) true) ∨
      (downB armed l' false = false ∧ ev = .nilIface ∧ DiskAt w' base db sb (stl 18446744073709551615 s' s'.length) 0 armed (leftN armed l' false) false))) := by
    refine (flushG_any base db sb s' (10 : Nat) armed l' false W h2 hbW h1.lo h1.hi ?_ ?_ (by rw [h3.len]; exact hn)).mono ?_
    ·intro j hj
     rw [h3.len] at hj; have := (h3.fell (by rw [pcsT_len]; omega) t).few j hj
     omega
    ·intro j hj
     rw [h3.len] at hj; exact (h3.fell (by rw [pcsT_len]; omega) t).bits j hj
    ·rintro e w' (⟨hd, rfl, hf, hk⟩ | ⟨hd, rfl, hf, hk⟩)
     ·exact ⟨_, rfl, hf, Or.inl ⟨hd, rfl, hk⟩⟩
     ·exact ⟨_, rfl, hf, Or.inr ⟨hd, rfl, hk⟩⟩
   have H1 : Hid (LeftOk armed l') := h1; have HH : Hid (Half secs (stl 18446744073709551615 s' s'.length) nx t) := h3.half; have HFE : Hid (Fell secs s' nx t) := h3.fell (by rw [pcsT_len]; omega) t; have HDK : Hid (w.heap.size ≤ D ∧ DFr base w W ∧ W.heap[D]? = some (.deferred (some []))) := ⟨Nat.le_trans N4.out.1.size hD, h4, hK⟩; have HBB : Hid (Blk W w.heap.size #[.pointer (some ⟨db, 0, none⟩)] 26 ∧ Blk W (w.heap.size + 1) #[.nilIface] 50 ∧ Blk W w1.heap.size #[.int .i64 nx] 3) := ⟨h5, h6, h7⟩; generalize hS2 : stl 18446744073709551615 s' s'.length = S2 at *; clear h1 h2 h3 h4 h5 h6 h7 hD hK HDS N1 N2 N3 N4 h hw hS2
   have FALL : ∀ (wx : World) (s2 : List Sec) (b2 l2 : Int), armed = true → DFr base w wx → wx.heap[D]? = some (.deferred (some [])) → Blk wx (w.heap.size + 1) #[.nilIface] 50 → LeftOk armed l2 → DiskAt wx base db sb s2 b2 armed l2 true → Fell secs s2 nx t →
     Hid (PP (.returned (.iface 103 (.int .i64 9))) ((wx.setCell ⟨w.heap.size + 1, 0, none⟩ (.iface 103 (.int .i64 9))).putObj D (.deferred none)) ∧ ((wx.setCell ⟨w.heap.size + 1, 0, none⟩ (.iface 103 (.int .i64 9))).putObj D (.deferred none)).cell? ⟨w.heap.size + 1, 0, none⟩ = some (.iface 103 (.int .i64 9)) ∧
      (wx.setCell ⟨w.heap.size + 1, 0, none⟩ (.iface 103 (.int .i64 9))).heap[D]? = some (.deferred (some []))) := by
    intro wx s2 b2 l2 ha hf hk hb hl hd hfe
    have hk2 : (wx.setCell ⟨w.heap.size + 1, 0, none⟩ (.iface 103 (.int .i64 9))).heap[D]? = some (.deferred (some [])) := (KeepsOthers.setCell wx ⟨w.heap.size + 1, 0, none⟩ (.iface 103 (.int .i64 9))).same D _ hk rfl; have hb2 : Blk (wx.setCell ⟨w.heap.size + 1, 0, none⟩ (.iface 103 (.int .i64 9))) (w.heap.size + 1) #[.iface 103 (.int .i64 9)] 50 := hb.set 0 _; refine ⟨HNO.out ha _ (dfrKept (farSet hf hbase (w.heap.size + 1) (by omega) 0 _) (putKept hk2).1 (putKept2 HDK.out.1 hk2) hbase (Nat.le_refl _)) s2 b2 l2 hl (diskKept (diskFar hd hb (by decide) (by decide) (by decide) 0 _) (putKept hk2).1 (putKept hk2).2) hfe, ?_, hk2⟩; have := (blkKept hb2 (putKept hk2).1 (putKept hk2).2).cell 0
    simpa using this
   gi_wp2
   refine ⟨trivial, (callsIn_wide.2 HFL.out).mono ?_⟩; rintro e w5 ⟨ev, rfl, hF5, hP5⟩; have HF5 : Hid (DFr base w w5 ∧ w5.heap[D]? = some (.deferred (some [])) ∧ base ≤ w5.heap.size) := ⟨HDK.out.2.1.trans hF5 hbase, hF5.oth.same D _ HDK.out.2.2 rfl, Nat.le_trans hbW hF5.b.size⟩
   have HB5 : Hid (Blk w5 w.heap.size #[.pointer (some ⟨db, 0, none⟩)] 26 ∧ Blk w5 (w.heap.size + 1) #[.nilIface] 50 ∧ Blk w5 w1.heap.size #[.int .i64 nx] 3) :=
    ⟨hF5.far _ _ _ (by decide) (by decide) (by decide) HBB.out.1, hF5.far _ _ _ (by decide) (by decide) (by decide) HBB.out.2.1, hF5.far _ _ _ (by decide) (by decide) (by decide) HBB.out.2.2⟩
   clear HFL HBB k0 hF5; have c5 := HB5.out.2.1.cell; have f5 := HB5.out.2.1.free
   rcases hP5 with ⟨hd, rfl, hk⟩ | ⟨hd, rfl, hk⟩
   ·have X := FALL w5 s' _ _ (down_armed hd) HF5.out.1 HF5.out.2.1 HB5.out.2.1 (H1.out.next (down := false)) hk HFE.out
    have kk := X.out.2.1; clear FALL hk
    gi_wp2
    refine ⟨by simp, .inl ⟨_, _, rfl, run_takeDeferred X.out.2.2, ?_⟩⟩; exact ⟨_, (by simp [results, Tryz.results87, go_sem, kk]; try rfl), X.out.1⟩
   have HD5 : Hid (DiskAt w5 base db sb S2 0 armed (leftN armed l' false) false) := hk; have HL5 : Hid (LeftOk armed (leftN armed l' false)) := H1.out.next; generalize leftN armed l' false = l5 at *; clear hk hd H1 HFE; have k0 := HB5.out.1.cell 0; have k7 := HB5.out.2.2.cell 0; simp only [List.getElem?_toArray, List.getElem?_cons_zero] at k0 k7
   gi_wp2
   have HNA : Hid (Calls Tryz.prog 128 #[.int .i64 nx] w5.drew fun e w' => e = .returned (.string (nameB nx)) ∧ Below w5.drew.heap.size w5.drew w') := name_any nx w5.drew (by omega) (by omega) (HGL.out _ (HF5.out.1.trans (DFr.of_below (Below.refl _ _).drew HF5.out.2.2) hbase))
   have hns : (nameB nx).size ≤ 64 := nameB_size nx hnx1
   have HWR : Hid (∀ wx, Below w5.drew.heap.size w5.drew wx → Calls Tryz.prog 125 #[.pointer (some ⟨db, 0, none⟩), .int .i64 0, .string (nameB nx)] wx fun e w' => ∃ ev, e = .returned ev ∧ DFr base wx w' ∧
     ((downB armed l5 false = true ∧ ev = .iface 103 (.int .i64 9) ∧ DiskAt w' base db sb S2 0 armed (leftN armed l5 false) true) ∨
      (downB armed l5 false = false ∧ ev = .nilIface ∧ ∃ v', DiskAt w' base db sb (S2.set 0 ⟨S2[0]!.kept, v', S2[0]!.wr ++ [⟨0, padF (nameB nx)⟩]⟩) 1 armed (leftN armed l5 false) false))) := by
    intro wx hbx
    refine ((writeG_any base db sb S2 0 armed l5 false 0 (nameB nx) wx ((HD5.out.below (Below.refl _ _).drew).below hbx) (Nat.le_trans HF5.out.2.2 hbx.size) HL5.out.lo HL5.out.hi (by omega) (by omega) ?_ ?_ (by rw [HH.out.len]; exact hn) (by unfold maxLen; omega)).mono ?_)
    ·intro j hj y hy
     rw [HH.out.len] at hj; rw [HH.out.wr j hj] at hy
     simp at hy
    ·intro j hj
     rw [HH.out.len] at hj; rw [HH.out.wr j hj]
     simp
    ·have hh : (hasN S2.length 0 && decide ((nameB nx).size ≤ 64)) = true := by
      unfold hasN; rw [HH.out.len]
      simp
      omega
     rintro e w' (⟨hb, _⟩ | ⟨_, hd, rfl, hf, hk⟩ | ⟨_, hd, rfl, hf, v', hk⟩)
     ·rw [hh] at hb; cases hb
     ·exact ⟨_, rfl, hf, Or.inl ⟨hd, rfl, hk⟩⟩
     ·exact ⟨_, rfl, hf, Or.inr ⟨hd, rfl, v', hk⟩⟩
   generalize hNN : nameB nx = NB at *; have HSD : Hid ((fun W' : World => W'.cell? ⟨w.heap.size, 0, none⟩ = some (.pointer (some ⟨db, 0, none⟩)) ∧ W'.cell? ⟨w1.heap.size, 0, none⟩ = some (.int .i64 nx)) w5.drew) := ⟨k0, k7⟩
   refine Rd.region_wide (S := fun W' => W'.cell? ⟨w.heap.size, 0, none⟩ = some (.pointer (some ⟨db, 0, none⟩)) ∧ W'.cell? ⟨w1.heap.size, 0, none⟩ = some (.int .i64 nx)) (by kernel_rfl) ?_
   refine wpAnyH_take (fuel := 4) (i := 0) (v := .pointer (some ⟨db, 0, none⟩)) rfl (by kernel_rfl) (by kernel_rfl) (by kernel_rfl) (fun _ _ _ h => h) (Or.inl ⟨by rfl, ?_⟩) HSD.out ?_
   ·intro Wx hSw
    obtain ⟨y0, y1⟩ := hSw
    go_simp
    try rfl
   (try simp only [Act.put, List.setIfInBounds_toArray, List.set_cons_zero, List.set_cons_succ, List.getElem_toArray, List.getElem_cons_zero, List.getElem_cons_succ])
   refine wpAnyH_take (fuel := 3) (i := 1) (v := .int .i64 nx) rfl (by kernel_rfl) (by kernel_rfl) (by kernel_rfl) (fun _ _ _ h => h) (Or.inl ⟨by rfl, ?_⟩) HSD.out ?_
   ·intro Wx hSw
    obtain ⟨y0, y1⟩ := hSw
    go_simp
    try rfl
   (try simp only [Act.put, List.setIfInBounds_toArray, List.set_cons_zero, List.set_cons_succ, List.getElem_toArray, List.getElem_cons_zero, List.getElem_cons_succ])
   refine wpAnyH_ready (fuel := 2) (rs := [2]) (by kernel_rfl) (by simp) ?_; refine AllReadyH.cons rfl (fun K hK => ?_) AllReadyH.nil
   go_simp
   refine HNA.out.mono ?_; rintro e w6 ⟨rfl, b6⟩
   have HB6 : Hid (Blk w6 w.heap.size #[.pointer (some ⟨db, 0, none⟩)] 26 ∧ Blk w6 (w.heap.size + 1) #[.nilIface] 50 ∧ Blk w6 w1.heap.size #[.int .i64 nx] 3) :=
    ⟨(HB5.out.1.below (Below.refl _ _).drew).below b6, (HB5.out.2.1.below (Below.refl _ _).drew).below b6, (HB5.out.2.2.below (Below.refl _ _).drew).below b6⟩
   have HW6 := HWR.out w6 b6
   have HF6 : Hid (DFr base w w6 ∧ w6.heap[D]? = some (.deferred (some [])) ∧ base ≤ w6.heap.size) := by
    have hD5 : D < w5.heap.size := (Array.getElem?_eq_some_iff.1 HF5.out.2.1).1; exact ⟨(HF5.out.1.trans (DFr.of_below (Below.refl _ _).drew HF5.out.2.2) hbase).trans (DFr.of_below b6 HF5.out.2.2) hbase, (b6.block D hD5).trans HF5.out.2.1, Nat.le_trans HF5.out.2.2 b6.size⟩
   have HS6 : Hid ((fun W' : World => W'.cell? ⟨w.heap.size, 0, none⟩ = some (.pointer (some ⟨db, 0, none⟩)) ∧ W'.cell? ⟨w1.heap.size, 0, none⟩ = some (.int .i64 nx)) w6) := ⟨HB6.out.1.cell 0, HB6.out.2.2.cell 0⟩
   clear b6 HWR HNA; simp only []; refine hK.out _ _ HS6.out (fun _ => ?_)
   clear hK K
   (try simp only [Act.put, List.setIfInBounds_toArray, List.set_cons_zero, List.set_cons_succ, List.getElem_toArray, List.getElem_cons_zero, List.getElem_cons_succ])
   refine wpAnyH_ready (fuel := 1) (rs := [3]) (by kernel_rfl) (by simp) ?_; refine AllReadyH.cons rfl (fun K hK => ?_) AllReadyH.nil
   go_simp
   refine Calls.mono HW6 ?_; rintro e w7 ⟨ev, rfl, hF7, hP7⟩; have HF7 : Hid (DFr base w w7 ∧ w7.heap[D]? = some (.deferred (some [])) ∧ base ≤ w7.heap.size) := ⟨HF6.out.1.trans hF7 hbase, hF7.oth.same D _ HF6.out.2.1 rfl, Nat.le_trans HF6.out.2.2 hF7.b.size⟩
   have HB7 : Hid (Blk w7 w.heap.size #[.pointer (some ⟨db, 0, none⟩)] 26 ∧ Blk w7 (w.heap.size + 1) #[.nilIface] 50 ∧ Blk w7 w1.heap.size #[.int .i64 nx] 3) :=
    ⟨hF7.far _ _ _ (by decide) (by decide) (by decide) HB6.out.1, hF7.far _ _ _ (by decide) (by decide) (by decide) HB6.out.2.1, hF7.far _ _ _ (by decide) (by decide) (by decide) HB6.out.2.2⟩
   have HP7 : Hid _ := hP7; have HS7 : Hid ((fun W' : World => W'.cell? ⟨w.heap.size, 0, none⟩ = some (.pointer (some ⟨db, 0, none⟩)) ∧ W'.cell? ⟨w1.heap.size, 0, none⟩ = some (.int .i64 nx)) w7) := ⟨HB7.out.1.cell 0, HB7.out.2.2.cell 0⟩
   clear hF7 hP7 HW6; simp only []; refine hK.out _ _ HS7.out (fun _ => ?_)
   clear hK K
   (try simp only [Act.put, List.setIfInBounds_toArray, List.set_cons_zero, List.set_cons_succ, List.getElem_toArray, List.getElem_cons_zero, List.getElem_cons_succ])
   refine wpAnyH_ready (fuel := 0) (rs := [4]) (by kernel_rfl) (by simp) ?_; refine AllReadyH.cons rfl (fun K hK => ?_) AllReadyH.nil
   go_simp
   refine hK.out _ _ HS7.out (fun _ => ?_)
   clear hK K; refine wpAnyH_done (by kernel_rfl) ?_ _
   (try simp only [Act.put])
   simp only [Rd.Onward]; clear HS7 HS6 HSD k0 k7 c5 f5 HB5 HB6 HF5 HF6 HD5; have c7 := HB7.out.2.1.cell; have f7 := HB7.out.2.1.free
   rcases HP7.out with ⟨hd, rfl, hk⟩ | ⟨hd, rfl, v', hk⟩
   ·have X := FALL w7 S2 _ _ (down_armed hd) HF7.out.1 HF7.out.2.1 HB7.out.2.1 (HL5.out.next (down := false)) hk HH.out.fell
    have kk := X.out.2.1; clear FALL hk HP7
    gi_wp2
    refine ⟨by simp, .inl ⟨_, _, rfl, run_takeDeferred X.out.2.2, ?_⟩⟩; exact ⟨_, (by simp [results, Tryz.results87, go_sem, kk]; try rfl), X.out.1⟩
   have HNM2 := HH.out.named (by omega) v'; rw [hNN] at HNM2; have HNM2 : Hid _ := HNM2; have hlen3 : (S2.set 0 ⟨S2[0]!.kept, v', S2[0]!.wr ++ [⟨0, padF NB⟩]⟩).length = secs.length := by rw [List.length_set, HH.out.len]
   have HD7 : Hid (DiskAt w7 base db sb (S2.set 0 ⟨S2[0]!.kept, v', S2[0]!.wr ++ [⟨0, padF NB⟩]⟩) 1 armed (leftN armed l5 false) false) := hk; have HL7 : Hid (LeftOk armed (leftN armed l5 false)) := HL5.out.next; generalize leftN armed l5 false = l7 at *; generalize S2.set 0 ⟨S2[0]!.kept, v', S2[0]!.wr ++ [⟨0, padF NB⟩]⟩ = S3 at *
   have HFL : Hid (Calls Tryz.prog 127 #[.pointer (some ⟨db, 0, none⟩)] w7 fun e w' => ∃ ev, e = .returned ev ∧ DFr base w7 w' ∧
     ((downB armed l7 false = true ∧ ev = .iface 103 (.int .i64 9) ∧ DiskAt w' base db sb S3 1 armed (leftN armed l7 false) true) ∨
      (downB armed l7 false = false ∧ ev = .nilIface ∧ DiskAt w' base db sb (stl 18446744073709551615 S3 secs.length) 0 armed (leftN armed l7 false) false))) := by
    refine (flushG_any base db sb S3 1 armed l7 false w7 HD7.out HF7.out.2.2 HL7.out.lo HL7.out.hi ?_ ?_ (by rw [hlen3]; exact hn)).mono ?_
    ·intro j hj
     rw [hlen3] at hj; have := HNM2.out.1.few j hj
     omega
    ·intro j hj
     rw [hlen3] at hj; exact HNM2.out.1.bits j hj
    ·rintro e w' (⟨hd, rfl, hf, hk⟩ | ⟨hd, rfl, hf, hk⟩)
     ·exact ⟨_, rfl, hf, Or.inl ⟨hd, rfl, hk⟩⟩
     ·rw [hlen3] at hk
      exact ⟨_, rfl, hf, Or.inr ⟨hd, rfl, hk⟩⟩
   have k0 := HB7.out.1.cell 0; simp only [List.getElem?_toArray, List.getElem?_cons_zero] at k0; clear hk hd HP7 HD7 c7 f7
   gi_wp2
   refine ⟨trivial, (callsIn_wide.2 HFL.out).mono ?_⟩; rintro e w8 ⟨ev, rfl, hF8, hP8⟩; have HF8 : Hid (DFr base w w8 ∧ w8.heap[D]? = some (.deferred (some []))) := ⟨HF7.out.1.trans hF8 hbase, hF8.oth.same D _ HF7.out.2.1 rfl⟩; have HB8 : Hid (Blk w8 (w.heap.size + 1) #[.nilIface] 50) := hF8.far _ _ _ (by decide) (by decide) (by decide) HB7.out.2.1; clear HFL k0 hF8 HB7 HF7; have c8 := HB8.out.cell; have f8 := HB8.out.free
   rcases hP8 with ⟨hd, rfl, hk⟩ | ⟨hd, rfl, hk⟩
   ·have X := FALL w8 S3 _ _ (down_armed hd) HF8.out.1 HF8.out.2 HB8.out (HL7.out.next (down := false)) hk HNM2.out.1
    have kk := X.out.2.1; clear FALL hk
    gi_wp2
    refine ⟨by simp, .inl ⟨_, _, rfl, run_takeDeferred X.out.2.2, ?_⟩⟩; exact ⟨_, (by simp [results, Tryz.results87, go_sem, kk]; try rfl), X.out.1⟩
   ·have hk2 : (w8.setCell ⟨w.heap.size + 1, 0, none⟩ .nilIface).heap[D]? = some (.deferred (some [])) := (KeepsOthers.setCell w8 ⟨w.heap.size + 1, 0, none⟩ .nilIface).same D _ HF8.out.2 rfl
    have hb2 : Blk (w8.setCell ⟨w.heap.size + 1, 0, none⟩ .nilIface) (w.heap.size + 1) #[.nilIface] 50 := HB8.out.set 0 _
    have HFI : Hid (PP (.returned .nilIface) ((w8.setCell ⟨w.heap.size + 1, 0, none⟩ .nilIface).putObj D (.deferred none))) :=
     HOK.out _ (dfrKept (farSet HF8.out.1 hbase (w.heap.size + 1) (by omega) 0 _) (putKept hk2).1 (putKept2 HDK.out.1 hk2) hbase (Nat.le_refl _)) _ _ (HL7.out.next (down := false)) (diskKept (diskFar hk HB8.out (by decide) (by decide) (by decide) 0 _) (putKept hk2).1 (putKept hk2).2) HNM2.out.2
    have kk := (blkKept hb2 (putKept hk2).1 (putKept hk2).2).cell 0; simp only [List.getElem?_toArray, List.getElem?_cons_zero] at kk; clear FALL hk
    gi_wp2
    refine ⟨by simp, .inl ⟨_, _, rfl, run_takeDeferred hk2, ?_⟩⟩; exact ⟨_, (by simp [results, Tryz.results87, go_sem, kk]; try rfl), HFI.out⟩
  case stop =>
   rintro D c pre W hD _ ⟨rfl, h2, h3, h4, s', b', l', h5, h6, h7⟩ hK; have k4 := (blkKept h4 (putKept hK).1 (putKept hK).2).cell 0; simp only [List.getElem?_toArray, List.getElem?_cons_zero] at k4
   have HFI : Hid (PP (.returned (.iface 103 (.int .i64 9))) (W.putObj D (.deferred none))) :=
    HNO.out h2 _ (dfrKept h3 (putKept hK).1 (putKept2 hD hK) hbase N4.out.1.size) s' b' l' h5 (diskKept h6 (putKept hK).1 (putKept hK).2) h7
   gi_wp2
   refine ⟨by simp, .inl ⟨_, _, rfl, run_takeDeferred hK, ?_⟩⟩; exact ⟨_, (by simp [results, Tryz.results87, go_sem, k4]; try rfl), HFI.out⟩
 ·obtain ⟨w3, hw3, N3⟩ := HW3.out _ hq
  rw [if_pos rfl] at hw3; clear HW3
  gi_wp2
  refine ⟨trivial, (callsIn_wide.2 (cut_any t w3)).mono ?_⟩; rintro e w4 ⟨rfl, hw4⟩; have hs4 : w4.heap.size = w3.heap.size + 1 := by rw [hw4]; simp
  have N4 : Hid (Below w.heap.size w w4 ∧ Blk w4 w.heap.size #[.pointer (some ⟨db, 0, none⟩)] 26 ∧ Blk w4 (w.heap.size + 1) #[.nilIface] 50 ∧ Blk w4 w1.heap.size #[.int .i64 nx] 3 ∧ w4.cell? ⟨w3.heap.size, 0, none⟩ = some (.string t) ∧ w.heap.size + 4 ≤ w4.heap.size) := by
   have hle := N1.out.2.2.2; have hs3 := N3.out.2.2.2.2; rw [hw4]; refine ⟨N3.out.1.alloc N3.out.1.size _, N3.out.2.1.old _, N3.out.2.2.1.old _, N3.out.2.2.2.1.old _, ?_, by simp; omega⟩
   rw [(Blk.new w3 #[.string t] 9).cell]
   rfl
  have hX4 : w3.heap.size < w4.heap.size := by omega
  clear hw3 hw4 f2 c2 hw2
  gi_wp2
  refine wpIn_rangeFunc_ownF rfl (by omega) (gf := 148) (lb := #[.pointer (some ⟨w3.heap.size, 0, none⟩)]) rfl trivial (enters_of Tryz.func148 (by kernel_rfl) rfl)
   (cut1_stops Fence.wide 7 trivial rfl (by omega) w3.heap.size t ht w4 hX4 N4.out.2.2.2.2.1) (fun _ _ => trivial) (fun _ _ _ _ _ _ _ _ => trivial) (Below.refl _ _) (fun _ => rfl)
   (fun pre W => ∃ secs' left', LeftOk armed left' ∧ DiskAt W base db sb secs' (pre.length : Nat) armed left' false ∧ Wrd secs secs' (1 + 10 * nx) pre ∧ DFr base w W ∧ Blk W w.heap.size #[.pointer (some ⟨db, 0, none⟩)] 26 ∧ Blk W (w.heap.size + 1) #[.nilIface] 50 ∧ Blk W w1.heap.size #[.int .i64 nx] 3)
   (fun c pre W => c = .ret ∧ armed = true ∧ DFr base w W ∧ Blk W (w.heap.size + 1) #[.iface 103 (.int .i64 9)] 50 ∧ ∃ secs' bit' left', LeftOk armed left' ∧ DiskAt W base db sb secs' bit' armed left' true ∧ Fell secs secs' nx t)
   ?hI ?hIx ?h0
   (fun x => { tmps := #[.pointer (some ⟨db, 0, none⟩), .string t, .pointer (some ⟨w.heap.size, 0, none⟩), undef, .pointer (some ⟨w.heap.size + 1, 0, none⟩), .int .i64 sl, .nilIface, .pointer (some ⟨w1.heap.size, 0, none⟩), .int .i64 (x.1.1 : Int), .string x.1.2, undef, undef, undef, .tuple #[.int .i64 sl, .nilIface], .pointer (some ⟨db, 0, none⟩), .tuple #[.int .i64 sl, .nilIface], .int .i64 sl, .nilIface, .nilIface, .bool false, undef, .int .i64 sl, .bool true, .string t, .func (.func 148) #[] #[.pointer (some ⟨w3.heap.size, 0, none⟩)], .int .i64 (x.1.1 : Int), .string x.1.2, undef, undef, undef, undef, undef, undef, undef, undef, undef, undef, undef, undef, undef, undef, undef, undef, undef, undef, undef, undef, undef, undef, undef, undef], defers := [] }) ?assign ?body ?done ?stop
  case hI =>
   rintro pre W W' row ⟨s', l', h1, h2, h3, h4, h5, h6, h7⟩ hg hr; exact ⟨s', l', h1, diskKept h2 hg (fun r e => (hr r e).2), h3, dfrKept h4 hg hr hbase (by have := N4.out.1.size; omega), blkKept h5 hg (fun r e => (hr r e).2), blkKept h6 hg (fun r e => (hr r e).2), blkKept h7 hg (fun r e => (hr r e).2)⟩
  case hIx =>
   rintro c pre W W' row ⟨h1, h2, h3, h4, s', b', l', h5, h6, h7⟩ hg hr; exact ⟨h1, h2, dfrKept h3 hg hr hbase (by have := N4.out.1.size; omega), blkKept h4 hg (fun r e => (hr r e).2), s', b', l', h5, diskKept h6 hg (fun r e => (hr r e).2), h7⟩
  case h0 =>
   exact ⟨secs, left, hlo, (HDS.out _ N4.out.1).1, Wrd.zero hw _, (HDS.out _ N4.out.1).2, N4.out.2.1, N4.out.2.2.1, N4.out.2.2.2.1⟩
  case assign =>
   intro l x W K hK
   unfold encP
   gi_wp2
   exact hK
  case body =>
   rintro l pre x W ⟨s', l', h1, h2, h3, h4, h5, h6, h7⟩ hlen; have k0 := h5.cell 0; have k7 := h7.cell 0; simp only [List.getElem?_toArray, List.getElem?_cons_zero] at k0 k7; obtain ⟨⟨i, S⟩, hi10, hS64⟩ := x; simp only at hi10 hS64; have e1 : IntKind.i64.wrap (1 + (nx : Int) * 10 + i) = 1 + (nx : Int) * 10 + i := by rw [IntKind.wrap_i64]; omega
   have HST : Hid (Calls Tryz.prog 126 #[.int .i64 nx] W.drew fun e w' => e = .returned (.int .i64 (1 + (nx : Int) * 10)) ∧ w' = W.drew) := start_any nx W.drew (by omega) (by omega)
   have hix : 1 + 10 * nx + i < secs.length := by omega
   have hD : Hid (DiskAt W.drew base db sb s' (pre.length : Nat) armed l' false) := h2.below (Below.refl _ _).drew; have hbW : base ≤ W.drew.heap.size := Nat.le_trans hbase h4.b.size
   have HWR : Hid (Calls Tryz.prog 125 #[.pointer (some ⟨db, 0, none⟩), .int .i64 (1 + (nx : Int) * 10 + i), .string S] W.drew fun e w' => ∃ ev, e = .returned ev ∧ DFr base W.drew w' ∧
     ((downB armed l' false = true ∧ ev = .iface 103 (.int .i64 9) ∧ DiskAt w' base db sb s' (pre.length : Nat) armed (leftN armed l' false) true) ∨
      (downB armed l' false = false ∧ ev = .nilIface ∧ ∃ v', DiskAt w' base db sb (s'.set (1 + 10 * nx + i) ⟨s'[1 + 10 * nx + i]!.kept, v', s'[1 + 10 * nx + i]!.wr ++ [⟨(pre.length : Nat), padF S⟩]⟩) ((pre.length : Nat) + 1) armed (leftN armed l' false) false))) := by
    refine ((writeG_any base db sb s' (pre.length : Nat) armed l' false (1 + (nx : Int) * 10 + i) S W.drew hD.out hbW h1.lo h1.hi (by omega) (by omega) ?_ ?_ (by rw [h3.len]; exact hn) (by unfold maxLen; omega)).mono ?_)
    ·intro j hj y hy
     rw [h3.len] at hj; rw [h3.wr j hj] at hy; have := wrsAt_bit _ j pre 0 y hy
     omega
    ·intro j hj
     rw [h3.len] at hj; rw [h3.wr j hj]; have := wrsAt_len (1 + 10 * nx) j pre 0
     omega
    ·have hh : (hasN s'.length (1 + (nx : Int) * 10 + i) && decide (S.size ≤ 64)) = true := by
      unfold hasN; rw [h3.len]
      simp
      omega
     have hx : (1 + (nx : Int) * 10 + i).toNat = 1 + 10 * nx + i := by omega
     rintro e w' (⟨hb, _⟩ | ⟨_, hd, rfl, hf, hk⟩ | ⟨_, hd, rfl, hf, v', hk⟩)
     ·rw [hh] at hb; cases hb
     ·exact ⟨_, rfl, hf, Or.inl ⟨hd, rfl, hk⟩⟩
     ·rw [hx] at hk
      exact ⟨_, rfl, hf, Or.inr ⟨hd, rfl, v', hk⟩⟩
   have hmix : Tryz.prog.follows .mixedOrders = true := by kernel_rfl
   have H1 : Hid (LeftOk armed l') := h1; have H3 : Hid (Wrd secs s' (1 + 10 * nx) pre) := h3; have H4 : Hid (DFr base w W) := h4; have H5 : Hid (Blk W w.heap.size #[.pointer (some ⟨db, 0, none⟩)] 26 ∧ Blk W (w.heap.size + 1) #[.nilIface] 50 ∧ Blk W w1.heap.size #[.int .i64 nx] 3) := ⟨h5, h6, h7⟩; clear h1 h2 h3 h4 h5 h6 h7 hD HDS HOK HNO N1 N2 N3 N4 h hw
   gi_wp2
   have HSD : Hid ((fun W' : World => W'.cell? ⟨w.heap.size, 0, none⟩ = some (.pointer (some ⟨db, 0, none⟩)) ∧ W'.cell? ⟨w1.heap.size, 0, none⟩ = some (.int .i64 nx)) W.drew) := ⟨k0, k7⟩
   refine Rd.region_onward (S := fun W' => W'.cell? ⟨w.heap.size, 0, none⟩ = some (.pointer (some ⟨db, 0, none⟩)) ∧ W'.cell? ⟨w1.heap.size, 0, none⟩ = some (.int .i64 nx)) (by kernel_rfl) (by kernel_rfl) ?_
   refine wpAnyH_take (fuel := 7) (i := 0) (v := .pointer (some ⟨db, 0, none⟩)) rfl (by kernel_rfl) (by kernel_rfl) (by kernel_rfl) (fun _ _ _ h => h) (Or.inl ⟨by rfl, ?_⟩) HSD.out ?_
   ·intro Wx hSw
    obtain ⟨y0, y1⟩ := hSw
    go_simp
    try rfl
   (try simp only [Act.put, List.setIfInBounds_toArray, List.set_cons_zero, List.set_cons_succ, List.getElem_toArray, List.getElem_cons_zero, List.getElem_cons_succ])
   refine wpAnyH_take (fuel := 6) (i := 1) (v := .int .i64 nx) rfl (by kernel_rfl) (by kernel_rfl) (by kernel_rfl) (fun _ _ _ h => h) (Or.inl ⟨by rfl, ?_⟩) HSD.out ?_
   ·intro Wx hSw
    obtain ⟨y0, y1⟩ := hSw
    go_simp
    try rfl
   (try simp only [Act.put, List.setIfInBounds_toArray, List.set_cons_zero, List.set_cons_succ, List.getElem_toArray, List.getElem_cons_zero, List.getElem_cons_succ])
   refine wpAnyH_take (fuel := 5) (i := 3) (v := .int .i64 i) rfl (by kernel_rfl) (by kernel_rfl) (by kernel_rfl) (fun _ _ _ h => h) (Or.inl ⟨by rfl, ?_⟩) HSD.out ?_
   ·intro Wx hSw
    obtain ⟨y0, y1⟩ := hSw
    go_simp
    try rfl
   (try simp only [Act.put, List.setIfInBounds_toArray, List.set_cons_zero, List.set_cons_succ, List.getElem_toArray, List.getElem_cons_zero, List.getElem_cons_succ])
   refine wpAnyH_take (fuel := 4) (i := 5) (v := .string S) rfl (by kernel_rfl) (by kernel_rfl) (by kernel_rfl) (fun _ _ _ h => h) (Or.inl ⟨by rfl, ?_⟩) HSD.out ?_
   ·intro Wx hSw
    obtain ⟨y0, y1⟩ := hSw
    go_simp
    try rfl
   (try simp only [Act.put, List.setIfInBounds_toArray, List.set_cons_zero, List.set_cons_succ, List.getElem_toArray, List.getElem_cons_zero, List.getElem_cons_succ])
   refine wpAnyH_ready (fuel := 3) (rs := [2]) (by kernel_rfl) (by simp) ?_; refine AllReadyH.cons rfl (fun K hK => ?_) AllReadyH.nil
   go_simp
   refine HST.out.mono ?_; rintro e wx ⟨rfl, rfl⟩; simp only []; refine hK.out _ _ HSD.out (fun _ => ?_)
   clear hK K
   (try simp only [Act.put, List.setIfInBounds_toArray, List.set_cons_zero, List.set_cons_succ, List.getElem_toArray, List.getElem_cons_zero, List.getElem_cons_succ])
   refine wpAnyH_take (fuel := 2) (i := 4) (v := .int .i64 (1 + (nx : Int) * 10 + i)) rfl (by kernel_rfl) (by kernel_rfl) (by kernel_rfl) (fun _ _ _ h => h) (Or.inl ⟨by rfl, ?_⟩) HSD.out ?_
   ·intro Wx hSw
    obtain ⟨y0, y1⟩ := hSw
    go_simp
    try rfl
   (try simp only [Act.put, List.setIfInBounds_toArray, List.set_cons_zero, List.set_cons_succ, List.getElem_toArray, List.getElem_cons_zero, List.getElem_cons_succ])
   refine wpAnyH_ready (fuel := 1) (rs := [6]) (by kernel_rfl) (by simp) ?_; refine AllReadyH.cons rfl (fun K hK => ?_) AllReadyH.nil
   go_simp
   refine HWR.out.mono ?_; rintro e wx ⟨ev, rfl, hF, hP⟩; have HF : Hid (DFr base W.drew wx) := hF
   have HPP : Hid ((downB armed l' false = true ∧ ev = .iface 103 (.int .i64 9) ∧ DiskAt wx base db sb s' (pre.length : Nat) armed (leftN armed l' false) true) ∨
      (downB armed l' false = false ∧ ev = .nilIface ∧ ∃ v', DiskAt wx base db sb (s'.set (1 + 10 * nx + i) ⟨s'[1 + 10 * nx + i]!.kept, v', s'[1 + 10 * nx + i]!.wr ++ [⟨(pre.length : Nat), padF S⟩]⟩) ((pre.length : Nat) + 1) armed (leftN armed l' false) false)) := hP
   clear hF hP HST HWR
   have H6 : Hid (Blk wx w.heap.size #[.pointer (some ⟨db, 0, none⟩)] 26 ∧ Blk wx (w.heap.size + 1) #[.nilIface] 50 ∧ Blk wx w1.heap.size #[.int .i64 nx] 3) :=
    ⟨HF.out.far _ _ _ (by decide) (by decide) (by decide) H5.out.1, HF.out.far _ _ _ (by decide) (by decide) (by decide) H5.out.2.1, HF.out.far _ _ _ (by decide) (by decide) (by decide) H5.out.2.2⟩
   have HS4 : Hid ((fun W' : World => W'.cell? ⟨w.heap.size, 0, none⟩ = some (.pointer (some ⟨db, 0, none⟩)) ∧ W'.cell? ⟨w1.heap.size, 0, none⟩ = some (.int .i64 nx)) wx) := ⟨H6.out.1.cell 0, H6.out.2.2.cell 0⟩
   simp only []; refine hK.out _ _ HS4.out (fun _ => ?_)
   clear hK K
   (try simp only [Act.put, List.setIfInBounds_toArray, List.set_cons_zero, List.set_cons_succ, List.getElem_toArray, List.getElem_cons_zero, List.getElem_cons_succ])
   refine wpAnyH_ready (fuel := 0) (rs := [7]) (by kernel_rfl) (by simp) ?_; refine AllReadyH.cons rfl (fun K hK => ?_) AllReadyH.nil
   go_simp
   refine hK.out _ _ HS4.out (fun _ => ?_)
   clear hK K; refine wpAnyH_done (by kernel_rfl) ?_ _
   (try simp only [Act.put])
   have HFW : Hid (DFr base w wx) := (H4.out.trans (DFr.of_below (Below.refl _ _).drew (Nat.le_trans hbase H4.out.b.size)) hbase).trans HF.out hbase; have hoth : KeepsOthers W wx := ⟨HF.out.oth.size, fun k o hk ho => HF.out.oth.same k o hk ho⟩
   rcases HPP.out with ⟨hd, rfl, hk⟩ | ⟨hd, rfl, v', hk⟩
   ·have f6 := H6.out.2.1.free
    have c6 := H6.out.2.1.cell
    have HXX : Hid (KeepsOthers W (wx.setCell ⟨w.heap.size + 1, 0, none⟩ (.iface 103 (.int .i64 9))) ∧ armed = true ∧ DFr base w (wx.setCell ⟨w.heap.size + 1, 0, none⟩ (.iface 103 (.int .i64 9))) ∧ Blk (wx.setCell ⟨w.heap.size + 1, 0, none⟩ (.iface 103 (.int .i64 9))) (w.heap.size + 1) #[.iface 103 (.int .i64 9)] 50 ∧
      ∃ secs' bit' left', LeftOk armed left' ∧ DiskAt (wx.setCell ⟨w.heap.size + 1, 0, none⟩ (.iface 103 (.int .i64 9))) base db sb secs' bit' armed left' true ∧ Fell secs secs' nx t) := by
     refine ⟨hoth.trans (KeepsOthers.setCell _ _ _), down_armed hd, farSet HFW.out hbase (w.heap.size + 1) (by omega) 0 _, H6.out.2.1.set 0 _, s', (pre.length : Nat), leftN armed l' false, H1.out.next (down := false), ?_, H3.out.fell (by omega) t⟩
     exact diskFar hk H6.out.2.1 (by decide) (by decide) (by decide) 0 _
    clear HF HPP HFW HSD HS4 hoth H1 H3 H4 H5 hk; simp only [Rd.Onward]
    gi_wp2
    exact ⟨HXX.out.1, rfl, HXX.out.2.1, HXX.out.2.2.1, HXX.out.2.2.2.1, HXX.out.2.2.2.2⟩
   ·have HXX : Hid (KeepsOthers W wx ∧ ∃ secs' left', LeftOk armed left' ∧ DiskAt wx base db sb secs' ((pre ++ [(⟨(i, S), hi10, hS64⟩ : Pc)]).length : Nat) armed left' false ∧ Wrd secs secs' (1 + 10 * nx) (pre ++ [(⟨(i, S), hi10, hS64⟩ : Pc)]) ∧ DFr base w wx) := by
     refine ⟨hoth, _, leftN armed l' false, H1.out.next (down := false), ?_, H3.out.more (⟨(i, S), hi10, hS64⟩ : Pc) hix v', HFW.out⟩; rw [List.length_append, List.length_singleton]; exact hk
    clear HF HPP HFW HSD HS4 hoth H1 H3 H4 H5 hk; simp only [Rd.Onward]
    gi_wp2
    obtain ⟨a1, s2, l2, b1, b2, b3, b4⟩ := HXX.out; exact ⟨a1, trivial, s2, l2, b1, b2, b3, b4, H6.out⟩
  case done =>
   rintro D ys W hD rfl ⟨s', l', h1, h2, h3, h4, h5, h6, h7⟩ hK; have k0 := h5.cell 0; simp only [List.getElem?_toArray, List.getElem?_cons_zero] at k0; rw [pcsT_len] at h2; have hbW : base ≤ W.heap.size := Nat.le_trans hbase h4.b.size
   have HFL : Hid (Calls Tryz.prog 127 #[.pointer (some ⟨db, 0, none⟩)] W fun e w' => ∃ ev, e = .returned ev ∧ DFr base W w' ∧
     ((downB armed l' false = true ∧ ev = .iface 103 (.int .i64 9) ∧ DiskAt w' base db sb s' (10 : Nat) armed (leftN armed l' false) true) ∨
      (downB armed l' false = false ∧ ev = .nilIface ∧ DiskAt w' base db sb (stl 18446744073709551615 s' s'.length) 0 armed (leftN armed l' false) false))) := by
    refine (flushG_any base db sb s' (10 : Nat) armed l' false W h2 hbW h1.lo h1.hi ?_ ?_ (by rw [h3.len]; exact hn)).mono ?_
    ·intro j hj
     rw [h3.len] at hj; have := (h3.fell (by rw [pcsT_len]; omega) t).few j hj
     omega
    ·intro j hj
     rw [h3.len] at hj; exact (h3.fell (by rw [pcsT_len]; omega) t).bits j hj
    ·rintro e w' (⟨hd, rfl, hf, hk⟩ | ⟨hd, rfl, hf, hk⟩)
     ·exact ⟨_, rfl, hf, Or.inl ⟨hd, rfl, hk⟩⟩
     ·exact ⟨_, rfl, hf, Or.inr ⟨hd, rfl, hk⟩⟩
   have H1 : Hid (LeftOk armed l') := h1; have HH : Hid (Half secs (stl 18446744073709551615 s' s'.length) nx t) := h3.half; have HFE : Hid (Fell secs s' nx t) := h3.fell (by rw [pcsT_len]; omega) t; have HDK : Hid (w.heap.size ≤ D ∧ DFr base w W ∧ W.heap[D]? = some (.deferred (some []))) := ⟨Nat.le_trans N4.out.1.size hD, h4, hK⟩; have HBB : Hid (Blk W w.heap.size #[.pointer (some ⟨db, 0, none⟩)] 26 ∧ Blk W (w.heap.size + 1) #[.nilIface] 50 ∧ Blk W w1.heap.size #[.int .i64 nx] 3) := ⟨h5, h6, h7⟩; generalize hS2 : stl 18446744073709551615 s' s'.length = S2 at *; clear h1 h2 h3 h4 h5 h6 h7 hD hK HDS N1 N2 N3 N4 h hw hS2
   have FALL : ∀ (wx : World) (s2 : List Sec) (b2 l2 : Int), armed = true → DFr base w wx → wx.heap[D]? = some (.deferred (some [])) → Blk wx (w.heap.size + 1) #[.nilIface] 50 → LeftOk armed l2 → DiskAt wx base db sb s2 b2 armed l2 true → Fell secs s2 nx t →
     Hid (PP (.returned (.iface 103 (.int .i64 9))) ((wx.setCell ⟨w.heap.size + 1, 0, none⟩ (.iface 103 (.int .i64 9))).putObj D (.deferred none)) ∧ ((wx.setCell ⟨w.heap.size + 1, 0, none⟩ (.iface 103 (.int .i64 9))).putObj D (.deferred none)).cell? ⟨w.heap.size + 1, 0, none⟩ = some (.iface 103 (.int .i64 9)) ∧
      (wx.setCell ⟨w.heap.size + 1, 0, none⟩ (.iface 103 (.int .i64 9))).heap[D]? = some (.deferred (some []))) := by
    intro wx s2 b2 l2 ha hf hk hb hl hd hfe
    have hk2 : (wx.setCell ⟨w.heap.size + 1, 0, none⟩ (.iface 103 (.int .i64 9))).heap[D]? = some (.deferred (some [])) := (KeepsOthers.setCell wx ⟨w.heap.size + 1, 0, none⟩ (.iface 103 (.int .i64 9))).same D _ hk rfl; have hb2 : Blk (wx.setCell ⟨w.heap.size + 1, 0, none⟩ (.iface 103 (.int .i64 9))) (w.heap.size + 1) #[.iface 103 (.int .i64 9)] 50 := hb.set 0 _; refine ⟨HNO.out ha _ (dfrKept (farSet hf hbase (w.heap.size + 1) (by omega) 0 _) (putKept hk2).1 (putKept2 HDK.out.1 hk2) hbase (Nat.le_refl _)) s2 b2 l2 hl (diskKept (diskFar hd hb (by decide) (by decide) (by decide) 0 _) (putKept hk2).1 (putKept hk2).2) hfe, ?_, hk2⟩; have := (blkKept hb2 (putKept hk2).1 (putKept hk2).2).cell 0
    simpa using this
   gi_wp2
   refine ⟨trivial, (callsIn_wide.2 HFL.out).mono ?_⟩; rintro e w5 ⟨ev, rfl, hF5, hP5⟩; have HF5 : Hid (DFr base w w5 ∧ w5.heap[D]? = some (.deferred (some [])) ∧ base ≤ w5.heap.size) := ⟨HDK.out.2.1.trans hF5 hbase, hF5.oth.same D _ HDK.out.2.2 rfl, Nat.le_trans hbW hF5.b.size⟩
   have HB5 : Hid (Blk w5 w.heap.size #[.pointer (some ⟨db, 0, none⟩)] 26 ∧ Blk w5 (w.heap.size + 1) #[.nilIface] 50 ∧ Blk w5 w1.heap.size #[.int .i64 nx] 3) :=
    ⟨hF5.far _ _ _ (by decide) (by decide) (by decide) HBB.out.1, hF5.far _ _ _ (by decide) (by decide) (by decide) HBB.out.2.1, hF5.far _ _ _ (by decide) (by decide) (by decide) HBB.out.2.2⟩
   clear HFL HBB k0 hF5; have c5 := HB5.out.2.1.cell; have f5 := HB5.out.2.1.free
   rcases hP5 with ⟨hd, rfl, hk⟩ | ⟨hd, rfl, hk⟩
   ·have X := FALL w5 s' _ _ (down_armed hd) HF5.out.1 HF5.out.2.1 HB5.out.2.1 (H1.out.next (down := false)) hk HFE.out
    have kk := X.out.2.1; clear FALL hk
    gi_wp2
    refine ⟨by simp, .inl ⟨_, _, rfl, run_takeDeferred X.out.2.2, ?_⟩⟩; exact ⟨_, (by simp [results, Tryz.results87, go_sem, kk]; try rfl), X.out.1⟩
   have HD5 : Hid (DiskAt w5 base db sb S2 0 armed (leftN armed l' false) false) := hk; have HL5 : Hid (LeftOk armed (leftN armed l' false)) := H1.out.next; generalize leftN armed l' false = l5 at *; clear hk hd H1 HFE; have k0 := HB5.out.1.cell 0; have k7 := HB5.out.2.2.cell 0; simp only [List.getElem?_toArray, List.getElem?_cons_zero] at k0 k7
   gi_wp2
   have HNA : Hid (Calls Tryz.prog 128 #[.int .i64 nx] w5.drew fun e w' => e = .returned (.string (nameB nx)) ∧ Below w5.drew.heap.size w5.drew w') := name_any nx w5.drew (by omega) (by omega) (HGL.out _ (HF5.out.1.trans (DFr.of_below (Below.refl _ _).drew HF5.out.2.2) hbase))
   have hns : (nameB nx).size ≤ 64 := nameB_size nx hnx1
   have HWR : Hid (∀ wx, Below w5.drew.heap.size w5.drew wx → Calls Tryz.prog 125 #[.pointer (some ⟨db, 0, none⟩), .int .i64 0, .string (nameB nx)] wx fun e w' => ∃ ev, e = .returned ev ∧ DFr base wx w' ∧
     ((downB armed l5 false = true ∧ ev = .iface 103 (.int .i64 9) ∧ DiskAt w' base db sb S2 0 armed (leftN armed l5 false) true) ∨
      (downB armed l5 false = false ∧ ev = .nilIface ∧ ∃ v', DiskAt w' base db sb (S2.set 0 ⟨S2[0]!.kept, v', S2[0]!.wr ++ [⟨0, padF (nameB nx)⟩]⟩) 1 armed (leftN armed l5 false) false))) := by
    intro wx hbx
    refine ((writeG_any base db sb S2 0 armed l5 false 0 (nameB nx) wx ((HD5.out.below (Below.refl _ _).drew).below hbx) (Nat.le_trans HF5.out.2.2 hbx.size) HL5.out.lo HL5.out.hi (by omega) (by omega) ?_ ?_ (by rw [HH.out.len]; exact hn) (by unfold maxLen; omega)).mono ?_)
    ·intro j hj y hy
     rw [HH.out.len] at hj; rw [HH.out.wr j hj] at hy
     simp at hy
    ·intro j hj
     rw [HH.out.len] at hj; rw [HH.out.wr j hj]
     simp
    ·have hh : (hasN S2.length 0 && decide ((nameB nx).size ≤ 64)) = true := by
      unfold hasN; rw [HH.out.len]
      simp
      omega
     rintro e w' (⟨hb, _⟩ | ⟨_, hd, rfl, hf, hk⟩ | ⟨_, hd, rfl, hf, v', hk⟩)
     ·rw [hh] at hb; cases hb
     ·exact ⟨_, rfl, hf, Or.inl ⟨hd, rfl, hk⟩⟩
     ·exact ⟨_, rfl, hf, Or.inr ⟨hd, rfl, v', hk⟩⟩
   generalize hNN : nameB nx = NB at *; have HSD : Hid ((fun W' : World => W'.cell? ⟨w.heap.size, 0, none⟩ = some (.pointer (some ⟨db, 0, none⟩)) ∧ W'.cell? ⟨w1.heap.size, 0, none⟩ = some (.int .i64 nx)) w5.drew) := ⟨k0, k7⟩
   refine Rd.region_wide (S := fun W' => W'.cell? ⟨w.heap.size, 0, none⟩ = some (.pointer (some ⟨db, 0, none⟩)) ∧ W'.cell? ⟨w1.heap.size, 0, none⟩ = some (.int .i64 nx)) (by kernel_rfl) ?_
   refine wpAnyH_take (fuel := 4) (i := 0) (v := .pointer (some ⟨db, 0, none⟩)) rfl (by kernel_rfl) (by kernel_rfl) (by kernel_rfl) (fun _ _ _ h => h) (Or.inl ⟨by rfl, ?_⟩) HSD.out ?_
   ·intro Wx hSw
    obtain ⟨y0, y1⟩ := hSw
    go_simp
    try rfl
   (try simp only [Act.put, List.setIfInBounds_toArray, List.set_cons_zero, List.set_cons_succ, List.getElem_toArray, List.getElem_cons_zero, List.getElem_cons_succ])
   refine wpAnyH_take (fuel := 3) (i := 1) (v := .int .i64 nx) rfl (by kernel_rfl) (by kernel_rfl) (by kernel_rfl) (fun _ _ _ h => h) (Or.inl ⟨by rfl, ?_⟩) HSD.out ?_
   ·intro Wx hSw
    obtain ⟨y0, y1⟩ := hSw
    go_simp
    try rfl
   (try simp only [Act.put, List.setIfInBounds_toArray, List.set_cons_zero, List.set_cons_succ, List.getElem_toArray, List.getElem_cons_zero, List.getElem_cons_succ])
   refine wpAnyH_ready (fuel := 2) (rs := [2]) (by kernel_rfl) (by simp) ?_; refine AllReadyH.cons rfl (fun K hK => ?_) AllReadyH.nil
   go_simp
   refine HNA.out.mono ?_; rintro e w6 ⟨rfl, b6⟩
   have HB6 : Hid (Blk w6 w.heap.size #[.pointer (some ⟨db, 0, none⟩)] 26 ∧ Blk w6 (w.heap.size + 1) #[.nilIface] 50 ∧ Blk w6 w1.heap.size #[.int .i64 nx] 3) :=
    ⟨(HB5.out.1.below (Below.refl _ _).drew).below b6, (HB5.out.2.1.below (Below.refl _ _).drew).below b6, (HB5.out.2.2.below (Below.refl _ _).drew).below b6⟩
   have HW6 := HWR.out w6 b6
   have HF6 : Hid (DFr base w w6 ∧ w6.heap[D]? = some (.deferred (some [])) ∧ base ≤ w6.heap.size) := by
    have hD5 : D < w5.heap.size := (Array.getElem?_eq_some_iff.1 HF5.out.2.1).1; exact ⟨(HF5.out.1.trans (DFr.of_below (Below.refl _ _).drew HF5.out.2.2) hbase).trans (DFr.of_below b6 HF5.out.2.2) hbase, (b6.block D hD5).trans HF5.out.2.1, Nat.le_trans HF5.out.2.2 b6.size⟩
   have HS6 : Hid ((fun W' : World => W'.cell? ⟨w.heap.size, 0, none⟩ = some (.pointer (some ⟨db, 0, none⟩)) ∧ W'.cell? ⟨w1.heap.size, 0, none⟩ = some (.int .i64 nx)) w6) := ⟨HB6.out.1.cell 0, HB6.out.2.2.cell 0⟩
   clear b6 HWR HNA; simp only []; refine hK.out _ _ HS6.out (fun _ => ?_)
   clear hK K
   (try simp only [Act.put, List.setIfInBounds_toArray, List.set_cons_zero, List.set_cons_succ, List.getElem_toArray, List.getElem_cons_zero, List.getElem_cons_succ])
   refine wpAnyH_ready (fuel := 1) (rs := [3]) (by kernel_rfl) (by simp) ?_; refine AllReadyH.cons rfl (fun K hK => ?_) AllReadyH.nil
   go_simp
   refine Calls.mono HW6 ?_; rintro e w7 ⟨ev, rfl, hF7, hP7⟩; have HF7 : Hid (DFr base w w7 ∧ w7.heap[D]? = some (.deferred (some [])) ∧ base ≤ w7.heap.size) := ⟨HF6.out.1.trans hF7 hbase, hF7.oth.same D _ HF6.out.2.1 rfl, Nat.le_trans HF6.out.2.2 hF7.b.size⟩
   have HB7 : Hid (Blk w7 w.heap.size #[.pointer (some ⟨db, 0, none⟩)] 26 ∧ Blk w7 (w.heap.size + 1) #[.nilIface] 50 ∧ Blk w7 w1.heap.size #[.int .i64 nx] 3) :=
    ⟨hF7.far _ _ _ (by decide) (by decide) (by decide) HB6.out.1, hF7.far _ _ _ (by decide) (by decide) (by decide) HB6.out.2.1, hF7.far _ _ _ (by decide) (by decide) (by decide) HB6.out.2.2⟩
   have HP7 : Hid _ := hP7; have HS7 : Hid ((fun W' : World => W'.cell? ⟨w.heap.size, 0, none⟩ = some (.pointer (some ⟨db, 0, none⟩)) ∧ W'.cell? ⟨w1.heap.size, 0, none⟩ = some (.int .i64 nx)) w7) := ⟨HB7.out.1.cell 0, HB7.out.2.2.cell 0⟩
   clear hF7 hP7 HW6; simp only []; refine hK.out _ _ HS7.out (fun _ => ?_)
   clear hK K
   (try simp only [Act.put, List.setIfInBounds_toArray, List.set_cons_zero, List.set_cons_succ, List.getElem_toArray, List.getElem_cons_zero, List.getElem_cons_succ])
   refine wpAnyH_ready (fuel := 0) (rs := [4]) (by kernel_rfl) (by simp) ?_; refine AllReadyH.cons rfl (fun K hK => ?_) AllReadyH.nil
   go_simp
   refine hK.out _ _ HS7.out (fun _ => ?_)
   clear hK K; refine wpAnyH_done (by kernel_rfl) ?_ _
   (try simp only [Act.put])
   simp only [Rd.Onward]; clear HS7 HS6 HSD k0 k7 c5 f5 HB5 HB6 HF5 HF6 HD5; have c7 := HB7.out.2.1.cell; have f7 := HB7.out.2.1.free
   rcases HP7.out with ⟨hd, rfl, hk⟩ | ⟨hd, rfl, v', hk⟩
   ·have X := FALL w7 S2 _ _ (down_armed hd) HF7.out.1 HF7.out.2.1 HB7.out.2.1 (HL5.out.next (down := false)) hk HH.out.fell
    have kk := X.out.2.1; clear FALL hk HP7
    gi_wp2
    refine ⟨by simp, .inl ⟨_, _, rfl, run_takeDeferred X.out.2.2, ?_⟩⟩; exact ⟨_, (by simp [results, Tryz.results87, go_sem, kk]; try rfl), X.out.1⟩
   have HNM2 := HH.out.named (by omega) v'; rw [hNN] at HNM2; have HNM2 : Hid _ := HNM2; have hlen3 : (S2.set 0 ⟨S2[0]!.kept, v', S2[0]!.wr ++ [⟨0, padF NB⟩]⟩).length = secs.length := by rw [List.length_set, HH.out.len]
   have HD7 : Hid (DiskAt w7 base db sb (S2.set 0 ⟨S2[0]!.kept, v', S2[0]!.wr ++ [⟨0, padF NB⟩]⟩) 1 armed (leftN armed l5 false) false) := hk; have HL7 : Hid (LeftOk armed (leftN armed l5 false)) := HL5.out.next; generalize leftN armed l5 false = l7 at *; generalize S2.set 0 ⟨S2[0]!.kept, v', S2[0]!.wr ++ [⟨0, padF NB⟩]⟩ = S3 at *
   have HFL : Hid (Calls Tryz.prog 127 #[.pointer (some ⟨db, 0, none⟩)] w7 fun e w' => ∃ ev, e = .returned ev ∧ DFr base w7 w' ∧
     ((downB armed l7 false = true ∧ ev = .iface 103 (.int .i64 9) ∧ DiskAt w' base db sb S3 1 armed (leftN armed l7 false) true) ∨
      (downB armed l7 false = false ∧ ev = .nilIface ∧ DiskAt w' base db sb (stl 18446744073709551615 S3 secs.length) 0 armed (leftN armed l7 false) false))) := by
    refine (flushG_any base db sb S3 1 armed l7 false w7 HD7.out HF7.out.2.2 HL7.out.lo HL7.out.hi ?_ ?_ (by rw [hlen3]; exact hn)).mono ?_
    ·intro j hj
     rw [hlen3] at hj; have := HNM2.out.1.few j hj
     omega
    ·intro j hj
     rw [hlen3] at hj; exact HNM2.out.1.bits j hj
    ·rintro e w' (⟨hd, rfl, hf, hk⟩ | ⟨hd, rfl, hf, hk⟩)
     ·exact ⟨_, rfl, hf, Or.inl ⟨hd, rfl, hk⟩⟩
     ·rw [hlen3] at hk
      exact ⟨_, rfl, hf, Or.inr ⟨hd, rfl, hk⟩⟩
   have k0 := HB7.out.1.cell 0; simp only [List.getElem?_toArray, List.getElem?_cons_zero] at k0; clear hk hd HP7 HD7 c7 f7
   gi_wp2
   refine ⟨trivial, (callsIn_wide.2 HFL.out).mono ?_⟩; rintro e w8 ⟨ev, rfl, hF8, hP8⟩; have HF8 : Hid (DFr base w w8 ∧ w8.heap[D]? = some (.deferred (some []))) := ⟨HF7.out.1.trans hF8 hbase, hF8.oth.same D _ HF7.out.2.1 rfl⟩; have HB8 : Hid (Blk w8 (w.heap.size + 1) #[.nilIface] 50) := hF8.far _ _ _ (by decide) (by decide) (by decide) HB7.out.2.1; clear HFL k0 hF8 HB7 HF7; have c8 := HB8.out.cell; have f8 := HB8.out.free
   rcases hP8 with ⟨hd, rfl, hk⟩ | ⟨hd, rfl, hk⟩
   ·have X := FALL w8 S3 _ _ (down_armed hd) HF8.out.1 HF8.out.2 HB8.out (HL7.out.next (down := false)) hk HNM2.out.1
    have kk := X.out.2.1; clear FALL hk
    gi_wp2
    refine ⟨by simp, .inl ⟨_, _, rfl, run_takeDeferred X.out.2.2, ?_⟩⟩; exact ⟨_, (by simp [results, Tryz.results87, go_sem, kk]; try rfl), X.out.1⟩
   ·have hk2 : (w8.setCell ⟨w.heap.size + 1, 0, none⟩ .nilIface).heap[D]? = some (.deferred (some [])) := (KeepsOthers.setCell w8 ⟨w.heap.size + 1, 0, none⟩ .nilIface).same D _ HF8.out.2 rfl
    have hb2 : Blk (w8.setCell ⟨w.heap.size + 1, 0, none⟩ .nilIface) (w.heap.size + 1) #[.nilIface] 50 := HB8.out.set 0 _
    have HFI : Hid (PP (.returned .nilIface) ((w8.setCell ⟨w.heap.size + 1, 0, none⟩ .nilIface).putObj D (.deferred none))) :=
     HOK.out _ (dfrKept (farSet HF8.out.1 hbase (w.heap.size + 1) (by omega) 0 _) (putKept hk2).1 (putKept2 HDK.out.1 hk2) hbase (Nat.le_refl _)) _ _ (HL7.out.next (down := false)) (diskKept (diskFar hk HB8.out (by decide) (by decide) (by decide) 0 _) (putKept hk2).1 (putKept hk2).2) HNM2.out.2
    have kk := (blkKept hb2 (putKept hk2).1 (putKept hk2).2).cell 0; simp only [List.getElem?_toArray, List.getElem?_cons_zero] at kk; clear FALL hk
    gi_wp2
    refine ⟨by simp, .inl ⟨_, _, rfl, run_takeDeferred hk2, ?_⟩⟩; exact ⟨_, (by simp [results, Tryz.results87, go_sem, kk]; try rfl), HFI.out⟩
  case stop =>
   rintro D c pre W hD _ ⟨rfl, h2, h3, h4, s', b', l', h5, h6, h7⟩ hK; have k4 := (blkKept h4 (putKept hK).1 (putKept hK).2).cell 0; simp only [List.getElem?_toArray, List.getElem?_cons_zero] at k4
   have HFI : Hid (PP (.returned (.iface 103 (.int .i64 9))) (W.putObj D (.deferred none))) :=
    HNO.out h2 _ (dfrKept h3 (putKept hK).1 (putKept2 hD hK) hbase N4.out.1.size) s' b' l' h5 (diskKept h6 (putKept hK).1 (putKept hK).2) h7
   gi_wp2
   refine ⟨by simp, .inl ⟨_, _, rfl, run_takeDeferred hK, ?_⟩⟩; exact ⟨_, (by simp [results, Tryz.results87, go_sem, k4]; try rfl), HFI.out⟩
end Lg
end Go.Proofs.YtopgllmjeliklaaGreatDoor
