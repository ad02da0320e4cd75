/- DiskE DiskF DiskG DiskH. -/
import Derived.Test.YtopgllmjeliklaaGreatDoorKtDiskD
import Derived.RangeFuncOwn
set_option maxRecDepth 100000
set_option linter.unusedSimpArgs false
set_option linter.unusedVariables false
namespace Go.Proofs.YtopgllmjeliklaaGreatDoor
open Go.Shelf Go.Lib Go.ChangeShapes Go.WideShapes Go.ChangeAt Go.RowKit
namespace Dk
open Bk
def padF (S : ByteArray) (i : Nat) : Int := if i < S.size then ((S.data[i]!).toNat : Int) else 0
theorem text_cells (S : ByteArray) : ((S.extract 0 S.size).data.map fun b => Value.int .u8 b.toNat).toList = (List.range S.size).map fun i => Value.int .u8 (padF S i) := by
 have h : (S.extract 0 S.size).data = S.data := by
  rw [ByteArray.data_extract]
  show S.data.extract 0 S.data.size = S.data
  simp
 rw [h]
 apply List.ext_getElem?
 intro i
 simp only [Array.toList_map, List.getElem?_map]
 by_cases hi : i < S.size
 ·have hi' : i < S.data.size := hi
  rw [List.getElem?_range hi]; simp only [Option.map_some]; rw [List.getElem?_eq_getElem (by simpa using hi')]; simp only [Option.map_some, padF, if_pos hi]; rw [getElem!_pos S.data i hi']
  simp
 ·have hi' : ¬ i < S.data.size := hi
  rw [List.getElem?_eq_none (by simpa using hi'), List.getElem?_eq_none (by simpa using hi)]
  rfl
theorem con_at (c : Nat → Int) (i : Nat) : (conV c)[i]? = if i < 64 then some (.int .u8 (c i)) else none := by
 unfold conV
 by_cases h : i < 64
 ·rw [if_pos h, List.getElem?_map, List.getElem?_range h]; rfl
 ·rw [if_neg h, List.getElem?_eq_none (by simp; omega)]
theorem copied (bit : Int) (S : ByteArray) (hs : S.size ≤ 64) : (Wr.enc ⟨bit, fun _ => 0⟩).take 1 ++ ((List.range S.size).map fun i => Value.int .u8 (padF S i)) ++ (Wr.enc ⟨bit, fun _ => 0⟩).drop (1 + S.size) = Wr.enc ⟨bit, padF S⟩ := by
 unfold Wr.enc; simp only [List.take_succ_cons, List.take_zero, List.cons_append, List.nil_append, Nat.add_comm 1, List.drop_succ_cons]
 congr 1
 apply List.ext_getElem?
 intro i
 rw [con_at]
 by_cases hi : i < S.size
 ·rw [List.getElem?_append_left (by simpa using hi), List.getElem?_map, List.getElem?_range hi, if_pos (by omega)]
  rfl
 ·rw [List.getElem?_append_right (by simpa using hi), List.getElem?_drop, con_at]
  simp only [List.length_map, List.length_range]; rw [show S.size + (i - S.size) = i from by omega]
  by_cases h64 : i < 64
  ·rw [if_pos h64, if_pos h64]
   simp [padF, hi]
  ·rw [if_neg h64, if_neg h64]
theorem run_copy_text (w : World) (r : Nat) (bit : Int) (S : ByteArray) (hs : S.size ≤ 64) (hB : Blk w r (Wr.enc ⟨bit, fun _ => 0⟩).toArray 194) (ty : TypeId) :
  ∃ w', (Builtin.copy_ #[183, 9] ty #[.slice (some ⟨r, 1, none⟩) 64 64, .string S]).run Tryz.prog w = .ok (goInt S.size) w' ∧ Blk w' r (Wr.enc ⟨bit, padF S⟩).toArray 194 ∧ w.grownBy w' (some r) := by
 have hu : Tryz.prog.underlying 183 = some (.slice 5) := by kernel_rfl
 have hi : (Tryz.prog.info? 5).map (·.size) = some 1 := by kernel_rfl
 have hsc := run_storeCells_cells (P := Tryz.prog) r 1 ((List.range S.size).map fun i => Value.int .u8 (padF S i)) 0 w (fun j hj => by
  rw [hB.cell, Array.getElem?_eq_getElem (by simp [Wr.enc_len] at hj ⊢; omega)]; rfl) (fun j hj => hB.free _) (fun v hv => by
  obtain ⟨i, _, rfl⟩ := List.mem_map.1 hv
  rfl)
 refine ⟨w.setCells r 1 ((List.range S.size).map fun i => Value.int .u8 (padF S i)), ?_, ?_, grown_setCells r _ _ _⟩
 rotate_left
 ·have := blk_setCells ((List.range S.size).map fun i => Value.int .u8 (padF S i)) (Wr.enc ⟨bit, fun _ => 0⟩).toArray 1 hB
  have e : setRow (Wr.enc ⟨bit, fun _ => 0⟩).toArray 1 ((List.range S.size).map fun i => Value.int .u8 (padF S i)) = (Wr.enc ⟨bit, padF S⟩).toArray := by
   rw [← copied bit S hs]
   apply Array.ext_getElem?
   intro j
   by_cases h1 : j < 1
   ·rw [setRow_out _ _ _ _ (Or.inl h1)]
    have : j = 0 := by omega
    subst this
    rfl
   ·by_cases h2 : j < 1 + S.size
    ·obtain ⟨c, rfl⟩ : ∃ c, j = 1 + c := ⟨j - 1, by omega⟩
     rw [setRow_in _ _ _ _ (by simp; omega) (by simp [Wr.enc_len]; omega), List.getElem?_toArray, List.append_assoc, List.getElem?_append_right (by simp [Wr.enc_len]), List.getElem?_append_left (by simp [Wr.enc_len]; omega)]
     simp [Wr.enc_len]
    ·rw [setRow_out _ _ _ _ (Or.inr (by simp; omega)), List.getElem?_toArray, List.getElem?_toArray, List.getElem?_append_right (by simp [Wr.enc_len]; omega), List.getElem?_drop]
     congr 1
     simp [Wr.enc_len]
     omega
  rw [e] at this; exact this
 ·have hmin : Nat.min S.size 64 = S.size := Nat.min_eq_left hs
  have hz : (sizeOf 5).run Tryz.prog w = .ok 1 w := by kernel_rfl
  simp only [Nat.add_zero] at hsc; have e := text_cells S
  simp at e
  simp [Builtin.copy_, run_underlying hu, Builtin.lenOf, Builtin.firstCells, hz, hmin]
  rw [e, List.take_of_length_le (by simp), hsc]
  rfl
end Dk
namespace Dk
open Bk
theorem flat_of (A : Array Value) (l : List Sec) (hs : A.size = l.length * 65) (h : ∀ j, j < l.length → ∀ r, r < 65 → A[j * 65 + r]? = (Sec.enc l[j]!)[r]?) : A = (l.flatMap Sec.enc).toArray := by
 apply Array.ext_getElem?
 intro q
 have hlen := flat_len Sec.enc 65 Sec.enc_len l
 by_cases hq : q < l.length * 65
 ·have hj : q / 65 < l.length := Nat.div_lt_of_lt_mul (by rw [Nat.mul_comm]; exact hq)
  have hr : q % 65 < 65 := Nat.mod_lt _ (by decide); have e : q = q / 65 * 65 + q % 65 := by have := Nat.div_add_mod q 65; omega
  have h1 := h (q / 65) hj (q % 65) hr; have h2 := flat_get Sec.enc 65 Sec.enc_len l (q / 65) (q % 65) hj hr; rw [← e] at h1 h2; rw [h1, List.getElem?_toArray, h2]
 ·rw [Array.getElem?_eq_none (by omega), Array.getElem?_eq_none (by simp only [List.size_toArray]; omega)]
structure DFr (base : Nat) (w w' : World) : Prop where
 b : Below base w w'
 far : ∀ k arr T, T ≠ 124 → T ≠ 157 → T ≠ 194 → Blk w k arr T → Blk w' k arr T
 oth : KeepsOthers w w'
theorem keeps_below {w w' : World} (h : Below w.heap.size w w') : KeepsOthers w w' := ⟨h.size, fun k o hk _ => (h.block k (Array.getElem?_eq_some_iff.1 hk).1).trans hk⟩
theorem DFr.refl (base : Nat) (w : World) : DFr base w w := ⟨Below.refl _ _, fun _ _ _ _ _ _ h => h, KeepsOthers.refl _⟩
theorem DFr.trans {base : Nat} {a b c : World} (h : DFr base a b) (k : DFr base b c) (hb : base ≤ a.heap.size) : DFr base a c := ⟨⟨k.b.os.trans h.b.os, k.b.tape.trans h.b.tape, k.b.output.trans h.b.output, Nat.le_trans h.b.size k.b.size, fun q hq => (k.b.block q hq).trans (h.b.block q hq)⟩, fun q arr T h1 h2 h3 h4 => k.far q arr T h1 h2 h3 (h.far q arr T h1 h2 h3 h4), h.oth.trans k.oth⟩
theorem DFr.of_below {base : Nat} {w w' : World} (h : Below w.heap.size w w') (hb : base ≤ w.heap.size) : DFr base w w' := ⟨⟨h.os, h.tape, h.output, h.size, fun k hk => h.block k (by omega)⟩, fun _ _ _ _ _ _ hk => hk.below h, keeps_below h⟩
theorem own_at {w : World} {base : Nat} {v : Value} {l : List Wr} (h : OwnAt w base 194 65 Wr.enc v l) {k : Nat} (e : v.ownBlock = some k) : base ≤ k ∧ k < w.heap.size ∧ ∃ cur, Blk w k cur 194 := by
 rcases h with ⟨rfl, _⟩ | ⟨g, cap, cur, rfl, hg, hb, _⟩
 ·simp [Value.ownBlock] at e
 ·simp [Value.ownBlock] at e
  subst e; exact ⟨hg, hb.lt, cur, hb⟩
theorem DFr.of_add {base : Nat} {w w' : World} {sb : Nat} {C : Array Value} {v : Value} {l : List Wr} (h : AddFr w w' sb v) (hB : Blk w sb C 157) (hO : OwnAt w base 194 65 Wr.enc v l) (hb : base ≤ sb) : DFr base w w' := by
 have hsb := hB.lt; refine ⟨⟨h.os, h.tape, h.output, h.size, fun k hk => h.block k (by omega) (by omega) (fun e => ?_)⟩, fun k arr T h1 h2 h3 hk => (h.block k hk.lt (fun e => ?_) (fun e => ?_)).trans hk, h.size, fun k o hk ho => (h.block k (Array.getElem?_eq_some_iff.1 hk).1 (fun e => ?_) (fun e => ?_)).trans hk⟩
 ·have := (own_at hO e).1; omega
 ·subst e; exact h2 (blk_typeD hk hB)
 ·obtain ⟨_, _, cur, hc⟩ := own_at hO e
  exact h3 (blk_typeD hk hc)
 ·subst e
  rw [show w.heap[k]? = _ from hB] at hk
  cases hk; cases ho
 ·obtain ⟨_, _, cur, hc⟩ := own_at hO e
  rw [show w.heap[k]? = _ from hc] at hk
  cases hk; cases ho
theorem DFr.of_set {base : Nat} {w : World} {db : Nat} {D : Array Value} (hD : Blk w db D 124) (hb : base ≤ db) (o : Nat) (v : Value) : DFr base w (w.setCell ⟨db, o, none⟩ v) :=
 ⟨(Below.refl _ _).setCell (p := ⟨db, o, none⟩) hb v, fun k arr T h1 _ _ hk => hk.other (fun e => h1 (blk_typeD hk (e ▸ hD))) o v, KeepsOthers.setCell _ _ _⟩
theorem set_get (secs : List Sec) (i j : Nat) (s : Sec) (hi : i < secs.length) (hj : j < secs.length) : (secs.set i s)[j]! = if i = j then s else secs[j]! := by
 rw [getElem!_pos (secs.set i s) j (by simpa using hj), List.getElem_set]
 by_cases e : i = j
 ·rw [if_pos e, if_pos e]
 ·rw [if_neg e, if_neg e, getElem!_pos secs j hj]
theorem DiskAt.added {w w' : World} {base db sb : Nat} {secs : List Sec} {bit : Int} {armed : Bool} {left : Int} {down : Bool} {i : Nat} {x : Wr} {v' : Value} (h : DiskAt w base db sb secs bit armed left down) (hi : i < secs.length)
  (hO : OwnAt w' base 194 65 Wr.enc v' (secs[i]!.wr ++ [x])) (hB : Blk w' sb ((secs.flatMap Sec.enc).toArray.setIfInBounds (i * 65 + 64) v') 157) (hF : AddFr w w' sb secs[i]!.v) (hn : ∀ g, v'.ownBlock = some g → secs[i]!.v.ownBlock = some g ∨ w.heap.size ≤ g) :
  DiskAt w' base db sb (secs.set i ⟨secs[i]!.kept, v', secs[i]!.wr ++ [x]⟩) bit armed left down := by
 have hdb : db ≠ sb := fun e => by
  have h1 := h.d; rw [e] at h1; exact absurd (blk_typeD h1 h.s) (by decide)
 refine ⟨?_, ?_, ?_, ?_, h.hb⟩
 ·rw [List.length_set]
  refine (hF.block db h.d.lt hdb (fun e => ?_)).trans h.d
  obtain ⟨_, _, cur, hc⟩ := own_at (h.own i hi) e; exact absurd (blk_typeD h.d hc) (by decide)
 ·have e : ((secs.flatMap Sec.enc).toArray.setIfInBounds (i * 65 + 64) v') = ((secs.set i ⟨secs[i]!.kept, v', secs[i]!.wr ++ [x]⟩).flatMap Sec.enc).toArray := by
   refine flat_of _ _ (by simp only [Array.size_setIfInBounds, List.size_toArray, List.length_set]; exact flat_len Sec.enc 65 Sec.enc_len secs) (fun j hj r hr => ?_)
   rw [List.length_set] at hj; rw [set_get secs i j _ hi hj, Array.getElem?_setIfInBounds, List.getElem?_toArray, flat_get Sec.enc 65 Sec.enc_len secs j r hj hr]
   by_cases e : i = j
   ·subst e
    rw [if_pos rfl]
    by_cases er : r = 64
    ·subst er
     rw [if_pos rfl, if_pos (by simp only [List.size_toArray]; rw [flat_len Sec.enc 65 Sec.enc_len secs]; omega)]; unfold Sec.enc; rw [List.getElem?_append_right (by rw [conV_len]; exact Nat.le_refl _), conV_len]
     rfl
    ·rw [if_neg (by omega)]
     unfold Sec.enc; rw [List.getElem?_append_left (by rw [conV_len]; omega), List.getElem?_append_left (by rw [conV_len]; omega)]
   ·rw [if_neg e, if_neg (by omega)]
  rw [← e]; exact hB
 ·intro j hj
  rw [List.length_set] at hj; rw [set_get secs i j _ hi hj]
  by_cases e : i = j
  ·rw [if_pos e]; exact hO
  ·rw [if_neg e]
   rcases h.own j hj with h1 | ⟨g, cap, cur, hv, hg, hk, r⟩
   ·exact Or.inl h1
   ·refine Or.inr ⟨g, cap, cur, hv, hg, (hF.block g hk.lt (fun e' => ?_) (fun e' => ?_)).trans hk, r⟩
    ·subst e'; exact absurd (blk_typeD hk h.s) (by decide)
    ·exact h.ne i j hi hj e g e' (by rw [hv]; rfl)
 ·intro a b ha hb hab g hg
  rw [List.length_set] at ha hb; rw [set_get secs i a _ hi ha] at hg; rw [set_get secs i b _ hi hb]
  by_cases ea : i = a
  ·rw [if_pos ea] at hg
   rw [if_neg (by omega)]
   rcases hn g hg with h1 | h1
   ·exact h.ne i b hi hb (by omega) g h1
   ·intro h2
    have := (own_at (h.own b hb) h2).2.1
    omega
  ·rw [if_neg ea] at hg
   by_cases eb : i = b
   ·rw [if_pos eb]
    intro h2
    rcases hn g h2 with h1 | h1
    ·exact h.ne i a hi ha ea g h1 hg
    ·have := (own_at (h.own a ha) hg).2.1
     omega
   ·rw [if_neg eb]
    exact h.ne a b ha hb hab g hg
theorem DiskAt.setBit {w : World} {base db sb : Nat} {secs : List Sec} {bit : Int} {armed : Bool} {left : Int} {down : Bool} (h : DiskAt w base db sb secs bit armed left down) (b2 : Int) : DiskAt (w.setCell ⟨db, 1, none⟩ (.int .i64 b2)) base db sb secs b2 armed left down := by
 have hdb : db ≠ sb := fun e => by
  have h1 := h.d; rw [e] at h1; exact absurd (blk_typeD h1 h.s) (by decide)
 refine ⟨h.d.set 1 _, h.s.other hdb _ _, fun i hi => (h.own i hi).grown (grown_set w db 1 _) (fun g e e' => ?_), h.ne, h.hb⟩
 injection e' with e'; subst e'; exact own_neD (h.own i hi) h.d (by decide) e
end Dk
namespace Dk
open Bk
theorem wpList_build {P : Program} {ops : Array Oper} {rest : List Oper} {op : Oper} {a : Act} {w : World} {Q : Exit → Act → World → Prop} (hgd : op.guard = none) (t : TypeId) (x : Operand) (ho : op.op = .build t #[(0, x)]) (v v' : Value) (hx : a.eval x = v)
  (hr : (Instr.build t #[(0, v)]).run P w = .ok v' w) (h : wpList P ops Q rest (a.put op.dst v') w) : wpList P ops Q (op :: rest) a w :=
 wpList_plain hgd fun _ hK => by
  unfold Oper.wp
  simp [execOp, ho, hx, hr, Result.andThen]
  exact hK _ _ h
theorem wrB (bit : Int) (w : World) : (Instr.build 194 #[(0, .int .i64 bit)]).run Tryz.prog w = .ok (.agg (Wr.enc ⟨bit, fun _ => 0⟩).toArray) w := by kernel_rfl
theorem wrZ (w : World) : (zeroValue 194).run Tryz.prog w = .ok (.agg (Wr.enc ⟨0, fun _ => 0⟩).toArray) w := by kernel_rfl
def WritePost (base db sb : Nat) (secs : List Sec) (bit left x : Int) (S : ByteArray) (w : World) (e : Ending) (w' : World) : Prop :=
 ((hasN secs.length x && decide (S.size ≤ 64)) = false ∧ e = .returned (errV 1) ∧ w' = w) ∨
 ((hasN secs.length x && decide (S.size ≤ 64)) = true ∧ e = .returned .nilIface ∧ DFr base w w' ∧ ∃ v', DiskAt w' base db sb (secs.set x.toNat ⟨secs[x.toNat]!.kept, v', secs[x.toNat]!.wr ++ [⟨bit, padF S⟩]⟩) (bit + 1) false left false)
end Dk
namespace Dk
open Bk
theorem own_rows {w w' : World} {base sb : Nat} {C : Array Value} {a : Option Addr} {cap : Nat} {l : List Wr} (h : OwnAt w base 194 65 Wr.enc (.slice a l.length cap) l) (hB : Blk w sb C 157) (hg : w.grownBy w' (some sb)) : RowsAt w' a cap 65 Wr.enc l := by
 have h2 : OwnAt w' base 194 65 Wr.enc (.slice a l.length cap) l := h.grown hg (fun g e e' => by
  injection e' with e'; subst e'; exact own_neD h hB (by decide) e)
 obtain ⟨a', cap', e, r⟩ := h2.rows
 cases e
 exact r
def keepB (K n : Int) : Bool := bits BinOp.and IntKind.u64 (K / 2 ^ n.toNat) 1 == 1
def settleC (K : Int) (c : Nat → Int) (l : List Wr) : Nat → Int := l.foldl (fun c y => if keepB K y.bit = true then y.dat else c) c
theorem settleC_succ (K : Int) (c : Nat → Int) (l : List Wr) (k : Nat) (hk : k < l.length) : settleC K c (l.take (k + 1)) = if keepB K l[k]!.bit = true then l[k]!.dat else settleC K c (l.take k) := by
 unfold settleC; rw [List.take_succ_eq_append_getElem hk, List.foldl_append, getElem!_pos l k hk]
 rfl
theorem setRow_same (C : Array Value) (o : Nat) (l : List Value) (hs : o + l.length ≤ C.size) (h : ∀ j v, l[j]? = some v → C[o + j]? = some v) : setRow C o l = C := by
 apply Array.ext_getElem?
 intro q
 by_cases h1 : q < o ∨ o + l.length ≤ q
 ·rw [setRow_out _ _ _ _ h1]
 ·obtain ⟨c, rfl⟩ : ∃ c, q = o + c := ⟨q - o, by omega⟩
  have hc : c < l.length := by omega
  rw [setRow_in _ _ _ _ hc hs, h c l[c] (List.getElem?_eq_getElem hc), List.getElem?_eq_getElem hc]
theorem setRow_twice (C : Array Value) (o : Nat) (l1 l2 : List Value) (hl : l1.length = l2.length) (hs : o + l2.length ≤ C.size) : setRow (setRow C o l1) o l2 = setRow C o l2 := by
 apply Array.ext_getElem?
 intro q
 by_cases h1 : q < o ∨ o + l2.length ≤ q
 ·rw [setRow_out _ _ _ _ h1, setRow_out _ _ _ _ h1, setRow_out _ _ _ _ (by rw [hl]; exact h1)]
 ·obtain ⟨c, rfl⟩ : ∃ c, q = o + c := ⟨q - o, by omega⟩
  have hc : c < l2.length := by omega
  rw [setRow_in _ _ _ _ hc (by rw [Bk.setRow_size]; exact hs), setRow_in _ _ _ _ hc hs]
set_option maxHeartbeats 4000000 in
theorem secSettle_any (base sb o : Nat) (s : Sec) (K : Int) (C : Array Value) (w : World) (h : SecAt w base sb o s) (hB : Blk w sb C 157) (hl : s.wr.length ≤ 1000) (hbit : ∀ y ∈ s.wr, 0 ≤ y.bit ∧ y.bit < 64) (hoC : o + 65 ≤ C.size) :
  Calls Tryz.prog 103 #[.pointer (some ⟨sb, o, none⟩), .int .u64 K] w fun e w' => e = .returned (.tuple #[]) ∧ Blk w' sb ((setRow C o (conV (settleC K s.kept s.wr))).setIfInBounds (o + 64) (.slice none 0 0)) 157 ∧ w.grownBy w' (some sb) := by
 obtain ⟨a, cap, hv, hr⟩ := h.own.rows; have hm := hr.2.1; have hlc := hr.1; unfold maxLen at hm; have c64 : w.cell? ⟨sb, o + 64, none⟩ = some (.slice a s.wr.length cap) := by rw [← hv]; exact h.slice
 have HB : Hid (Blk w sb C 157) := hB; have HO : Hid (OwnAt w base 194 65 Wr.enc (.slice a s.wr.length cap) s.wr) := by show OwnAt _ _ _ _ _ _ _; rw [← hv]; exact h.own
 obtain ⟨Z, hZ⟩ : ∃ Y, (Wr.enc ⟨0, fun _ => 0⟩).toArray = Y := ⟨_, rfl⟩
 have hZv : ∀ w, (zeroValue 194).run Tryz.prog w = .ok (.agg Z) w := fun w => by rw [← hZ]; exact wrZ w
 have hZs : Hid (Z.size = 65) := by show _ = _; rw [← hZ]; simp [Wr.enc_len]
 have hwi : Hid ((Tryz.prog.info? 194).map (·.size) = some 65) := by show _ = _; kernel_rfl
 have HC0 : Hid (setRow C o (conV s.kept) = C) := setRow_same C o _ (by rw [conV_len]; omega) (fun j v hj => by
  have := h.kept j v hj
  rwa [hB.cell] at this)
 have HC64 : Hid (C[o + 64]? = some (.slice a s.wr.length cap)) := by show _ = _; rw [← hB.cell]; exact c64
 generalize hPP : (fun (e : Ending) (w' : World) => e = .returned (.tuple #[]) ∧ Blk w' sb ((setRow C o (conV (settleC K s.kept s.wr))).setIfInBounds (o + 64) (.slice none 0 0)) 157 ∧ w.grownBy w' (some sb)) = PP
 have HP : Hid (∀ w', Blk w' sb ((setRow C o (conV (settleC K s.kept s.wr))).setIfInBounds (o + 64) (.slice none 0 0)) 157 → w.grownBy w' (some sb) → PP (.returned (.tuple #[])) w') := fun w' h1 h2 => by rw [← hPP]; exact ⟨rfl, h1, h2⟩
 clear hPP h hv hr hB hZ
 go_enter Tryz.func103, Tryz.ntmps103
 go_wp2_with fail; clear c64
 go_loopg [11] s.wr.length (fun gg s11 wr => ∃ k : Nat, k ≤ s.wr.length ∧ s.wr.length - k ≤ gg ∧ s11 = .int .i64 k ∧ Hid (w.grownBy wr (some sb) ∧ Blk wr sb (setRow C o (conV (settleC K s.kept (s.wr.take k)))) 157))
 case atStart => exact ⟨0, Nat.zero_le _, by omega, rfl, grown_refl _ _, by show Blk w sb (setRow C o (conV s.kept)) _; rw [HC0.out]; exact HB.out⟩
 case round =>
  obtain ⟨k, hk, hg, rfl, M⟩ := hrel
  by_cases hlt : k < s.wr.length
  ·have hltz : (k : Int) < (s.wr.length : Int) := by omega
   obtain ⟨g, off, rfl, hgl, hcell⟩ := (own_rows HO.out HB.out M.out.1).2.2 (by omega); have hyb := hbit s.wr[k]! (by rw [getElem!_pos s.wr k hlt]; exact List.getElem_mem hlt); have HL : Hid (wr.rangeAt g (off + k * 65) (Wr.enc s.wr[k]!)) := fun j v hj => hcell k hlt j v hj
   clear hcell; have HSU : Hid (settleC K s.kept (s.wr.take (k + 1)) = if keepB K s.wr[k]!.bit = true then s.wr[k]!.dat else settleC K s.kept (s.wr.take k)) := settleC_succ K s.kept s.wr k hlt
   generalize s.wr[k]! = y at *; obtain ⟨Y, hY⟩ : ∃ Y, Wr.enc y = Y := ⟨_, rfl⟩
   rw [hY] at HL; have hYs : Hid (Y.length = 65) := by show _ = _; rw [← hY]; exact Wr.enc_len _
   have hYi : (Tryz.prog.info? 194).map (·.size) = some Y.length := by rw [hYs.out]; exact hwi.out
   have hYj : (Tryz.prog.info? 194).map (·.size) = some Y.toArray.size := by simp only [List.size_toArray]; exact hYi
   have hY1 : Y.toArray.all (·.oneCell') = true := by rw [← hY]; exact all_oneCell_toArray (Wr.enc_one _)
   obtain ⟨w1, hw1⟩ : ∃ w1, wr.alloc (.cells Z 194) = w1 := ⟨_, rfl⟩
   have X1 : Hid (Below wr.heap.size wr w1 ∧ Blk w1 wr.heap.size Z 194) := by
    show _ ∧ _
    rw [← hw1]; exact ⟨B.new1 _ _, Blk.new _ _ _⟩
   obtain ⟨w2, hw2⟩ : ∃ w2, w1.setCells wr.heap.size 0 Y.toArray.toList = w2 := ⟨_, rfl⟩
   have X2 : Hid (Below wr.heap.size wr w2 ∧ Blk w2 wr.heap.size Y.toArray 194) := by
    show _ ∧ _
    rw [← hw2]; exact ⟨below_cells (Nat.le_refl _) _ 0 X1.out.1, blk_all X1.out.2 (by rw [hZs.out]; simp [hYs.out])⟩
   have HT : Hid (w1.there wr.heap.size 0 Y.toArray.size) := blk_there X1.out.2 0 _ (by rw [hZs.out]; simp [hYs.out]); have hW2 : Hid (w1.setCells wr.heap.size 0 Y.toArray.toList = w2) := hw2; have c0 : w2.cell? ⟨wr.heap.size, 0, none⟩ = some (.int .i64 y.bit) := by rw [X2.out.2.cell, ← hY]; rfl
   obtain ⟨yb, hyv⟩ : ∃ yb, y.bit = yb := ⟨_, rfl⟩
   rw [hyv] at c0 hyb; have hy0 := hyb.1; have hy1 := hyb.2
   have HR1 : Hid (w2.rangeAt wr.heap.size 1 (conV y.dat)) := fun j v hj => by
    rw [X2.out.2.cell, ← hY]
    show (Value.int .i64 y.bit :: conV y.dat).toArray[1 + j]? = some v
    rw [List.getElem?_toArray, Nat.add_comm 1 j]
    simpa using hj
   have HM2 : Hid (Below wr.heap.size wr w2) := X2.out.1; rw [hyv] at HSU; have KB : Hid (keepB K yb = (bits BinOp.and IntKind.u64 (K / 2 ^ yb.toNat) 1 == 1)) := rfl; obtain ⟨L, hL⟩ : ∃ L, conV y.dat = L := ⟨_, rfl⟩
   have hLs : Hid (L.length = 64) := by show _ = _; rw [← hL]; exact conV_len _
   have hLi : (Tryz.prog.info? 154).map (·.size) = some L.length := by rw [hLs.out]; exact conI
   have hLj : (Tryz.prog.info? 154).map (·.size) = some L.toArray.size := by simp only [List.size_toArray]; exact hLi
   have hL1 : L.toArray.all (·.oneCell') = true := by rw [← hL]; exact all_oneCell_toArray (conV_one _)
   rw [hL] at HR1; have HB2 : Hid (Blk w2 sb (setRow C o (conV (settleC K s.kept (s.wr.take k)))) 157) := M.out.2.below HM2.out; obtain ⟨w3, hw3⟩ : ∃ w3, w2.setCells sb o L.toArray.toList = w3 := ⟨_, rfl⟩
   have HT3 : Hid (w2.there sb o L.toArray.size) := blk_there HB2.out o _ (by rw [Bk.setRow_size]; simp only [List.size_toArray, hLs.out]; omega); have hW3 : Hid (w2.setCells sb o L.toArray.toList = w3) := hw3
   have HN3 : Hid (w.grownBy w3 (some sb) ∧ Blk w3 sb (setRow C o L) 157) := by
    show _ ∧ _
    rw [← hw3]; refine ⟨grown_trans (grown_trans M.out.1 (grown_of_below HM2.out)) (grown_setCells sb _ _ _), ?_⟩; have := blk_setCells L.toArray.toList _ o HB2.out; rw [setRow_twice C o _ _ (by simp [conV_len, hLs.out]) (by simp [hLs.out]; omega)] at this; exact this
   have HN2 : Hid (w.grownBy w2 (some sb)) := grown_trans M.out.1 (grown_of_below HM2.out); clear hw2 hY hyv hyb hw3
   go_upto_region 3 with (first | (refine wpList_load_mid rfl 194 _ rfl g (off + k * 65) rfl Y _ HL.out wrU rfl hYi ?_) | (refine wpList_store_as rfl 194 _ _ rfl wr.heap.size 0 Y.toArray rfl rfl HT.out hYj hY1 w2 hW2.out ?_))
   cases hq : (bits BinOp.and IntKind.u64 (K / 2 ^ yb.toNat) 1 == 1)
   ·have HF : Hid (Blk w2 sb (setRow C o (conV (settleC K s.kept (s.wr.take (k + 1))))) 157) := by
     show Blk _ _ _ _
     rw [HSU.out, if_neg (by rw [KB.out, hq]; decide)]; exact HB2.out
    clear HSU KB HB2 HN3 HT3 hW3 HR1; go_wp2_with fail
    go_roundg (s.wr.length - (k + 1))
    case measure => omega
    case rel => exact ⟨k + 1, by omega, by omega, by go_num, HN2.out, HF.out⟩
   ·have HF : Hid (Blk w3 sb (setRow C o (conV (settleC K s.kept (s.wr.take (k + 1))))) 157) := by
     show Blk _ _ _ _
     rw [HSU.out, if_pos (by rw [KB.out, hq]), hL]; exact HN3.out.2
    have HG3 : Hid (w.grownBy w3 (some sb)) := HN3.out.1; clear HSU KB HB2 HN3 hL
    go_wp2_with (first | (refine wpList_load_mid rfl 154 _ rfl wr.heap.size 1 rfl L _ HR1.out conU rfl hLi ?_) | (refine wpList_store_as rfl 154 _ _ rfl sb o L.toArray rfl rfl HT3.out hLj hL1 w3 hW3.out ?_))
    go_roundg (s.wr.length - (k + 1))
    case measure => omega
    case rel => exact ⟨k + 1, by omega, by omega, by go_num, HG3.out, HF.out⟩
  ·have hltz : ¬ (k : Int) < (s.wr.length : Int) := by omega
   have hke : k = s.wr.length := by omega
   subst hke; have hM := M.out.2; rw [List.take_length] at hM
   have r6 : wr.cell? ⟨sb, o + 64, none⟩ = some (.slice a s.wr.length cap) := by
    rw [hM.cell, setRow_out _ _ _ _ (Or.inr (by rw [conV_len]; exact Nat.le_refl _))]; exact HC64.out
   have f6 := hM.free; have HFN : Hid (PP (.returned (.tuple #[])) (wr.setCell ⟨sb, o + 64, none⟩ (.slice none 0 0))) := HP.out _ (hM.set _ _) (grown_trans M.out.1 (grown_set wr sb (o + 64) _)); clear hM HP; go_wp2; go_returns; exact HFN.out
end Dk
end Go.Proofs.YtopgllmjeliklaaGreatDoor
