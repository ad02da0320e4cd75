/- Chapter 6: the disk: text laid into a content; the step of a disk that isn't armed; contracts for the laws of stage 3. -/
import Derived.Test.YtopgllmjeliklaaGreatDoorJDiskD
import Derived.RangeFuncOwn
namespace Go.Proofs.YtopgllmjeliklaaGreatDoor
open Go.Shelf Go.Lib Go.ChangeShapes Go.WideShapes Go.ChangeAt Go.RowKit
set_option maxRecDepth 100000
set_option linter.unusedSimpArgs false
set_option linter.unusedVariables false

namespace Dk
open Bk
/-- A text, filled up with noughts. -/
def padF (S : ByteArray) (i : Nat) : Int := if i < S.size then ((S.data[i]!).toNat : Int) else 0
theorem text_cells (S : ByteArray) : ((S.extract 0 S.size).data.map fun b => Value.int .u8 b.toNat).toList = (List.range S.size).map fun i => Value.int .u8 (padF S i) := by
  have h : (S.extract 0 S.size).data = S.data := by
    rw [ByteArray.data_extract]
    show S.data.extract 0 S.data.size = S.data
    simp
  rw [h]
  apply List.ext_getElem?
  intro i
  simp only [Array.toList_map, List.getElem?_map]
  by_cases hi : i < S.size
  · have hi' : i < S.data.size := hi
    rw [List.getElem?_range hi]
    simp only [Option.map_some]
    rw [List.getElem?_eq_getElem (by simpa using hi')]
    simp only [Option.map_some, padF, if_pos hi]
    rw [getElem!_pos S.data i hi']
    simp
  · have hi' : ¬ i < S.data.size := hi
    rw [List.getElem?_eq_none (by simpa using hi'), List.getElem?_eq_none (by simpa using hi)]
    rfl
theorem con_at (c : Nat → Int) (i : Nat) : (conV c)[i]? = if i < 64 then some (.int .u8 (c i)) else none := by
  unfold conV
  by_cases h : i < 64
  · rw [if_pos h, List.getElem?_map, List.getElem?_range h]; rfl
  · rw [if_neg h, List.getElem?_eq_none (by simp; omega)]
theorem copied (bit : Int) (S : ByteArray) (hs : S.size ≤ 64) : (Wr.enc ⟨bit, fun _ => 0⟩).take 1 ++ ((List.range S.size).map fun i => Value.int .u8 (padF S i)) ++ (Wr.enc ⟨bit, fun _ => 0⟩).drop (1 + S.size) = Wr.enc ⟨bit, padF S⟩ := by
  unfold Wr.enc
  simp only [List.take_succ_cons, List.take_zero, List.cons_append, List.nil_append, Nat.add_comm 1, List.drop_succ_cons]
  congr 1
  apply List.ext_getElem?
  intro i
  rw [con_at]
  by_cases hi : i < S.size
  · rw [List.getElem?_append_left (by simpa using hi), List.getElem?_map, List.getElem?_range hi, if_pos (by omega)]
    rfl
  · rw [List.getElem?_append_right (by simpa using hi), List.getElem?_drop, con_at]
    simp only [List.length_map, List.length_range]
    rw [show S.size + (i - S.size) = i from by omega]
    by_cases h64 : i < 64
    · rw [if_pos h64, if_pos h64]
      simp [padF, hi]
    · rw [if_neg h64, if_neg h64]
/-- The built-in copy of a text into a write's content. -/
theorem run_copy_text (w : World) (r : Nat) (bit : Int) (S : ByteArray) (hs : S.size ≤ 64) (hB : Blk w r (Wr.enc ⟨bit, fun _ => 0⟩).toArray 194) (ty : TypeId) :
    ∃ w', (Builtin.copy_ #[183, 9] ty #[.slice (some ⟨r, 1, none⟩) 64 64, .string S]).run Tryz.prog w = .ok (goInt S.size) w' ∧ Blk w' r (Wr.enc ⟨bit, padF S⟩).toArray 194 ∧ w.grownBy w' (some r) := by
  have hu : Tryz.prog.underlying 183 = some (.slice 5) := by kernel_rfl
  have hi : (Tryz.prog.info? 5).map (·.size) = some 1 := by kernel_rfl
  have hsc := run_storeCells_cells (P := Tryz.prog) r 1 ((List.range S.size).map fun i => Value.int .u8 (padF S i)) 0 w (fun j hj => by
    rw [hB.cell, Array.getElem?_eq_getElem (by simp [Wr.enc_len] at hj ⊢; omega)]; rfl) (fun j hj => hB.free _) (fun v hv => by
    obtain ⟨i, _, rfl⟩ := List.mem_map.1 hv
    rfl)
  refine ⟨w.setCells r 1 ((List.range S.size).map fun i => Value.int .u8 (padF S i)), ?_, ?_, grown_setCells r _ _ _⟩
  rotate_left
  · have := blk_setCells ((List.range S.size).map fun i => Value.int .u8 (padF S i)) (Wr.enc ⟨bit, fun _ => 0⟩).toArray 1 hB
    have e : setRow (Wr.enc ⟨bit, fun _ => 0⟩).toArray 1 ((List.range S.size).map fun i => Value.int .u8 (padF S i)) = (Wr.enc ⟨bit, padF S⟩).toArray := by
      rw [← copied bit S hs]
      apply Array.ext_getElem?
      intro j
      by_cases h1 : j < 1
      · rw [setRow_out _ _ _ _ (Or.inl h1)]
        have : j = 0 := by omega
        subst this
        rfl
      · by_cases h2 : j < 1 + S.size
        · obtain ⟨c, rfl⟩ : ∃ c, j = 1 + c := ⟨j - 1, by omega⟩
          rw [setRow_in _ _ _ _ (by simp; omega) (by simp [Wr.enc_len]; omega), List.getElem?_toArray, List.append_assoc, List.getElem?_append_right (by simp [Wr.enc_len]), List.getElem?_append_left (by simp [Wr.enc_len]; omega)]
          simp [Wr.enc_len]
        · rw [setRow_out _ _ _ _ (Or.inr (by simp; omega)), List.getElem?_toArray, List.getElem?_toArray, List.getElem?_append_right (by simp [Wr.enc_len]; omega), List.getElem?_drop]
          congr 1
          simp [Wr.enc_len]
          omega
    rw [e] at this
    exact this
  · have hmin : Nat.min S.size 64 = S.size := Nat.min_eq_left hs
    have hz : (sizeOf 5).run Tryz.prog w = .ok 1 w := by kernel_rfl
    simp only [Nat.add_zero] at hsc
    have e := text_cells S
    simp at e
    simp [Builtin.copy_, run_underlying hu, Builtin.lenOf, Builtin.firstCells, hz, hmin]
    rw [e, List.take_of_length_le (by simp), hsc]
    rfl

set_option maxHeartbeats 2000000 in
/-- A step of a disk that isn't armed, nor down. -/
theorem step_quiet (db : Nat) (w : World) (c2 : w.cell? ⟨db, 2, none⟩ = some (.bool false)) (c4 : w.cell? ⟨db, 4, none⟩ = some (.bool false)) :
    Calls Tryz.prog 150 #[.pointer (some ⟨db, 0, none⟩)] w fun e w' => e = .returned .nilIface ∧ w' = w := by
  go_enter Tryz.func150, Tryz.ntmps150
  go_wp2
  go_returns
  exact ⟨rfl, rfl⟩

end Dk
end Go.Proofs.YtopgllmjeliklaaGreatDoor

namespace Go.Proofs.YtopgllmjeliklaaGreatDoor
open Go.Shelf Go.Lib Go.ChangeShapes Go.WideShapes Go.ChangeAt Go.RowKit
set_option maxRecDepth 100000
set_option linter.unusedSimpArgs false
set_option linter.unusedVariables false

namespace Dk
open Bk
/-- Rows of 65 cells are what they are cell by cell. -/
theorem flat_of (A : Array Value) (l : List Sec) (hs : A.size = l.length * 65) (h : ∀ j, j < l.length → ∀ r, r < 65 → A[j * 65 + r]? = (Sec.enc l[j]!)[r]?) : A = (l.flatMap Sec.enc).toArray := by
  apply Array.ext_getElem?
  intro q
  have hlen := flat_len Sec.enc 65 Sec.enc_len l
  by_cases hq : q < l.length * 65
  · have hj : q / 65 < l.length := Nat.div_lt_of_lt_mul (by rw [Nat.mul_comm]; exact hq)
    have hr : q % 65 < 65 := Nat.mod_lt _ (by decide)
    have e : q = q / 65 * 65 + q % 65 := by have := Nat.div_add_mod q 65; omega
    have h1 := h (q / 65) hj (q % 65) hr
    have h2 := flat_get Sec.enc 65 Sec.enc_len l (q / 65) (q % 65) hj hr
    rw [← e] at h1 h2
    rw [h1, List.getElem?_toArray, h2]
  · rw [Array.getElem?_eq_none (by omega), Array.getElem?_eq_none (by simp only [List.size_toArray]; omega)]
/-- What an operation on the disk leaves alone. -/
structure DFr (base : Nat) (w w' : World) : Prop where
  b : Below base w w'
  far : ∀ k arr T, T ≠ 124 → T ≠ 157 → T ≠ 194 → Blk w k arr T → Blk w' k arr T
  oth : KeepsOthers w w'
theorem keeps_below {w w' : World} (h : Below w.heap.size w w') : KeepsOthers w w' := ⟨h.size, fun k o hk _ => (h.block k (Array.getElem?_eq_some_iff.1 hk).1).trans hk⟩
theorem DFr.refl (base : Nat) (w : World) : DFr base w w := ⟨Below.refl _ _, fun _ _ _ _ _ _ h => h, KeepsOthers.refl _⟩
theorem DFr.trans {base : Nat} {a b c : World} (h : DFr base a b) (k : DFr base b c) (hb : base ≤ a.heap.size) : DFr base a c := ⟨⟨k.b.os.trans h.b.os, k.b.tape.trans h.b.tape, k.b.output.trans h.b.output, Nat.le_trans h.b.size k.b.size, fun q hq => (k.b.block q hq).trans (h.b.block q hq)⟩, fun q arr T h1 h2 h3 h4 => k.far q arr T h1 h2 h3 (h.far q arr T h1 h2 h3 h4), h.oth.trans k.oth⟩
theorem DFr.of_below {base : Nat} {w w' : World} (h : Below w.heap.size w w') (hb : base ≤ w.heap.size) : DFr base w w' := ⟨⟨h.os, h.tape, h.output, h.size, fun k hk => h.block k (by omega)⟩, fun _ _ _ _ _ _ hk => hk.below h, keeps_below h⟩
theorem own_at {w : World} {base : Nat} {v : Value} {l : List Wr} (h : OwnAt w base 194 65 Wr.enc v l) {k : Nat} (e : v.ownBlock = some k) : base ≤ k ∧ k < w.heap.size ∧ ∃ cur, Blk w k cur 194 := by
  rcases h with ⟨rfl, _⟩ | ⟨g, cap, cur, rfl, hg, hb, _⟩
  · simp [Value.ownBlock] at e
  · simp [Value.ownBlock] at e
    subst e
    exact ⟨hg, hb.lt, cur, hb⟩
theorem DFr.of_add {base : Nat} {w w' : World} {sb : Nat} {C : Array Value} {v : Value} {l : List Wr} (h : AddFr w w' sb v) (hB : Blk w sb C 157) (hO : OwnAt w base 194 65 Wr.enc v l) (hb : base ≤ sb) : DFr base w w' := by
  have hsb := hB.lt
  refine ⟨⟨h.os, h.tape, h.output, h.size, fun k hk => h.block k (by omega) (by omega) (fun e => ?_)⟩, fun k arr T h1 h2 h3 hk => (h.block k hk.lt (fun e => ?_) (fun e => ?_)).trans hk, h.size, fun k o hk ho => (h.block k (Array.getElem?_eq_some_iff.1 hk).1 (fun e => ?_) (fun e => ?_)).trans hk⟩
  · have := (own_at hO e).1; omega
  · subst e; exact h2 (blk_typeD hk hB)
  · obtain ⟨_, _, cur, hc⟩ := own_at hO e
    exact h3 (blk_typeD hk hc)
  · subst e
    rw [show w.heap[k]? = _ from hB] at hk
    cases hk; cases ho
  · obtain ⟨_, _, cur, hc⟩ := own_at hO e
    rw [show w.heap[k]? = _ from hc] at hk
    cases hk; cases ho
theorem DFr.of_set {base : Nat} {w : World} {db : Nat} {D : Array Value} (hD : Blk w db D 124) (hb : base ≤ db) (o : Nat) (v : Value) : DFr base w (w.setCell ⟨db, o, none⟩ v) :=
  ⟨(Below.refl _ _).setCell (p := ⟨db, o, none⟩) hb v, fun k arr T h1 _ _ hk => hk.other (fun e => h1 (blk_typeD hk (e ▸ hD))) o v, KeepsOthers.setCell _ _ _⟩
theorem set_get (secs : List Sec) (i j : Nat) (s : Sec) (hi : i < secs.length) (hj : j < secs.length) : (secs.set i s)[j]! = if i = j then s else secs[j]! := by
  rw [getElem!_pos (secs.set i s) j (by simpa using hj), List.getElem_set]
  by_cases e : i = j
  · rw [if_pos e, if_pos e]
  · rw [if_neg e, if_neg e, getElem!_pos secs j hj]
/-- The disk behind a write. -/
theorem DiskAt.added {w w' : World} {base db sb : Nat} {secs : List Sec} {bit : Int} {armed : Bool} {left : Int} {down : Bool} {i : Nat} {x : Wr} {v' : Value} (h : DiskAt w base db sb secs bit armed left down) (hi : i < secs.length)
    (hO : OwnAt w' base 194 65 Wr.enc v' (secs[i]!.wr ++ [x])) (hB : Blk w' sb ((secs.flatMap Sec.enc).toArray.setIfInBounds (i * 65 + 64) v') 157) (hF : AddFr w w' sb secs[i]!.v) (hn : ∀ g, v'.ownBlock = some g → secs[i]!.v.ownBlock = some g ∨ w.heap.size ≤ g) :
    DiskAt w' base db sb (secs.set i ⟨secs[i]!.kept, v', secs[i]!.wr ++ [x]⟩) bit armed left down := by
  have hdb : db ≠ sb := fun e => by
    have h1 := h.d
    rw [e] at h1
    exact absurd (blk_typeD h1 h.s) (by decide)
  refine ⟨?_, ?_, ?_, ?_, h.hb⟩
  · rw [List.length_set]
    refine (hF.block db h.d.lt hdb (fun e => ?_)).trans h.d
    obtain ⟨_, _, cur, hc⟩ := own_at (h.own i hi) e
    exact absurd (blk_typeD h.d hc) (by decide)
  · have e : ((secs.flatMap Sec.enc).toArray.setIfInBounds (i * 65 + 64) v') = ((secs.set i ⟨secs[i]!.kept, v', secs[i]!.wr ++ [x]⟩).flatMap Sec.enc).toArray := by
      refine flat_of _ _ (by simp only [Array.size_setIfInBounds, List.size_toArray, List.length_set]; exact flat_len Sec.enc 65 Sec.enc_len secs) (fun j hj r hr => ?_)
      rw [List.length_set] at hj
      rw [set_get secs i j _ hi hj, Array.getElem?_setIfInBounds, List.getElem?_toArray, flat_get Sec.enc 65 Sec.enc_len secs j r hj hr]
      by_cases e : i = j
      · subst e
        rw [if_pos rfl]
        by_cases er : r = 64
        · subst er
          rw [if_pos rfl, if_pos (by simp only [List.size_toArray]; rw [flat_len Sec.enc 65 Sec.enc_len secs]; omega)]
          unfold Sec.enc
          rw [List.getElem?_append_right (by rw [conV_len]; exact Nat.le_refl _), conV_len]
          rfl
        · rw [if_neg (by omega)]
          unfold Sec.enc
          rw [List.getElem?_append_left (by rw [conV_len]; omega), List.getElem?_append_left (by rw [conV_len]; omega)]
      · rw [if_neg e, if_neg (by omega)]
    rw [← e]
    exact hB
  · intro j hj
    rw [List.length_set] at hj
    rw [set_get secs i j _ hi hj]
    by_cases e : i = j
    · rw [if_pos e]; exact hO
    · rw [if_neg e]
      rcases h.own j hj with h1 | ⟨g, cap, cur, hv, hg, hk, r⟩
      · exact Or.inl h1
      · refine Or.inr ⟨g, cap, cur, hv, hg, (hF.block g hk.lt (fun e' => ?_) (fun e' => ?_)).trans hk, r⟩
        · subst e'; exact absurd (blk_typeD hk h.s) (by decide)
        · exact h.ne i j hi hj e g e' (by rw [hv]; rfl)
  · intro a b ha hb hab g hg
    rw [List.length_set] at ha hb
    rw [set_get secs i a _ hi ha] at hg
    rw [set_get secs i b _ hi hb]
    by_cases ea : i = a
    · rw [if_pos ea] at hg
      rw [if_neg (by omega)]
      rcases hn g hg with h1 | h1
      · exact h.ne i b hi hb (by omega) g h1
      · intro h2
        have := (own_at (h.own b hb) h2).2.1
        omega
    · rw [if_neg ea] at hg
      by_cases eb : i = b
      · rw [if_pos eb]
        intro h2
        rcases hn g h2 with h1 | h1
        · exact h.ne i a hi ha ea g h1 hg
        · have := (own_at (h.own a ha) hg).2.1
          omega
      · rw [if_neg eb]
        exact h.ne a b ha hb hab g hg
/-- Its bit is another. -/
theorem DiskAt.setBit {w : World} {base db sb : Nat} {secs : List Sec} {bit : Int} {armed : Bool} {left : Int} {down : Bool} (h : DiskAt w base db sb secs bit armed left down) (b2 : Int) : DiskAt (w.setCell ⟨db, 1, none⟩ (.int .i64 b2)) base db sb secs b2 armed left down := by
  have hdb : db ≠ sb := fun e => by
    have h1 := h.d
    rw [e] at h1
    exact absurd (blk_typeD h1 h.s) (by decide)
  refine ⟨h.d.set 1 _, h.s.other hdb _ _, fun i hi => (h.own i hi).grown (grown_set w db 1 _) (fun g e e' => ?_), h.ne, h.hb⟩
  injection e' with e'
  subst e'
  exact own_neD (h.own i hi) h.d (by decide) e

end Dk
end Go.Proofs.YtopgllmjeliklaaGreatDoor

namespace Go.Proofs.YtopgllmjeliklaaGreatDoor
open Go.Shelf Go.Lib Go.ChangeShapes Go.WideShapes Go.ChangeAt Go.RowKit
set_option maxRecDepth 100000
set_option linter.unusedSimpArgs false
set_option linter.unusedVariables false

namespace Dk
open Bk
/-- A struct built of one part. -/
theorem wpList_build {P : Program} {ops : Array Oper} {rest : List Oper} {op : Oper} {a : Act} {w : World} {Q : Exit → Act → World → Prop} (hgd : op.guard = none) (t : TypeId) (x : Operand) (ho : op.op = .build t #[(0, x)]) (v v' : Value) (hx : a.eval x = v)
    (hr : (Instr.build t #[(0, v)]).run P w = .ok v' w) (h : wpList P ops Q rest (a.put op.dst v') w) : wpList P ops Q (op :: rest) a w :=
  wpList_plain hgd fun _ hK => by
    unfold Oper.wp
    simp [execOp, ho, hx, hr, Result.andThen]
    exact hK _ _ h
theorem wrB (bit : Int) (w : World) : (Instr.build 194 #[(0, .int .i64 bit)]).run Tryz.prog w = .ok (.agg (Wr.enc ⟨bit, fun _ => 0⟩).toArray) w := by kernel_rfl
theorem wrZ (w : World) : (zeroValue 194).run Tryz.prog w = .ok (.agg (Wr.enc ⟨0, fun _ => 0⟩).toArray) w := by kernel_rfl
/-- What Write answers, and how the disk then lies. -/
def WritePost (base db sb : Nat) (secs : List Sec) (bit left x : Int) (S : ByteArray) (w : World) (e : Ending) (w' : World) : Prop :=
  ((hasN secs.length x && decide (S.size ≤ 64)) = false ∧ e = .returned (errV 1) ∧ w' = w) ∨
  ((hasN secs.length x && decide (S.size ≤ 64)) = true ∧ e = .returned .nilIface ∧ DFr base w w' ∧ ∃ v', DiskAt w' base db sb (secs.set x.toNat ⟨secs[x.toNat]!.kept, v', secs[x.toNat]!.wr ++ [⟨bit, padF S⟩]⟩) (bit + 1) false left false)

set_option maxHeartbeats 800000 in
theorem write_any (base db sb : Nat) (secs : List Sec) (bit left x : Int) (S : ByteArray) (w : World) (h : DiskAt w base db sb secs bit false left false) (hbase : base ≤ w.heap.size) (hb0 : 0 ≤ bit) (hb1 : bit ≤ 62) (hd : ∀ i, i < secs.length → ∀ y ∈ secs[i]!.wr, y.bit ≠ bit) (hl : ∀ i, i < secs.length → secs[i]!.wr.length ≤ 900) (hn : secs.length ≤ 1000) (hS : S.size ≤ maxLen) :
    Calls Tryz.prog 125 #[.pointer (some ⟨db, 0, none⟩), .int .i64 x, .string S] w (WritePost base db sb secs bit left x S w) := by
  unfold maxLen at hS
  have rd := h.d.cell
  have HH : Hid (Calls Tryz.prog 149 #[.pointer (some ⟨db, 0, none⟩), .int .i64 x] w fun e w' => e = .returned (.bool (hasN secs.length x)) ∧ w' = w) := has_any db sb secs.length x w (h.d.cell 0)
  have HST : Hid (Calls Tryz.prog 150 #[.pointer (some ⟨db, 0, none⟩)] w fun e w' => e = .returned .nilIface ∧ w' = w) := step_quiet db w (h.d.cell 2) (h.d.cell 4)
  have HB0 : Hid ((hasN secs.length x && decide (S.size ≤ 64)) = false → WritePost base db sb secs bit left x S w (.returned (.iface 103 (.int .i64 1))) w) := fun e => Or.inl ⟨e, rfl, rfl⟩
  have HG0 : Hid ((hasN secs.length x && decide (S.size ≤ 64)) = true → ∀ v' w', DFr base w w' → DiskAt w' base db sb (secs.set x.toNat ⟨secs[x.toNat]!.kept, v', secs[x.toNat]!.wr ++ [⟨bit, padF S⟩]⟩) (bit + 1) false left false → WritePost base db sb secs bit left x S w (.returned .nilIface) w') := fun e v' w' h1 h2 => Or.inr ⟨e, rfl, h1, v', h2⟩
  generalize WritePost base db sb secs bit left x S w = PP at *
  cases hx : hasN secs.length x
  · have HP : Hid (PP (.returned (.iface 103 (.int .i64 1))) w) := HB0.out (by rw [hx]; rfl)
    rw [hx] at HH
    clear HB0 HG0 h hd hl HST hx
    go_enter Tryz.func125, Tryz.ntmps125
    go_wp2_with fail
    refine HH.out.mono ?_
    rintro e w1 ⟨rfl, rfl⟩
    go_wp2
    exact HP.out
  by_cases hs : 64 < S.size
  · have HP : Hid (PP (.returned (.iface 103 (.int .i64 1))) w) := HB0.out (by rw [decide_eq_false (by omega)]; simp)
    have hsz : (64 : Int) < (S.size : Int) := by omega
    rw [hx] at HH
    clear HB0 HG0 h hd hl HST hx
    go_enter Tryz.func125, Tryz.ntmps125
    go_wp2_with fail
    refine HH.out.mono ?_
    rintro e w1 ⟨rfl, rfl⟩
    go_wp2
    exact HP.out
  · have hsz : ¬ (64 : Int) < (S.size : Int) := by omega
    obtain ⟨i, rfl⟩ : ∃ i : Nat, x = (i : Int) := ⟨x.toNat, by simp [hasN] at hx; omega⟩
    have hi : i < secs.length := by simp [hasN] at hx; omega
    have hiz : (i : Int) < (secs.length : Int) := by omega
    have HP : Hid (∀ v' w', DFr base w w' → DiskAt w' base db sb (secs.set i ⟨secs[i]!.kept, v', secs[i]!.wr ++ [⟨bit, padF S⟩]⟩) (bit + 1) false left false → PP (.returned .nilIface) w') := HG0.out (by rw [hx, decide_eq_true (by omega)]; rfl)
    rw [hx] at HH
    clear HB0 HG0 hx
    -- the write, as it is laid
    obtain ⟨Y, hY⟩ : ∃ Y, Wr.enc ⟨bit, fun _ => 0⟩ = Y := ⟨_, rfl⟩
    obtain ⟨Y2, hY2⟩ : ∃ Y, Wr.enc ⟨bit, padF S⟩ = Y := ⟨_, rfl⟩
    obtain ⟨Z, hZ⟩ : ∃ Y, (Wr.enc ⟨0, fun _ => 0⟩).toArray = Y := ⟨_, rfl⟩
    have hbd : ∀ w, (Instr.build 194 #[(0, .int .i64 bit)]).run Tryz.prog w = .ok (.agg Y.toArray) w := fun w => by rw [← hY]; exact wrB bit w
    have hZv : ∀ w, (zeroValue 194).run Tryz.prog w = .ok (.agg Z) w := fun w => by rw [← hZ]; exact wrZ w
    have hZs : Z.size = 65 := by rw [← hZ]; simp [Wr.enc_len]
    have hYs : Y.toArray.size = 65 := by rw [← hY]; simp [Wr.enc_len]
    have hwi : (Tryz.prog.info? 194).map (·.size) = some 65 := by kernel_rfl
    have hYi : (Tryz.prog.info? 194).map (·.size) = some Y.toArray.size := by rw [hYs]; exact hwi
    have hY2i : (Tryz.prog.info? 194).map (·.size) = some Y2.length := by rw [← hY2, Wr.enc_len]; exact hwi
    have hY1 : Y.toArray.all (·.oneCell') = true := by rw [← hY]; exact all_oneCell_toArray (Wr.enc_one _)
    obtain ⟨w1, hw1⟩ : ∃ w1, w.alloc (.cells Z 194) = w1 := ⟨_, rfl⟩
    have X1 : Hid (Below w.heap.size w w1 ∧ Blk w1 w.heap.size Z 194) := by
      show _ ∧ _
      rw [← hw1]
      exact ⟨B.new1 _ _, Blk.new _ _ _⟩
    obtain ⟨w2, hw2⟩ : ∃ w2, w1.setCells w.heap.size 0 Y.toArray.toList = w2 := ⟨_, rfl⟩
    have X2 : Hid (Below w.heap.size w w2 ∧ Blk w2 w.heap.size Y.toArray 194) := by
      show _ ∧ _
      rw [← hw2]
      exact ⟨below_cells (Nat.le_refl _) _ 0 X1.out.1, blk_all X1.out.2 (by rw [hZs, ← hYs]; simp)⟩
    have HT : Hid (w1.there w.heap.size 0 Y.toArray.size) := blk_there X1.out.2 0 _ (by rw [hZs, hYs]; exact Nat.le_refl _)
    have hW2 : Hid (w1.setCells w.heap.size 0 Y.toArray.toList = w2) := hw2
    have hB2 := X2.out.2
    rw [← hY] at hB2
    obtain ⟨w3, hcp, hB3, hg3⟩ := run_copy_text w2 w.heap.size bit S (by omega) hB2 3
    rw [hY2] at hB3
    have X3 : Hid (Below w.heap.size w w3 ∧ Blk w3 w.heap.size Y2.toArray 194 ∧ DiskAt w3 base db sb secs bit false left false) := by
      have b3 := below_of_grown X2.out.1 hg3 (Nat.le_refl _) X2.out.1.size
      exact ⟨b3, hB3, h.below b3⟩
    clear hw2 hB2 hB3 hg3
    go_enter Tryz.func125, Tryz.ntmps125
    go_wp2_with fail
    refine HH.out.mono ?_
    rintro e w9 ⟨rfl, rfl⟩
    go_wp2_with fail
    refine HST.out.mono ?_
    rintro e w10 ⟨rfl, rfl⟩
    clear HH HST
    go_upto_region 7 with (first | (refine wpList_build rfl 194 _ rfl (.int .i64 bit) (.agg Y.toArray) rfl (hbd _) ?_) | (refine wpList_store_as rfl 194 _ _ rfl w10.heap.size 0 Y.toArray rfl rfl HT.out hYi hY1 w2 hW2.out ?_))
    clear hW2 HT X1 hbd hZv hZs hYs hYi hY1 hZ hY hw1
    go_upto_region 8 with fail
    clear hcp X2
    have HDK : Hid (DiskAt w3 base db sb secs bit false left false) := X3.out.2.2
    have D0 : Hid (Below w3.heap.size w3 w3.drew) := (Below.refl _ _).drew
    have HS : Hid (∀ W, Below w3.heap.size w3 W → W.cell? ⟨db, 0, none⟩ = some (.slice (some ⟨sb, 0, none⟩) secs.length secs.length) ∧ W.rangeAt w10.heap.size 0 Y2) := fun W hb => ⟨(HDK.out.d.below hb).cell 0, blk_range (X3.out.2.1.below hb)⟩
    have HSD : Hid ((fun W : World => W.cell? ⟨db, 0, none⟩ = some (.slice (some ⟨sb, 0, none⟩) secs.length secs.length) ∧ W.rangeAt w10.heap.size 0 Y2) w3.drew) := HS.out _ D0.out
    have HAD : Hid (Calls Tryz.prog 151 #[.pointer (some ⟨sb, i * 65, none⟩), .agg Y2.toArray] w3.drew fun e w' => e = .returned (.tuple #[]) ∧ ∃ v', OwnAt w' base 194 65 Wr.enc v' (secs[i]!.wr ++ [⟨bit, padF S⟩]) ∧ Blk w' sb ((secs.flatMap Sec.enc).toArray.setIfInBounds (i * 65 + 64) v') 157 ∧ AddFr w3.drew w' sb secs[i]!.v ∧ (∀ g, v'.ownBlock = some g → secs[i]!.v.ownBlock = some g ∨ w3.drew.heap.size ≤ g)) := by
      rw [← hY2]
      exact add_any base sb (i * 65) secs[i]! ⟨bit, padF S⟩ _ w3.drew ((HDK.out.below D0.out).sec hi) (HDK.out.s.below D0.out) (Nat.le_trans hbase (Nat.le_trans X3.out.1.size D0.out.size)) (hd i hi) (hl i hi)
    have HNB : Hid (w10.heap.size ≠ sb ∧ secs[i]!.v.ownBlock ≠ some w10.heap.size) := ⟨by have := h.s.lt; omega, fun e => by have := (own_at (h.own i hi) e).2.1; omega⟩
    clear hd hl h
    refine wp_region_held (S := fun W => W.cell? ⟨db, 0, none⟩ = some (.slice (some ⟨sb, 0, none⟩) secs.length secs.length) ∧ W.rangeAt w10.heap.size 0 Y2) (by kernel_rfl) ?_
    refine wpAnyH_take (fuel := 7) (i := 0) (v := .pointer (some ⟨db, 0, none⟩)) rfl (by kernel_rfl) (by kernel_rfl) (by kernel_rfl) (fun _ _ _ h => h) (Or.inl ⟨by rfl, ?_⟩) HSD.out ?_
    · intro W hSw
      (try dsimp only at hSw)
      obtain ⟨y0, y1⟩ := hSw
      clear y1
      go_simp
      try rfl
    (try simp only [Act.put, List.setIfInBounds_toArray, List.set_cons_zero, List.set_cons_succ, List.getElem_toArray, List.getElem_cons_zero, List.getElem_cons_succ])
    refine wpAnyH_take (fuel := 6) (i := 1) (v := .pointer (some ⟨db, 0, none⟩)) rfl (by kernel_rfl) (by kernel_rfl) (by kernel_rfl) (fun _ _ _ h => h) (Or.inl ⟨by rfl, ?_⟩) HSD.out ?_
    · intro W hSw
      (try dsimp only at hSw)
      obtain ⟨y0, y1⟩ := hSw
      clear y1
      go_simp
      try rfl
    (try simp only [Act.put, List.setIfInBounds_toArray, List.set_cons_zero, List.set_cons_succ, List.getElem_toArray, List.getElem_cons_zero, List.getElem_cons_succ])
    refine wpAnyH_take (fuel := 5) (i := 2) (v := .pointer (some ⟨db, 0, none⟩)) rfl (by kernel_rfl) (by kernel_rfl) (by kernel_rfl) (fun _ _ _ h => h) (Or.inl ⟨by rfl, ?_⟩) HSD.out ?_
    · intro W hSw
      (try dsimp only at hSw)
      obtain ⟨y0, y1⟩ := hSw
      clear y1
      go_simp
      try rfl
    (try simp only [Act.put, List.setIfInBounds_toArray, List.set_cons_zero, List.set_cons_succ, List.getElem_toArray, List.getElem_cons_zero, List.getElem_cons_succ])
    refine wpAnyH_take (fuel := 4) (i := 3) (v := .slice (some ⟨sb, 0, none⟩) secs.length secs.length) rfl (by kernel_rfl) (by kernel_rfl) (by kernel_rfl) (fun _ _ _ h => h) (Or.inl ⟨by rfl, ?_⟩) HSD.out ?_
    · intro W hSw
      (try dsimp only at hSw)
      obtain ⟨y0, y1⟩ := hSw
      clear y1
      go_simp
      try rfl
    (try simp only [Act.put, List.setIfInBounds_toArray, List.set_cons_zero, List.set_cons_succ, List.getElem_toArray, List.getElem_cons_zero, List.getElem_cons_succ])
    refine wpAnyH_take (fuel := 3) (i := 4) (v := .int .i64 i) rfl (by kernel_rfl) (by kernel_rfl) (by kernel_rfl) (fun _ _ _ h => h) (Or.inl ⟨by rfl, ?_⟩) HSD.out ?_
    · intro W hSw
      (try dsimp only at hSw)
      obtain ⟨y0, y1⟩ := hSw
      clear y1
      go_simp
      try rfl
    (try simp only [Act.put, List.setIfInBounds_toArray, List.set_cons_zero, List.set_cons_succ, List.getElem_toArray, List.getElem_cons_zero, List.getElem_cons_succ])
    refine wpAnyH_take (fuel := 2) (i := 5) (v := .pointer (some ⟨sb, i * 65, none⟩)) rfl (by kernel_rfl) (by kernel_rfl) (by kernel_rfl) (fun _ _ _ h => h) (Or.inl ⟨by rfl, ?_⟩) HSD.out ?_
    · intro W hSw
      (try dsimp only at hSw)
      obtain ⟨y0, y1⟩ := hSw
      clear y1
      go_simp
      try rfl
    (try simp only [Act.put, List.setIfInBounds_toArray, List.set_cons_zero, List.set_cons_succ, List.getElem_toArray, List.getElem_cons_zero, List.getElem_cons_succ])
    refine wpAnyH_take (fuel := 1) (i := 6) (v := .agg Y2.toArray) rfl (by kernel_rfl) (by kernel_rfl) (by kernel_rfl) (fun _ _ _ h => h) (yieldsIf_load_mid (by rfl) 194 _ rfl w10.heap.size 0 rfl Y2 _ (fun W h => h.2) wrU rfl hY2i) HSD.out ?_
    (try simp only [Act.put, List.setIfInBounds_toArray, List.set_cons_zero, List.set_cons_succ, List.getElem_toArray, List.getElem_cons_zero, List.getElem_cons_succ])
    refine wpAnyH_ready (fuel := 0) (rs := [7]) (by kernel_rfl) (by simp) ?_
    refine AllReadyH.cons rfl (fun K hK => ?_) AllReadyH.nil
    go_simp
    refine HAD.out.mono ?_
    rintro e w4 ⟨rfl, v', hO, hB, hF, hnn⟩
    have X4 : Hid (DFr base w10 w4 ∧ DiskAt w4 base db sb (secs.set i ⟨secs[i]!.kept, v', secs[i]!.wr ++ [⟨bit, padF S⟩]⟩) bit false left false) := by
      have hk := HDK.out.below D0.out
      exact ⟨(DFr.of_below (B.next X3.out.1 D0.out X3.out.1.size) hbase).trans (DFr.of_add hF hk.s (hk.own i hi) hk.hb.2) hbase, hk.added hi hO hB hF hnn⟩
    have HS4 : Hid ((fun W : World => W.cell? ⟨db, 0, none⟩ = some (.slice (some ⟨sb, 0, none⟩) secs.length secs.length) ∧ W.rangeAt w10.heap.size 0 Y2) w4) := by
      have hc := X4.out.2.d.cell 0
      rw [List.length_set] at hc
      have hbk := X3.out.2.1.below D0.out
      exact ⟨hc, blk_range ((hF.block _ hbk.lt HNB.out.1 HNB.out.2).trans hbk)⟩
    clear hO hB hF hnn HAD
    simp only []
    refine hK.out _ _ HS4.out (fun _ => ?_)
    clear hK K
    refine wpAnyH_done (by kernel_rfl) ?_ _
    (try simp only [Act.put])
    have r4 := X4.out.2.d.cell
    have f4 := X4.out.2.d.free
    go_wp2
    have hbm : (bit + 1) % 64 = bit + 1 := by omega
    rw [hbm]
    exact HP.out v' _ (X4.out.1.trans (DFr.of_set X4.out.2.d X4.out.2.hb.1 1 _) hbase) (X4.out.2.setBit (bit + 1))

end Dk
end Go.Proofs.YtopgllmjeliklaaGreatDoor
