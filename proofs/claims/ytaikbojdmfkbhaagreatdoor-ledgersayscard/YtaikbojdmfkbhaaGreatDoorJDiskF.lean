/- Chapter 6: the disk behind a write: how it lies then; for the laws of stage 3. -/
import Derived.Test.YtaikbojdmfkbhaaGreatDoorJDiskB
import Derived.RangeFuncOwn
import Derived.Deep.LoopGhost
namespace Go.Proofs.YtaikbojdmfkbhaaGreatDoor
open Go.Shelf Go.Lib Go.ChangeShapes Go.WideShapes Go.ChangeAt Go.RowKit
set_option maxRecDepth 100000
set_option linter.unusedSimpArgs false
set_option linter.unusedVariables false

namespace Dk
open Bk
/-- Rows of 65 cells are what they are cell by cell. -/
theorem flat_of (A : Array Value) (l : List Sec) (hs : A.size = l.length * 65) (h : ∀ j, j < l.length → ∀ r, r < 65 → A[j * 65 + r]? = (Sec.enc l[j]!)[r]?) : A = (l.flatMap Sec.enc).toArray := by
  apply Array.ext_getElem?
  intro q
  have hlen := flat_len Sec.enc 65 Sec.enc_len l
  by_cases hq : q < l.length * 65
  · have hj : q / 65 < l.length := Nat.div_lt_of_lt_mul (by rw [Nat.mul_comm]; exact hq)
    have hr : q % 65 < 65 := Nat.mod_lt _ (by decide)
    have e : q = q / 65 * 65 + q % 65 := by have := Nat.div_add_mod q 65; omega
    have h1 := h (q / 65) hj (q % 65) hr
    have h2 := flat_get Sec.enc 65 Sec.enc_len l (q / 65) (q % 65) hj hr
    rw [← e] at h1 h2
    rw [h1, List.getElem?_toArray, h2]
  · rw [Array.getElem?_eq_none (by omega), Array.getElem?_eq_none (by simp only [List.size_toArray]; omega)]
/-- What an operation on the disk leaves alone. -/
structure DFr (base : Nat) (w w' : World) : Prop where
  b : Below base w w'
  far : ∀ k arr T, T ≠ 97 → T ≠ 174 → T ≠ 193 → Blk w k arr T → Blk w' k arr T
  oth : KeepsOthers w w'
theorem keeps_below {w w' : World} (h : Below w.heap.size w w') : KeepsOthers w w' := ⟨h.size, fun k o hk _ => (h.block k (Array.getElem?_eq_some_iff.1 hk).1).trans hk⟩
theorem DFr.refl (base : Nat) (w : World) : DFr base w w := ⟨Below.refl _ _, fun _ _ _ _ _ _ h => h, KeepsOthers.refl _⟩
theorem DFr.trans {base : Nat} {a b c : World} (h : DFr base a b) (k : DFr base b c) (hb : base ≤ a.heap.size) : DFr base a c := ⟨⟨k.b.os.trans h.b.os, k.b.tape.trans h.b.tape, k.b.output.trans h.b.output, Nat.le_trans h.b.size k.b.size, fun q hq => (k.b.block q hq).trans (h.b.block q hq)⟩, fun q arr T h1 h2 h3 h4 => k.far q arr T h1 h2 h3 (h.far q arr T h1 h2 h3 h4), h.oth.trans k.oth⟩
theorem DFr.of_below {base : Nat} {w w' : World} (h : Below w.heap.size w w') (hb : base ≤ w.heap.size) : DFr base w w' := ⟨⟨h.os, h.tape, h.output, h.size, fun k hk => h.block k (by omega)⟩, fun _ _ _ _ _ _ hk => hk.below h, keeps_below h⟩
theorem own_at {w : World} {base : Nat} {v : Value} {l : List Wr} (h : OwnAt w base 193 65 Wr.enc v l) {k : Nat} (e : v.ownBlock = some k) : base ≤ k ∧ k < w.heap.size ∧ ∃ cur, Blk w k cur 193 := by
  rcases h with ⟨rfl, _⟩ | ⟨g, cap, cur, rfl, hg, hb, _⟩
  · simp [Value.ownBlock] at e
  · simp [Value.ownBlock] at e
    subst e
    exact ⟨hg, hb.lt, cur, hb⟩
theorem DFr.of_add {base : Nat} {w w' : World} {sb : Nat} {C : Array Value} {v : Value} {l : List Wr} (h : AddFr w w' sb v) (hB : Blk w sb C 174) (hO : OwnAt w base 193 65 Wr.enc v l) (hb : base ≤ sb) : DFr base w w' := by
  have hsb := hB.lt
  refine ⟨⟨h.os, h.tape, h.output, h.size, fun k hk => h.block k (by omega) (by omega) (fun e => ?_)⟩, fun k arr T h1 h2 h3 hk => (h.block k hk.lt (fun e => ?_) (fun e => ?_)).trans hk, h.size, fun k o hk ho => (h.block k (Array.getElem?_eq_some_iff.1 hk).1 (fun e => ?_) (fun e => ?_)).trans hk⟩
  · have := (own_at hO e).1; omega
  · subst e; exact h2 (blk_typeD hk hB)
  · obtain ⟨_, _, cur, hc⟩ := own_at hO e
    exact h3 (blk_typeD hk hc)
  · subst e
    rw [show w.heap[k]? = _ from hB] at hk
    cases hk; cases ho
  · obtain ⟨_, _, cur, hc⟩ := own_at hO e
    rw [show w.heap[k]? = _ from hc] at hk
    cases hk; cases ho
theorem DFr.of_set {base : Nat} {w : World} {db : Nat} {D : Array Value} (hD : Blk w db D 97) (hb : base ≤ db) (o : Nat) (v : Value) : DFr base w (w.setCell ⟨db, o, none⟩ v) :=
  ⟨(Below.refl _ _).setCell (p := ⟨db, o, none⟩) hb v, fun k arr T h1 _ _ hk => hk.other (fun e => h1 (blk_typeD hk (e ▸ hD))) o v, KeepsOthers.setCell _ _ _⟩
theorem set_get (secs : List Sec) (i j : Nat) (s : Sec) (hi : i < secs.length) (hj : j < secs.length) : (secs.set i s)[j]! = if i = j then s else secs[j]! := by
  rw [getElem!_pos (secs.set i s) j (by simpa using hj), List.getElem_set]
  by_cases e : i = j
  · rw [if_pos e, if_pos e]
  · rw [if_neg e, if_neg e, getElem!_pos secs j hj]
/-- The disk behind a write. -/
theorem DiskAt.added {w w' : World} {base db sb : Nat} {secs : List Sec} {bit : Int} {armed : Bool} {left : Int} {down : Bool} {i : Nat} {x : Wr} {v' : Value} (h : DiskAt w base db sb secs bit armed left down) (hi : i < secs.length)
    (hO : OwnAt w' base 193 65 Wr.enc v' (secs[i]!.wr ++ [x])) (hB : Blk w' sb ((secs.flatMap Sec.enc).toArray.setIfInBounds (i * 65 + 64) v') 174) (hF : AddFr w w' sb secs[i]!.v) (hn : ∀ g, v'.ownBlock = some g → secs[i]!.v.ownBlock = some g ∨ w.heap.size ≤ g) :
    DiskAt w' base db sb (secs.set i ⟨secs[i]!.kept, v', secs[i]!.wr ++ [x]⟩) bit armed left down := by
  have hdb : db ≠ sb := fun e => by
    have h1 := h.d
    rw [e] at h1
    exact absurd (blk_typeD h1 h.s) (by decide)
  refine ⟨?_, ?_, ?_, ?_, h.hb⟩
  · rw [List.length_set]
    refine (hF.block db h.d.lt hdb (fun e => ?_)).trans h.d
    obtain ⟨_, _, cur, hc⟩ := own_at (h.own i hi) e
    exact absurd (blk_typeD h.d hc) (by decide)
  · have e : ((secs.flatMap Sec.enc).toArray.setIfInBounds (i * 65 + 64) v') = ((secs.set i ⟨secs[i]!.kept, v', secs[i]!.wr ++ [x]⟩).flatMap Sec.enc).toArray := by
      refine flat_of _ _ (by simp only [Array.size_setIfInBounds, List.size_toArray, List.length_set]; exact flat_len Sec.enc 65 Sec.enc_len secs) (fun j hj r hr => ?_)
      rw [List.length_set] at hj
      rw [set_get secs i j _ hi hj, Array.getElem?_setIfInBounds, List.getElem?_toArray, flat_get Sec.enc 65 Sec.enc_len secs j r hj hr]
      by_cases e : i = j
      · subst e
        rw [if_pos rfl]
        by_cases er : r = 64
        · subst er
          rw [if_pos rfl, if_pos (by simp only [List.size_toArray]; rw [flat_len Sec.enc 65 Sec.enc_len secs]; omega)]
          unfold Sec.enc
          rw [List.getElem?_append_right (by rw [conV_len]; exact Nat.le_refl _), conV_len]
          rfl
        · rw [if_neg (by omega)]
          unfold Sec.enc
          rw [List.getElem?_append_left (by rw [conV_len]; omega), List.getElem?_append_left (by rw [conV_len]; omega)]
      · rw [if_neg e, if_neg (by omega)]
    rw [← e]
    exact hB
  · intro j hj
    rw [List.length_set] at hj
    rw [set_get secs i j _ hi hj]
    by_cases e : i = j
    · rw [if_pos e]; exact hO
    · rw [if_neg e]
      rcases h.own j hj with h1 | ⟨g, cap, cur, hv, hg, hk, r⟩
      · exact Or.inl h1
      · refine Or.inr ⟨g, cap, cur, hv, hg, (hF.block g hk.lt (fun e' => ?_) (fun e' => ?_)).trans hk, r⟩
        · subst e'; exact absurd (blk_typeD hk h.s) (by decide)
        · exact h.ne i j hi hj e g e' (by rw [hv]; rfl)
  · intro a b ha hb hab g hg
    rw [List.length_set] at ha hb
    rw [set_get secs i a _ hi ha] at hg
    rw [set_get secs i b _ hi hb]
    by_cases ea : i = a
    · rw [if_pos ea] at hg
      rw [if_neg (by omega)]
      rcases hn g hg with h1 | h1
      · exact h.ne i b hi hb (by omega) g h1
      · intro h2
        have := (own_at (h.own b hb) h2).2.1
        omega
    · rw [if_neg ea] at hg
      by_cases eb : i = b
      · rw [if_pos eb]
        intro h2
        rcases hn g h2 with h1 | h1
        · exact h.ne i a hi ha ea g h1 hg
        · have := (own_at (h.own a ha) hg).2.1
          omega
      · rw [if_neg eb]
        exact h.ne a b ha hb hab g hg
/-- Its bit is another. -/
theorem DiskAt.setBit {w : World} {base db sb : Nat} {secs : List Sec} {bit : Int} {armed : Bool} {left : Int} {down : Bool} (h : DiskAt w base db sb secs bit armed left down) (b2 : Int) : DiskAt (w.setCell ⟨db, 1, none⟩ (.int .i64 b2)) base db sb secs b2 armed left down := by
  have hdb : db ≠ sb := fun e => by
    have h1 := h.d
    rw [e] at h1
    exact absurd (blk_typeD h1 h.s) (by decide)
  refine ⟨h.d.set 1 _, h.s.other hdb _ _, fun i hi => (h.own i hi).grown (grown_set w db 1 _) (fun g e e' => ?_), h.ne, h.hb⟩
  injection e' with e'
  subst e'
  exact own_neD (h.own i hi) h.d (by decide) e

end Dk
end Go.Proofs.YtaikbojdmfkbhaaGreatDoor

namespace Go.Proofs.YtaikbojdmfkbhaaGreatDoor
open Go.Shelf Go.Lib Go.ChangeShapes Go.WideShapes Go.ChangeAt Go.RowKit
set_option maxRecDepth 100000
set_option linter.unusedSimpArgs false
set_option linter.unusedVariables false

namespace Dk
open Bk
/-- A struct built of one part. -/
theorem wpList_build {P : Program} {ops : Array Oper} {rest : List Oper} {op : Oper} {a : Act} {w : World} {Q : Exit → Act → World → Prop} (hgd : op.guard = none) (t : TypeId) (x : Operand) (ho : op.op = .build t #[(0, x)]) (v v' : Value) (hx : a.eval x = v)
    (hr : (Instr.build t #[(0, v)]).run P w = .ok v' w) (h : wpList P ops Q rest (a.put op.dst v') w) : wpList P ops Q (op :: rest) a w :=
  wpList_plain hgd fun _ hK => by
    unfold Oper.wp
    simp [execOp, ho, hx, hr, Result.andThen]
    exact hK _ _ h
theorem wrB (bit : Int) (w : World) : (Instr.build 193 #[(0, .int .i64 bit)]).run Tryz.prog w = .ok (.agg (Wr.enc ⟨bit, fun _ => 0⟩).toArray) w := by kernel_rfl
theorem wrZ (w : World) : (zeroValue 193).run Tryz.prog w = .ok (.agg (Wr.enc ⟨0, fun _ => 0⟩).toArray) w := by kernel_rfl
/-- What Write answers, and how the disk then lies. -/
def WritePost (base db sb : Nat) (secs : List Sec) (bit left x : Int) (S : ByteArray) (w : World) (e : Ending) (w' : World) : Prop :=
  ((hasN secs.length x && decide (S.size ≤ 64)) = false ∧ e = .returned (errV 1) ∧ w' = w) ∨
  ((hasN secs.length x && decide (S.size ≤ 64)) = true ∧ e = .returned .nilIface ∧ DFr base w w' ∧ ∃ v', DiskAt w' base db sb (secs.set x.toNat ⟨secs[x.toNat]!.kept, v', secs[x.toNat]!.wr ++ [⟨bit, padF S⟩]⟩) (bit + 1) false left false)

set_option maxHeartbeats 800000 in
theorem write_any (base db sb : Nat) (secs : List Sec) (bit left x : Int) (S : ByteArray) (w : World) (h : DiskAt w base db sb secs bit false left false) (hbase : base ≤ w.heap.size) (hb0 : 0 ≤ bit) (hb1 : bit ≤ 62) (hd : ∀ i, i < secs.length → ∀ y ∈ secs[i]!.wr, y.bit ≠ bit) (hl : ∀ i, i < secs.length → secs[i]!.wr.length ≤ 900) (hn : secs.length ≤ 1000) (hS : S.size ≤ maxLen) :
    Calls Tryz.prog 96 #[.pointer (some ⟨db, 0, none⟩), .int .i64 x, .string S] w (WritePost base db sb secs bit left x S w) := by
  unfold maxLen at hS
  have rd := h.d.cell
  have HH : Hid (Calls Tryz.prog 127 #[.pointer (some ⟨db, 0, none⟩), .int .i64 x] w fun e w' => e = .returned (.bool (hasN secs.length x)) ∧ w' = w) := has_any db sb secs.length x w (h.d.cell 0)
  have HST : Hid (Calls Tryz.prog 135 #[.pointer (some ⟨db, 0, none⟩)] w fun e w' => e = .returned .nilIface ∧ w' = w) := step_quiet db w (h.d.cell 2) (h.d.cell 4)
  have HB0 : Hid ((hasN secs.length x && decide (S.size ≤ 64)) = false → WritePost base db sb secs bit left x S w (.returned (.iface 94 (.int .i64 1))) w) := fun e => Or.inl ⟨e, rfl, rfl⟩
  have HG0 : Hid ((hasN secs.length x && decide (S.size ≤ 64)) = true → ∀ v' w', DFr base w w' → DiskAt w' base db sb (secs.set x.toNat ⟨secs[x.toNat]!.kept, v', secs[x.toNat]!.wr ++ [⟨bit, padF S⟩]⟩) (bit + 1) false left false → WritePost base db sb secs bit left x S w (.returned .nilIface) w') := fun e v' w' h1 h2 => Or.inr ⟨e, rfl, h1, v', h2⟩
  generalize WritePost base db sb secs bit left x S w = PP at *
  cases hx : hasN secs.length x
  · have HP : Hid (PP (.returned (.iface 94 (.int .i64 1))) w) := HB0.out (by rw [hx]; rfl)
    rw [hx] at HH
    clear HB0 HG0 h hd hl HST hx
    go_enter Tryz.func96, Tryz.ntmps96
    go_wp2_with fail
    refine HH.out.mono ?_
    rintro e w1 ⟨rfl, rfl⟩
    go_wp2
    exact HP.out
  by_cases hs : 64 < S.size
  · have HP : Hid (PP (.returned (.iface 94 (.int .i64 1))) w) := HB0.out (by rw [decide_eq_false (by omega)]; simp)
    have hsz : (64 : Int) < (S.size : Int) := by omega
    rw [hx] at HH
    clear HB0 HG0 h hd hl HST hx
    go_enter Tryz.func96, Tryz.ntmps96
    go_wp2_with fail
    refine HH.out.mono ?_
    rintro e w1 ⟨rfl, rfl⟩
    go_wp2
    exact HP.out
  · have hsz : ¬ (64 : Int) < (S.size : Int) := by omega
    obtain ⟨i, rfl⟩ : ∃ i : Nat, x = (i : Int) := ⟨x.toNat, by simp [hasN] at hx; omega⟩
    have hi : i < secs.length := by simp [hasN] at hx; omega
    have hiz : (i : Int) < (secs.length : Int) := by omega
    have HP : Hid (∀ v' w', DFr base w w' → DiskAt w' base db sb (secs.set i ⟨secs[i]!.kept, v', secs[i]!.wr ++ [⟨bit, padF S⟩]⟩) (bit + 1) false left false → PP (.returned .nilIface) w') := HG0.out (by rw [hx, decide_eq_true (by omega)]; rfl)
    rw [hx] at HH
    clear HB0 HG0 hx
    -- the write, as it is laid
    obtain ⟨Y, hY⟩ : ∃ Y, Wr.enc ⟨bit, fun _ => 0⟩ = Y := ⟨_, rfl⟩
    obtain ⟨Y2, hY2⟩ : ∃ Y, Wr.enc ⟨bit, padF S⟩ = Y := ⟨_, rfl⟩
    obtain ⟨Z, hZ⟩ : ∃ Y, (Wr.enc ⟨0, fun _ => 0⟩).toArray = Y := ⟨_, rfl⟩
    have hbd : ∀ w, (Instr.build 193 #[(0, .int .i64 bit)]).run Tryz.prog w = .ok (.agg Y.toArray) w := fun w => by rw [← hY]; exact wrB bit w
    have hZv : ∀ w, (zeroValue 193).run Tryz.prog w = .ok (.agg Z) w := fun w => by rw [← hZ]; exact wrZ w
    have hZs : Z.size = 65 := by rw [← hZ]; simp [Wr.enc_len]
    have hYs : Y.toArray.size = 65 := by rw [← hY]; simp [Wr.enc_len]
    have hwi : (Tryz.prog.info? 193).map (·.size) = some 65 := by kernel_rfl
    have hYi : (Tryz.prog.info? 193).map (·.size) = some Y.toArray.size := by rw [hYs]; exact hwi
    have hY2i : (Tryz.prog.info? 193).map (·.size) = some Y2.length := by rw [← hY2, Wr.enc_len]; exact hwi
    have hY1 : Y.toArray.all (·.oneCell') = true := by rw [← hY]; exact all_oneCell_toArray (Wr.enc_one _)
    obtain ⟨w1, hw1⟩ : ∃ w1, w.alloc (.cells Z 193) = w1 := ⟨_, rfl⟩
    have X1 : Hid (Below w.heap.size w w1 ∧ Blk w1 w.heap.size Z 193) := by
      show _ ∧ _
      rw [← hw1]
      exact ⟨B.new1 _ _, Blk.new _ _ _⟩
    obtain ⟨w2, hw2⟩ : ∃ w2, w1.setCells w.heap.size 0 Y.toArray.toList = w2 := ⟨_, rfl⟩
    have X2 : Hid (Below w.heap.size w w2 ∧ Blk w2 w.heap.size Y.toArray 193) := by
      show _ ∧ _
      rw [← hw2]
      exact ⟨below_cells (Nat.le_refl _) _ 0 X1.out.1, blk_all X1.out.2 (by rw [hZs, ← hYs]; simp)⟩
    have HT : Hid (w1.there w.heap.size 0 Y.toArray.size) := blk_there X1.out.2 0 _ (by rw [hZs, hYs]; exact Nat.le_refl _)
    have hW2 : Hid (w1.setCells w.heap.size 0 Y.toArray.toList = w2) := hw2
    have hB2 := X2.out.2
    rw [← hY] at hB2
    obtain ⟨w3, hcp, hB3, hg3⟩ := run_copy_text w2 w.heap.size bit S (by omega) hB2 3
    rw [hY2] at hB3
    have X3 : Hid (Below w.heap.size w w3 ∧ Blk w3 w.heap.size Y2.toArray 193 ∧ DiskAt w3 base db sb secs bit false left false) := by
      have b3 := below_of_grown X2.out.1 hg3 (Nat.le_refl _) X2.out.1.size
      exact ⟨b3, hB3, h.below b3⟩
    clear hw2 hB2 hB3 hg3
    go_enter Tryz.func96, Tryz.ntmps96
    go_wp2_with fail
    refine HH.out.mono ?_
    rintro e w9 ⟨rfl, rfl⟩
    go_wp2_with fail
    refine HST.out.mono ?_
    rintro e w10 ⟨rfl, rfl⟩
    clear HH HST
    go_upto_region 7 with (first | (refine wpList_build rfl 193 _ rfl (.int .i64 bit) (.agg Y.toArray) rfl (hbd _) ?_) | (refine wpList_store_as rfl 193 _ _ rfl w10.heap.size 0 Y.toArray rfl rfl HT.out hYi hY1 w2 hW2.out ?_))
    clear hW2 HT X1 hbd hZv hZs hYs hYi hY1 hZ hY hw1
    go_upto_region 8 with fail
    clear hcp X2
    have HDK : Hid (DiskAt w3 base db sb secs bit false left false) := X3.out.2.2
    have D0 : Hid (Below w3.heap.size w3 w3.drew) := (Below.refl _ _).drew
    have HS : Hid (∀ W, Below w3.heap.size w3 W → W.cell? ⟨db, 0, none⟩ = some (.slice (some ⟨sb, 0, none⟩) secs.length secs.length) ∧ W.rangeAt w10.heap.size 0 Y2) := fun W hb => ⟨(HDK.out.d.below hb).cell 0, blk_range (X3.out.2.1.below hb)⟩
    have HSD : Hid ((fun W : World => W.cell? ⟨db, 0, none⟩ = some (.slice (some ⟨sb, 0, none⟩) secs.length secs.length) ∧ W.rangeAt w10.heap.size 0 Y2) w3.drew) := HS.out _ D0.out
    have HAD : Hid (Calls Tryz.prog 136 #[.pointer (some ⟨sb, i * 65, none⟩), .agg Y2.toArray] w3.drew fun e w' => e = .returned (.tuple #[]) ∧ ∃ v', OwnAt w' base 193 65 Wr.enc v' (secs[i]!.wr ++ [⟨bit, padF S⟩]) ∧ Blk w' sb ((secs.flatMap Sec.enc).toArray.setIfInBounds (i * 65 + 64) v') 174 ∧ AddFr w3.drew w' sb secs[i]!.v ∧ (∀ g, v'.ownBlock = some g → secs[i]!.v.ownBlock = some g ∨ w3.drew.heap.size ≤ g)) := by
      rw [← hY2]
      exact add_any base sb (i * 65) secs[i]! ⟨bit, padF S⟩ _ w3.drew ((HDK.out.below D0.out).sec hi) (HDK.out.s.below D0.out) (Nat.le_trans hbase (Nat.le_trans X3.out.1.size D0.out.size)) (hd i hi) (hl i hi)
    have HNB : Hid (w10.heap.size ≠ sb ∧ secs[i]!.v.ownBlock ≠ some w10.heap.size) := ⟨by have := h.s.lt; omega, fun e => by have := (own_at (h.own i hi) e).2.1; omega⟩
    clear hd hl h
    refine wp_region_held (S := fun W => W.cell? ⟨db, 0, none⟩ = some (.slice (some ⟨sb, 0, none⟩) secs.length secs.length) ∧ W.rangeAt w10.heap.size 0 Y2) (by kernel_rfl) ?_
    refine wpAnyH_take (fuel := 7) (i := 0) (v := .pointer (some ⟨db, 0, none⟩)) rfl (by kernel_rfl) (by kernel_rfl) (by kernel_rfl) (fun _ _ _ h => h) (Or.inl ⟨by rfl, ?_⟩) HSD.out ?_
    · intro W hSw
      (try dsimp only at hSw)
      obtain ⟨y0, y1⟩ := hSw
      clear y1
      go_simp
      try rfl
    (try simp only [Act.put, List.setIfInBounds_toArray, List.set_cons_zero, List.set_cons_succ, List.getElem_toArray, List.getElem_cons_zero, List.getElem_cons_succ])
    refine wpAnyH_take (fuel := 6) (i := 1) (v := .pointer (some ⟨db, 0, none⟩)) rfl (by kernel_rfl) (by kernel_rfl) (by kernel_rfl) (fun _ _ _ h => h) (Or.inl ⟨by rfl, ?_⟩) HSD.out ?_
    · intro W hSw
      (try dsimp only at hSw)
      obtain ⟨y0, y1⟩ := hSw
      clear y1
      go_simp
      try rfl
    (try simp only [Act.put, List.setIfInBounds_toArray, List.set_cons_zero, List.set_cons_succ, List.getElem_toArray, List.getElem_cons_zero, List.getElem_cons_succ])
    refine wpAnyH_take (fuel := 5) (i := 2) (v := .pointer (some ⟨db, 0, none⟩)) rfl (by kernel_rfl) (by kernel_rfl) (by kernel_rfl) (fun _ _ _ h => h) (Or.inl ⟨by rfl, ?_⟩) HSD.out ?_
    · intro W hSw
      (try dsimp only at hSw)
      obtain ⟨y0, y1⟩ := hSw
      clear y1
      go_simp
      try rfl
    (try simp only [Act.put, List.setIfInBounds_toArray, List.set_cons_zero, List.set_cons_succ, List.getElem_toArray, List.getElem_cons_zero, List.getElem_cons_succ])
    refine wpAnyH_take (fuel := 4) (i := 3) (v := .slice (some ⟨sb, 0, none⟩) secs.length secs.length) rfl (by kernel_rfl) (by kernel_rfl) (by kernel_rfl) (fun _ _ _ h => h) (Or.inl ⟨by rfl, ?_⟩) HSD.out ?_
    · intro W hSw
      (try dsimp only at hSw)
      obtain ⟨y0, y1⟩ := hSw
      clear y1
      go_simp
      try rfl
    (try simp only [Act.put, List.setIfInBounds_toArray, List.set_cons_zero, List.set_cons_succ, List.getElem_toArray, List.getElem_cons_zero, List.getElem_cons_succ])
    refine wpAnyH_take (fuel := 3) (i := 4) (v := .int .i64 i) rfl (by kernel_rfl) (by kernel_rfl) (by kernel_rfl) (fun _ _ _ h => h) (Or.inl ⟨by rfl, ?_⟩) HSD.out ?_
    · intro W hSw
      (try dsimp only at hSw)
      obtain ⟨y0, y1⟩ := hSw
      clear y1
      go_simp
      try rfl
    (try simp only [Act.put, List.setIfInBounds_toArray, List.set_cons_zero, List.set_cons_succ, List.getElem_toArray, List.getElem_cons_zero, List.getElem_cons_succ])
    refine wpAnyH_take (fuel := 2) (i := 5) (v := .pointer (some ⟨sb, i * 65, none⟩)) rfl (by kernel_rfl) (by kernel_rfl) (by kernel_rfl) (fun _ _ _ h => h) (Or.inl ⟨by rfl, ?_⟩) HSD.out ?_
    · intro W hSw
      (try dsimp only at hSw)
      obtain ⟨y0, y1⟩ := hSw
      clear y1
      go_simp
      try rfl
    (try simp only [Act.put, List.setIfInBounds_toArray, List.set_cons_zero, List.set_cons_succ, List.getElem_toArray, List.getElem_cons_zero, List.getElem_cons_succ])
    refine wpAnyH_take (fuel := 1) (i := 6) (v := .agg Y2.toArray) rfl (by kernel_rfl) (by kernel_rfl) (by kernel_rfl) (fun _ _ _ h => h) (yieldsIf_load_mid (by rfl) 193 _ rfl w10.heap.size 0 rfl Y2 _ (fun W h => h.2) wrU rfl hY2i) HSD.out ?_
    (try simp only [Act.put, List.setIfInBounds_toArray, List.set_cons_zero, List.set_cons_succ, List.getElem_toArray, List.getElem_cons_zero, List.getElem_cons_succ])
    refine wpAnyH_ready (fuel := 0) (rs := [7]) (by kernel_rfl) (by simp) ?_
    refine AllReadyH.cons rfl (fun K hK => ?_) AllReadyH.nil
    go_simp
    refine HAD.out.mono ?_
    rintro e w4 ⟨rfl, v', hO, hB, hF, hnn⟩
    have X4 : Hid (DFr base w10 w4 ∧ DiskAt w4 base db sb (secs.set i ⟨secs[i]!.kept, v', secs[i]!.wr ++ [⟨bit, padF S⟩]⟩) bit false left false) := by
      have hk := HDK.out.below D0.out
      exact ⟨(DFr.of_below (B.next X3.out.1 D0.out X3.out.1.size) hbase).trans (DFr.of_add hF hk.s (hk.own i hi) hk.hb.2) hbase, hk.added hi hO hB hF hnn⟩
    have HS4 : Hid ((fun W : World => W.cell? ⟨db, 0, none⟩ = some (.slice (some ⟨sb, 0, none⟩) secs.length secs.length) ∧ W.rangeAt w10.heap.size 0 Y2) w4) := by
      have hc := X4.out.2.d.cell 0
      rw [List.length_set] at hc
      have hbk := X3.out.2.1.below D0.out
      exact ⟨hc, blk_range ((hF.block _ hbk.lt HNB.out.1 HNB.out.2).trans hbk)⟩
    clear hO hB hF hnn HAD
    simp only []
    refine hK.out _ _ HS4.out (fun _ => ?_)
    clear hK K
    refine wpAnyH_done (by kernel_rfl) ?_ _
    (try simp only [Act.put])
    have r4 := X4.out.2.d.cell
    have f4 := X4.out.2.d.free
    go_wp2
    have hbm : (bit + 1) % 64 = bit + 1 := by omega
    rw [hbm]
    exact HP.out v' _ (X4.out.1.trans (DFr.of_set X4.out.2.d X4.out.2.hb.1 1 _) hbase) (X4.out.2.setBit (bit + 1))

end Dk
end Go.Proofs.YtaikbojdmfkbhaaGreatDoor

namespace Go.Proofs.YtaikbojdmfkbhaaGreatDoor
open Go.Shelf Go.Lib Go.ChangeShapes Go.WideShapes Go.ChangeAt Go.RowKit
set_option maxRecDepth 100000
set_option linter.unusedSimpArgs false
set_option linter.unusedVariables false

namespace Dk
open Bk
theorem own_rows {w w' : World} {base sb : Nat} {C : Array Value} {a : Option Addr} {cap : Nat} {l : List Wr} (h : OwnAt w base 193 65 Wr.enc (.slice a l.length cap) l) (hB : Blk w sb C 174) (hg : w.grownBy w' (some sb)) : RowsAt w' a cap 65 Wr.enc l := by
  have h2 : OwnAt w' base 193 65 Wr.enc (.slice a l.length cap) l := h.grown hg (fun g e e' => by
    injection e' with e'
    subst e'
    exact own_neD h hB (by decide) e)
  obtain ⟨a', cap', e, r⟩ := h2.rows
  cases e
  exact r

/-- Is the write of that bit kept? -/
def keepB (K n : Int) : Bool := bits BinOp.and IntKind.u64 (K / 2 ^ n.toNat) 1 == 1
/-- What settling leaves of a sector. -/
def settleC (K : Int) (c : Nat → Int) (l : List Wr) : Nat → Int := l.foldl (fun c y => if keepB K y.bit = true then y.dat else c) c
theorem settleC_succ (K : Int) (c : Nat → Int) (l : List Wr) (k : Nat) (hk : k < l.length) : settleC K c (l.take (k + 1)) = if keepB K l[k]!.bit = true then l[k]!.dat else settleC K c (l.take k) := by
  unfold settleC
  rw [List.take_succ_eq_append_getElem hk, List.foldl_append, getElem!_pos l k hk]
  rfl
theorem settleC_more (K : Int) (c : Nat → Int) (l : List Wr) (y : Wr) : settleC K c (l ++ [y]) = if keepB K y.bit = true then y.dat else settleC K c l := by
  unfold settleC
  rw [List.foldl_append]
  rfl
theorem setRow_same (C : Array Value) (o : Nat) (l : List Value) (hs : o + l.length ≤ C.size) (h : ∀ j v, l[j]? = some v → C[o + j]? = some v) : setRow C o l = C := by
  apply Array.ext_getElem?
  intro q
  by_cases h1 : q < o ∨ o + l.length ≤ q
  · rw [setRow_out _ _ _ _ h1]
  · obtain ⟨c, rfl⟩ : ∃ c, q = o + c := ⟨q - o, by omega⟩
    have hc : c < l.length := by omega
    rw [setRow_in _ _ _ _ hc hs, h c l[c] (List.getElem?_eq_getElem hc), List.getElem?_eq_getElem hc]
theorem setRow_twice (C : Array Value) (o : Nat) (l1 l2 : List Value) (hl : l1.length = l2.length) (hs : o + l2.length ≤ C.size) : setRow (setRow C o l1) o l2 = setRow C o l2 := by
  apply Array.ext_getElem?
  intro q
  by_cases h1 : q < o ∨ o + l2.length ≤ q
  · rw [setRow_out _ _ _ _ h1, setRow_out _ _ _ _ h1, setRow_out _ _ _ _ (by rw [hl]; exact h1)]
  · obtain ⟨c, rfl⟩ : ∃ c, q = o + c := ⟨q - o, by omega⟩
    have hc : c < l2.length := by omega
    rw [setRow_in _ _ _ _ hc (by rw [Bk.setRow_size]; exact hs), setRow_in _ _ _ _ hc hs]

set_option maxHeartbeats 4000000 in
theorem secSettle_any (base sb o : Nat) (s : Sec) (K : Int) (C : Array Value) (w : World) (h : SecAt w base sb o s) (hB : Blk w sb C 174) (hl : s.wr.length ≤ 1000) (hbit : ∀ y ∈ s.wr, 0 ≤ y.bit ∧ y.bit < 64) (hoC : o + 65 ≤ C.size) :
    Calls Tryz.prog 108 #[.pointer (some ⟨sb, o, none⟩), .int .u64 K] w fun e w' => e = .returned (.tuple #[]) ∧ Blk w' sb ((setRow C o (conV (settleC K s.kept s.wr))).setIfInBounds (o + 64) (.slice none 0 0)) 174 ∧ w.grownBy w' (some sb) := by
  obtain ⟨a, cap, hv, hr⟩ := h.own.rows
  have hm := hr.2.1; have hlc := hr.1
  unfold maxLen at hm
  have c64 : w.cell? ⟨sb, o + 64, none⟩ = some (.slice a s.wr.length cap) := by rw [← hv]; exact h.slice
  have HB : Hid (Blk w sb C 174) := hB
  have HO : Hid (OwnAt w base 193 65 Wr.enc (.slice a s.wr.length cap) s.wr) := by show OwnAt _ _ _ _ _ _ _; rw [← hv]; exact h.own
  obtain ⟨Z, hZ⟩ : ∃ Y, (Wr.enc ⟨0, fun _ => 0⟩).toArray = Y := ⟨_, rfl⟩
  have hZv : ∀ w, (zeroValue 193).run Tryz.prog w = .ok (.agg Z) w := fun w => by rw [← hZ]; exact wrZ w
  have hZs : Hid (Z.size = 65) := by show _ = _; rw [← hZ]; simp [Wr.enc_len]
  have hwi : Hid ((Tryz.prog.info? 193).map (·.size) = some 65) := by show _ = _; kernel_rfl
  have HC0 : Hid (setRow C o (conV s.kept) = C) := setRow_same C o _ (by rw [conV_len]; omega) (fun j v hj => by
    have := h.kept j v hj
    rwa [hB.cell] at this)
  have HC64 : Hid (C[o + 64]? = some (.slice a s.wr.length cap)) := by show _ = _; rw [← hB.cell]; exact c64
  generalize hPP : (fun (e : Ending) (w' : World) => e = .returned (.tuple #[]) ∧ Blk w' sb ((setRow C o (conV (settleC K s.kept s.wr))).setIfInBounds (o + 64) (.slice none 0 0)) 174 ∧ w.grownBy w' (some sb)) = PP
  have HP : Hid (∀ w', Blk w' sb ((setRow C o (conV (settleC K s.kept s.wr))).setIfInBounds (o + 64) (.slice none 0 0)) 174 → w.grownBy w' (some sb) → PP (.returned (.tuple #[])) w') := fun w' h1 h2 => by rw [← hPP]; exact ⟨rfl, h1, h2⟩
  clear hPP h hv hr hB hZ
  go_enter Tryz.func108, Tryz.ntmps108
  go_wp2_with fail
  clear c64
  go_loopg [11] s.wr.length (fun gg s11 wr => ∃ k : Nat, k ≤ s.wr.length ∧ s.wr.length - k ≤ gg ∧ s11 = .int .i64 k ∧ Hid (w.grownBy wr (some sb) ∧ Blk wr sb (setRow C o (conV (settleC K s.kept (s.wr.take k)))) 174))
  case atStart => exact ⟨0, Nat.zero_le _, by omega, rfl, grown_refl _ _, by show Blk w sb (setRow C o (conV s.kept)) _; rw [HC0.out]; exact HB.out⟩
  case round =>
    obtain ⟨k, hk, hg, rfl, M⟩ := hrel
    by_cases hlt : k < s.wr.length
    · have hltz : (k : Int) < (s.wr.length : Int) := by omega
      obtain ⟨g, off, rfl, hgl, hcell⟩ := (own_rows HO.out HB.out M.out.1).2.2 (by omega)
      have hyb := hbit s.wr[k]! (by rw [getElem!_pos s.wr k hlt]; exact List.getElem_mem hlt)
      have HL : Hid (wr.rangeAt g (off + k * 65) (Wr.enc s.wr[k]!)) := fun j v hj => hcell k hlt j v hj
      clear hcell
      have HSU : Hid (settleC K s.kept (s.wr.take (k + 1)) = if keepB K s.wr[k]!.bit = true then s.wr[k]!.dat else settleC K s.kept (s.wr.take k)) := settleC_succ K s.kept s.wr k hlt
      generalize s.wr[k]! = y at *
      obtain ⟨Y, hY⟩ : ∃ Y, Wr.enc y = Y := ⟨_, rfl⟩
      rw [hY] at HL
      have hYs : Hid (Y.length = 65) := by show _ = _; rw [← hY]; exact Wr.enc_len _
      have hYi : (Tryz.prog.info? 193).map (·.size) = some Y.length := by rw [hYs.out]; exact hwi.out
      have hYj : (Tryz.prog.info? 193).map (·.size) = some Y.toArray.size := by simp only [List.size_toArray]; exact hYi
      have hY1 : Y.toArray.all (·.oneCell') = true := by rw [← hY]; exact all_oneCell_toArray (Wr.enc_one _)
      obtain ⟨w1, hw1⟩ : ∃ w1, wr.alloc (.cells Z 193) = w1 := ⟨_, rfl⟩
      have X1 : Hid (Below wr.heap.size wr w1 ∧ Blk w1 wr.heap.size Z 193) := by
        show _ ∧ _
        rw [← hw1]
        exact ⟨B.new1 _ _, Blk.new _ _ _⟩
      obtain ⟨w2, hw2⟩ : ∃ w2, w1.setCells wr.heap.size 0 Y.toArray.toList = w2 := ⟨_, rfl⟩
      have X2 : Hid (Below wr.heap.size wr w2 ∧ Blk w2 wr.heap.size Y.toArray 193) := by
        show _ ∧ _
        rw [← hw2]
        exact ⟨below_cells (Nat.le_refl _) _ 0 X1.out.1, blk_all X1.out.2 (by rw [hZs.out]; simp [hYs.out])⟩
      have HT : Hid (w1.there wr.heap.size 0 Y.toArray.size) := blk_there X1.out.2 0 _ (by rw [hZs.out]; simp [hYs.out])
      have hW2 : Hid (w1.setCells wr.heap.size 0 Y.toArray.toList = w2) := hw2
      have c0 : w2.cell? ⟨wr.heap.size, 0, none⟩ = some (.int .i64 y.bit) := by rw [X2.out.2.cell, ← hY]; rfl
      obtain ⟨yb, hyv⟩ : ∃ yb, y.bit = yb := ⟨_, rfl⟩
      rw [hyv] at c0 hyb
      have hy0 := hyb.1
      have hy1 := hyb.2
      have HR1 : Hid (w2.rangeAt wr.heap.size 1 (conV y.dat)) := fun j v hj => by
        rw [X2.out.2.cell, ← hY]
        show (Value.int .i64 y.bit :: conV y.dat).toArray[1 + j]? = some v
        rw [List.getElem?_toArray, Nat.add_comm 1 j]
        simpa using hj
      have HM2 : Hid (Below wr.heap.size wr w2) := X2.out.1
      rw [hyv] at HSU
      have KB : Hid (keepB K yb = (bits BinOp.and IntKind.u64 (K / 2 ^ yb.toNat) 1 == 1)) := rfl
      obtain ⟨L, hL⟩ : ∃ L, conV y.dat = L := ⟨_, rfl⟩
      have hLs : Hid (L.length = 64) := by show _ = _; rw [← hL]; exact conV_len _
      have hLi : (Tryz.prog.info? 171).map (·.size) = some L.length := by rw [hLs.out]; exact conI
      have hLj : (Tryz.prog.info? 171).map (·.size) = some L.toArray.size := by simp only [List.size_toArray]; exact hLi
      have hL1 : L.toArray.all (·.oneCell') = true := by rw [← hL]; exact all_oneCell_toArray (conV_one _)
      rw [hL] at HR1
      have HB2 : Hid (Blk w2 sb (setRow C o (conV (settleC K s.kept (s.wr.take k)))) 174) := M.out.2.below HM2.out
      obtain ⟨w3, hw3⟩ : ∃ w3, w2.setCells sb o L.toArray.toList = w3 := ⟨_, rfl⟩
      have HT3 : Hid (w2.there sb o L.toArray.size) := blk_there HB2.out o _ (by rw [Bk.setRow_size]; simp only [List.size_toArray, hLs.out]; omega)
      have hW3 : Hid (w2.setCells sb o L.toArray.toList = w3) := hw3
      have HN3 : Hid (w.grownBy w3 (some sb) ∧ Blk w3 sb (setRow C o L) 174) := by
        show _ ∧ _
        rw [← hw3]
        refine ⟨grown_trans (grown_trans M.out.1 (grown_of_below HM2.out)) (grown_setCells sb _ _ _), ?_⟩
        have := blk_setCells L.toArray.toList _ o HB2.out
        rw [setRow_twice C o _ _ (by simp [conV_len, hLs.out]) (by simp [hLs.out]; omega)] at this
        exact this
      have HN2 : Hid (w.grownBy w2 (some sb)) := grown_trans M.out.1 (grown_of_below HM2.out)
      clear hw2 hY hyv hyb hw3
      go_upto_region 3 with (first | (refine wpList_load_mid rfl 193 _ rfl g (off + k * 65) rfl Y _ HL.out wrU rfl hYi ?_) | (refine wpList_store_as rfl 193 _ _ rfl wr.heap.size 0 Y.toArray rfl rfl HT.out hYj hY1 w2 hW2.out ?_))
      cases hq : (bits BinOp.and IntKind.u64 (K / 2 ^ yb.toNat) 1 == 1)
      · have HF : Hid (Blk w2 sb (setRow C o (conV (settleC K s.kept (s.wr.take (k + 1))))) 174) := by
          show Blk _ _ _ _
          rw [HSU.out, if_neg (by rw [KB.out, hq]; decide)]
          exact HB2.out
        clear HSU KB HB2 HN3 HT3 hW3 HR1
        go_wp2_with fail
        go_roundg (s.wr.length - (k + 1))
        case measure => omega
        case rel => exact ⟨k + 1, by omega, by omega, by go_num, HN2.out, HF.out⟩
      · have HF : Hid (Blk w3 sb (setRow C o (conV (settleC K s.kept (s.wr.take (k + 1))))) 174) := by
          show Blk _ _ _ _
          rw [HSU.out, if_pos (by rw [KB.out, hq]), hL]
          exact HN3.out.2
        have HG3 : Hid (w.grownBy w3 (some sb)) := HN3.out.1
        clear HSU KB HB2 HN3 hL
        go_wp2_with (first | (refine wpList_load_mid rfl 171 _ rfl wr.heap.size 1 rfl L _ HR1.out conU rfl hLi ?_) | (refine wpList_store_as rfl 171 _ _ rfl sb o L.toArray rfl rfl HT3.out hLj hL1 w3 hW3.out ?_))
        go_roundg (s.wr.length - (k + 1))
        case measure => omega
        case rel => exact ⟨k + 1, by omega, by omega, by go_num, HG3.out, HF.out⟩
    · have hltz : ¬ (k : Int) < (s.wr.length : Int) := by omega
      have hke : k = s.wr.length := by omega
      subst hke
      have hM := M.out.2
      rw [List.take_length] at hM
      have r6 : wr.cell? ⟨sb, o + 64, none⟩ = some (.slice a s.wr.length cap) := by
        rw [hM.cell, setRow_out _ _ _ _ (Or.inr (by rw [conV_len]; exact Nat.le_refl _))]
        exact HC64.out
      have f6 := hM.free
      have HFN : Hid (PP (.returned (.tuple #[])) (wr.setCell ⟨sb, o + 64, none⟩ (.slice none 0 0))) := HP.out _ (hM.set _ _) (grown_trans M.out.1 (grown_set wr sb (o + 64) _))
      clear hM HP
      go_wp2
      go_returns
      exact HFN.out

end Dk
end Go.Proofs.YtaikbojdmfkbhaaGreatDoor
