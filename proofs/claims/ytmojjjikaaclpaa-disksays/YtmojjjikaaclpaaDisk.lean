/- Chapter 6: the disk: how it lies in memory; contracts for the laws of stage 3. -/
import Derived.Test.YtmojjjikaaclpaaDel
import Derived.Deep.MidRow
import Derived.Deep.WholeRow
import Derived.Laws.BytesString
import Derived.Laws.CopyRow
namespace Go.Proofs.Ytmojjjikaaclpaa
open Go.Shelf Go.Lib Go.ChangeShapes Go.WideShapes Go.ChangeAt Go.RowKit
set_option maxRecDepth 100000
set_option linter.unusedSimpArgs false
set_option linter.unusedVariables false

namespace Dk
open Bk
/-- The cells of a sector's content. -/
def conV (c : Nat → Int) : List Value := (List.range 64).map fun i => .int .u8 (c i)
theorem conV_len (c : Nat → Int) : (conV c).length = 64 := by simp [conV]
theorem conV_one (c : Nat → Int) : ∀ v ∈ conV c, v.oneCell' = true := by
  intro v hv
  unfold conV at hv
  obtain ⟨i, _, rfl⟩ := List.mem_map.1 hv
  rfl
/-- A write that isn't kept. -/
structure Wr where
  bit : Int
  dat : Nat → Int
instance : Inhabited Wr := ⟨⟨0, fun _ => 0⟩⟩
def Wr.enc (x : Wr) : List Value := .int .i64 x.bit :: conV x.dat
theorem Wr.enc_len (x : Wr) : (Wr.enc x).length = 65 := by simp [Wr.enc, conV_len]
/-- A sector. -/
structure Sec where
  kept : Nat → Int
  v : Value
  wr : List Wr
instance : Inhabited Sec := ⟨⟨fun _ => 0, .slice none 0 0, []⟩⟩
def Sec.enc (s : Sec) : List Value := conV s.kept ++ [s.v]
theorem Sec.enc_len (s : Sec) : (Sec.enc s).length = 65 := by simp [Sec.enc, conV_len]
/-- What a sector reads. -/
def Sec.now (s : Sec) : Nat → Int := match s.wr.getLast? with | some x => x.dat | none => s.kept
/-- A sector lies at an offset. -/
structure SecAt (w : World) (base sb o : Nat) (s : Sec) : Prop where
  r : w.rangeAt sb o (Sec.enc s)
  own : OwnAt w base 70 65 Wr.enc s.v s.wr
theorem SecAt.kept {w : World} {base sb o : Nat} {s : Sec} (h : SecAt w base sb o s) : w.rangeAt sb o (conV s.kept) := fun j v hv => h.r j v (by
  unfold Sec.enc
  rw [List.getElem?_append_left (List.getElem?_eq_some_iff.1 hv).1]
  exact hv)
theorem SecAt.slice {w : World} {base sb o : Nat} {s : Sec} (h : SecAt w base sb o s) : w.cell? ⟨sb, o + 64, none⟩ = some s.v := h.r 64 s.v (by
  unfold Sec.enc
  rw [List.getElem?_append_right (by rw [conV_len]; exact Nat.le_refl _), conV_len]
  rfl)
theorem rangeAt.below {w w' : World} {b o : Nat} {cs : List Value} (h : w.rangeAt b o cs) (hb : Below w.heap.size w w') : w'.rangeAt b o cs := fun j v hv => by
  have h1 := h j v hv
  exact (hb.cell (World.block_lt_of_cell? w _ h1)).trans h1
theorem SecAt.below {w w' : World} {base sb o : Nat} {s : Sec} (h : SecAt w base sb o s) (hb : Below w.heap.size w w') : SecAt w' base sb o s := ⟨rangeAt.below h.r hb, h.own.below hb⟩
theorem conU : Try.prog.underlying 68 = some (.array 64 5) := by kernel_rfl
theorem conZ (w : World) : (zeroValue 68).run Try.prog w = .ok (.agg (conV fun _ => 0).toArray) w := by kernel_rfl
theorem conI : (Try.prog.info? 68).map (·.size) = some 64 := by kernel_rfl
/-! ### whole rows -/
theorem setRow_all (cur : Array Value) (l : List Value) (h : cur.size = l.length) : setRow cur 0 l = l.toArray := by
  apply Array.ext_getElem?
  intro j
  by_cases hj : j < l.length
  · have := setRow_in l cur 0 j hj (by omega)
    rw [Nat.zero_add] at this
    rw [this]
    simp
  · rw [Array.getElem?_eq_none (by rw [Bk.setRow_size]; omega), Array.getElem?_eq_none (by simp; omega)]
theorem blk_all {w : World} {g : Nat} {cur : Array Value} {T : TypeId} {l : List Value} (h : Blk w g cur T) (hs : cur.size = l.length) : Blk (w.setCells g 0 l) g l.toArray T := by
  have := blk_setCells l cur 0 h
  rwa [setRow_all cur l hs] at this
theorem blk_far {b c : Nat} {T : TypeId} {arr : Array Value} (hc : c ≠ b) (vs : List Value) : ∀ {w : World} (o : Nat), Blk w b arr T → Blk (w.setCells c o vs) b arr T := by
  induction vs with
  | nil => intro w o h; exact h
  | cons v vs ih => intro w o h; exact ih (o + 1) (h.other hc o v)
theorem below_cells {w0 : World} {N b : Nat} (hv : N ≤ b) (vs : List Value) : ∀ {w : World} (o : Nat), Below N w0 w → Below N w0 (w.setCells b o vs) := by
  induction vs with
  | nil => intro w o h; exact h
  | cons v vs ih => intro w o h; exact ih (o + 1) (h.setCell (p := ⟨b, o, none⟩) hv v)
theorem blk_there {w : World} {b : Nat} {arr : Array Value} {T : TypeId} (h : Blk w b arr T) (o n : Nat) (hn : o + n ≤ arr.size) : w.there b o n := fun j hj => by
  rw [h.cell]
  exact ⟨by rw [Array.getElem?_eq_getElem (by omega)]; rfl, h.free _⟩
theorem blk_range {w : World} {b : Nat} {cs : List Value} {T : TypeId} (h : Blk w b cs.toArray T) : w.rangeAt b 0 cs := fun j v hv => by
  rw [h.cell, Nat.zero_add]
  simpa using hv
/-- A store of a whole row, its world named. -/
theorem wpList_store_as {P : Program} {ops : Array Oper} {rest : List Oper} {op : Oper} {a : Act} {w : World} {Q : Exit → Act → World → Prop} (hgd : op.guard = none) (ty : TypeId) (x y : Operand) (ho : op.op = .store ty x y)
    (b o : Nat) (cells : Array Value) (hx : a.eval x = .pointer (some ⟨b, o, none⟩)) (hy : a.eval y = .agg cells)
    (ht : w.there b o cells.size) (hi : (P.info? ty).map (·.size) = some cells.size) (h1 : cells.all (·.oneCell') = true) (w2 : World) (e : w.setCells b o cells.toList = w2)
    (h : wpList P ops Q rest (a.put op.dst undef) w2) : wpList P ops Q (op :: rest) a w :=
  wpList_store_mid hgd ty x y ho b o cells hx hy ht hi h1 (e ▸ h)

set_option maxHeartbeats 4000000 in
theorem now_any (base sb o : Nat) (s : Sec) (w : World) (h : SecAt w base sb o s) (hl : s.wr.length ≤ 1000) :
    Calls Try.prog 25 #[.pointer (some ⟨sb, o, none⟩)] w fun e w' => e = .returned (.agg (conV s.now).toArray) ∧ Below w.heap.size w w' := by
  obtain ⟨a, cap, hv, hr⟩ := h.own.rows
  have hm := hr.2.1; have hlc := hr.1
  unfold maxLen at hm
  obtain ⟨L, hL⟩ : ∃ L, conV s.now = L := ⟨_, rfl⟩
  rw [hL]
  have hLs : L.toArray.size = 64 := by rw [← hL]; simp [conV_len]
  have hL1 : L.toArray.all (·.oneCell') = true := by rw [← hL]; exact all_oneCell_toArray (conV_one _)
  have hLi : (Try.prog.info? 68).map (·.size) = some L.length := by rw [show L.length = 64 from by simpa using hLs]; exact conI
  have hLj : (Try.prog.info? 68).map (·.size) = some L.toArray.size := by rw [hLs]; exact conI
  obtain ⟨ZC, hZ⟩ : ∃ ZC, (conV fun _ => 0).toArray = ZC := ⟨_, rfl⟩
  have hZC : ∀ w, (zeroValue 68).run Try.prog w = .ok (.agg ZC) w := fun w => by rw [← hZ]; exact conZ w
  have hZs : ZC.size = 64 := by rw [← hZ]; simp [conV_len]
  obtain ⟨w1, hw1⟩ : ∃ w1, w.alloc (.cells ZC 68) = w1 := ⟨_, rfl⟩
  have X1 : Hid (Below w.heap.size w w1 ∧ Blk w1 w.heap.size ZC 68) := by
    show _ ∧ _
    rw [← hw1]
    exact ⟨B.new1 _ _, Blk.new _ _ _⟩
  obtain ⟨w2, hw2⟩ : ∃ w2, w1.setCells w.heap.size 0 L.toArray.toList = w2 := ⟨_, rfl⟩
  have X2 : Hid (Below w.heap.size w w2 ∧ w2.heap[w.heap.size]? = some (.cells L.toArray 68 (0, 0))) := by
    show _ ∧ _
    rw [← hw2]
    exact ⟨below_cells (Nat.le_refl _) _ 0 X1.out.1, blk_all X1.out.2 (by rw [hZs, ← hLs]; simp)⟩
  have HT : Hid (w1.there w.heap.size 0 L.toArray.size) := blk_there X1.out.2 0 _ (by rw [hZs, hLs]; exact Nat.le_refl _)
  have H1 : Hid (SecAt w1 base sb o s) := h.below X1.out.1
  have c1 : w1.cell? ⟨sb, o + 64, none⟩ = some (.slice a s.wr.length cap) := by rw [← hv]; exact H1.out.slice
  have HR1 : Hid (RowsAt w1 a cap 65 Wr.enc s.wr) := hr.below X1.out.1
  generalize hPP : (fun (e : Ending) (w' : World) => e = .returned (.agg L.toArray) ∧ Below w.heap.size w w') = PP
  have HP : Hid (PP (.returned (.agg L.toArray)) w2) := by show PP _ _; rw [← hPP]; exact ⟨rfl, X2.out.1⟩
  have hW2 : Hid (w1.setCells w.heap.size 0 L.toArray.toList = w2) := hw2
  clear hPP hw2
  by_cases hn : s.wr.length = 0
  · have HLD : Hid (w1.rangeAt sb o L) := by
      have hnow : s.now = s.kept := by
        unfold Sec.now
        rw [List.length_eq_zero_iff.1 hn]
        rfl
      show World.rangeAt _ _ _ _
      rw [← hL, hnow]
      exact H1.out.kept
    rw [hn] at c1
    clear hL hZ hZs hr HR1 hlc hv h H1 hn hLs X1
    go_enter Try.func25, Try.ntmps25
    generalize hQB : bodyPost Try.prog Try.f25 PP = QB
    have HQB : Hid (bodyPost Try.prog Try.f25 PP = QB) := hQB
    clear hQB
    go_wp2_with (first | (refine wpList_load_mid rfl 68 _ rfl sb o rfl L _ HLD.out conU rfl hLi ?_) | (refine wpList_store_as rfl 68 _ _ rfl w.heap.size 0 L.toArray rfl rfl HT.out hLj hL1 w2 hW2.out ?_))
    (try simp only [Exit.inBlock, Exit.then])
    rw [← HQB.out]
    refine bodyPost_ret (results_cell_row rfl _ _ w.heap.size _ _ _ _ (by rfl) X2.out.2 conU rfl hLj) rfl ?_
    exact HP.out
  · obtain ⟨k, hk⟩ : ∃ k, s.wr.length = k + 1 := ⟨s.wr.length - 1, by omega⟩
    obtain ⟨g, off, rfl, hg, hcell⟩ := HR1.out.2.2 (by omega)
    have HLD : Hid (w1.rangeAt g (off + k * 65 + 1) L) := by
      have hnow : s.now = s.wr[k]!.dat := by
        unfold Sec.now
        rw [List.getLast?_eq_getElem?, hk, Nat.add_sub_cancel, List.getElem?_eq_getElem (by omega)]
        simp only
        rw [getElem!_pos s.wr k (by omega)]
      show World.rangeAt _ _ _ _
      rw [← hL, hnow]
      intro j v hj
      have := hcell k (by omega) (j + 1) v (by unfold Wr.enc; simpa using hj)
      rw [show off + k * 65 + 1 + j = off + k * 65 + (j + 1) from by omega]
      exact this
    rw [hk] at c1
    have hk1 : ((k + 1 : Nat) : Int) - 1 = (k : Int) := by omega
    have hk0 : (0 : Int) < ((k + 1 : Nat) : Int) := by omega
    have hkm : (k : Int) < ((k + 1 : Nat) : Int) := by omega
    have hk9 : k ≤ 1000 := by omega
    clear hL hZ hZs hr HR1 hlc hv h H1 hn hLs X1 hcell
    go_enter Try.func25, Try.ntmps25
    generalize hQB : bodyPost Try.prog Try.f25 PP = QB
    have HQB : Hid (bodyPost Try.prog Try.f25 PP = QB) := hQB
    clear hQB
    go_wp2_with (first | (refine wpList_load_mid rfl 68 _ rfl g (off + k * 65 + 1) rfl L _ HLD.out conU rfl hLi ?_) | (refine wpList_store_as rfl 68 _ _ rfl w.heap.size 0 L.toArray rfl rfl HT.out hLj hL1 w2 hW2.out ?_))
    (try simp only [Exit.inBlock, Exit.then])
    rw [← HQB.out]
    refine bodyPost_ret (results_cell_row rfl _ _ w.heap.size _ _ _ _ (by rfl) X2.out.2 conU rfl hLj) rfl ?_
    exact HP.out

end Dk
end Go.Proofs.Ytmojjjikaaclpaa
