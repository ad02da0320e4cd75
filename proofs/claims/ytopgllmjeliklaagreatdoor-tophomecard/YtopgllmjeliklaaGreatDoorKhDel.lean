/- Del Disk DiskB DiskC. -/
import Derived.Test.YtopgllmjeliklaaGreatDoorKhOwn
import Derived.Deep.MidRow
import Derived.Deep.WholeRow
import Derived.Laws.BytesString
import Derived.Laws.CopyRow
import Derived.Deep.AppendLies
import Derived.Deep.RegionHeld3
import Derived.Laws.EntriesVeiled
import Derived.Shelf.SlicesE.DeleteFunc
set_option maxRecDepth 100000
set_option linter.unusedSimpArgs false
set_option linter.unusedVariables false
namespace Go.Proofs.YtopgllmjeliklaaGreatDoor
open Go.Shelf Go.Lib Go.ChangeShapes Go.WideShapes Go.ChangeAt Go.RowKit
def Tryz.lij_ren : Go.Shelf.Ren := ⟨fun | 6 => 147 | n => n, fun | 22 => 37 | 23 => 88 | 25 => 166 | 3 => 3 | 0 => 0 | 4 => 4 | n => n, fun | n => n⟩
theorem Tryz.lij : Go.Proofs.SlLaysH0.n6 Tryz.prog Tryz.lij_ren := {
 mixed := by kernel_rfl
 f6 := ⟨Tryz.f147.name, by decide, Tryz.func147.trans (congrArg some (by kernel_rfl))⟩
 t0 := Tryz.underlying0
 a0 := Tryz.isAgg0
 z0 := Tryz.sizeOf0
 v0 := Tryz.zeroValue0
 t3 := Tryz.underlying3
 a3 := Tryz.isAgg3
 z3 := Tryz.sizeOf3
 v3 := Tryz.zeroValue3
 t4 := Tryz.underlying4
 a4 := Tryz.isAgg4
 z4 := Tryz.sizeOf4
 v4 := Tryz.zeroValue4
 t22 := Tryz.underlying37
 a22 := Tryz.isAgg37
 z22 := Tryz.sizeOf37
 v22 := Tryz.zeroValue37
 t25 := Tryz.underlying166
 a25 := Tryz.isAgg166
 z25 := Tryz.sizeOf166
 v25 := Tryz.zeroValue166 }
namespace Bk
def setRow (cur : Array Value) : Nat → List Value → Array Value
 | _, [] => cur
 | o, v :: r => setRow (cur.setIfInBounds o v) (o + 1) r
theorem setRow_size : ∀ (l : List Value) (cur : Array Value) (o : Nat), (setRow cur o l).size = cur.size
 | [], _, _ => rfl
 | v :: r, cur, o => by rw [setRow, setRow_size r]; simp
theorem setRow_out : ∀ (l : List Value) (cur : Array Value) (o q : Nat), (q < o ∨ o + l.length ≤ q) → (setRow cur o l)[q]? = cur[q]?
 | [], _, _, _, _ => rfl
 | v :: r, cur, o, q, h => by
   rw [setRow, setRow_out r _ _ _ (by simp at h; omega), Array.getElem?_setIfInBounds, if_neg (by simp at h; omega)]
theorem setRow_in : ∀ (l : List Value) (cur : Array Value) (o c : Nat), c < l.length → o + l.length ≤ cur.size → (setRow cur o l)[o + c]? = l[c]?
 | [], _, _, _, h, _ => absurd h (Nat.not_lt_zero _)
 | v :: r, cur, o, 0, _, hs => by
   rw [setRow, setRow_out r _ _ _ (by omega), Array.getElem?_setIfInBounds, Nat.add_zero, if_pos rfl, if_pos (by simp at hs; omega)]
   rfl
 | v :: r, cur, o, c + 1, h, hs => by
   rw [setRow, show o + (c + 1) = (o + 1) + c from by omega, setRow_in r _ _ c (by simpa using h) (by simp at hs ⊢; omega)]
   rfl
theorem blk_setCells {w : World} {g : Nat} {T : TypeId} : ∀ (l : List Value) (cur : Array Value) (o : Nat), Blk w g cur T → Blk (w.setCells g o l) g (setRow cur o l) T := by
 intro l
 induction l generalizing w with
 | nil => intro cur o h; exact h
 | cons v r ih => intro cur o h; exact ih _ _ (h.set o v)
theorem grown_refl (w : World) (row : Option Nat) : w.grownBy w row := ⟨rfl, rfl, rfl, Nat.le_refl _, fun _ _ _ => rfl⟩
theorem grown_trans {a b c : World} {row : Option Nat} (h : a.grownBy b row) (k : b.grownBy c row) : a.grownBy c row :=
 ⟨k.os.trans h.os, k.tape.trans h.tape, k.output.trans h.output, Nat.le_trans h.size k.size, fun i hi hn => (k.block i (Nat.lt_of_lt_of_le hi h.size) hn).trans (h.block i hi hn)⟩
theorem grown_of_below {a b : World} {row : Option Nat} (h : Below a.heap.size a b) : a.grownBy b row := ⟨h.os, h.tape, h.output, h.size, fun k hk _ => h.block k hk⟩
theorem grown_set (w : World) (g o : Nat) (v : Value) : w.grownBy (w.setCell ⟨g, o, none⟩ v) (some g) := ⟨rfl, rfl, rfl, by rw [size_setCell]; exact Nat.le_refl _, fun k hk hn => Below.heap_setCell _ _ _ _ (by intro e; exact hn (by rw [e]))⟩
theorem grown_setCells (g : Nat) : ∀ (l : List Value) (w : World) (o : Nat), w.grownBy (w.setCells g o l) (some g)
 | [], w, _ => grown_refl w _
 | v :: r, w, o => grown_trans (grown_set w g o v) (grown_setCells g r _ _)
theorem below_of_grown {N : Nat} {a b c : World} {g : Nat} (h : Below N a b) (k : b.grownBy c (some g)) (hg : N ≤ g) (hN : N ≤ b.heap.size) : Below N a c :=
 ⟨k.os.trans h.os, k.tape.trans h.tape, k.output.trans h.output, Nat.le_trans h.size k.size, fun i hi => (k.block i (by omega) (by intro e; injection e with e; omega)).trans (h.block i hi)⟩
theorem run_clear_rows {P : Program} (w : World) (t e ty : TypeId) (z : Value) (ht : P.underlying t = some (.slice e)) (hv : ∀ w, (zeroValue e).run P w = .ok z w) (b o n c : Nat) (hn : 0 < n) (l : List Value) (hl : (Builtin.zeroCells z.cells n).toList = l)
  (hc : ∀ j, j < l.length → (w.cell? ⟨b, o + j, none⟩).isSome = true) (hf : ∀ j, j < l.length → w.frozen? ⟨b, o + j, none⟩ = false) (h1 : ∀ v ∈ l, v.oneCell' = true) :
  (Builtin.clear_ #[t] ty #[.slice (some ⟨b, o, none⟩) n c]).run P w = .ok (.tuple #[]) (w.setCells b o l) := by
 have hst := run_storeCells_cells (P := P) b o l 0 w (by simpa using hc) (by simpa using hf) h1; simp only [Nat.add_zero] at hst; obtain ⟨m, rfl⟩ : ∃ m, n = m + 1 := ⟨n - 1, by omega⟩
 simp [Builtin.clear_, run_underlying ht, hv, hl, hst]
section
variable {α : Type} [Inhabited α]
structure DelI (w wr : World) (g cap k : Nat) (T : TypeId) (enc : α → List Value) (p : α → Bool) (l : List α) (j i : Nat) : Prop where
 grown : w.grownBy wr (some g)
 len : ((l.take j).filter (fun x => !p x)).length = i
 cur : ∃ cur, Blk wr g cur T ∧ cur.size = cap * k ∧ InRows cur k enc ((l.take j).filter (fun x => !p x)) ∧ ∀ a, j ≤ a → a < l.length → ∀ c u, (enc l[a]!)[c]? = some u → cur[a * k + c]? = some u
theorem DelI.lt {w wr : World} {g cap k : Nat} {T : TypeId} {enc : α → List Value} {p : α → Bool} {l : List α} {j i : Nat} (h : DelI w wr g cap k T enc p l j i) : i ≤ j := by
 have := h.len; have h2 := List.length_filter_le (fun x => !p x) (l.take j)
 simp only [List.length_take] at h2
 omega
omit [Inhabited α] in
theorem take_filter (p : α → Bool) [Inhabited α] (l : List α) (j : Nat) (hj : j < l.length) : (l.take (j + 1)).filter (fun x => !p x) = (l.take j).filter (fun x => !p x) ++ (if p l[j]! = true then [] else [l[j]!]) := by
 rw [List.take_succ_eq_append_getElem hj, List.filter_append]; have e : l[j]! = l[j] := getElem!_pos l j hj; rw [e]
 cases h : p l[j] <;> simp [h]
theorem DelI.skip {w wr wx : World} {g cap k : Nat} {T : TypeId} {enc : α → List Value} {p : α → Bool} {l : List α} {j i : Nat} (h : DelI w wr g cap k T enc p l j i) (hj : j < l.length) (hp : p l[j]! = true) (hb : Below wr.heap.size wr wx) : DelI w wx g cap k T enc p l (j + 1) i := by
 obtain ⟨cur, hk, hs, h1, h2⟩ := h.cur; have e := take_filter p l j hj; rw [if_pos hp, List.append_nil] at e; exact ⟨grown_trans h.grown (grown_of_below hb), by rw [e]; exact h.len, cur, hk.below hb, hs, by rw [e]; exact h1, fun a ha => h2 a (by omega)⟩
theorem DelI.keep {w wr wx : World} {g cap k : Nat} {T : TypeId} {enc : α → List Value} {p : α → Bool} {l : List α} {j i : Nat} (hk0 : ∀ x, (enc x).length = k) (h : DelI w wr g cap k T enc p l j i) (hj : j < l.length) (hc : l.length ≤ cap) (hp : p l[j]! = false) (hb : Below wr.heap.size wr wx) :
  DelI w (wx.setCells g (i * k) (enc l[j]!)) g cap k T enc p l (j + 1) (i + 1) := by
 have hij := h.lt; obtain ⟨cur, hk, hs, h1, h2⟩ := h.cur; have e := take_filter p l j hj; rw [if_neg (by rw [hp]; decide)] at e; have hik : i * k + k ≤ cap * k := by have : (i + 1) * k ≤ cap * k := Nat.mul_le_mul_right k (by omega); rw [Nat.succ_mul] at this; exact this
 refine ⟨grown_trans (grown_trans h.grown (grown_of_below hb)) (grown_setCells g _ _ _), by rw [e, List.length_append, h.len]; rfl, setRow cur (i * k) (enc l[j]!), blk_setCells _ _ _ (hk.below hb), by rw [setRow_size]; exact hs, ?_, ?_⟩
 ·intro a ha c u hu
  rw [e] at ha hu; rw [List.length_append, h.len] at ha; simp only [List.length_cons, List.length_nil, Nat.zero_add] at ha
  by_cases ea : a = i
  ·subst ea
   have el : ((l.take j).filter (fun x => !p x) ++ [l[j]!])[a]! = l[j]! := by
    rw [getElem!_pos ((l.take j).filter (fun x => !p x) ++ [l[j]!]) a (by rw [List.length_append, h.len]; simp), List.getElem_append_right (by rw [h.len]; exact Nat.le_refl _)]
    simp [h.len]
   rw [el] at hu; have hc' : c < (enc l[j]!).length := (List.getElem?_eq_some_iff.1 hu).1; rw [setRow_in _ _ _ _ hc' (by rw [hk0, hs]; exact hik)]; exact hu
  ·have ha' : a < i := by omega
   have el : ((l.take j).filter (fun x => !p x) ++ [l[j]!])[a]! = ((l.take j).filter (fun x => !p x))[a]! := by
    rw [getElem!_pos ((l.take j).filter (fun x => !p x) ++ [l[j]!]) a (by rw [List.length_append, h.len]; omega), getElem!_pos ((l.take j).filter (fun x => !p x)) a (by rw [h.len]; exact ha'), List.getElem_append_left (by rw [h.len]; exact ha')]
   rw [el] at hu; have hc' : c < k := by rw [← hk0 ((l.take j).filter (fun x => !p x))[a]!]; exact (List.getElem?_eq_some_iff.1 hu).1
   rw [setRow_out _ _ _ _ (Or.inl (by have : (a + 1) * k ≤ i * k := Nat.mul_le_mul_right k ha'; rw [Nat.succ_mul] at this; omega))]; exact h1 a (by rw [h.len]; exact ha') c u hu
 ·intro a ha hal c u hu
  rw [setRow_out _ _ _ _ (Or.inr (by rw [hk0]; have : (i + 1) * k ≤ a * k := Nat.mul_le_mul_right k (by omega); rw [Nat.succ_mul] at this; omega))]; exact h2 a (by omega) hal c u hu
end
end Bk
namespace Dk
open Bk
def conV (c : Nat → Int) : List Value := (List.range 64).map fun i => .int .u8 (c i)
theorem conV_len (c : Nat → Int) : (conV c).length = 64 := by simp [conV]
theorem conV_one (c : Nat → Int) : ∀ v ∈ conV c, v.oneCell' = true := by
 intro v hv
 unfold conV at hv; obtain ⟨i, _, rfl⟩ := List.mem_map.1 hv
 rfl
structure Wr where
 bit : Int
 dat : Nat → Int
instance : Inhabited Wr := ⟨⟨0, fun _ => 0⟩⟩
def Wr.enc (x : Wr) : List Value := .int .i64 x.bit :: conV x.dat
theorem Wr.enc_len (x : Wr) : (Wr.enc x).length = 65 := by simp [Wr.enc, conV_len]
structure Sec where
 kept : Nat → Int
 v : Value
 wr : List Wr
instance : Inhabited Sec := ⟨⟨fun _ => 0, .slice none 0 0, []⟩⟩
def Sec.enc (s : Sec) : List Value := conV s.kept ++ [s.v]
theorem Sec.enc_len (s : Sec) : (Sec.enc s).length = 65 := by simp [Sec.enc, conV_len]
def Sec.now (s : Sec) : Nat → Int := match s.wr.getLast? with | some x => x.dat | none => s.kept
structure SecAt (w : World) (base sb o : Nat) (s : Sec) : Prop where
 r : w.rangeAt sb o (Sec.enc s)
 own : OwnAt w base 194 65 Wr.enc s.v s.wr
theorem SecAt.kept {w : World} {base sb o : Nat} {s : Sec} (h : SecAt w base sb o s) : w.rangeAt sb o (conV s.kept) := fun j v hv => h.r j v (by
 unfold Sec.enc; rw [List.getElem?_append_left (List.getElem?_eq_some_iff.1 hv).1]; exact hv)
theorem SecAt.slice {w : World} {base sb o : Nat} {s : Sec} (h : SecAt w base sb o s) : w.cell? ⟨sb, o + 64, none⟩ = some s.v := h.r 64 s.v (by
 unfold Sec.enc; rw [List.getElem?_append_right (by rw [conV_len]; exact Nat.le_refl _), conV_len]
 rfl)
theorem rangeAt.below {w w' : World} {b o : Nat} {cs : List Value} (h : w.rangeAt b o cs) (hb : Below w.heap.size w w') : w'.rangeAt b o cs := fun j v hv => by
 have h1 := h j v hv; exact (hb.cell (World.block_lt_of_cell? w _ h1)).trans h1
theorem SecAt.below {w w' : World} {base sb o : Nat} {s : Sec} (h : SecAt w base sb o s) (hb : Below w.heap.size w w') : SecAt w' base sb o s := ⟨rangeAt.below h.r hb, h.own.below hb⟩
theorem conU : Tryz.prog.underlying 154 = some (.array 64 5) := by kernel_rfl
theorem conZ (w : World) : (zeroValue 154).run Tryz.prog w = .ok (.agg (conV fun _ => 0).toArray) w := by kernel_rfl
theorem conI : (Tryz.prog.info? 154).map (·.size) = some 64 := by kernel_rfl
theorem setRow_all (cur : Array Value) (l : List Value) (h : cur.size = l.length) : setRow cur 0 l = l.toArray := by
 apply Array.ext_getElem?
 intro j
 by_cases hj : j < l.length
 ·have := setRow_in l cur 0 j hj (by omega)
  rw [Nat.zero_add] at this; rw [this]
  simp
 ·rw [Array.getElem?_eq_none (by rw [Bk.setRow_size]; omega), Array.getElem?_eq_none (by simp; omega)]
theorem blk_all {w : World} {g : Nat} {cur : Array Value} {T : TypeId} {l : List Value} (h : Blk w g cur T) (hs : cur.size = l.length) : Blk (w.setCells g 0 l) g l.toArray T := by
 have := blk_setCells l cur 0 h
 rwa [setRow_all cur l hs] at this
theorem below_cells {w0 : World} {N b : Nat} (hv : N ≤ b) (vs : List Value) : ∀ {w : World} (o : Nat), Below N w0 w → Below N w0 (w.setCells b o vs) := by
 induction vs with
 | nil => intro w o h; exact h
 | cons v vs ih => intro w o h; exact ih (o + 1) (h.setCell (p := ⟨b, o, none⟩) hv v)
theorem blk_there {w : World} {b : Nat} {arr : Array Value} {T : TypeId} (h : Blk w b arr T) (o n : Nat) (hn : o + n ≤ arr.size) : w.there b o n := fun j hj => by
 rw [h.cell]; exact ⟨by rw [Array.getElem?_eq_getElem (by omega)]; rfl, h.free _⟩
theorem blk_range {w : World} {b : Nat} {cs : List Value} {T : TypeId} (h : Blk w b cs.toArray T) : w.rangeAt b 0 cs := fun j v hv => by
 rw [h.cell, Nat.zero_add]
 simpa using hv
theorem wpList_store_as {P : Program} {ops : Array Oper} {rest : List Oper} {op : Oper} {a : Act} {w : World} {Q : Exit → Act → World → Prop} (hgd : op.guard = none) (ty : TypeId) (x y : Operand) (ho : op.op = .store ty x y)
  (b o : Nat) (cells : Array Value) (hx : a.eval x = .pointer (some ⟨b, o, none⟩)) (hy : a.eval y = .agg cells)
  (ht : w.there b o cells.size) (hi : (P.info? ty).map (·.size) = some cells.size) (h1 : cells.all (·.oneCell') = true) (w2 : World) (e : w.setCells b o cells.toList = w2)
  (h : wpList P ops Q rest (a.put op.dst undef) w2) : wpList P ops Q (op :: rest) a w :=
 wpList_store_mid hgd ty x y ho b o cells hx hy ht hi h1 (e ▸ h)
set_option maxHeartbeats 4000000 in
theorem now_any (base sb o : Nat) (s : Sec) (w : World) (h : SecAt w base sb o s) (hl : s.wr.length ≤ 1000) :
  Calls Tryz.prog 154 #[.pointer (some ⟨sb, o, none⟩)] w fun e w' => e = .returned (.agg (conV s.now).toArray) ∧ Below w.heap.size w w' := by
 obtain ⟨a, cap, hv, hr⟩ := h.own.rows; have hm := hr.2.1; have hlc := hr.1; unfold maxLen at hm; obtain ⟨L, hL⟩ : ∃ L, conV s.now = L := ⟨_, rfl⟩
 rw [hL]; have hLs : L.toArray.size = 64 := by rw [← hL]; simp [conV_len]
 have hL1 : L.toArray.all (·.oneCell') = true := by rw [← hL]; exact all_oneCell_toArray (conV_one _)
 have hLi : (Tryz.prog.info? 154).map (·.size) = some L.length := by rw [show L.length = 64 from by simpa using hLs]; exact conI
 have hLj : (Tryz.prog.info? 154).map (·.size) = some L.toArray.size := by rw [hLs]; exact conI
 obtain ⟨ZC, hZ⟩ : ∃ ZC, (conV fun _ => 0).toArray = ZC := ⟨_, rfl⟩
 have hZC : ∀ w, (zeroValue 154).run Tryz.prog w = .ok (.agg ZC) w := fun w => by rw [← hZ]; exact conZ w
 have hZs : ZC.size = 64 := by rw [← hZ]; simp [conV_len]
 obtain ⟨w1, hw1⟩ : ∃ w1, w.alloc (.cells ZC 154) = w1 := ⟨_, rfl⟩
 have X1 : Hid (Below w.heap.size w w1 ∧ Blk w1 w.heap.size ZC 154) := by
  show _ ∧ _
  rw [← hw1]; exact ⟨B.new1 _ _, Blk.new _ _ _⟩
 obtain ⟨w2, hw2⟩ : ∃ w2, w1.setCells w.heap.size 0 L.toArray.toList = w2 := ⟨_, rfl⟩
 have X2 : Hid (Below w.heap.size w w2 ∧ w2.heap[w.heap.size]? = some (.cells L.toArray 154 (0, 0))) := by
  show _ ∧ _
  rw [← hw2]; exact ⟨below_cells (Nat.le_refl _) _ 0 X1.out.1, blk_all X1.out.2 (by rw [hZs, ← hLs]; simp)⟩
 have HT : Hid (w1.there w.heap.size 0 L.toArray.size) := blk_there X1.out.2 0 _ (by rw [hZs, hLs]; exact Nat.le_refl _); have H1 : Hid (SecAt w1 base sb o s) := h.below X1.out.1; have c1 : w1.cell? ⟨sb, o + 64, none⟩ = some (.slice a s.wr.length cap) := by rw [← hv]; exact H1.out.slice
 have HR1 : Hid (RowsAt w1 a cap 65 Wr.enc s.wr) := hr.below X1.out.1; generalize hPP : (fun (e : Ending) (w' : World) => e = .returned (.agg L.toArray) ∧ Below w.heap.size w w') = PP
 have HP : Hid (PP (.returned (.agg L.toArray)) w2) := by show PP _ _; rw [← hPP]; exact ⟨rfl, X2.out.1⟩
 have hW2 : Hid (w1.setCells w.heap.size 0 L.toArray.toList = w2) := hw2; clear hPP hw2
 by_cases hn : s.wr.length = 0
 ·have HLD : Hid (w1.rangeAt sb o L) := by
   have hnow : s.now = s.kept := by
    unfold Sec.now; rw [List.length_eq_zero_iff.1 hn]
    rfl
   show World.rangeAt _ _ _ _
   rw [← hL, hnow]; exact H1.out.kept
  rw [hn] at c1; clear hL hZ hZs hr HR1 hlc hv h H1 hn hLs X1
  go_enter Tryz.func154, Tryz.ntmps154
  generalize hQB : bodyPost Tryz.prog Tryz.f154 PP = QB; have HQB : Hid (bodyPost Tryz.prog Tryz.f154 PP = QB) := hQB; clear hQB
  go_wp2_with (first | (refine wpList_load_mid rfl 154 _ rfl sb o rfl L _ HLD.out conU rfl hLi ?_) | (refine wpList_store_as rfl 154 _ _ rfl w.heap.size 0 L.toArray rfl rfl HT.out hLj hL1 w2 hW2.out ?_))
  (try simp only [Exit.inBlock, Exit.then])
  rw [← HQB.out]; refine bodyPost_ret (results_cell_row rfl _ _ w.heap.size _ _ _ _ (by rfl) X2.out.2 conU rfl hLj) rfl ?_; exact HP.out
 ·obtain ⟨k, hk⟩ : ∃ k, s.wr.length = k + 1 := ⟨s.wr.length - 1, by omega⟩
  obtain ⟨g, off, rfl, hg, hcell⟩ := HR1.out.2.2 (by omega)
  have HLD : Hid (w1.rangeAt g (off + k * 65 + 1) L) := by
   have hnow : s.now = s.wr[k]!.dat := by
    unfold Sec.now; rw [List.getLast?_eq_getElem?, hk, Nat.add_sub_cancel, List.getElem?_eq_getElem (by omega)]; simp only; rw [getElem!_pos s.wr k (by omega)]
   show World.rangeAt _ _ _ _
   rw [← hL, hnow]
   intro j v hj
   have := hcell k (by omega) (j + 1) v (by unfold Wr.enc; simpa using hj); rw [show off + k * 65 + 1 + j = off + k * 65 + (j + 1) from by omega]
   exact this
  rw [hk] at c1; have hk1 : ((k + 1 : Nat) : Int) - 1 = (k : Int) := by omega
  have hk0 : (0 : Int) < ((k + 1 : Nat) : Int) := by omega
  have hkm : (k : Int) < ((k + 1 : Nat) : Int) := by omega
  have hk9 : k ≤ 1000 := by omega
  clear hL hZ hZs hr HR1 hlc hv h H1 hn hLs X1 hcell
  go_enter Tryz.func154, Tryz.ntmps154
  generalize hQB : bodyPost Tryz.prog Tryz.f154 PP = QB; have HQB : Hid (bodyPost Tryz.prog Tryz.f154 PP = QB) := hQB; clear hQB
  go_wp2_with (first | (refine wpList_load_mid rfl 154 _ rfl g (off + k * 65 + 1) rfl L _ HLD.out conU rfl hLi ?_) | (refine wpList_store_as rfl 154 _ _ rfl w.heap.size 0 L.toArray rfl rfl HT.out hLj hL1 w2 hW2.out ?_))
  (try simp only [Exit.inBlock, Exit.then])
  rw [← HQB.out]; refine bodyPost_ret (results_cell_row rfl _ _ w.heap.size _ _ _ _ (by rfl) X2.out.2 conU rfl hLj) rfl ?_; exact HP.out
end Dk
namespace Dk
open Bk
structure DiskAt (w : World) (base db sb : Nat) (secs : List Sec) (bit : Int) (armed : Bool) (left : Int) (down : Bool) : Prop where
 d : Blk w db #[.slice (some ⟨sb, 0, none⟩) secs.length secs.length, .int .i64 bit, .bool armed, .int .i64 left, .bool down] 124
 s : Blk w sb (secs.flatMap Sec.enc).toArray 157
 own : ∀ i, i < secs.length → OwnAt w base 194 65 Wr.enc secs[i]!.v secs[i]!.wr
 ne : ∀ i j, i < secs.length → j < secs.length → i ≠ j → ∀ g, secs[i]!.v.ownBlock = some g → secs[j]!.v.ownBlock ≠ some g
 hb : base ≤ db ∧ base ≤ sb
theorem DiskAt.below {w w' : World} {base db sb : Nat} {secs : List Sec} {bit : Int} {armed : Bool} {left : Int} {down : Bool} (h : DiskAt w base db sb secs bit armed left down) (hb : Below w.heap.size w w') : DiskAt w' base db sb secs bit armed left down :=
 ⟨h.d.below hb, h.s.below hb, fun i hi => (h.own i hi).below hb, h.ne, h.hb⟩
theorem DiskAt.sec {w : World} {base db sb : Nat} {secs : List Sec} {bit : Int} {armed : Bool} {left : Int} {down : Bool} (h : DiskAt w base db sb secs bit armed left down) {i : Nat} (hi : i < secs.length) : SecAt w base sb (i * 65) secs[i]! :=
 ⟨fun j v hv => by
  have hj : j < 65 := by rw [← Sec.enc_len secs[i]!]; exact (List.getElem?_eq_some_iff.1 hv).1
  rw [h.s.cell]; have := flat_get Sec.enc 65 Sec.enc_len secs i j hi hj; rw [List.getElem?_toArray, this, hv], h.own i hi⟩
def hasN (n : Nat) (x : Int) : Bool := decide (0 ≤ x) && decide (x < n)
set_option maxHeartbeats 2000000 in
theorem has_any (db sb n : Nat) (x : Int) (w : World) (c0 : w.cell? ⟨db, 0, none⟩ = some (.slice (some ⟨sb, 0, none⟩) n n)) :
  Calls Tryz.prog 149 #[.pointer (some ⟨db, 0, none⟩), .int .i64 x] w fun e w' => e = .returned (.bool (hasN n x)) ∧ w' = w := by
 by_cases h0 : 0 ≤ x
 ·go_enter Tryz.func149, Tryz.ntmps149
  go_wp2; go_returns; exact ⟨by simp [hasN, h0], rfl⟩
 ·go_enter Tryz.func149, Tryz.ntmps149
  go_wp2; go_returns; exact ⟨by simp [hasN]; omega, rfl⟩
def strOf (c : Nat → Int) : ByteArray := ((List.range 64).map c).foldl (fun r n => r.push (UInt8.ofNat n.toNat)) ByteArray.empty
theorem conv_run {w : World} {b : Nat} {c : Nat → Int} {T : TypeId} (h : Blk w b (conV c).toArray T) : (convert 183 9 (.slice (some ⟨b, 0, none⟩) 64 64)).run Tryz.prog w = .ok (.string (strOf c)) w := by
 rw [run_convert_bytes_string w 183 9 5 _ _ _ (by kernel_rfl) (by kernel_rfl) (by kernel_rfl)]; refine run_bytesToString w _ _ _ ((List.range 64).map c) ?_; have := run_loadCells_list (P := Tryz.prog) w ⟨b, 0, none⟩ (conV c) (fun j v hv => by rw [Addr.add_mid]; exact blk_range h j v hv)
 rw [conV_len] at this; rw [this]; unfold conV; rw [List.map_map]
 rfl
def readN (n : Nat) (down : Bool) (x : Int) : Int := if down = true then 9 else if hasN n x = true then 0 else 1
def readS (secs : List Sec) (down : Bool) (x : Int) : ByteArray := if down = true then ⟨#[]⟩ else if hasN secs.length x = true then strOf secs[x.toNat]!.now else ⟨#[]⟩
set_option maxHeartbeats 4000000 in
theorem read_any (base db sb : Nat) (secs : List Sec) (bit : Int) (armed : Bool) (left : Int) (down : Bool) (x : Int) (w : World) (h : DiskAt w base db sb secs bit armed left down) (hl : ∀ i, i < secs.length → secs[i]!.wr.length ≤ 1000) (hn : secs.length ≤ 1000) :
  Calls Tryz.prog 139 #[.pointer (some ⟨db, 0, none⟩), .int .i64 x] w fun e w' => e = .returned (.tuple #[.string (readS secs down x), errV (readN secs.length down x)]) ∧ Below w.heap.size w w' := by
 have rd := h.d.cell; have HH : Hid (Calls Tryz.prog 149 #[.pointer (some ⟨db, 0, none⟩), .int .i64 x] w fun e w' => e = .returned (.bool (hasN secs.length x)) ∧ w' = w) := has_any db sb secs.length x w (h.d.cell 0)
 generalize hPP : (fun (e : Ending) (w' : World) => e = .returned (.tuple #[.string (readS secs down x), errV (readN secs.length down x)]) ∧ Below w.heap.size w w') = PP
 cases down
 case true =>
  have HP : Hid (PP (.returned (.tuple #[.string ⟨#[]⟩, .iface 103 (.int .i64 9)])) w) := by show PP _ _; rw [← hPP]; exact ⟨rfl, Below.refl _ _⟩
  clear hPP h HH
  go_enter Tryz.func139, Tryz.ntmps139
  go_wp2; exact HP.out
 cases hx : hasN secs.length x
 ·have HP : Hid (PP (.returned (.tuple #[.string ⟨#[]⟩, .iface 103 (.int .i64 1)])) w) := by
   show PP _ _
   rw [← hPP]; unfold readS readN; rw [hx]; exact ⟨rfl, Below.refl _ _⟩
  rw [hx] at HH; clear hPP h hx
  go_enter Tryz.func139, Tryz.ntmps139
  go_wp2_with fail; refine HH.out.mono ?_; rintro e w1 ⟨rfl, rfl⟩; go_wp2; exact HP.out
 ·obtain ⟨i, rfl⟩ : ∃ i : Nat, x = (i : Int) := ⟨x.toNat, by simp [hasN] at hx; omega⟩
  have hi : i < secs.length := by simp [hasN] at hx; omega
  have hiz : (i : Int) < (secs.length : Int) := by omega
  have HP0 : Hid (∀ w', Below w.heap.size w w' → PP (.returned (.tuple #[.string (strOf secs[i]!.now), .nilIface])) w') := fun w' hb => by
   rw [← hPP]; unfold readS readN; rw [hx]; exact ⟨rfl, hb⟩
  have HNW : Hid (Calls Tryz.prog 154 #[.pointer (some ⟨sb, i * 65, none⟩)] w fun e w' => e = .returned (.agg (conV secs[i]!.now).toArray) ∧ Below w.heap.size w w') := now_any base sb (i * 65) secs[i]! w (h.sec hi) (hl i hi)
  rw [hx] at HH; obtain ⟨S, hS⟩ : ∃ S, strOf secs[i]!.now = S := ⟨_, rfl⟩
  rw [hS] at HP0; obtain ⟨L, hL⟩ : ∃ L, conV secs[i]!.now = L := ⟨_, rfl⟩
  rw [hL] at HNW
  have HCV : Hid (∀ wx b T, Blk wx b L.toArray T → (convert 183 9 (.slice (some ⟨b, 0, none⟩) 64 64)).run Tryz.prog wx = .ok (.string S) wx) := fun wx b T hb => by
   rw [← hS]; rw [← hL] at hb; exact conv_run hb
  have hLs : L.toArray.size = 64 := by rw [← hL]; simp [conV_len]
  have hL1 : L.toArray.all (·.oneCell') = true := by rw [← hL]; exact all_oneCell_toArray (conV_one _)
  have hLj : (Tryz.prog.info? 154).map (·.size) = some L.toArray.size := by rw [hLs]; exact conI
  obtain ⟨ZC, hZ⟩ : ∃ ZC, (conV fun _ => 0).toArray = ZC := ⟨_, rfl⟩
  have hZC : ∀ w, (zeroValue 154).run Tryz.prog w = .ok (.agg ZC) w := fun w => by rw [← hZ]; exact conZ w
  have hZs : ZC.size = 64 := by rw [← hZ]; simp [conV_len]
  clear hPP h hx hl hS hL hZ
  go_enter Tryz.func139, Tryz.ntmps139
  go_wp2_with fail; refine HH.out.mono ?_; rintro e w1 ⟨rfl, rfl⟩; go_wp2_with fail; refine HNW.out.mono ?_; rintro e w2 ⟨rfl, b2⟩; obtain ⟨w3, hw3⟩ : ∃ w3, w2.alloc (.cells ZC 154) = w3 := ⟨_, rfl⟩
  have X3 : Hid (Below w1.heap.size w1 w3 ∧ Blk w3 w2.heap.size ZC 154) := by
   show _ ∧ _
   rw [← hw3]; exact ⟨b2.alloc b2.size _, Blk.new _ _ _⟩
  obtain ⟨w4, hw4⟩ : ∃ w4, w3.setCells w2.heap.size 0 L.toArray.toList = w4 := ⟨_, rfl⟩
  have X4 : Hid (Below w1.heap.size w1 w4 ∧ Blk w4 w2.heap.size L.toArray 154) := by
   show _ ∧ _
   rw [← hw4]; exact ⟨below_cells b2.size _ 0 X3.out.1, blk_all X3.out.2 (by rw [hZs, ← hLs]; simp)⟩
  have HT : Hid (w3.there w2.heap.size 0 L.toArray.size) := blk_there X3.out.2 0 _ (by rw [hZs, hLs]; exact Nat.le_refl _); have hW4 : Hid (w3.setCells w2.heap.size 0 L.toArray.toList = w4) := hw4; have hcv := HCV.out w4 _ _ X4.out.2; clear hw4 b2 HCV hZs hLs
  go_wp2_with (refine wpList_store_as rfl 154 _ _ rfl w2.heap.size 0 L.toArray rfl rfl HT.out hLj hL1 w4 hW4.out ?_)
  exact HP0.out _ X4.out.1
end Dk
def Tryz.liw_ren : Go.Shelf.Ren := ⟨fun | 6 => 172 | n => n, fun | 22 => 155 | 23 => 194 | 25 => 205 | 3 => 3 | 0 => 0 | 4 => 4 | n => n, fun | n => n⟩
theorem Tryz.liw : Go.Proofs.SlLaysH0.n6 Tryz.prog Tryz.liw_ren := {
 mixed := by kernel_rfl
 f6 := ⟨Tryz.f172.name, by decide, Tryz.func172.trans (congrArg some (by kernel_rfl))⟩
 t0 := Tryz.underlying0
 a0 := Tryz.isAgg0
 z0 := Tryz.sizeOf0
 v0 := Tryz.zeroValue0
 t3 := Tryz.underlying3
 a3 := Tryz.isAgg3
 z3 := Tryz.sizeOf3
 v3 := Tryz.zeroValue3
 t4 := Tryz.underlying4
 a4 := Tryz.isAgg4
 z4 := Tryz.sizeOf4
 v4 := Tryz.zeroValue4
 t22 := Tryz.underlying155
 a22 := Tryz.isAgg155
 z22 := Tryz.sizeOf155
 v22 := Tryz.zeroValue155
 t25 := Tryz.underlying205
 a25 := Tryz.isAgg205
 z25 := Tryz.sizeOf205
 v25 := Tryz.zeroValue205 }
namespace Dk
open Bk
set_option maxHeartbeats 1000000 in
theorem add1_any (x : Wr) (t : Int) (P0 : Nat) (w : World) (hl : P0 < w.heap.size) (h0 : w.cell? ⟨P0, 0, none⟩ = some (.int .i64 t)) :
  Calls Tryz.prog 161 #[.agg (Wr.enc x).toArray, .pointer (some ⟨P0, 0, none⟩)] w fun e w' => e = .returned (.bool (x.bit == t)) ∧ Below w.heap.size w w' := by
 obtain ⟨L, hL⟩ : ∃ L, (Wr.enc x).toArray = L := ⟨_, rfl⟩
 rw [hL]; obtain ⟨w1, hw1⟩ : ∃ w1, w.alloc (.cells L 194) = w1 := ⟨_, rfl⟩
 have X1 : Hid (Below w.heap.size w w1) := by show Below _ _ _; rw [← hw1]; exact B.new1 _ _
 have c0 : w1.cell? ⟨P0, 0, none⟩ = some (.int .i64 t) := (X1.out.cell hl).trans h0; have c1 : w1.cell? ⟨w.heap.size, 0, none⟩ = some (.int .i64 x.bit) := by rw [← hw1, (Blk.new _ _ _).cell, ← hL]; rfl
 clear hL h0
 go_enter Tryz.func161, Tryz.ntmps161
 go_wp2; go_returns; exact ⟨rfl, X1.out⟩
set_option maxHeartbeats 1000000 in
theorem idxW_none (a : Option Addr) (cap : Nat) (v : Value) (w : World) :
  Calls Tryz.prog 172 #[.slice a 0 cap, v] w fun e w' => e = .returned (.int .i64 (-1)) ∧ w' = w := by
 go_enter Tryz.func172, Tryz.ntmps172
 go_wp2; refine wp_loop_rounds 1 ?_; rw [rounds_succ]; go_wp2; go_returns; exact ⟨rfl, rfl⟩
set_option maxHeartbeats 2000000 in
theorem delW_none (p : Wr → Bool) (gf : Nat) (lb : Array Value) (eg : ∀ args w, (callFunc gf args).run Tryz.prog w = .ok (.enter gf args) w) (base : Nat) (v : Value) (l : List Wr) (w : World) (h : OwnAt w base 194 65 Wr.enc v l) (hl : l.length ≤ 1000)
  (hp : PredBelow Tryz.prog gf lb (fun x : Wr => .agg (Wr.enc x).toArray) p w) (hall : ∀ y ∈ l, p y = false) :
  Calls Tryz.prog 160 #[v, .func (.func gf) #[] lb] w fun e w' => e = .returned v ∧ Below w.heap.size w w' := by
 rcases h with ⟨rfl, rfl⟩ | ⟨g, cap, cur, rfl, hg, hk, hlc, hm, hs, hr⟩
 ·clear hp eg hall
  go_enter Tryz.func160, Tryz.ntmps160
  go_wp2_with fail; refine (idxW_none _ _ _ _).mono ?_; rintro e w1 ⟨rfl, rfl⟩; go_wp2; go_returns; exact ⟨rfl, Below.refl _ _⟩
 ·unfold maxLen at hm
  have HI : Hid (Calls Tryz.prog 172 #[.slice (some ⟨g, 0, none⟩) l.length cap, .func (.func gf) #[] lb] w fun e w' => e = .returned (.int .i64 (-1)) ∧ Below w.heap.size w w') := by
   have := AnyQ.slices_IndexFunc Tryz.liw 65 Tryz.isAgg194 Tryz.sizeOf194 Wr.enc Wr.enc_len p gf lb eg g 0 l.length cap l w hp (Nat.le_refl _) (by omega) hk.lt (fun j hj i u hu => by rw [hk.cell, Nat.zero_add]; exact hr j hj i u hu)
   rw [List.take_length] at this
   rcases idxByFrom_spec (fun _ y => p y) default l 0 with ⟨e1, _⟩ | ⟨k0, hk0, e1, ht, _⟩
   ·have e2 : Lib.idxBy (fun _ y => p y) l default = -1 := e1
    rw [e2] at this; exact this
   ·have := hall l[k0]! (by rw [getElem!_pos l k0 hk0]; exact List.getElem_mem hk0)
    have ht' : p l[k0]! = true := ht; rw [this] at ht'
    cases ht'
  clear hp hall hr hs hk
  go_enter Tryz.func160, Tryz.ntmps160
  go_wp2_with fail; refine HI.out.mono ?_; rintro e w1 ⟨rfl, b1⟩; have B1 : Hid (Below w.heap.size w w1) := b1; clear b1; go_wp2; go_returns; exact ⟨rfl, B1.out⟩
end Dk
end Go.Proofs.YtopgllmjeliklaaGreatDoor
