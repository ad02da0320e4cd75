/- Kept PlanLaw Plant. -/
import Derived.Test.YtopgllmjeliklaaGreatDoorKiLedgB
import Derived.Maps.OwnSet
import Derived.Maps.OwnOps
import Derived.DeepKeys4
import Derived.MapViews
set_option maxRecDepth 100000
set_option linter.unusedSimpArgs false
set_option linter.unusedVariables false
namespace Go.Proofs.YtopgllmjeliklaaGreatDoor
open Go.Shelf Go.Lib Go.ChangeShapes Go.WideShapes Go.ChangeAt Go.RowKit
namespace Lg
open Bk Dk Tx
structure LedS (w : World) (base db sb : Nat) (secs : List Sec) (armed : Bool) (left : Int) (L n : Nat) (b : PB) : Prop where
 d : DiskAt w base db sb secs 0 armed left false
 len : 22 ≤ secs.length
 few : secs.length ≤ 1000
 wr : ∀ j, j < secs.length → secs[j]!.wr = []
 lo : LeftOk armed left
 l : ∃ vs vj, Blk w L #[.pointer (some ⟨db, 0, none⟩), .int .i64 n, .int .i64 b.last, vs, vj] 133 ∧ OwnBook w base vs vj b.stays b.jobs
 hL : base ≤ L
 op : openP secs n = some b
theorem Stored.wr2 {secs secs' : List Sec} {nx : Nat} {t : ByteArray} (h : Stored secs secs' nx t) : ∀ j, j < secs'.length → secs'[j]!.wr = [] := fun j hj => h.wr j (by rw [← h.len]; exact hj)
def KeepS (base db sb : Nat) (secs : List Sec) (armed : Bool) (L n : Nat) (b : Book) (w : World) (e : Ending) (w' : World) : Prop :=
 (bookN b n ≠ 0 ∧ e = .returned (errV (bookN b n)) ∧ Below w.heap.size w w') ∨
 (bookN b n = 0 ∧ e = .returned .nilIface ∧ LFr base w w' ∧ ∃ secs' left', LedS w' base db sb secs' armed left' L n ⟨b.last, b.stays, b.jobs⟩ ∧ secs'.length = secs.length) ∨
 (bookN b n = 0 ∧ armed = true ∧ e = .returned (errV 9) ∧ DFr base w w' ∧ ∃ secs' bit' left', LeftOk armed left' ∧ DiskAt w' base db sb secs' bit' armed left' true ∧ Fell secs secs' (nxN secs) ⟨(textL b.last b.stays b.jobs).toArray⟩)
theorem keepS (base db sb : Nat) (secs : List Sec) (armed : Bool) (left : Int) (L n : Nat) (ob : PB) (b : Book) (w : World) (h : LedS w base db sb secs armed left L n ob) (hbase : base ≤ w.heap.size) (G : Glob w) (hbg : Tryz.prog.globals.size ≤ base) (hb : b.At w) (hbl : ∀ W, DFr base w W → b.At W) (n1 : 1 ≤ n) (n4 : n ≤ 4) :
  Calls Tryz.prog 53 #[.pointer (some ⟨L, 0, none⟩), b.val] w (KeepS base db sb secs armed L n b w) := by
 obtain ⟨vs, vj, hL, ho⟩ := h.l; obtain ⟨sa, sc, hvs, _⟩ := ho.s.rows; obtain ⟨ja, jc, hvj, _⟩ := ho.j.rows; refine (keep_any base db sb secs armed left L n ob.last vs vj b w h.d hbase h.lo h.wr h.len h.few G hbg hL h.hL hb hbl n1 n4 ⟨_, _, _, hvs⟩ ⟨_, _, _, hvj⟩).mono ?_; rintro e w' (⟨h1, h2, h3⟩ | ⟨h1, h2, h3, s', l', vs', vj', k1, k2, k3, k4, k5⟩ | ⟨h1, h2, h3, h4, s', b', l', k1, k2, k3⟩)
 ·exact Or.inl ⟨h1, h2, h3⟩
 ·refine Or.inr (Or.inl ⟨h1, h2, h3, s', l', ⟨k2, by rw [k3.len]; exact h.len, by rw [k3.len]; exact h.few, k3.wr2, k1, ⟨vs', vj', k4, bookDown k5 hbase⟩, h.hL, ?_⟩, k3.len⟩)
  have hok := (bookN_zero b n).1 h1; have h5 := text_500 n4 hok; rw [open_stored k3 (nx_le _) h.len (by show (textL b.last b.stays b.jobs).toArray.size ≤ _; rw [List.size_toArray]; omega) (text_no0 n4 hok) n]
  exact parse_text n4 hok
 ·exact Or.inr (Or.inr ⟨h1, h2, h3, h4, s', b', l', k1, k2, k3⟩)
theorem LedS.below {w w' : World} {base db sb : Nat} {secs : List Sec} {armed : Bool} {left : Int} {L n : Nat} {b : PB} (h : LedS w base db sb secs armed left L n b) (hb : Below w.heap.size w w') : LedS w' base db sb secs armed left L n b := by
 obtain ⟨vs, vj, h1, h2⟩ := h.l; exact ⟨h.d.below hb, h.len, h.few, h.wr, h.lo, ⟨vs, vj, h1.below hb, h2.below hb⟩, h.hL, h.op⟩
def OpenS (base db sb : Nat) (secs : List Sec) (armed : Bool) (left : Int) (n : Nat) (b : PB) (w : World) (e : Ending) (w' : World) : Prop :=
 Below w.heap.size w w' ∧ ∃ L, e = .returned (.tuple #[.pointer (some ⟨L, 0, none⟩), .nilIface]) ∧ LedS w' base db sb secs armed left L n b
theorem openS (base db sb : Nat) (secs : List Sec) (armed : Bool) (left : Int) (n : Nat) (b : PB) (w : World) (h : DiskAt w base db sb secs 0 armed left false) (hbase : base ≤ w.heap.size) (h22 : 22 ≤ secs.length) (hn : secs.length ≤ 1000) (hw : ∀ j, j < secs.length → secs[j]!.wr = []) (hlo : LeftOk armed left) (hop : openP secs n = some b) (G : Glob w) (n1 : 1 ≤ n) (n4 : n ≤ 4) :
  Calls Tryz.prog 68 #[.pointer (some ⟨db, 0, none⟩), .int .i64 n] w (OpenS base db sb secs armed left n b w) := by
 refine (open_any base db sb secs 0 armed left n w h (fun i hi => by rw [hw i hi]; simp) hn (by omega) n1 n4 G).mono ?_
 rintro e w' ⟨hb, ⟨hno, _⟩ | ⟨b', vs, vj, L, hyes, rfl, hL, hB, ho⟩⟩
 ·rw [hop] at hno; cases hno
 ·rw [hop] at hyes
  cases hyes
  exact ⟨hb, L, rfl, h.below hb, h22, hn, hw, hlo, ⟨vs, vj, hB, bookDown ho hbase⟩, Nat.le_trans hbase hL, hop⟩
theorem book_zero (n : Nat) (k : Int) (h0 : 0 ≤ k) (h1 : k ≤ 999999) : bookN ⟨k, none, 0, none, 0, [], []⟩ n = 0 := by
 unfold bookN; rw [if_neg (by simp; omega), if_neg (by simp)]
 rfl
theorem parse_zero (n : Nat) (n4 : n ≤ 4) : parseP ⟨#[48, 32, 48, 32, 48]⟩ n = some ⟨0, [], []⟩ := by
 have h := parse_text n4 ((bookN_zero _ _).1 (book_zero n 0 (by decide) (by decide))); rw [text_000] at h; exact h
theorem bookS (base db sb : Nat) (secs : List Sec) (armed : Bool) (left : Int) (L n : Nat) (b : PB) (w : World) (h : LedS w base db sb secs armed left L n b) (hs : b.stays.length ≤ 1000) (hj : b.jobs.length ≤ 1000) :
  Calls Tryz.prog 51 #[.pointer (some ⟨L, 0, none⟩)] w fun e w' => ∃ vs vj, e = .returned (.agg #[.int .i64 b.last, vs, vj]) ∧ OwnBook w' w.heap.size vs vj b.stays b.jobs ∧ Below w.heap.size w w' := by
 obtain ⟨vs, vj, hL, ho⟩ := h.l; obtain ⟨sa, sc, hvs, hrs⟩ := ho.s.rows; obtain ⟨ja, jc, hvj, hrj⟩ := ho.j.rows; subst hvs hvj; exact book_any db L n b.last sa sc ja jc b.stays b.jobs w hL ⟨hrs, hrj⟩ hs hj
end Lg
end Go.Proofs.YtopgllmjeliklaaGreatDoor
-- left out: this seat has not what it speaks of
namespace Go.Proofs.YtopgllmjeliklaaGreatDoor
open Go.ChangeShapes Go.WideShapes Go.ChangeAt Go.RowKit
theorem flatG_0 : ∀ (l : List (Int × Int)) (k : Nat) (h : k < l.length), (flatG l)[k * 2]? = some (.int .i64 l[k].1)
 | g :: l, 0, _ => rfl
 | g :: l, k + 1, h => by
   rw [show (k + 1) * 2 = k * 2 + 1 + 1 from by omega]
   simpa [flatG] using flatG_0 l k (by simpa using h)
theorem flatG_1 : ∀ (l : List (Int × Int)) (k : Nat) (h : k < l.length), (flatG l)[k * 2 + 1]? = some (.int .i64 l[k].2)
 | g :: l, 0, _ => rfl
 | g :: l, k + 1, h => by
   rw [show (k + 1) * 2 + 1 = k * 2 + 1 + 1 + 1 from by omega]
   simpa [flatG] using flatG_1 l k (by simpa using h)
def GoalsAt (w : World) (v : Value) (l : List (Int × Int)) : Prop :=
 ∃ g cap, v = .slice (some ⟨g, 0, none⟩) l.length cap ∧ g < w.heap.size ∧ (l.length ≤ 100 ∧ l.length ≤ cap ∧ cap ≤ maxLen ∧ ∃ cur, w.heap[g]? = some (.cells cur 102 (0, 0))) ∧ ∀ k (h : k < l.length), w.cell? ⟨g, k * 2, none⟩ = some (.int .i64 l[k].1) ∧ w.cell? ⟨g, k * 2 + 1, none⟩ = some (.int .i64 l[k].2)
theorem GoalsOwn.at {w w' : World} {v : Value} {l : List (Int × Int)} (h : GoalsOwn w w' v l) (h0 : 0 < l.length) (h1 : l.length ≤ 100) : GoalsAt w' v l := by
 obtain ⟨ho, hb⟩ := h; have ho' := ho
 rcases ho.2 with ⟨_, hn⟩ | ⟨g, cap, cur, rfl, hg, hblk, hle, hmx, _⟩
 ·omega
 ·refine ⟨g, cap, rfl, ?_, ⟨h1, hle, hmx, cur, hblk⟩, fun k hk => ⟨?_, ?_⟩⟩
  ·rcases Nat.lt_or_ge g w'.heap.size with h | h
   ·exact h
   ·rw [Array.getElem?_eq_none h] at hblk; cases hblk
  ·rw [ho'.cellAt _ (by omega), flatG_0 l k hk]
  ·rw [ho'.cellAt _ (by omega), flatG_1 l k hk]
def PS (w wx : World) (x y z : Int) : Prop :=
 Below w.heap.size w wx ∧ w.heap.size + 1 ≤ wx.heap.size ∧ ∀ o, wx.cell? ⟨w.heap.size, o, none⟩ = (#[.int .i64 x, .int .i64 y, .int .i64 z] : Array Value)[o]?
set_option maxHeartbeats 400000 in
theorem fetch_any (x y z : Int) (w : World) (hx1 : 1 ≤ x) (hx4 : x ≤ 4) (hz0 : 0 ≤ z) (hz1 : z ≤ 1) :
  Calls Tryz.prog 81 #[.agg #[.int .i64 x, .int .i64 y, .int .i64 z]] w fun e w' =>
   ∃ v, e = .returned v ∧ GoalsAt w' v [(2, 0), (5, 0), (1, x * 3), (2, extI y z), (3, 0), (2, 0)] ∧ Below w.heap.size w w' := by
 go_enter Tryz.func81, Tryz.ntmps81
 go_wp2_with fail; refine (visit_any _ _ _ _ _ hx1 hx4 hz0 hz1).mono ?_; rintro e w1 ⟨v, rfl, ho⟩; have X : Hid (GoalsAt w1 v [(2, 0), (5, 0), (1, x * 3), (2, extI y z), (3, 0), (2, 0)]) := ho.at (by simp) (by simp); have Y : Hid (Below w.heap.size w w1) := B.next (B.new1 _ _) ho.2 (by simp); clear ho; go_wp2; go_returns; exact ⟨_, rfl, X.out, Y.out⟩
set_option maxHeartbeats 400000 in
theorem bring_any (x y z : Int) (w : World) (hx1 : 1 ≤ x) (hx4 : x ≤ 4) (hz0 : 0 ≤ z) (hz1 : z ≤ 1) :
  Calls Tryz.prog 116 #[.agg #[.int .i64 x, .int .i64 y, .int .i64 z]] w fun e w' =>
   ∃ v, e = .returned v ∧ GoalsAt w' v [(2, 0), (5, 0), (1, x * 3), (2, extI y z), (4, 0), (2, 0)] ∧ Below w.heap.size w w' := by
 go_enter Tryz.func116, Tryz.ntmps116
 go_wp2_with fail; refine (visit_any _ _ _ _ _ hx1 hx4 hz0 hz1).mono ?_; rintro e w1 ⟨v, rfl, ho⟩; have X : Hid (GoalsAt w1 v [(2, 0), (5, 0), (1, x * 3), (2, extI y z), (4, 0), (2, 0)]) := ho.at (by simp) (by simp); have Y : Hid (Below w.heap.size w w1) := B.next (B.new1 _ _) ho.2 (by simp); clear ho; go_wp2; go_returns; exact ⟨_, rfl, X.out, Y.out⟩
-- left out: this seat has not what it speaks of
-- left out: this seat has not what it speaks of
-- left out: this seat has not what it speaks of
-- left out: this seat has not what it speaks of
-- left out: this seat has not what it speaks of
end Go.Proofs.YtopgllmjeliklaaGreatDoor
namespace Go.Proofs.YtopgllmjeliklaaGreatDoor
open Go.ChangeShapes Go.WideShapes Go.ChangeAt Go.RowKit Go.Maps
namespace Pl
theorem rowP : (65 : TypeId) < Tryz.prog.types.size := of_decide_eq_true (by kernel_rfl)
theorem wideP : (match Tryz.prog.underlying 65 with | some (.array _ _) | some (.struct _) => true | _ => false) = true := by kernel_rfl
theorem law : Keyed Tryz.prog 65 := Keyed.of_law (deep_law_laid Tryz.laidOut (m := 3) (by omega) rowP (by kernel_rfl) wideP)
theorem zeroI (w : World) : (zeroValue 3).run Tryz.prog w = .ok (.int .i64 0) w := by kernel_rfl
theorem deepP : Tryz.prog.keyTypeAt (Tryz.prog.types.size + 1) 65 = true := by kernel_rfl
theorem cellsP : Tryz.prog.cellsOf 65 = 3 := by kernel_rfl
theorem cellsI : Tryz.prog.cellsOf 3 = 1 := by kernel_rfl
def pk (x y z : Int) : Lit := .string (keyBytes [.int .i64 x, .int .i64 y, .int .i64 z])
theorem wfI {n : Int} (h : -9223372036854775808 ≤ n ∧ n ≤ 9223372036854775807) : (Lit.int .i64 n).wf = true := WalkArith.wf_i64 (by omega)
theorem key_place {x y z : Int} (hx : (Lit.int .i64 x).wf = true) (hy : (Lit.int .i64 y).wf = true) (hz : (Lit.int .i64 z).wf = true) :
  keyOf Tryz.prog 65 (.agg #[.int .i64 x, .int .i64 y, .int .i64 z]) = some (pk x y z) := by
 have hk : Tryz.prog.keyType 65 = true := deepP; have hf : (Value.agg #[.int .i64 x, .int .i64 y, .int .i64 z]).formed Tryz.prog 65 = true := by simp [Value.formed, Tryz.underlying65, cellsP]
 have hn : ∃ m, Tryz.prog.types.size + 1 = m + 2 := ⟨Tryz.prog.types.size - 1, by have h1 : (65 : Nat) < Tryz.prog.types.size := rowP; omega⟩
 obtain ⟨m, hm⟩ := hn; unfold keyOf; rw [Tryz.underlying65]; simp only [hk, hf, Bool.and_self, if_true, hm]
 simp [Program.keyLits, Tryz.underlying65, Tryz.underlying3, cellsP, cellsI, Value.cells, hx, hy, hz, pk]
theorem set3_2 {w : World} {b : Nat} {a0 a1 a2 : Value} (g : ∀ o, w.cell? ⟨b, o, none⟩ = #[a0, a1, a2][o]?) (x y z : Value) : (((w.setCell ⟨b, 0, none⟩ x).setCell ⟨b, 1, none⟩ y).setCell ⟨b, 2, none⟩ z).cell? ⟨b, 2, none⟩ = some z := by
 have h0 := g 0; have h1 := g 1; have h2 := g 2
 simp at h0 h1 h2
 simp [World.cell?_setCell_same', World.cell?_setCell_other, h0, h1, h2]
theorem set3_1 {w : World} {b : Nat} {a0 a1 a2 : Value} (g : ∀ o, w.cell? ⟨b, o, none⟩ = #[a0, a1, a2][o]?) (x y z : Value) : (((w.setCell ⟨b, 0, none⟩ x).setCell ⟨b, 1, none⟩ y).setCell ⟨b, 2, none⟩ z).cell? ⟨b, 1, none⟩ = some y := by
 have h0 := g 0; have h1 := g 1; have h2 := g 2
 simp at h0 h1 h2
 simp [World.cell?_setCell_same', World.cell?_setCell_other, h0, h1, h2]
theorem set3_0 {w : World} {b : Nat} {a0 a1 a2 : Value} (g : ∀ o, w.cell? ⟨b, o, none⟩ = #[a0, a1, a2][o]?) (x y z : Value) : (((w.setCell ⟨b, 0, none⟩ x).setCell ⟨b, 1, none⟩ y).setCell ⟨b, 2, none⟩ z).cell? ⟨b, 0, none⟩ = some x := by
 have h0 := g 0; have h1 := g 1; have h2 := g 2
 simp at h0 h1 h2
 simp [World.cell?_setCell_same', World.cell?_setCell_other, h0, h1, h2]
def endB (lv h ex : Int) : Bool := decide (0 < h ∧ h % 3 = 0 ∧ ex ≠ 0) && placeB (h / 3) (if ex < 0 then 0 else 1) (if ex < 0 then -ex - 1 else ex - 1) lv
def endX (lv h ex : Int) : Int := if endB lv h ex = true then h / 3 else 0
def endY (lv h ex : Int) : Int := if endB lv h ex = true then (if ex < 0 then 0 else 1) else 0
def endZ (lv h ex : Int) : Int := if endB lv h ex = true then (if ex < 0 then -ex - 1 else ex - 1) else 0
def endV (lv h ex : Int) : Value := .tuple #[.agg #[.int .i64 (endX lv h ex), .int .i64 (endY lv h ex), .int .i64 (endZ lv h ex)], .bool (endB lv h ex)]
theorem endV_f {lv h ex : Int} (k : endB lv h ex = false) : endV lv h ex = .tuple #[.agg #[.int .i64 0, .int .i64 0, .int .i64 0], .bool false] := by simp [endV, endX, endY, endZ, k]
set_option maxHeartbeats 1000000 in
theorem end_a (pb : Nat) (lv h ex : Int) (w : World) (c1 : w.cell? ⟨pb, 1, none⟩ = some (.int .i64 h)) (h0 : 0 ≤ h) (h12 : h ≤ 12) (k : decide (0 < h ∧ h % 3 = 0 ∧ ex ≠ 0) = false) :
  Calls Tryz.prog 76 #[.pointer (some ⟨pb, 0, none⟩), .int .i64 ex] w fun e w' => e = .returned (endV lv h ex) ∧ Below w.heap.size w w' := by
 have hlt : pb < w.heap.size := World.block_lt_of_cell? w _ c1; have c1' : ∀ o, (w.alloc o).cell? ⟨pb, 1, none⟩ = some (.int .i64 h) := fun o => ((B.cell (B.new1 w o)) pb 1 hlt).trans c1
 have K : Hid (endV lv h ex = .tuple #[.agg #[.int .i64 0, .int .i64 0, .int .i64 0], .bool false]) := endV_f (by simp [endB, k]); have K2 : Hid (decide (0 < h ∧ h % 3 = 0 ∧ ex ≠ 0) = false) := k; clear k
 go_enter Tryz.func76, Tryz.ntmps76
 go_wp2_with fail
 all_goals first
  | (go_returns; exact ⟨by rw [K.out], by go_grown⟩)
  | (exfalso; go_light; have := K2.out; simp only [decide_eq_false_iff_not] at this; simp only [beq_eq_false_iff_ne, ne_eq] at *; omega)
set_option maxHeartbeats 1000000 in
theorem end_b (pb : Nat) (lv h ex : Int) (w : World) (c0 : w.cell? ⟨pb, 0, none⟩ = some (.int .i64 lv)) (c1 : w.cell? ⟨pb, 1, none⟩ = some (.int .i64 h)) (h0 : 0 < h) (h12 : h ≤ 12) (hm : h % 3 = 0) (e0 : 0 < ex) (e3 : ex ≤ 3) (k : placeB (h / 3) 1 (ex - 1) lv = true) :
  Calls Tryz.prog 76 #[.pointer (some ⟨pb, 0, none⟩), .int .i64 ex] w fun e w' => e = .returned (.tuple #[.agg #[.int .i64 (h / 3), .int .i64 1, .int .i64 (ex - 1)], .bool true]) ∧ Below w.heap.size w w' := by
 have hlt : pb < w.heap.size := World.block_lt_of_cell? w _ c1; have c1' : ∀ o, (w.alloc o).cell? ⟨pb, 1, none⟩ = some (.int .i64 h) := fun o => ((B.cell (B.new1 w o)) pb 1 hlt).trans c1
 have c0' : ∀ wx, Below w.heap.size w wx → wx.cell? ⟨pb, 0, none⟩ = some (.int .i64 lv) := fun wx hb => (B.cell hb pb 0 hlt).trans c0
 have K : Hid (placeB (h / 3) 1 (ex - 1) lv = true) := k; have e1 : (ex == 0) = false := by simp; omega
 clear k
 go_enter Tryz.func76, Tryz.ntmps76
 go_wp2_with fail
 go_region_held3 (fun wx => wx.cell? ⟨pb, 0, none⟩ = some (.int .i64 lv) ∧ wx.cell? ⟨w.heap.size + 1, 0, none⟩ = some (.int .i64 (h / 3)) ∧ wx.cell? ⟨w.heap.size + 1, 1, none⟩ = some (.int .i64 1) ∧ wx.cell? ⟨w.heap.size + 1, 2, none⟩ = some (.int .i64 (ex - 1))) (first | go_keep | (refine ⟨c0' _ (by go_grown), ?_, ?_, ?_⟩ <;> simp))
  (first
    | (go_at_call 92; refine (checkPlace_any _ _ _ _ _).mono ?_; rw [K.out, faultN_t, errV0]; rintro e w1 ⟨rfl, hb1⟩
       have z1 : w.heap.size + 2 ≤ w1.heap.size := by have := hb1.size; simp at this; omega
       have s1 := B.row hb1 (b := w.heap.size + 1) (C := #[.int .i64 (h / 3), .int .i64 1, .int .i64 (ex - 1)]) (fun o => by rw [show w.heap.size + 1 = (w.alloc (.cells #[.int .i64 0, .int .i64 0, .int .i64 0] 65)).heap.size from by simp]; exact B.row_new _ _ _ o) (by simp)
       have g1 := B.row hb1 (b := w.heap.size) (C := #[.int .i64 0, .int .i64 0, .int .i64 0]) (B.row_old _ (B.row_new w _ _) (by simp)) (by simp; omega); have f1 : ∀ o, w1.frozen? ⟨w.heap.size, o, none⟩ = false := fun o => (B.frozen hb1 _ o (by simp; omega)).trans (by simp)
       have B1 : Hid (Below w.heap.size w w1) := B.next (by go_grown) hb1 (by simp; omega); have c01 := c0' w1 B1.out; have q0 := set3_0 g1; have q1 := set3_1 g1; have q2 := set3_2 g1; clear hb1))
 go_wp2
 (try simp only [Exit.inBlock, Exit.then])
 refine bodyPost_ret (by simp [results, Tryz.results76, go_sem, q0, q1, q2]; try rfl) rfl ?_; exact ⟨by simp, by have := B1.out; go_grown⟩
set_option maxHeartbeats 1000000 in
theorem end_c (pb : Nat) (lv h ex : Int) (w : World) (c0 : w.cell? ⟨pb, 0, none⟩ = some (.int .i64 lv)) (c1 : w.cell? ⟨pb, 1, none⟩ = some (.int .i64 h)) (h0 : 0 < h) (h12 : h ≤ 12) (hm : h % 3 = 0) (e0 : 0 < ex) (e3 : ex ≤ 3) (k : placeB (h / 3) 1 (ex - 1) lv = false) :
  Calls Tryz.prog 76 #[.pointer (some ⟨pb, 0, none⟩), .int .i64 ex] w fun e w' => e = .returned (.tuple #[.agg #[.int .i64 0, .int .i64 0, .int .i64 0], .bool false]) ∧ Below w.heap.size w w' := by
 have hlt : pb < w.heap.size := World.block_lt_of_cell? w _ c1; have c1' : ∀ o, (w.alloc o).cell? ⟨pb, 1, none⟩ = some (.int .i64 h) := fun o => ((B.cell (B.new1 w o)) pb 1 hlt).trans c1
 have c0' : ∀ wx, Below w.heap.size w wx → wx.cell? ⟨pb, 0, none⟩ = some (.int .i64 lv) := fun wx hb => (B.cell hb pb 0 hlt).trans c0
 have K : Hid (placeB (h / 3) 1 (ex - 1) lv = false) := k; have e1 : (ex == 0) = false := by simp; omega
 clear k
 go_enter Tryz.func76, Tryz.ntmps76
 go_wp2_with fail
 go_region_held3 (fun wx => wx.cell? ⟨pb, 0, none⟩ = some (.int .i64 lv) ∧ wx.cell? ⟨w.heap.size + 1, 0, none⟩ = some (.int .i64 (h / 3)) ∧ wx.cell? ⟨w.heap.size + 1, 1, none⟩ = some (.int .i64 1) ∧ wx.cell? ⟨w.heap.size + 1, 2, none⟩ = some (.int .i64 (ex - 1))) (first | go_keep | (refine ⟨c0' _ (by go_grown), ?_, ?_, ?_⟩ <;> simp))
  (first
    | (go_at_call 92; refine (checkPlace_any _ _ _ _ _).mono ?_; rw [K.out, faultN_f, errV_ne (by decide)]; rintro e w1 ⟨rfl, hb1⟩
       have z1 : w.heap.size + 2 ≤ w1.heap.size := by have := hb1.size; simp at this; omega
       have s1 := B.row hb1 (b := w.heap.size + 1) (C := #[.int .i64 (h / 3), .int .i64 1, .int .i64 (ex - 1)]) (fun o => by rw [show w.heap.size + 1 = (w.alloc (.cells #[.int .i64 0, .int .i64 0, .int .i64 0] 65)).heap.size from by simp]; exact B.row_new _ _ _ o) (by simp)
       have g1 := B.row hb1 (b := w.heap.size) (C := #[.int .i64 0, .int .i64 0, .int .i64 0]) (B.row_old _ (B.row_new w _ _) (by simp)) (by simp; omega); have f1 : ∀ o, w1.frozen? ⟨w.heap.size, o, none⟩ = false := fun o => (B.frozen hb1 _ o (by simp; omega)).trans (by simp)
       have B1 : Hid (Below w.heap.size w w1) := B.next (by go_grown) hb1 (by simp; omega); have c01 := c0' w1 B1.out; have q0 := set3_0 g1; have q1 := set3_1 g1; have q2 := set3_2 g1; clear hb1))
 go_wp2
 (try simp only [Exit.inBlock, Exit.then])
 refine bodyPost_ret (by simp [results, Tryz.results76, go_sem, q0, q1, q2]; try rfl) rfl ?_; exact ⟨by simp, by have := B1.out; go_grown⟩
set_option maxHeartbeats 1000000 in
theorem end_d (pb : Nat) (lv h ex : Int) (w : World) (c0 : w.cell? ⟨pb, 0, none⟩ = some (.int .i64 lv)) (c1 : w.cell? ⟨pb, 1, none⟩ = some (.int .i64 h)) (h0 : 0 < h) (h12 : h ≤ 12) (hm : h % 3 = 0) (e0 : ex < 0) (e3 : -3 ≤ ex) (k : placeB (h / 3) 0 (-ex - 1) lv = true) :
  Calls Tryz.prog 76 #[.pointer (some ⟨pb, 0, none⟩), .int .i64 ex] w fun e w' => e = .returned (.tuple #[.agg #[.int .i64 (h / 3), .int .i64 0, .int .i64 (-ex - 1)], .bool true]) ∧ Below w.heap.size w w' := by
 have hlt : pb < w.heap.size := World.block_lt_of_cell? w _ c1; have c1' : ∀ o, (w.alloc o).cell? ⟨pb, 1, none⟩ = some (.int .i64 h) := fun o => ((B.cell (B.new1 w o)) pb 1 hlt).trans c1
 have c0' : ∀ wx, Below w.heap.size w wx → wx.cell? ⟨pb, 0, none⟩ = some (.int .i64 lv) := fun wx hb => (B.cell hb pb 0 hlt).trans c0
 have K : Hid (placeB (h / 3) 0 (-ex - 1) lv = true) := k; have e1 : (ex == 0) = false := by simp; omega
 clear k
 go_enter Tryz.func76, Tryz.ntmps76
 go_wp2_with fail
 go_region_held3 (fun wx => wx.cell? ⟨pb, 0, none⟩ = some (.int .i64 lv) ∧ wx.cell? ⟨w.heap.size + 1, 0, none⟩ = some (.int .i64 (h / 3)) ∧ wx.cell? ⟨w.heap.size + 1, 1, none⟩ = some (.int .i64 0) ∧ wx.cell? ⟨w.heap.size + 1, 2, none⟩ = some (.int .i64 (-ex - 1))) (first | go_keep | (refine ⟨c0' _ (by go_grown), ?_, ?_, ?_⟩ <;> simp))
  (first
    | (go_at_call 92; refine (checkPlace_any _ _ _ _ _).mono ?_; rw [K.out, faultN_t, errV0]; rintro e w1 ⟨rfl, hb1⟩
       have z1 : w.heap.size + 2 ≤ w1.heap.size := by have := hb1.size; simp at this; omega
       have s1 := B.row hb1 (b := w.heap.size + 1) (C := #[.int .i64 (h / 3), .int .i64 0, .int .i64 (-ex - 1)]) (fun o => by rw [show w.heap.size + 1 = (w.alloc (.cells #[.int .i64 0, .int .i64 0, .int .i64 0] 65)).heap.size from by simp]; exact B.row_new _ _ _ o) (by simp)
       have g1 := B.row hb1 (b := w.heap.size) (C := #[.int .i64 0, .int .i64 0, .int .i64 0]) (B.row_old _ (B.row_new w _ _) (by simp)) (by simp; omega); have f1 : ∀ o, w1.frozen? ⟨w.heap.size, o, none⟩ = false := fun o => (B.frozen hb1 _ o (by simp; omega)).trans (by simp)
       have B1 : Hid (Below w.heap.size w w1) := B.next (by go_grown) hb1 (by simp; omega); have c01 := c0' w1 B1.out; have q0 := set3_0 g1; have q1 := set3_1 g1; have q2 := set3_2 g1; clear hb1))
 go_wp2
 (try simp only [Exit.inBlock, Exit.then])
 refine bodyPost_ret (by simp [results, Tryz.results76, go_sem, q0, q1, q2]; try rfl) rfl ?_; exact ⟨by simp, by have := B1.out; go_grown⟩
set_option maxHeartbeats 1000000 in
theorem end_e (pb : Nat) (lv h ex : Int) (w : World) (c0 : w.cell? ⟨pb, 0, none⟩ = some (.int .i64 lv)) (c1 : w.cell? ⟨pb, 1, none⟩ = some (.int .i64 h)) (h0 : 0 < h) (h12 : h ≤ 12) (hm : h % 3 = 0) (e0 : ex < 0) (e3 : -3 ≤ ex) (k : placeB (h / 3) 0 (-ex - 1) lv = false) :
  Calls Tryz.prog 76 #[.pointer (some ⟨pb, 0, none⟩), .int .i64 ex] w fun e w' => e = .returned (.tuple #[.agg #[.int .i64 0, .int .i64 0, .int .i64 0], .bool false]) ∧ Below w.heap.size w w' := by
 have hlt : pb < w.heap.size := World.block_lt_of_cell? w _ c1; have c1' : ∀ o, (w.alloc o).cell? ⟨pb, 1, none⟩ = some (.int .i64 h) := fun o => ((B.cell (B.new1 w o)) pb 1 hlt).trans c1
 have c0' : ∀ wx, Below w.heap.size w wx → wx.cell? ⟨pb, 0, none⟩ = some (.int .i64 lv) := fun wx hb => (B.cell hb pb 0 hlt).trans c0
 have K : Hid (placeB (h / 3) 0 (-ex - 1) lv = false) := k; have e1 : (ex == 0) = false := by simp; omega
 clear k
 go_enter Tryz.func76, Tryz.ntmps76
 go_wp2_with fail
 go_region_held3 (fun wx => wx.cell? ⟨pb, 0, none⟩ = some (.int .i64 lv) ∧ wx.cell? ⟨w.heap.size + 1, 0, none⟩ = some (.int .i64 (h / 3)) ∧ wx.cell? ⟨w.heap.size + 1, 1, none⟩ = some (.int .i64 0) ∧ wx.cell? ⟨w.heap.size + 1, 2, none⟩ = some (.int .i64 (-ex - 1))) (first | go_keep | (refine ⟨c0' _ (by go_grown), ?_, ?_, ?_⟩ <;> simp))
  (first
    | (go_at_call 92; refine (checkPlace_any _ _ _ _ _).mono ?_; rw [K.out, faultN_f, errV_ne (by decide)]; rintro e w1 ⟨rfl, hb1⟩
       have z1 : w.heap.size + 2 ≤ w1.heap.size := by have := hb1.size; simp at this; omega
       have s1 := B.row hb1 (b := w.heap.size + 1) (C := #[.int .i64 (h / 3), .int .i64 0, .int .i64 (-ex - 1)]) (fun o => by rw [show w.heap.size + 1 = (w.alloc (.cells #[.int .i64 0, .int .i64 0, .int .i64 0] 65)).heap.size from by simp]; exact B.row_new _ _ _ o) (by simp)
       have g1 := B.row hb1 (b := w.heap.size) (C := #[.int .i64 0, .int .i64 0, .int .i64 0]) (B.row_old _ (B.row_new w _ _) (by simp)) (by simp; omega); have f1 : ∀ o, w1.frozen? ⟨w.heap.size, o, none⟩ = false := fun o => (B.frozen hb1 _ o (by simp; omega)).trans (by simp)
       have B1 : Hid (Below w.heap.size w w1) := B.next (by go_grown) hb1 (by simp; omega); have c01 := c0' w1 B1.out; have q0 := set3_0 g1; have q1 := set3_1 g1; have q2 := set3_2 g1; clear hb1))
 go_wp2
 (try simp only [Exit.inBlock, Exit.then])
 refine bodyPost_ret (by simp [results, Tryz.results76, go_sem, q0, q1, q2]; try rfl) rfl ?_; exact ⟨by simp, by have := B1.out; go_grown⟩
theorem end_any (pb : Nat) (lv h ex : Int) (w : World) (c0 : w.cell? ⟨pb, 0, none⟩ = some (.int .i64 lv)) (c1 : w.cell? ⟨pb, 1, none⟩ = some (.int .i64 h)) (h0 : 0 ≤ h) (h12 : h ≤ 12) (e0 : -3 ≤ ex) (e3 : ex ≤ 3) :
  Calls Tryz.prog 76 #[.pointer (some ⟨pb, 0, none⟩), .int .i64 ex] w fun e w' => e = .returned (endV lv h ex) ∧ Below w.heap.size w w' := by
 cases k : decide (0 < h ∧ h % 3 = 0 ∧ ex ≠ 0) with
 | false => exact end_a pb lv h ex w c1 h0 h12 k
 | true =>
   have k' := k; simp only [decide_eq_true_eq] at k'
   by_cases hn : ex < 0
   ·cases q : placeB (h / 3) 0 (-ex - 1) lv with
    | true => rw [show endV lv h ex = .tuple #[.agg #[.int .i64 (h / 3), .int .i64 0, .int .i64 (-ex - 1)], .bool true] from by simp only [endV, endX, endY, endZ, endB, k, hn, q, if_true, Bool.and_self]]; exact end_d pb lv h ex w c0 c1 k'.1 h12 k'.2.1 hn e0 q
    | false => rw [endV_f (by simp only [endB, k, hn, q, if_true, Bool.and_false])]; exact end_e pb lv h ex w c0 c1 k'.1 h12 k'.2.1 hn e0 q
   ·cases q : placeB (h / 3) 1 (ex - 1) lv with
    | true => rw [show endV lv h ex = .tuple #[.agg #[.int .i64 (h / 3), .int .i64 1, .int .i64 (ex - 1)], .bool true] from by simp only [endV, endX, endY, endZ, endB, k, hn, q, if_true, if_false, Bool.and_self]]; exact end_b pb lv h ex w c0 c1 k'.1 h12 k'.2.1 (by omega) e3 q
    | false => rw [endV_f (by simp only [endB, k, hn, q, if_true, if_false, Bool.and_false])]; exact end_c pb lv h ex w c0 c1 k'.1 h12 k'.2.1 (by omega) e3 q
abbrev Cars (w : World) (mb n : Nat) (D : DataW Unit) : Prop := w.ownsMap Tryz.prog 65 (plainElem Tryz.prog 3) mb n D
def carOf (D : DataW Unit) (x y z : Int) : Int := match D.atKey (pk x y z) (.lit (.int .i64 0)) with | .lit (.int .i64 c) => c | _ => 0
theorem carOf_of {D : DataW Unit} {x y z c : Int} (h : D.atKey (pk x y z) (.lit (.int .i64 0)) = .lit (.int .i64 c)) : carOf D x y z = c := by simp [carOf, h]
set_option maxHeartbeats 1000000 in
theorem at_any (pb mb n : Nat) (D : DataW Unit) (x y z : Int) (w : World) (c7 : w.cell? ⟨pb, 7, none⟩ = some (.map (some mb))) (hown : Cars w mb n D) (hx : (Lit.int .i64 x).wf = true) (hy : (Lit.int .i64 y).wf = true) (hz : (Lit.int .i64 z).wf = true) :
  Calls Tryz.prog 34 #[.pointer (some ⟨pb, 0, none⟩), .agg #[.int .i64 x, .int .i64 y, .int .i64 z]] w fun e w' => e = .returned (.int .i64 (carOf D x y z)) ∧ Below w.heap.size w w' := by
 have hlt : pb < w.heap.size := World.block_lt_of_cell? w _ c7; have c7' : ∀ o, (w.alloc o).cell? ⟨pb, 7, none⟩ = some (.map (some mb)) := fun o => ((B.cell (B.new1 w o)) pb 7 hlt).trans c7
 have hkey := key_place hx hy hz; have hown1 : Cars (w.alloc (.cells #[.int .i64 x, .int .i64 y, .int .i64 z] 65)).drew mb n D := hown.alloc _; obtain ⟨c, hrun, hat, hwc⟩ := hown1.lookup_int law Tryz.underlying90 Tryz.underlying3 (zeroI _) hkey; have K : Hid (carOf D x y z = c) := carOf_of hat
 clear hat hown1
 go_enter Tryz.func34, Tryz.ntmps34
 go_wp2_with fail
 go_region
 go_wp2; go_returns; exact ⟨B.ret_int K.out.symm, by go_grown⟩
end Pl
end Go.Proofs.YtopgllmjeliklaaGreatDoor
