/- Chapter 9: a ledger as the laws have it: Kept, and what Keep and Open do to it. -/
import Derived.Test.YtopgllmjeliklaaGreatDoorJPlan
import Derived.Test.YtopgllmjeliklaaGreatDoorJLedgB
import Derived.Deep.DeepCutAuto
import Derived.Deep.LoopGhost
namespace Go.Proofs.YtopgllmjeliklaaGreatDoor
open Go.Shelf Go.Lib Go.ChangeShapes Go.WideShapes Go.ChangeAt Go.RowKit
set_option maxRecDepth 100000
set_option linter.unusedSimpArgs false
set_option linter.unusedVariables false

namespace Lg
open Bk Dk Tx
/-- A ledger and its disk. -/
structure LedS (w : World) (base db sb : Nat) (secs : List Sec) (armed : Bool) (left : Int) (L n : Nat) (b : PB) : Prop where
  d : DiskAt w base db sb secs 0 armed left false
  len : 22 ≤ secs.length
  few : secs.length ≤ 1000
  wr : ∀ j, j < secs.length → secs[j]!.wr = []
  lo : LeftOk armed left
  l : ∃ vs vj, Blk w L #[.pointer (some ⟨db, 0, none⟩), .int .i64 n, .int .i64 b.last, vs, vj] 133 ∧ OwnBook w base vs vj b.stays b.jobs
  hL : base ≤ L
  op : openP secs n = some b
theorem Stored.wr2 {secs secs' : List Sec} {nx : Nat} {t : ByteArray} (h : Stored secs secs' nx t) : ∀ j, j < secs'.length → secs'[j]!.wr = [] := fun j hj => h.wr j (by rw [← h.len]; exact hj)
theorem text_list (l : List UInt8) : (⟨l.toArray⟩ : ByteArray).data.toList = l := rfl
/-- What Keep does to a ledger. -/
def KeepS (base db sb : Nat) (secs : List Sec) (armed : Bool) (L n : Nat) (b : Book) (w : World) (e : Ending) (w' : World) : Prop :=
  (bookN b n ≠ 0 ∧ e = .returned (errV (bookN b n)) ∧ Below w.heap.size w w') ∨
  (bookN b n = 0 ∧ e = .returned .nilIface ∧ LFr base w w' ∧ ∃ secs' left', LedS w' base db sb secs' armed left' L n ⟨b.last, b.stays, b.jobs⟩ ∧ secs'.length = secs.length) ∨
  (bookN b n = 0 ∧ armed = true ∧ e = .returned (errV 9) ∧ DFr base w w' ∧ ∃ secs' bit' left', LeftOk armed left' ∧ DiskAt w' base db sb secs' bit' armed left' true ∧ Fell secs secs' (nxN secs) ⟨(textL b.last b.stays b.jobs).toArray⟩)
theorem keepS (base db sb : Nat) (secs : List Sec) (armed : Bool) (left : Int) (L n : Nat) (ob : PB) (b : Book) (w : World) (h : LedS w base db sb secs armed left L n ob) (hbase : base ≤ w.heap.size) (G : Glob w) (hbg : Tryz.prog.globals.size ≤ base) (hb : b.At w) (hbl : ∀ W, DFr base w W → b.At W) (n1 : 1 ≤ n) (n4 : n ≤ 4) :
    Calls Tryz.prog 53 #[.pointer (some ⟨L, 0, none⟩), b.val] w (KeepS base db sb secs armed L n b w) := by
  obtain ⟨vs, vj, hL, ho⟩ := h.l
  obtain ⟨sa, sc, hvs, _⟩ := ho.s.rows
  obtain ⟨ja, jc, hvj, _⟩ := ho.j.rows
  refine (keep_any base db sb secs armed left L n ob.last vs vj b w h.d hbase h.lo h.wr h.len h.few G hbg hL h.hL hb hbl n1 n4 ⟨_, _, _, hvs⟩ ⟨_, _, _, hvj⟩).mono ?_
  rintro e w' (⟨h1, h2, h3⟩ | ⟨h1, h2, h3, s', l', vs', vj', k1, k2, k3, k4, k5⟩ | ⟨h1, h2, h3, h4, s', b', l', k1, k2, k3⟩)
  · exact Or.inl ⟨h1, h2, h3⟩
  · refine Or.inr (Or.inl ⟨h1, h2, h3, s', l', ⟨k2, by rw [k3.len]; exact h.len, by rw [k3.len]; exact h.few, k3.wr2, k1, ⟨vs', vj', k4, bookDown k5 hbase⟩, h.hL, ?_⟩, k3.len⟩)
    have hok := (bookN_zero b n).1 h1
    have h5 := text_500 n4 hok
    rw [open_stored k3 (nx_le _) h.len (by show (textL b.last b.stays b.jobs).toArray.size ≤ _; rw [List.size_toArray]; omega) (text_no0 n4 hok) n]
    exact parse_text n4 hok
  · exact Or.inr (Or.inr ⟨h1, h2, h3, h4, s', b', l', k1, k2, k3⟩)
theorem LedS.below {w w' : World} {base db sb : Nat} {secs : List Sec} {armed : Bool} {left : Int} {L n : Nat} {b : PB} (h : LedS w base db sb secs armed left L n b) (hb : Below w.heap.size w w') : LedS w' base db sb secs armed left L n b := by
  obtain ⟨vs, vj, h1, h2⟩ := h.l
  exact ⟨h.d.below hb, h.len, h.few, h.wr, h.lo, ⟨vs, vj, h1.below hb, h2.below hb⟩, h.hL, h.op⟩
/-- What Open does. -/
def OpenS (base db sb : Nat) (secs : List Sec) (armed : Bool) (left : Int) (n : Nat) (b : PB) (w : World) (e : Ending) (w' : World) : Prop :=
  Below w.heap.size w w' ∧ ∃ L, e = .returned (.tuple #[.pointer (some ⟨L, 0, none⟩), .nilIface]) ∧ LedS w' base db sb secs armed left L n b
theorem openS (base db sb : Nat) (secs : List Sec) (armed : Bool) (left : Int) (n : Nat) (b : PB) (w : World) (h : DiskAt w base db sb secs 0 armed left false) (hbase : base ≤ w.heap.size) (h22 : 22 ≤ secs.length) (hn : secs.length ≤ 1000) (hw : ∀ j, j < secs.length → secs[j]!.wr = []) (hlo : LeftOk armed left) (hop : openP secs n = some b) (G : Glob w) (n1 : 1 ≤ n) (n4 : n ≤ 4) :
    Calls Tryz.prog 68 #[.pointer (some ⟨db, 0, none⟩), .int .i64 n] w (OpenS base db sb secs armed left n b w) := by
  refine (open_any base db sb secs 0 armed left n w h (fun i hi => by rw [hw i hi]; simp) hn (by omega) n1 n4 G).mono ?_
  rintro e w' ⟨hb, ⟨hno, _⟩ | ⟨b', vs, vj, L, hyes, rfl, hL, hB, ho⟩⟩
  · rw [hop] at hno; cases hno
  · rw [hop] at hyes
    cases hyes
    exact ⟨hb, L, rfl, h.below hb, h22, hn, hw, hlo, ⟨vs, vj, hB, bookDown ho hbase⟩, Nat.le_trans hbase hL, hop⟩
theorem book_zero (n : Nat) (k : Int) (h0 : 0 ≤ k) (h1 : k ≤ 999999) : bookN ⟨k, none, 0, none, 0, [], []⟩ n = 0 := by
  unfold bookN
  rw [if_neg (by simp; omega), if_neg (by simp)]
  rfl
theorem parse_zero (n : Nat) (n4 : n ≤ 4) : parseP ⟨#[48, 32, 48, 32, 48]⟩ n = some ⟨0, [], []⟩ := by
  have h := parse_text n4 ((bookN_zero _ _).1 (book_zero n 0 (by decide) (by decide)))
  rw [text_000] at h
  exact h
theorem bookS (base db sb : Nat) (secs : List Sec) (armed : Bool) (left : Int) (L n : Nat) (b : PB) (w : World) (h : LedS w base db sb secs armed left L n b) (hs : b.stays.length ≤ 1000) (hj : b.jobs.length ≤ 1000) :
    Calls Tryz.prog 51 #[.pointer (some ⟨L, 0, none⟩)] w fun e w' => ∃ vs vj, e = .returned (.agg #[.int .i64 b.last, vs, vj]) ∧ OwnBook w' w.heap.size vs vj b.stays b.jobs ∧ Below w.heap.size w w' := by
  obtain ⟨vs, vj, hL, ho⟩ := h.l
  obtain ⟨sa, sc, hvs, hrs⟩ := ho.s.rows
  obtain ⟨ja, jc, hvj, hrj⟩ := ho.j.rows
  subst hvs hvj
  exact book_any db L n b.last sa sc ja jc b.stays b.jobs w hL ⟨hrs, hrj⟩ hs hj

end Lg
end Go.Proofs.YtopgllmjeliklaaGreatDoor
-- left out: this seat has not what it speaks of
namespace Go.Proofs.YtopgllmjeliklaaGreatDoor
open Go.ChangeShapes Go.WideShapes Go.ChangeAt Go.RowKit
set_option maxRecDepth 100000
set_option linter.unusedSimpArgs false
set_option linter.unusedVariables false

theorem flatG_0 : ∀ (l : List (Int × Int)) (k : Nat) (h : k < l.length), (flatG l)[k * 2]? = some (.int .i64 l[k].1)
  | g :: l, 0, _ => rfl
  | g :: l, k + 1, h => by
    rw [show (k + 1) * 2 = k * 2 + 1 + 1 from by omega]
    simpa [flatG] using flatG_0 l k (by simpa using h)
theorem flatG_1 : ∀ (l : List (Int × Int)) (k : Nat) (h : k < l.length), (flatG l)[k * 2 + 1]? = some (.int .i64 l[k].2)
  | g :: l, 0, _ => rfl
  | g :: l, k + 1, h => by
    rw [show (k + 1) * 2 + 1 = k * 2 + 1 + 1 + 1 from by omega]
    simpa [flatG] using flatG_1 l k (by simpa using h)

/-- A list of goals lies there. -/
def GoalsAt (w : World) (v : Value) (l : List (Int × Int)) : Prop :=
  ∃ g cap, v = .slice (some ⟨g, 0, none⟩) l.length cap ∧ g < w.heap.size ∧ (l.length ≤ 100 ∧ l.length ≤ cap ∧ cap ≤ maxLen ∧ ∃ cur, w.heap[g]? = some (.cells cur 102 (0, 0))) ∧ ∀ k (h : k < l.length), w.cell? ⟨g, k * 2, none⟩ = some (.int .i64 l[k].1) ∧ w.cell? ⟨g, k * 2 + 1, none⟩ = some (.int .i64 l[k].2)

theorem GoalsOwn.at {w w' : World} {v : Value} {l : List (Int × Int)} (h : GoalsOwn w w' v l) (h0 : 0 < l.length) (h1 : l.length ≤ 100) : GoalsAt w' v l := by
  obtain ⟨ho, hb⟩ := h
  have ho' := ho
  rcases ho.2 with ⟨_, hn⟩ | ⟨g, cap, cur, rfl, hg, hblk, hle, hmx, _⟩
  · omega
  · refine ⟨g, cap, rfl, ?_, ⟨h1, hle, hmx, cur, hblk⟩, fun k hk => ⟨?_, ?_⟩⟩
    · rcases Nat.lt_or_ge g w'.heap.size with h | h
      · exact h
      · rw [Array.getElem?_eq_none h] at hblk; cases hblk
    · rw [ho'.cellAt _ (by omega), flatG_0 l k hk]
    · rw [ho'.cellAt _ (by omega), flatG_1 l k hk]
theorem GoalsAt.below {w w' : World} {v : Value} {l : List (Int × Int)} (h : GoalsAt w v l) (hb : Below w.heap.size w w') : GoalsAt w' v l := by
  obtain ⟨g, cap, hv, hg, h1, hc⟩ := h
  refine ⟨g, cap, hv, Nat.lt_of_lt_of_le hg hb.size, ⟨h1.1, h1.2.1, h1.2.2.1, h1.2.2.2.imp fun _ hk => (hb.block g hg).trans hk⟩, fun k hk => ?_⟩
  exact ⟨(hb.cell (p := ⟨g, _, none⟩) hg).trans (hc k hk).1, (hb.cell (p := ⟨g, _, none⟩) hg).trans (hc k hk).2⟩

-- left out: this seat has not what it speaks of

-- left out: this seat has not what it speaks of

/-- The place that was boxed first, and what lies below. -/
def PS (w wx : World) (x y z : Int) : Prop :=
  Below w.heap.size w wx ∧ w.heap.size + 1 ≤ wx.heap.size ∧ ∀ o, wx.cell? ⟨w.heap.size, o, none⟩ = (#[.int .i64 x, .int .i64 y, .int .i64 z] : Array Value)[o]?
theorem PS.start (w : World) (x y z : Int) : PS w (w.alloc (.cells #[.int .i64 x, .int .i64 y, .int .i64 z] 65)) x y z := ⟨B.new1 _ _, by simp, B.row_new _ _ _⟩
theorem PS.next {w wx wy : World} {x y z : Int} (h : PS w wx x y z) (hb : Below wx.heap.size wx wy) : PS w wy x y z := by
  obtain ⟨h0, h1, h2⟩ := h
  have hz := hb.size
  exact ⟨B.next h0 hb (by omega), by omega, B.row hb h2 (by omega)⟩
theorem PS.drew {w wx : World} {x y z : Int} (h : PS w wx x y z) : PS w wx.drew x y z := by
  obtain ⟨h0, h1, h2⟩ := h
  exact ⟨h0.drew, by simpa using h1, by simpa using h2⟩

set_option maxHeartbeats 400000 in
theorem fetch_any (x y z : Int) (w : World) (hx1 : 1 ≤ x) (hx4 : x ≤ 4) (hz0 : 0 ≤ z) (hz1 : z ≤ 1) :
    Calls Tryz.prog 81 #[.agg #[.int .i64 x, .int .i64 y, .int .i64 z]] w fun e w' =>
      ∃ v, e = .returned v ∧ GoalsAt w' v [(2, 0), (5, 0), (1, x * 3), (2, extI y z), (3, 0), (2, 0)] ∧ Below w.heap.size w w' := by
  go_enter Tryz.func81, Tryz.ntmps81
  go_wp2_with fail
  refine (visit_any _ _ _ _ _ hx1 hx4 hz0 hz1).mono ?_
  rintro e w1 ⟨v, rfl, ho⟩
  have X : Hid (GoalsAt w1 v [(2, 0), (5, 0), (1, x * 3), (2, extI y z), (3, 0), (2, 0)]) := ho.at (by simp) (by simp)
  have Y : Hid (Below w.heap.size w w1) := B.next (B.new1 _ _) ho.2 (by simp)
  clear ho
  go_wp2
  go_returns
  exact ⟨_, rfl, X.out, Y.out⟩

set_option maxHeartbeats 400000 in
theorem bring_any (x y z : Int) (w : World) (hx1 : 1 ≤ x) (hx4 : x ≤ 4) (hz0 : 0 ≤ z) (hz1 : z ≤ 1) :
    Calls Tryz.prog 116 #[.agg #[.int .i64 x, .int .i64 y, .int .i64 z]] w fun e w' =>
      ∃ v, e = .returned v ∧ GoalsAt w' v [(2, 0), (5, 0), (1, x * 3), (2, extI y z), (4, 0), (2, 0)] ∧ Below w.heap.size w w' := by
  go_enter Tryz.func116, Tryz.ntmps116
  go_wp2_with fail
  refine (visit_any _ _ _ _ _ hx1 hx4 hz0 hz1).mono ?_
  rintro e w1 ⟨v, rfl, ho⟩
  have X : Hid (GoalsAt w1 v [(2, 0), (5, 0), (1, x * 3), (2, extI y z), (4, 0), (2, 0)]) := ho.at (by simp) (by simp)
  have Y : Hid (Below w.heap.size w w1) := B.next (B.new1 _ _) ho.2 (by simp)
  clear ho
  go_wp2
  go_returns
  exact ⟨_, rfl, X.out, Y.out⟩

-- left out: this seat has not what it speaks of

-- left out: this seat has not what it speaks of

-- left out: this seat has not what it speaks of

-- left out: this seat has not what it speaks of

-- left out: this seat has not what it speaks of

end Go.Proofs.YtopgllmjeliklaaGreatDoor
