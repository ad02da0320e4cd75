/- Chapter 7: the desk's answers in one form, error or not; the closed fact of the statement; contracts for 'DeskSays'. -/
import Derived.Test.YtihapeagjikiaaaRParked
import Derived.Test.YtihapeagjikiaaaRWanted
import Derived.Test.YtihapeagjikiaaaRDone
import Derived.Test.YtihapeagjikiaaaTopPickC
import Derived.Test.YtihapeagjikiaaaSameBook
namespace Go.Proofs.Ytihapeagjikiaaa
open Go.Shelf Go.Lib Go.ChangeShapes Go.WideShapes Go.ChangeAt Go.RowKit
set_option maxRecDepth 100000
set_option linter.unusedSimpArgs false
set_option linter.unusedVariables false

namespace Bk
theorem RowsAt.none_nil {α : Type} [Inhabited α] (w : World) (k : Nat) (enc : α → List Value) : RowsAt w none 0 k enc ([] : List α) := ⟨Nat.le_refl _, Nat.zero_le _, fun h => absurd h (Nat.lt_irrefl _)⟩
theorem Book.At.empty (l : Int) (w : World) : Book.At ⟨l, none, 0, none, 0, [], []⟩ w := ⟨RowsAt.none_nil _ _ _, RowsAt.none_nil _ _ _⟩
/-- The book behind Park: the number, the stays, the jobs (none of them where it answers an error). -/
def parkB (b : Book) (f : Nat → Int × Int × Int) (len : Nat) (ci ca cb cc : Int) : Int × List Stay × List Job :=
  if parkN b f len ci ca cb cc = 0 then (b.last + 1, b.stays ++ [⟨b.last + 1, ci, ca, cb, cc, (pickP (pickO b f ca cb cc len)).1, (pickP (pickO b f ca cb cc len)).2.1, (pickP (pickO b f ca cb cc len)).2.2⟩], b.jobs ++ [⟨b.last + 1, false⟩]) else (0, [], [])
def wantB (b : Book) (t : Int) : Int × List Stay × List Job := if wantN b t = 0 then (b.last, b.stays, b.jobs ++ [⟨t, true⟩]) else (0, [], [])
theorem parkN_nonneg (b : Book) (f : Nat → Int × Int × Int) (len : Nat) (ci ca cb cc : Int) : 0 ≤ parkN b f len ci ca cb cc := by
  unfold parkN
  split
  · rename_i h; exact Int.le_of_lt (carN_pos h)
  · split
    · decide
    · split <;> decide
theorem wantN_nonneg (b : Book) (t : Int) : 0 ≤ wantN b t := by
  unfold wantN
  split
  · decide
  · split
    · decide
    · split <;> decide

theorem park_both (b : Book) (lv : Value) (len : Nat) (f : Nat → Int × Int × Int) (ci ca cb cc : Int) (w : World) (hb : b.At w) (hs : SizesAt w lv len f) (h1 : 1 ≤ len) (h4 : len ≤ 4) (hst : b.stays.length ≤ 20) (hjb : b.jobs.length ≤ 12) (h0 : 0 ≤ b.last) :
    Calls Try.prog 16 #[b.val, lv, .agg #[.int .i64 ci, .int .i64 ca, .int .i64 cb, .int .i64 cc]] w fun e w' => ∃ a1 c1 a2 c2, e = .returned (.tuple #[.agg #[.int .i64 (parkB b f len ci ca cb cc).1, .slice a1 (parkB b f len ci ca cb cc).2.1.length c1, .slice a2 (parkB b f len ci ca cb cc).2.2.length c2], .int .i64 (parkB b f len ci ca cb cc).1, errV (parkN b f len ci ca cb cc)]) ∧ Book.At ⟨(parkB b f len ci ca cb cc).1, a1, c1, a2, c2, (parkB b f len ci ca cb cc).2.1, (parkB b f len ci ca cb cc).2.2⟩ w' ∧ Below w.heap.size w w' := by
  refine (park_any b lv len f ci ca cb cc w hb hs h1 h4 hst hjb h0).mono ?_
  rintro e w' (⟨⟨k, rfl, hk, hn⟩, hb'⟩ | ⟨hn, po, vs, vj, hpo, rfl, ho, hb'⟩)
  · have hB : parkB b f len ci ca cb cc = (0, [], []) := by unfold parkB; rw [if_neg (by rw [hn]; exact hk)]
    rw [hB, hn]
    exact ⟨none, 0, none, 0, rfl, Book.At.empty 0 w', hb'⟩
  · have hB : parkB b f len ci ca cb cc = (b.last + 1, b.stays ++ [⟨b.last + 1, ci, ca, cb, cc, po.1, po.2.1, po.2.2⟩], b.jobs ++ [⟨b.last + 1, false⟩]) := by unfold parkB; rw [if_pos hn, hpo]; rfl
    rw [hB, hn]
    obtain ⟨a1, c1, rfl, r1⟩ := ho.s.rows
    obtain ⟨a2, c2, rfl, r2⟩ := ho.j.rows
    exact ⟨a1, c1, a2, c2, rfl, ⟨r1, r2⟩, hb'⟩

theorem rparked_both (b : Book) (lv : Value) (len : Nat) (f : Nat → Int × Int × Int) (ci ca cb cc : Int) (w : World) (hb : b.At w) (hs : SizesAt w lv len f) (h1 : 1 ≤ len) (h4 : len ≤ 4) (hok : BookOK b.last len b.stays b.jobs) :
    Calls Try.prog 17 #[b.val, lv, .agg #[.int .i64 ci, .int .i64 ca, .int .i64 cb, .int .i64 cc]] w fun e w' => ∃ a1 c1 a2 c2, e = .returned (.tuple #[.agg #[.int .i64 (parkB b f len ci ca cb cc).1, .slice a1 (parkB b f len ci ca cb cc).2.1.length c1, .slice a2 (parkB b f len ci ca cb cc).2.2.length c2], .int .i64 (parkB b f len ci ca cb cc).1, .int .i64 (parkN b f len ci ca cb cc)]) ∧ Book.At ⟨(parkB b f len ci ca cb cc).1, a1, c1, a2, c2, (parkB b f len ci ca cb cc).2.1, (parkB b f len ci ca cb cc).2.2⟩ w' ∧ Below w.heap.size w w' := by
  refine (rparked_any b lv len f ci ca cb cc w hb hs h1 h4 hok.s hok.fewS hok.fewJ hok.lim.1 hok.lim.2).mono ?_
  rintro e w' (⟨hn, rfl, hb'⟩ | ⟨hn, po, vs, vj, hpo, rfl, ho, hb'⟩)
  · have hB : parkB b f len ci ca cb cc = (0, [], []) := by unfold parkB; rw [if_neg hn]
    rw [hB]
    exact ⟨none, 0, none, 0, rfl, Book.At.empty 0 w', hb'⟩
  · have hB : parkB b f len ci ca cb cc = (b.last + 1, b.stays ++ [⟨b.last + 1, ci, ca, cb, cc, po.1, po.2.1, po.2.2⟩], b.jobs ++ [⟨b.last + 1, false⟩]) := by unfold parkB; rw [if_pos hn, hpo]; rfl
    rw [hB, hn]
    obtain ⟨a1, c1, rfl, r1⟩ := ho.s.rows
    obtain ⟨a2, c2, rfl, r2⟩ := ho.j.rows
    exact ⟨a1, c1, a2, c2, rfl, ⟨r1, r2⟩, hb'⟩

theorem want_both (b : Book) (t : Int) (w : World) (hb : b.At w) (hst : b.stays.length ≤ 20) (hjb : b.jobs.length ≤ 12) :
    Calls Try.prog 20 #[b.val, .int .i64 t] w fun e w' => ∃ a1 c1 a2 c2, e = .returned (.tuple #[.agg #[.int .i64 (wantB b t).1, .slice a1 (wantB b t).2.1.length c1, .slice a2 (wantB b t).2.2.length c2], errV (wantN b t)]) ∧ Book.At ⟨(wantB b t).1, a1, c1, a2, c2, (wantB b t).2.1, (wantB b t).2.2⟩ w' ∧ Below w.heap.size w w' := by
  refine (want_any b t w hb hst hjb).mono ?_
  rintro e w' (⟨⟨k, rfl, hk, hn⟩, hb'⟩ | ⟨hn, vs, vj, rfl, ho, hb'⟩)
  · have hB : wantB b t = (0, [], []) := by unfold wantB; rw [if_neg (by rw [hn]; exact hk)]
    rw [hB, hn]
    exact ⟨none, 0, none, 0, rfl, Book.At.empty 0 w', hb'⟩
  · have hB : wantB b t = (b.last, b.stays, b.jobs ++ [⟨t, true⟩]) := by unfold wantB; rw [if_pos hn]
    rw [hB, hn]
    obtain ⟨a1, c1, rfl, r1⟩ := ho.s.rows
    obtain ⟨a2, c2, rfl, r2⟩ := ho.j.rows
    exact ⟨a1, c1, a2, c2, rfl, ⟨r1, r2⟩, hb'⟩

theorem rwanted_both (b : Book) (t : Int) (w : World) (hb : b.At w) (hj8 : b.jobs.length ≤ 8) :
    Calls Try.prog 21 #[b.val, .int .i64 t] w fun e w' => ∃ a1 c1 a2 c2, e = .returned (.tuple #[.agg #[.int .i64 (wantB b t).1, .slice a1 (wantB b t).2.1.length c1, .slice a2 (wantB b t).2.2.length c2], .int .i64 (wantN b t)]) ∧ Book.At ⟨(wantB b t).1, a1, c1, a2, c2, (wantB b t).2.1, (wantB b t).2.2⟩ w' ∧ Below w.heap.size w w' := by
  by_cases hn : wantN b t = 0
  · refine (rwanted_good b t w hb hj8 hn).mono ?_
    rintro e w' ⟨vj, rfl, ho, hb'⟩
    have hB : wantB b t = (b.last, b.stays, b.jobs ++ [⟨t, true⟩]) := by unfold wantB; rw [if_pos hn]
    rw [hB, hn]
    obtain ⟨a2, c2, rfl, r2⟩ := ho.rows
    exact ⟨b.sa, b.sc, a2, c2, rfl, ⟨hb.1.below hb', r2⟩, hb'⟩
  · refine (rwanted_bad b t w hb hj8 hn).mono ?_
    rintro e w' ⟨rfl, hb'⟩
    have hB : wantB b t = (0, [], []) := by unfold wantB; rw [if_neg hn]
    rw [hB]
    exact ⟨none, 0, none, 0, rfl, Book.At.empty 0 w', hb'⟩

/-- A list lies where it lay when a book's own cells are written: they are no row of it. -/
theorem rows_ne {α : Type} [Inhabited α] {W : World} {a : Option Addr} {cap k : Nat} {enc : α → List Value} {zs : List α} (h : RowsAt W a cap k enc zs) {n : Nat} {arr : Array Value} {T : TypeId} (hB : Blk W n arr T) (hz : ∀ z : α, ∃ u, (enc z)[1]? = some u ∧ ∀ o, arr[o + 1]? ≠ some u) (o : Nat) (v : Value) : RowsAt (W.setCell ⟨n, o, none⟩ v) a cap k enc zs := by
  refine ⟨h.1, h.2.1, fun h0 => ?_⟩
  obtain ⟨b, off, e, hb, hc⟩ := h.2.2 h0
  have hne : b ≠ n := by
    rintro rfl
    obtain ⟨u, hu, hn⟩ := hz zs[0]!
    have := hc 0 h0 1 u hu
    rw [Nat.zero_mul, Nat.add_zero, hB.cell] at this
    exact hn off this
  refine ⟨b, off, e, by rw [size_setCell]; exact hb, fun j hj i u hu => ?_⟩
  have hbk := Below.heap_setCell W ⟨n, o, none⟩ v b hne
  exact (World.cell?_of_block (a := ⟨b, off + j * k + i, none⟩) hbk).trans (hc j hj i u hu)
theorem at_set {B : Book} {W : World} (h : B.At W) {n : Nat} {l1 : Value} {a1 a2 : Option Addr} {n1 c1 n2 c2 : Nat} {T : TypeId} (hB : Blk W n #[l1, .slice a1 n1 c1, .slice a2 n2 c2] T) (o : Nat) (v : Value) : B.At (W.setCell ⟨n, o, none⟩ v) := by
  refine ⟨rows_ne h.1 hB (fun z => ⟨.int .i64 z.id, rfl, fun o => ?_⟩) o v, rows_ne h.2 hB (fun z => ⟨.bool z.f, rfl, fun o => ?_⟩) o v⟩
  · match o with
    | 0 => simp
    | 1 => simp
    | o + 2 => simp
  · match o with
    | 0 => simp
    | 1 => simp
    | o + 2 => simp
theorem at_set3 {B : Book} {W : World} (h : B.At W) {n : Nat} {l1 l2 : Value} {a1 a2 a3 a4 : Option Addr} {n1 c1 n2 c2 n3 c3 n4 c4 : Nat} {T : TypeId} (hB : Blk W n #[l1, .slice a1 n1 c1, .slice a2 n2 c2] T) : B.At (((W.setCell ⟨n, 0, none⟩ l2).setCell ⟨n, 1, none⟩ (.slice a3 n3 c3)).setCell ⟨n, 2, none⟩ (.slice a4 n4 c4)) :=
  at_set (at_set (at_set h hB 0 l2) (l1 := l2) (hB.set 0 l2) 1 _) (l1 := l2) ((hB.set 0 l2).set 1 (.slice a3 n3 c3)) 2 _

theorem park_nine : parkN ⟨0, none, 0, none, 0, [], []⟩ (fun _ => (9, 9, 9)) 1 7 1 1 1 = 0 := by decide

theorem parkB_nine : (parkB ⟨0, none, 0, none, 0, [], []⟩ (fun _ => (9, 9, 9)) 1 7 1 1 1).1 = 1 ∧ (parkB ⟨0, none, 0, none, 0, [], []⟩ (fun _ => (9, 9, 9)) 1 7 1 1 1).2.1.length = 1 ∧ (parkB ⟨0, none, 0, none, 0, [], []⟩ (fun _ => (9, 9, 9)) 1 7 1 1 1).2.2.length = 1 := by
  unfold parkB
  rw [if_pos park_nine]
  exact ⟨rfl, rfl, rfl⟩

set_option maxHeartbeats 2000000 in
theorem desks_any (w : World) : Calls Try.prog 10 #[] w fun e w' => e = .returned (.bool true) ∧ Below w.heap.size w w' := by
  obtain ⟨w0, hw0⟩ : ∃ w0, w.alloc (.cells #[.int .i64 9, .int .i64 9, .int .i64 9] 28) = w0 := ⟨_, rfl⟩
  have K0 : Hid (Below w.heap.size w w0 ∧ Blk w0 w.heap.size #[.int .i64 9, .int .i64 9, .int .i64 9] 28) := by
    show _ ∧ _
    rw [← hw0]
    exact ⟨B.new1 _ _, Blk.new _ _ _⟩
  go_enter Try.func10, Try.ntmps10
  go_wp2_with fail
  clear hw0
  have hS : SizesAt w0 (.slice (some ⟨w.heap.size, 0, none⟩) 1 1) 1 (fun _ => (9, 9, 9)) := ⟨_, _, rfl, by decide, by decide, fun _ => ⟨w.heap.size, 0, rfl, K0.out.2.lt, fun i hi => by
    obtain rfl : i = 0 := by omega
    exact ⟨K0.out.2.cell 0, K0.out.2.cell 1, K0.out.2.cell 2⟩⟩⟩
  refine (park_both ⟨0, none, 0, none, 0, [], []⟩ (.slice (some ⟨w.heap.size, 0, none⟩) 1 1) 1 (fun _ => (9, 9, 9)) 7 1 1 1 w0 (Book.At.empty 0 w0) hS (by decide) (by decide) (by decide) (by decide) (by decide)).mono ?_
  rintro e w1 ⟨a1, c1, a2, c2, rfl, hA, b1⟩
  have hm1 := hA.1.2.1; have hm2 := hA.2.2.1; have hn1 := hA.1.1; have hn2 := hA.2.1
  simp only at hm1 hm2 hn1 hn2
  rw [parkB_nine.2.1] at hn1
  rw [parkB_nine.2.2] at hn2
  unfold maxLen at hm1 hm2
  rw [parkB_nine.1, parkB_nine.2.1, parkB_nine.2.2, park_nine, errV0]
  have B1 : Hid (Below w.heap.size w w1) := B.next K0.out.1 b1 K0.out.1.size
  clear hA b1 hS K0
  obtain ⟨w2, hw2⟩ : ∃ w2, w1.alloc (.cells #[.int .i64 1, .slice a1 1 c1, .slice a2 1 c2] 25) = w2 := ⟨_, rfl⟩
  have K2 : Hid (Below w.heap.size w w2 ∧ Blk w2 w1.heap.size #[.int .i64 1, .slice a1 1 c1, .slice a2 1 c2] 25) := by
    show _ ∧ _
    rw [← hw2]
    exact ⟨B.next B1.out (B.new1 _ _) B1.out.size, Blk.new _ _ _⟩
  have HW2 : Hid (w1.alloc (.cells #[.int .i64 1, .slice a1 1 c1, .slice a2 1 c2] 25) = w2) := hw2
  clear hw2 B1
  go_upto_region 2 with fail
  simp only [HW2.out]
  clear HW2
  have r2 := K2.out.2.cell
  go_wp2_with (first | (go_at_call 18; refine (same_nil _ _).mono ?_; rintro e wx ⟨rfl, rfl⟩))
  go_returns
  exact ⟨rfl, K2.out.1⟩

end Bk
end Go.Proofs.Ytihapeagjikiaaa
