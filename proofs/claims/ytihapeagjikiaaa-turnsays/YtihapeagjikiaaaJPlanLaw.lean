/- Chapter 5, the statement 'PlanSays': for every place there is, the plans are what the document says (D2); no condition. -/
import Derived.Test.YtihapeagjikiaaaJVisit
import Derived.Deep.DeepCutAuto
import Derived.Deep.LoopGhost
namespace Go.Proofs.Ytihapeagjikiaaa
open Go.ChangeShapes Go.WideShapes Go.ChangeAt Go.RowKit
set_option maxRecDepth 100000
set_option linter.unusedSimpArgs false
set_option linter.unusedVariables false

theorem flatG_0 : ∀ (l : List (Int × Int)) (k : Nat) (h : k < l.length), (flatG l)[k * 2]? = some (.int .i64 l[k].1)
  | g :: l, 0, _ => rfl
  | g :: l, k + 1, h => by
    rw [show (k + 1) * 2 = k * 2 + 1 + 1 from by omega]
    simpa [flatG] using flatG_0 l k (by simpa using h)
theorem flatG_1 : ∀ (l : List (Int × Int)) (k : Nat) (h : k < l.length), (flatG l)[k * 2 + 1]? = some (.int .i64 l[k].2)
  | g :: l, 0, _ => rfl
  | g :: l, k + 1, h => by
    rw [show (k + 1) * 2 + 1 = k * 2 + 1 + 1 + 1 from by omega]
    simpa [flatG] using flatG_1 l k (by simpa using h)

/-- A list of goals lies there. -/
def GoalsAt (w : World) (v : Value) (l : List (Int × Int)) : Prop :=
  ∃ g cap, v = .slice (some ⟨g, 0, none⟩) l.length cap ∧ g < w.heap.size ∧ l.length ≤ 100 ∧ ∀ k (h : k < l.length), w.cell? ⟨g, k * 2, none⟩ = some (.int .i64 l[k].1) ∧ w.cell? ⟨g, k * 2 + 1, none⟩ = some (.int .i64 l[k].2)

theorem GoalsOwn.at {w w' : World} {v : Value} {l : List (Int × Int)} (h : GoalsOwn w w' v l) (h0 : 0 < l.length) (h1 : l.length ≤ 100) : GoalsAt w' v l := by
  obtain ⟨ho, hb⟩ := h
  have ho' := ho
  rcases ho.2 with ⟨_, hn⟩ | ⟨g, cap, cur, rfl, hg, hblk, _⟩
  · omega
  · refine ⟨g, cap, rfl, ?_, h1, fun k hk => ⟨?_, ?_⟩⟩
    · rcases Nat.lt_or_ge g w'.heap.size with h | h
      · exact h
      · rw [Array.getElem?_eq_none h] at hblk; cases hblk
    · rw [ho'.cellAt _ (by omega), flatG_0 l k hk]
    · rw [ho'.cellAt _ (by omega), flatG_1 l k hk]
theorem GoalsAt.below {w w' : World} {v : Value} {l : List (Int × Int)} (h : GoalsAt w v l) (hb : Below w.heap.size w w') : GoalsAt w' v l := by
  obtain ⟨g, cap, hv, hg, h1, hc⟩ := h
  refine ⟨g, cap, hv, Nat.lt_of_lt_of_le hg hb.size, h1, fun k hk => ?_⟩
  exact ⟨(hb.cell (p := ⟨g, _, none⟩) hg).trans (hc k hk).1, (hb.cell (p := ⟨g, _, none⟩) hg).trans (hc k hk).2⟩

set_option maxHeartbeats 1000000 in
theorem sameGoals_core (g1 g2 cap1 cap2 n : Nat) (f : Nat → Int × Int) (w : World) (hn : n ≤ 100) (hg1 : g1 < w.heap.size) (hg2 : g2 < w.heap.size)
    (hc1 : ∀ k, k < n → w.cell? ⟨g1, k * 2, none⟩ = some (.int .i64 (f k).1) ∧ w.cell? ⟨g1, k * 2 + 1, none⟩ = some (.int .i64 (f k).2))
    (hc2 : ∀ k, k < n → w.cell? ⟨g2, k * 2, none⟩ = some (.int .i64 (f k).1) ∧ w.cell? ⟨g2, k * 2 + 1, none⟩ = some (.int .i64 (f k).2)) :
    Calls Try.prog 52 #[.slice (some ⟨g1, 0, none⟩) n cap1, .slice (some ⟨g2, 0, none⟩) n cap2] w fun e w' => e = .returned (.bool true) ∧ Below w.heap.size w w' := by
  have H1 : Hid _ := hc1
  have H2 : Hid _ := hc2
  clear hc1 hc2
  go_enter Try.func52, Try.ntmps52
  go_wp2
  go_loopg [5] n (fun q i wr => ∃ k : Nat, k + q = n ∧ i = .int .i64 k ∧ Below w.heap.size w wr)
  case atStart => exact ⟨0, by omega, rfl, Below.refl _ _⟩
  case round =>
    obtain ⟨k, hk, rfl, hB⟩ := hrel
    by_cases hlt : k < n
    · obtain ⟨a0, a1⟩ := H1.out k hlt
      obtain ⟨b0, b1⟩ := H2.out k hlt
      rw [← hB.cell (p := ⟨g1, _, none⟩) hg1] at a0 a1
      rw [← hB.cell (p := ⟨g2, _, none⟩) hg2] at b0 b1
      generalize f k = x at *
      have HK : Hid (k + gk = n) := hk
      clear hk
      have i4 : (k : Int) < (n : Int) := by omega
      go_wp2_with fail
      go_quiet (fail)
      go_wp2
      go_roundg (gk - 1)
      case measure => have := HK.out; omega
      case rel => exact ⟨k + 1, by have := HK.out; omega, by go_num, hB.trans ⟨rfl, rfl, rfl, Nat.le_refl _, fun _ _ => rfl⟩⟩
    · go_wp2
      go_returns
      exact ⟨rfl, hB⟩

theorem sameGoals_any (v1 v2 : Value) (l : List (Int × Int)) (w : World) (h1 : GoalsAt w v1 l) (h2 : GoalsAt w v2 l) :
    Calls Try.prog 52 #[v1, v2] w fun e w' => e = .returned (.bool true) ∧ Below w.heap.size w w' := by
  obtain ⟨g1, cap1, rfl, hg1, hlen, hc1⟩ := h1
  obtain ⟨g2, cap2, rfl, hg2, _, hc2⟩ := h2
  have e : ∀ k (h : k < l.length), l.getD k (0, 0) = l[k] := fun k h => by simp [List.getD, h]
  exact sameGoals_core g1 g2 cap1 cap2 l.length (fun k => l.getD k (0, 0)) w hlen hg1 hg2 (fun k h => by rw [e k h]; exact hc1 k h) (fun k h => by rw [e k h]; exact hc2 k h)

/-- The place that was boxed first, and what lies below. -/
def PS (w wx : World) (x y z : Int) : Prop :=
  Below w.heap.size w wx ∧ w.heap.size + 1 ≤ wx.heap.size ∧ ∀ o, wx.cell? ⟨w.heap.size, o, none⟩ = (#[.int .i64 x, .int .i64 y, .int .i64 z] : Array Value)[o]?
theorem PS.start (w : World) (x y z : Int) : PS w (w.alloc (.cells #[.int .i64 x, .int .i64 y, .int .i64 z] 38)) x y z := ⟨B.new1 _ _, by simp, B.row_new _ _ _⟩
theorem PS.next {w wx wy : World} {x y z : Int} (h : PS w wx x y z) (hb : Below wx.heap.size wx wy) : PS w wy x y z := by
  obtain ⟨h0, h1, h2⟩ := h
  have hz := hb.size
  exact ⟨B.next h0 hb (by omega), by omega, B.row hb h2 (by omega)⟩
theorem PS.drew {w wx : World} {x y z : Int} (h : PS w wx x y z) : PS w wx.drew x y z := by
  obtain ⟨h0, h1, h2⟩ := h
  exact ⟨h0.drew, by simpa using h1, by simpa using h2⟩

set_option maxHeartbeats 400000 in
theorem fetch_any (x y z : Int) (w : World) (hx1 : 1 ≤ x) (hx4 : x ≤ 4) (hz0 : 0 ≤ z) (hz1 : z ≤ 1) :
    Calls Try.prog 99 #[.agg #[.int .i64 x, .int .i64 y, .int .i64 z]] w fun e w' =>
      ∃ v, e = .returned v ∧ GoalsAt w' v [(2, 0), (5, 0), (1, x * 3), (2, extI y z), (3, 0), (2, 0)] ∧ Below w.heap.size w w' := by
  go_enter Try.func99, Try.ntmps99
  go_wp2_with fail
  refine (visit_any _ _ _ _ _ hx1 hx4 hz0 hz1).mono ?_
  rintro e w1 ⟨v, rfl, ho⟩
  have X : Hid (GoalsAt w1 v [(2, 0), (5, 0), (1, x * 3), (2, extI y z), (3, 0), (2, 0)]) := ho.at (by simp) (by simp)
  have Y : Hid (Below w.heap.size w w1) := B.next (B.new1 _ _) ho.2 (by simp)
  clear ho
  go_wp2
  go_returns
  exact ⟨_, rfl, X.out, Y.out⟩

set_option maxHeartbeats 400000 in
theorem bring_any (x y z : Int) (w : World) (hx1 : 1 ≤ x) (hx4 : x ≤ 4) (hz0 : 0 ≤ z) (hz1 : z ≤ 1) :
    Calls Try.prog 140 #[.agg #[.int .i64 x, .int .i64 y, .int .i64 z]] w fun e w' =>
      ∃ v, e = .returned v ∧ GoalsAt w' v [(2, 0), (5, 0), (1, x * 3), (2, extI y z), (4, 0), (2, 0)] ∧ Below w.heap.size w w' := by
  go_enter Try.func140, Try.ntmps140
  go_wp2_with fail
  refine (visit_any _ _ _ _ _ hx1 hx4 hz0 hz1).mono ?_
  rintro e w1 ⟨v, rfl, ho⟩
  have X : Hid (GoalsAt w1 v [(2, 0), (5, 0), (1, x * 3), (2, extI y z), (4, 0), (2, 0)]) := ho.at (by simp) (by simp)
  have Y : Hid (Below w.heap.size w w1) := B.next (B.new1 _ _) ho.2 (by simp)
  clear ho
  go_wp2
  go_returns
  exact ⟨_, rfl, X.out, Y.out⟩

-- left out: this seat has not what it speaks of

-- left out: this seat has not what it speaks of

-- left out: this seat has not what it speaks of

-- left out: this seat has not what it speaks of

-- left out: this seat has not what it speaks of

end Go.Proofs.Ytihapeagjikiaaa
