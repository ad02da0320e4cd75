/- Chapter 5, the statement 'PlanSays': for every place there is, the plans are what the document says (D2); no condition. -/
import Derived.Test.YticjjnmmedmbiaaVisit
import Derived.Deep.DeepCutAuto
import Derived.Deep.LoopGhost
namespace Go.Proofs.Yticjjnmmedmbiaa
open Go.ChangeShapes Go.WideShapes Go.ChangeAt Go.RowKit
set_option maxRecDepth 100000
set_option linter.unusedSimpArgs false
set_option linter.unusedVariables false

theorem flatG_0 : ∀ (l : List (Int × Int)) (k : Nat) (h : k < l.length), (flatG l)[k * 2]? = some (.int .i64 l[k].1)
  | g :: l, 0, _ => rfl
  | g :: l, k + 1, h => by
    rw [show (k + 1) * 2 = k * 2 + 1 + 1 from by omega]
    simpa [flatG] using flatG_0 l k (by simpa using h)
theorem flatG_1 : ∀ (l : List (Int × Int)) (k : Nat) (h : k < l.length), (flatG l)[k * 2 + 1]? = some (.int .i64 l[k].2)
  | g :: l, 0, _ => rfl
  | g :: l, k + 1, h => by
    rw [show (k + 1) * 2 + 1 = k * 2 + 1 + 1 + 1 from by omega]
    simpa [flatG] using flatG_1 l k (by simpa using h)

/-- A list of goals lies there. -/
def GoalsAt (w : World) (v : Value) (l : List (Int × Int)) : Prop :=
  ∃ g cap, v = .slice (some ⟨g, 0, none⟩) l.length cap ∧ g < w.heap.size ∧ l.length ≤ 100 ∧ ∀ k (h : k < l.length), w.cell? ⟨g, k * 2, none⟩ = some (.int .i64 l[k].1) ∧ w.cell? ⟨g, k * 2 + 1, none⟩ = some (.int .i64 l[k].2)

theorem GoalsOwn.at {w w' : World} {v : Value} {l : List (Int × Int)} (h : GoalsOwn w w' v l) (h0 : 0 < l.length) (h1 : l.length ≤ 100) : GoalsAt w' v l := by
  obtain ⟨ho, hb⟩ := h
  have ho' := ho
  rcases ho.2 with ⟨_, hn⟩ | ⟨g, cap, cur, rfl, hg, hblk, _⟩
  · omega
  · refine ⟨g, cap, rfl, ?_, h1, fun k hk => ⟨?_, ?_⟩⟩
    · rcases Nat.lt_or_ge g w'.heap.size with h | h
      · exact h
      · rw [Array.getElem?_eq_none h] at hblk; cases hblk
    · rw [ho'.cellAt _ (by omega), flatG_0 l k hk]
    · rw [ho'.cellAt _ (by omega), flatG_1 l k hk]
theorem GoalsAt.below {w w' : World} {v : Value} {l : List (Int × Int)} (h : GoalsAt w v l) (hb : Below w.heap.size w w') : GoalsAt w' v l := by
  obtain ⟨g, cap, hv, hg, h1, hc⟩ := h
  refine ⟨g, cap, hv, Nat.lt_of_lt_of_le hg hb.size, h1, fun k hk => ?_⟩
  exact ⟨(hb.cell (p := ⟨g, _, none⟩) hg).trans (hc k hk).1, (hb.cell (p := ⟨g, _, none⟩) hg).trans (hc k hk).2⟩

set_option maxHeartbeats 1000000 in
theorem sameGoals_core (g1 g2 cap1 cap2 n : Nat) (f : Nat → Int × Int) (w : World) (hn : n ≤ 100) (hg1 : g1 < w.heap.size) (hg2 : g2 < w.heap.size)
    (hc1 : ∀ k, k < n → w.cell? ⟨g1, k * 2, none⟩ = some (.int .i64 (f k).1) ∧ w.cell? ⟨g1, k * 2 + 1, none⟩ = some (.int .i64 (f k).2))
    (hc2 : ∀ k, k < n → w.cell? ⟨g2, k * 2, none⟩ = some (.int .i64 (f k).1) ∧ w.cell? ⟨g2, k * 2 + 1, none⟩ = some (.int .i64 (f k).2)) :
    Calls Try.prog 50 #[.slice (some ⟨g1, 0, none⟩) n cap1, .slice (some ⟨g2, 0, none⟩) n cap2] w fun e w' => e = .returned (.bool true) ∧ Below w.heap.size w w' := by
  have H1 : Hid _ := hc1
  have H2 : Hid _ := hc2
  clear hc1 hc2
  go_enter Try.func50, Try.ntmps50
  go_wp2
  go_loopg [5] n (fun q i wr => ∃ k : Nat, k + q = n ∧ i = .int .i64 k ∧ Below w.heap.size w wr)
  case atStart => exact ⟨0, by omega, rfl, Below.refl _ _⟩
  case round =>
    obtain ⟨k, hk, rfl, hB⟩ := hrel
    by_cases hlt : k < n
    · obtain ⟨a0, a1⟩ := H1.out k hlt
      obtain ⟨b0, b1⟩ := H2.out k hlt
      rw [← hB.cell (p := ⟨g1, _, none⟩) hg1] at a0 a1
      rw [← hB.cell (p := ⟨g2, _, none⟩) hg2] at b0 b1
      generalize f k = x at *
      have HK : Hid (k + gk = n) := hk
      clear hk
      have i4 : (k : Int) < (n : Int) := by omega
      go_wp2_with fail
      go_quiet (fail)
      go_wp2
      go_roundg (gk - 1)
      case measure => have := HK.out; omega
      case rel => exact ⟨k + 1, by have := HK.out; omega, by go_num, hB.trans ⟨rfl, rfl, rfl, Nat.le_refl _, fun _ _ => rfl⟩⟩
    · go_wp2
      go_returns
      exact ⟨rfl, hB⟩

theorem sameGoals_any (v1 v2 : Value) (l : List (Int × Int)) (w : World) (h1 : GoalsAt w v1 l) (h2 : GoalsAt w v2 l) :
    Calls Try.prog 50 #[v1, v2] w fun e w' => e = .returned (.bool true) ∧ Below w.heap.size w w' := by
  obtain ⟨g1, cap1, rfl, hg1, hlen, hc1⟩ := h1
  obtain ⟨g2, cap2, rfl, hg2, _, hc2⟩ := h2
  have e : ∀ k (h : k < l.length), l.getD k (0, 0) = l[k] := fun k h => by simp [List.getD, h]
  exact sameGoals_core g1 g2 cap1 cap2 l.length (fun k => l.getD k (0, 0)) w hlen hg1 hg2 (fun k h => by rw [e k h]; exact hc1 k h) (fun k h => by rw [e k h]; exact hc2 k h)

/-- The place that was boxed first, and what lies below. -/
def PS (w wx : World) (x y z : Int) : Prop :=
  Below w.heap.size w wx ∧ w.heap.size + 1 ≤ wx.heap.size ∧ ∀ o, wx.cell? ⟨w.heap.size, o, none⟩ = (#[.int .i64 x, .int .i64 y, .int .i64 z] : Array Value)[o]?
theorem PS.start (w : World) (x y z : Int) : PS w (w.alloc (.cells #[.int .i64 x, .int .i64 y, .int .i64 z] 28)) x y z := ⟨B.new1 _ _, by simp, B.row_new _ _ _⟩
theorem PS.next {w wx wy : World} {x y z : Int} (h : PS w wx x y z) (hb : Below wx.heap.size wx wy) : PS w wy x y z := by
  obtain ⟨h0, h1, h2⟩ := h
  have hz := hb.size
  exact ⟨B.next h0 hb (by omega), by omega, B.row hb h2 (by omega)⟩
theorem PS.drew {w wx : World} {x y z : Int} (h : PS w wx x y z) : PS w wx.drew x y z := by
  obtain ⟨h0, h1, h2⟩ := h
  exact ⟨h0.drew, by simpa using h1, by simpa using h2⟩

set_option maxHeartbeats 400000 in
theorem fetch_any (x y z : Int) (w : World) (hx1 : 1 ≤ x) (hx4 : x ≤ 4) (hz0 : 0 ≤ z) (hz1 : z ≤ 1) :
    Calls Try.prog 57 #[.agg #[.int .i64 x, .int .i64 y, .int .i64 z]] w fun e w' =>
      ∃ v, e = .returned v ∧ GoalsAt w' v [(2, 0), (5, 0), (1, x * 3), (2, extI y z), (3, 0), (2, 0)] ∧ Below w.heap.size w w' := by
  go_enter Try.func57, Try.ntmps57
  go_wp2_with fail
  refine (visit_any _ _ _ _ _ hx1 hx4 hz0 hz1).mono ?_
  rintro e w1 ⟨v, rfl, ho⟩
  have X : Hid (GoalsAt w1 v [(2, 0), (5, 0), (1, x * 3), (2, extI y z), (3, 0), (2, 0)]) := ho.at (by simp) (by simp)
  have Y : Hid (Below w.heap.size w w1) := B.next (B.new1 _ _) ho.2 (by simp)
  clear ho
  go_wp2
  go_returns
  exact ⟨_, rfl, X.out, Y.out⟩

set_option maxHeartbeats 400000 in
theorem bring_any (x y z : Int) (w : World) (hx1 : 1 ≤ x) (hx4 : x ≤ 4) (hz0 : 0 ≤ z) (hz1 : z ≤ 1) :
    Calls Try.prog 59 #[.agg #[.int .i64 x, .int .i64 y, .int .i64 z]] w fun e w' =>
      ∃ v, e = .returned v ∧ GoalsAt w' v [(2, 0), (5, 0), (1, x * 3), (2, extI y z), (4, 0), (2, 0)] ∧ Below w.heap.size w w' := by
  go_enter Try.func59, Try.ntmps59
  go_wp2_with fail
  refine (visit_any _ _ _ _ _ hx1 hx4 hz0 hz1).mono ?_
  rintro e w1 ⟨v, rfl, ho⟩
  have X : Hid (GoalsAt w1 v [(2, 0), (5, 0), (1, x * 3), (2, extI y z), (4, 0), (2, 0)]) := ho.at (by simp) (by simp)
  have Y : Hid (Below w.heap.size w w1) := B.next (B.new1 _ _) ho.2 (by simp)
  clear ho
  go_wp2
  go_returns
  exact ⟨_, rfl, X.out, Y.out⟩

set_option maxHeartbeats 400000 in
theorem plans_any (w : World) : Calls Try.prog 49 #[] w fun e w' => e = .returned (.bool true) ∧ Below w.heap.size w w' := by
  go_enter Try.func49, Try.ntmps49
  go_wp2_with fail
  refine (takeIn_any _).mono ?_
  rintro e w1 ⟨v, rfl, ho⟩
  have Y : Hid (Below w.heap.size w w1) := ho.2
  obtain ⟨g, cap, hv, hg, _, hc⟩ := ho.at (by simp) (by simp)
  have c3 := (hc 3 (by simp)).1
  rw [hv]
  simp only [List.length_cons, List.length_nil]
  clear ho hc hv
  go_wp2
  go_returns
  exact ⟨rfl, Y.out⟩

set_option maxHeartbeats 2000000 in
theorem planSays_no (x y z : Int) (w : World) (hp : placeB x y z 4 = false) :
    Calls Try.prog 7 #[.agg #[.int .i64 x, .int .i64 y, .int .i64 z]] w fun e w' => e = .returned (.bool true) ∧ Below w.heap.size w w' := by
  have HP : Hid (placeB x y z 4 = false) := hp
  clear hp
  have F0 : Hid (PS w (w.alloc (.cells #[.int .i64 x, .int .i64 y, .int .i64 z] 28)) x y z) := PS.start w x y z
  go_enter Try.func7, Try.ntmps7
  go_wp2_with fail
  refine (plans_any _).mono ?_
  rintro e w1 ⟨rfl, hb1⟩
  have F1 : Hid (PS w w1 x y z) := F0.out.next hb1
  clear hb1 F0
  go_wp2_with fail
  refine (takeIn_any _).mono ?_
  rintro e w2 ⟨v2, rfl, ho2⟩
  have G2 : Hid (GoalsAt w2 v2 [(2, 0), (5, 0), (1, 0), (7, 0)]) := ho2.at (by simp) (by simp)
  have F2 : Hid (PS w w2 x y z) := F1.out.next ho2.2
  clear ho2 F1
  go_wp2_with fail
  refine (rtakeIn_any _).mono ?_
  rintro e w3 ⟨v3, rfl, ho3⟩
  have G3 : Hid (GoalsAt w3 v3 [(2, 0), (5, 0), (1, 0), (7, 0)]) := ho3.at (by simp) (by simp)
  have F3 : Hid (PS w w3 x y z) := F2.out.next ho3.2
  have G2' : Hid (GoalsAt w3 v2 [(2, 0), (5, 0), (1, 0), (7, 0)]) := G2.out.below ho3.2
  clear ho3 F2 G2
  go_wp2_with fail
  refine (sameGoals_any _ _ _ _ G2'.out G3.out).mono ?_
  rintro e w4 ⟨rfl, hb4⟩
  have F4 : Hid (PS w w4 x y z) := F3.out.next hb4
  clear hb4 F3 G3 G2'
  go_wp2_with fail
  refine (giveOut_any _).mono ?_
  rintro e w5 ⟨v5, rfl, ho5⟩
  have G5 : Hid (GoalsAt w5 v5 [(2, 0), (5, 0), (1, 0), (8, 0), (6, 0)]) := ho5.at (by simp) (by simp)
  have F5 : Hid (PS w w5 x y z) := F4.out.next ho5.2
  clear ho5 F4
  go_wp2_with fail
  refine (rgiveOut_any _).mono ?_
  rintro e w6 ⟨v6, rfl, ho6⟩
  have G6 : Hid (GoalsAt w6 v6 [(2, 0), (5, 0), (1, 0), (8, 0), (6, 0)]) := ho6.at (by simp) (by simp)
  have F6 : Hid (PS w w6 x y z) := F5.out.next ho6.2
  have G5' : Hid (GoalsAt w6 v5 [(2, 0), (5, 0), (1, 0), (8, 0), (6, 0)]) := G5.out.below ho6.2
  clear ho6 F5 G5
  go_wp2_with fail
  refine (sameGoals_any _ _ _ _ G5'.out G6.out).mono ?_
  rintro e w7 ⟨rfl, hb7⟩
  have F7 : Hid (PS w w7 x y z) := F6.out.next hb7
  clear hb7 F6 G6 G5'
  go_wp2_with fail
  refine (welcome_any _).mono ?_
  rintro e w8 ⟨v8, rfl, ho8⟩
  have G8 : Hid (GoalsAt w8 v8 [(2, 0), (5, 0), (1, 0), (6, 0)]) := ho8.at (by simp) (by simp)
  have F8 : Hid (PS w w8 x y z) := F7.out.next ho8.2
  clear ho8 F7
  go_wp2_with fail
  refine (rwelcome_any _).mono ?_
  rintro e w9 ⟨v9, rfl, ho9⟩
  have G9 : Hid (GoalsAt w9 v9 [(2, 0), (5, 0), (1, 0), (6, 0)]) := ho9.at (by simp) (by simp)
  have F9 : Hid (PS w w9 x y z) := F8.out.next ho9.2
  have G8' : Hid (GoalsAt w9 v8 [(2, 0), (5, 0), (1, 0), (6, 0)]) := G8.out.below ho9.2
  clear ho9 F8 G8
  go_wp2_with fail
  refine (sameGoals_any _ _ _ _ G8'.out G9.out).mono ?_
  rintro e w10 ⟨rfl, hb10⟩
  have F10 : Hid (PS w w10 x y z) := F9.out.next hb10
  clear hb10 F9 G9 G8'
  obtain ⟨_, zz, rr⟩ := F10.out
  go_wp2_with fail
  go_region_with (go_at_call 23; refine (rplace_any _ _ _ _ _).mono ?_; rw [HP.out, faultN_f]; rintro e wa ⟨rfl, hba⟩; simp only []; refine ‹∀ (a : Act) (w : World), wpAny _ _ _ _ _ _ a w → _› _ _ ?_; refine wpAny_take (i := 2) (v := .bool true) rfl (by kernel_rfl) (by kernel_rfl) (by kernel_rfl) (fun _ _ _ h => h) (Or.inl ⟨by kernel_rfl, fun _ => by kernel_rfl⟩) ?_; refine wpAny_take (i := 3) (v := .bool true) rfl (by kernel_rfl) (by kernel_rfl) (by kernel_rfl) (fun _ _ _ h => h) (Or.inl ⟨by kernel_rfl, fun _ => by kernel_rfl⟩) ?_; refine wpAny_take (i := 4) (v := undef) rfl (by kernel_rfl) (by kernel_rfl) (by kernel_rfl) (fun _ _ _ h => h) (Or.inr ⟨by kernel_rfl, rfl⟩) ?_; refine wpAny_take (i := 5) (v := undef) rfl (by kernel_rfl) (by kernel_rfl) (by kernel_rfl) (fun _ _ _ h => h) (Or.inr ⟨by kernel_rfl, rfl⟩) ?_; refine wpAny_take (i := 6) (v := undef) rfl (by kernel_rfl) (by kernel_rfl) (by kernel_rfl) (fun _ _ _ h => h) (Or.inr ⟨by kernel_rfl, rfl⟩) ?_; refine wpAny_take (i := 7) (v := undef) rfl (by kernel_rfl) (by kernel_rfl) (by kernel_rfl) (fun _ _ _ h => h) (Or.inr ⟨by kernel_rfl, rfl⟩) ?_; refine wpAny_take (i := 8) (v := undef) rfl (by kernel_rfl) (by kernel_rfl) (by kernel_rfl) (fun _ _ _ h => h) (Or.inr ⟨by kernel_rfl, rfl⟩) ?_; refine wpAny_take (i := 9) (v := undef) rfl (by kernel_rfl) (by kernel_rfl) (by kernel_rfl) (fun _ _ _ h => h) (Or.inr ⟨by kernel_rfl, rfl⟩) ?_; refine wpAny_take (i := 10) (v := undef) rfl (by kernel_rfl) (by kernel_rfl) (by kernel_rfl) (fun _ _ _ h => h) (Or.inr ⟨by kernel_rfl, rfl⟩) ?_; refine wpAny_take (i := 11) (v := undef) rfl (by kernel_rfl) (by kernel_rfl) (by kernel_rfl) (fun _ _ _ h => h) (Or.inr ⟨by kernel_rfl, rfl⟩) ?_; refine wpAny_take (i := 12) (v := undef) rfl (by kernel_rfl) (by kernel_rfl) (by kernel_rfl) (fun _ _ _ h => h) (Or.inr ⟨by kernel_rfl, rfl⟩) ?_; refine wpAny_take (i := 13) (v := undef) rfl (by kernel_rfl) (by kernel_rfl) (by kernel_rfl) (fun _ _ _ h => h) (Or.inr ⟨by kernel_rfl, rfl⟩) ?_; refine wpAny_take (i := 14) (v := undef) rfl (by kernel_rfl) (by kernel_rfl) (by kernel_rfl) (fun _ _ _ h => h) (Or.inr ⟨by kernel_rfl, rfl⟩) ?_; refine wpAny_take (i := 15) (v := undef) rfl (by kernel_rfl) (by kernel_rfl) (by kernel_rfl) (fun _ _ _ h => h) (Or.inr ⟨by kernel_rfl, rfl⟩) ?_; simp only [Act.put, List.getElem_toArray, List.getElem_cons_zero, List.getElem_cons_succ, List.setIfInBounds_toArray, List.set_cons_zero, List.set_cons_succ])
  all_goals
    go_wp2
    go_returns
    exact ⟨rfl, (F10.out.drew.next hba).1⟩

set_option maxHeartbeats 2000000 in
theorem planSays_yes (x y z : Int) (w : World) (hp : placeB x y z 4 = true) :
    Calls Try.prog 7 #[.agg #[.int .i64 x, .int .i64 y, .int .i64 z]] w fun e w' => e = .returned (.bool true) ∧ Below w.heap.size w w' := by
  have HP : Hid (placeB x y z 4 = true) := hp
  have hq := hp
  simp only [placeB, decide_eq_true_eq] at hq
  obtain ⟨hx1, hx4, hy0, hy1, hz0, hz1⟩ := hq
  clear hp
  have F0 : Hid (PS w (w.alloc (.cells #[.int .i64 x, .int .i64 y, .int .i64 z] 28)) x y z) := PS.start w x y z
  go_enter Try.func7, Try.ntmps7
  go_wp2_with fail
  refine (plans_any _).mono ?_
  rintro e w1 ⟨rfl, hb1⟩
  have F1 : Hid (PS w w1 x y z) := F0.out.next hb1
  clear hb1 F0
  go_wp2_with fail
  refine (takeIn_any _).mono ?_
  rintro e w2 ⟨v2, rfl, ho2⟩
  have G2 : Hid (GoalsAt w2 v2 [(2, 0), (5, 0), (1, 0), (7, 0)]) := ho2.at (by simp) (by simp)
  have F2 : Hid (PS w w2 x y z) := F1.out.next ho2.2
  clear ho2 F1
  go_wp2_with fail
  refine (rtakeIn_any _).mono ?_
  rintro e w3 ⟨v3, rfl, ho3⟩
  have G3 : Hid (GoalsAt w3 v3 [(2, 0), (5, 0), (1, 0), (7, 0)]) := ho3.at (by simp) (by simp)
  have F3 : Hid (PS w w3 x y z) := F2.out.next ho3.2
  have G2' : Hid (GoalsAt w3 v2 [(2, 0), (5, 0), (1, 0), (7, 0)]) := G2.out.below ho3.2
  clear ho3 F2 G2
  go_wp2_with fail
  refine (sameGoals_any _ _ _ _ G2'.out G3.out).mono ?_
  rintro e w4 ⟨rfl, hb4⟩
  have F4 : Hid (PS w w4 x y z) := F3.out.next hb4
  clear hb4 F3 G3 G2'
  go_wp2_with fail
  refine (giveOut_any _).mono ?_
  rintro e w5 ⟨v5, rfl, ho5⟩
  have G5 : Hid (GoalsAt w5 v5 [(2, 0), (5, 0), (1, 0), (8, 0), (6, 0)]) := ho5.at (by simp) (by simp)
  have F5 : Hid (PS w w5 x y z) := F4.out.next ho5.2
  clear ho5 F4
  go_wp2_with fail
  refine (rgiveOut_any _).mono ?_
  rintro e w6 ⟨v6, rfl, ho6⟩
  have G6 : Hid (GoalsAt w6 v6 [(2, 0), (5, 0), (1, 0), (8, 0), (6, 0)]) := ho6.at (by simp) (by simp)
  have F6 : Hid (PS w w6 x y z) := F5.out.next ho6.2
  have G5' : Hid (GoalsAt w6 v5 [(2, 0), (5, 0), (1, 0), (8, 0), (6, 0)]) := G5.out.below ho6.2
  clear ho6 F5 G5
  go_wp2_with fail
  refine (sameGoals_any _ _ _ _ G5'.out G6.out).mono ?_
  rintro e w7 ⟨rfl, hb7⟩
  have F7 : Hid (PS w w7 x y z) := F6.out.next hb7
  clear hb7 F6 G6 G5'
  go_wp2_with fail
  refine (welcome_any _).mono ?_
  rintro e w8 ⟨v8, rfl, ho8⟩
  have G8 : Hid (GoalsAt w8 v8 [(2, 0), (5, 0), (1, 0), (6, 0)]) := ho8.at (by simp) (by simp)
  have F8 : Hid (PS w w8 x y z) := F7.out.next ho8.2
  clear ho8 F7
  go_wp2_with fail
  refine (rwelcome_any _).mono ?_
  rintro e w9 ⟨v9, rfl, ho9⟩
  have G9 : Hid (GoalsAt w9 v9 [(2, 0), (5, 0), (1, 0), (6, 0)]) := ho9.at (by simp) (by simp)
  have F9 : Hid (PS w w9 x y z) := F8.out.next ho9.2
  have G8' : Hid (GoalsAt w9 v8 [(2, 0), (5, 0), (1, 0), (6, 0)]) := G8.out.below ho9.2
  clear ho9 F8 G8
  go_wp2_with fail
  refine (sameGoals_any _ _ _ _ G8'.out G9.out).mono ?_
  rintro e w10 ⟨rfl, hb10⟩
  have F10 : Hid (PS w w10 x y z) := F9.out.next hb10
  clear hb10 F9 G9 G8'
  obtain ⟨_, zz, rr⟩ := F10.out
  go_wp2_with fail
  go_region_held3 (fun wx => wx.cell? ⟨w.heap.size, 0, none⟩ = some (.int .i64 x) ∧ wx.cell? ⟨w.heap.size, 1, none⟩ = some (.int .i64 y) ∧ wx.cell? ⟨w.heap.size, 2, none⟩ = some (.int .i64 z)) (go_keep)
    (first
      | (go_at_call 23; refine (rplace_any _ _ _ _ _).mono ?_; rw [HP.out, faultN_t]; rintro e wa ⟨rfl, hba⟩
         have FA : Hid (PS w wa x y z) := F10.out.drew.next hba
         have ra := FA.out.2.2
         clear hba)
      | (go_at_call 57; refine (fetch_any _ _ _ _ hx1 hx4 hz0 hz1).mono ?_; rintro e wb ⟨vb, rfl, hgb, hbb⟩
         have FB : Hid (PS w wb x y z) := FA.out.next hbb
         have GB : Hid (GoalsAt wb vb [(2, 0), (5, 0), (1, x * 3), (2, extI y z), (3, 0), (2, 0)]) := hgb
         have rb := FB.out.2.2
         clear hbb hgb)
      | (go_at_call_of 58 (Value.int IntKind.i64 3); refine (there_any _ _ _ _ _ hx1 hx4 hz0 hz1).mono ?_; rintro e wc' ⟨vc, rfl, hoc⟩
         have FC : Hid (PS w wc' x y z) := FB.out.next hoc.2
         have GB' : Hid (GoalsAt wc' vb [(2, 0), (5, 0), (1, x * 3), (2, extI y z), (3, 0), (2, 0)]) := GB.out.below hoc.2
         have GC : Hid (GoalsAt wc' vc [(2, 0), (5, 0), (1, x * 3), (2, extI y z), (3, 0), (2, 0)]) := hoc.at (by simp) (by simp)
         have rc := FC.out.2.2
         clear hoc)
      | (go_at_call_of 50 vb; refine (sameGoals_any _ _ _ _ GB'.out GC.out).mono ?_; rintro e wd ⟨rfl, hbd⟩
         have FD : Hid (PS w wd x y z) := FC.out.next hbd
         have rd := FD.out.2.2
         clear hbd)
      | (go_at_call 59; refine (bring_any _ _ _ _ hx1 hx4 hz0 hz1).mono ?_; rintro e we ⟨ve, rfl, hge, hbe⟩
         have FE : Hid (PS w we x y z) := FD.out.next hbe
         have GE : Hid (GoalsAt we ve [(2, 0), (5, 0), (1, x * 3), (2, extI y z), (4, 0), (2, 0)]) := hge
         have re := FE.out.2.2
         clear hbe hge)
      | (go_at_call_of 58 (Value.int IntKind.i64 4); refine (there_any _ _ _ _ _ hx1 hx4 hz0 hz1).mono ?_; rintro e wf ⟨vf, rfl, hof⟩
         have FF : Hid (PS w wf x y z) := FE.out.next hof.2
         have GE' : Hid (GoalsAt wf ve [(2, 0), (5, 0), (1, x * 3), (2, extI y z), (4, 0), (2, 0)]) := GE.out.below hof.2
         have GF : Hid (GoalsAt wf vf [(2, 0), (5, 0), (1, x * 3), (2, extI y z), (4, 0), (2, 0)]) := hof.at (by simp) (by simp)
         have rf := FF.out.2.2
         clear hof)
      | (go_at_call_of 50 ve; refine (sameGoals_any _ _ _ _ GE'.out GF.out).mono ?_; rintro e wg ⟨rfl, hbg⟩
         have FG : Hid (PS w wg x y z) := FF.out.next hbg
         have rg := FG.out.2.2
         clear hbg))
  go_wp2
  go_returns
  exact ⟨rfl, FG.out.1⟩

theorem planSays_any (x y z : Int) (w : World) :
    Calls Try.prog 7 #[.agg #[.int .i64 x, .int .i64 y, .int .i64 z]] w fun e w' => e = .returned (.bool true) ∧ Below w.heap.size w w' := by
  cases hp : placeB x y z 4
  · exact planSays_no x y z w hp
  · exact planSays_yes x y z w hp

/-- The statement: for every input 'PlanSays' answers true. -/
theorem planSays_holds : Rows.PlanSaysSaid :=
  OpenClaim.holds_of_wide 7 Try.f7 rfl rfl rfl rfl rfl rfl rfl ⟨rfl, rfl, rfl, rfl, rfl⟩ rfl rfl rfl rfl rfl (by kernel_rfl) Try.func7 (by kernel_rfl)
    (of_decide_eq_true (by kernel_rfl)) (by unfold Func.isWrapper; first | (rw [if_pos (by decide +kernel)]; kernel_rfl) | (rw [if_neg (by decide +kernel)]; exact ⟨rfl, rfl⟩))
    (fun os started H enc _ => law_lifted (s := Rows.planSaysSpec) os started H enc (by kernel_rfl) Try.func7
      (ChangeSpec.witness6 (enc := enc) (C := Try.checked) false ⟨#[], #[.agg #[.int .i64 0, .int .i64 0, .int .i64 0]], []⟩ 8 (by kernel_rfl) (by kernel_rfl) (by kernel_rfl) (by kernel_rfl))
      (by kernel_rfl) (by kernel_rfl) rfl
      (fun ds h => by
        match ds, h with
        | [d1], _ => rfl)
      (fun W base args ds p hval hsz hA hlt => by
        rw [Try.params7] at hval hA
        obtain ⟨a, rfl⟩ := array_args1 (hsz.trans (by rw [Try.params7]; rfl))
        obtain ⟨x, y, z, rfl, _⟩ := open_place (hval 0 28 a rfl rfl)
        exact planSays_any x y z W))

end Go.Proofs.Yticjjnmmedmbiaa
