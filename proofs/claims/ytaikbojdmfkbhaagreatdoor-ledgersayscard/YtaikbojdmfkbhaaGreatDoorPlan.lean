/- Chapter 5: what the plans are, the program's and the document's (D2); contracts for the laws. -/
import Derived.Test.YtaikbojdmfkbhaaGreatDoorTower
namespace Go.Proofs.YtaikbojdmfkbhaaGreatDoor
open Go.ChangeShapes Go.WideShapes Go.ChangeAt Go.RowKit
set_option maxRecDepth 100000
set_option linter.unusedSimpArgs false
set_option linter.unusedVariables false

/-- Goals, one behind the other, as they lie in memory. -/
def flatG : List (Int × Int) → List Value
  | [] => []
  | g :: l => .int .i64 g.1 :: .int .i64 g.2 :: flatG l
theorem flatG_length : ∀ l, (flatG l).length = l.length * 2
  | [] => rfl
  | g :: l => by simp [flatG, flatG_length l]; omega

/-- The call hands over a list of its own, that holds these goals. -/
def GoalsOwn (w w' : World) (v : Value) (l : List (Int × Int)) : Prop := w'.ownsRow w.heap.size 134 2 v l.length (flatG l) ∧ Below w.heap.size w w'

theorem Tryz.infoGoal : (Tryz.prog.info? 134).map (fun i => (i.zero, i.size, i.bytes)) = some (some (.agg #[.int .i64 0, .int .i64 0]), 2, 16) := by kernel_rfl
theorem info_goal : ∃ i, Tryz.prog.info? 134 = some i ∧ i.zero = some (.agg #[.int .i64 0, .int .i64 0]) ∧ i.size = 2 ∧ i.bytes = 16 := by
  have h := Tryz.infoGoal
  cases hi : Tryz.prog.info? 134 with
  | none => rw [hi] at h; cases h
  | some i =>
    rw [hi] at h
    simp only [Option.map_some, Option.some.injEq, Prod.mk.injEq] at h
    exact ⟨i, rfl, h.1, h.2.1, h.2.2⟩

theorem news_new (w : World) (l : List Value) (t : TypeId) (n : Nat) (hn : n = w.heap.size) : ∀ j u, l[j]? = some u → (w.alloc (.cells l.toArray t)).cell? ((⟨n, 0, none⟩ : Addr).add j) = some u := by
  subst hn
  intro j u h
  have e : (⟨w.heap.size, 0, none⟩ : Addr).add j = ⟨w.heap.size, j, none⟩ := by
    unfold Addr.add
    split
    · rename_i h0; subst h0; rfl
    · simp
  rw [e, World.cell?_alloc_mark]
  simpa using h

set_option maxHeartbeats 400000 in
theorem moveTo_any (h : Int) (w : World) : Calls Tryz.prog 177 #[.int .i64 h] w fun e w' =>
    e = .returned (.slice (some ⟨w.heap.size, 0, none⟩) 3 3) ∧ w' = w.alloc (.cells #[.int .i64 2, .int .i64 0, .int .i64 5, .int .i64 0, .int .i64 1, .int .i64 h] 134) := by
  go_enter Tryz.func177, Tryz.ntmps177
  go_wp2
  go_returns
  exact ⟨rfl, rfl⟩

-- left out: this seat has not what it speaks of

set_option maxHeartbeats 1000000 in
theorem takeIn_any (w : World) : Calls Tryz.prog 157 #[] w fun e w' => ∃ v, e = .returned v ∧ GoalsOwn w w' v [(2, 0), (5, 0), (1, 0), (7, 0)] := by
  obtain ⟨i0, hi, hz0, hz1, hz2⟩ := info_goal
  have HO : Hid ((w.alloc (.cells #[.int .i64 2, .int .i64 0, .int .i64 5, .int .i64 0, .int .i64 1, .int .i64 0] 134)).ownsRow w.heap.size 134 2 (.slice (some ⟨w.heap.size, 0, none⟩) 3 3) 3 [.int .i64 2, .int .i64 0, .int .i64 5, .int .i64 0, .int .i64 1, .int .i64 0]) := World.ownsRow_lit (base := w.heap.size) (e := 134) (size := 2) w #[.int .i64 2, .int .i64 0, .int .i64 5, .int .i64 0, .int .i64 1, .int .i64 0] 3 (Nat.le_refl _) (by unfold maxLen; omega) rfl
  go_enter Tryz.func157, Tryz.ntmps157
  go_wp2_with (first
    | (go_at_call 177; refine (moveTo_any _ _).mono ?_; rintro e w1 ⟨rfl, rfl⟩)
    | (at_builtin; refine wpList_append_own _ rfl _ _ 71 rfl w.heap.size 134 i0 (.agg #[.int .i64 0, .int .i64 0]) 2 16 Tryz.underlying71 hi hz0 hz1 hz2 rfl (by decide) _ 3 _ rfl (HO.out.alloc _) ⟨w.heap.size + 1, 0, none⟩ 1 1 [.int .i64 7, .int .i64 0] rfl rfl (news_new _ _ _ _ (by simp)) (fun x hx => by simp at hx; rcases hx with rfl | rfl <;> rfl) (by unfold maxLen; omega) (by omega) (by simp; omega) ?_
       intro v' w3 hown' hgrow3 hnil3
       have X : Hid (GoalsOwn w w3 v' [(2, 0), (5, 0), (1, 0), (7, 0)]) := ⟨hown', Below.grown (((Below.refl _ _).alloc (Nat.le_refl _) _).alloc (by simp) _) hgrow3 (by simp; omega) (fun j hj => (HO.out.lt j hj).1)⟩
       clear hown' hgrow3 hnil3))
  go_returns
  exact ⟨_, rfl, X.out⟩

set_option maxHeartbeats 1000000 in
theorem giveOut_any (w : World) : Calls Tryz.prog 149 #[] w fun e w' => ∃ v, e = .returned v ∧ GoalsOwn w w' v [(2, 0), (5, 0), (1, 0), (8, 0), (6, 0)] := by
  obtain ⟨i0, hi, hz0, hz1, hz2⟩ := info_goal
  have HO : Hid ((w.alloc (.cells #[.int .i64 2, .int .i64 0, .int .i64 5, .int .i64 0, .int .i64 1, .int .i64 0] 134)).ownsRow w.heap.size 134 2 (.slice (some ⟨w.heap.size, 0, none⟩) 3 3) 3 [.int .i64 2, .int .i64 0, .int .i64 5, .int .i64 0, .int .i64 1, .int .i64 0]) := World.ownsRow_lit (base := w.heap.size) (e := 134) (size := 2) w #[.int .i64 2, .int .i64 0, .int .i64 5, .int .i64 0, .int .i64 1, .int .i64 0] 3 (Nat.le_refl _) (by unfold maxLen; omega) rfl
  go_enter Tryz.func149, Tryz.ntmps149
  go_wp2_with (first
    | (go_at_call 177; refine (moveTo_any _ _).mono ?_; rintro e w1 ⟨rfl, rfl⟩)
    | (at_builtin; refine wpList_append_own _ rfl _ _ 71 rfl w.heap.size 134 i0 (.agg #[.int .i64 0, .int .i64 0]) 2 16 Tryz.underlying71 hi hz0 hz1 hz2 rfl (by decide) _ 3 _ rfl (HO.out.alloc _) ⟨w.heap.size + 1, 0, none⟩ 2 2 [.int .i64 8, .int .i64 0, .int .i64 6, .int .i64 0] rfl rfl (news_new _ _ _ _ (by simp)) (fun x hx => by simp at hx; rcases hx with rfl | rfl | rfl | rfl <;> rfl) (by unfold maxLen; omega) (by omega) (by simp; omega) ?_
       intro v' w3 hown' hgrow3 hnil3
       have X : Hid (GoalsOwn w w3 v' [(2, 0), (5, 0), (1, 0), (8, 0), (6, 0)]) := ⟨hown', Below.grown (((Below.refl _ _).alloc (Nat.le_refl _) _).alloc (by simp) _) hgrow3 (by simp; omega) (fun j hj => (HO.out.lt j hj).1)⟩
       clear hown' hgrow3 hnil3))
  go_returns
  exact ⟨_, rfl, X.out⟩

set_option maxHeartbeats 1000000 in
theorem welcome_any (w : World) : Calls Tryz.prog 152 #[] w fun e w' => ∃ v, e = .returned v ∧ GoalsOwn w w' v [(2, 0), (5, 0), (1, 0), (6, 0)] := by
  obtain ⟨i0, hi, hz0, hz1, hz2⟩ := info_goal
  have HO : Hid ((w.alloc (.cells #[.int .i64 2, .int .i64 0, .int .i64 5, .int .i64 0, .int .i64 1, .int .i64 0] 134)).ownsRow w.heap.size 134 2 (.slice (some ⟨w.heap.size, 0, none⟩) 3 3) 3 [.int .i64 2, .int .i64 0, .int .i64 5, .int .i64 0, .int .i64 1, .int .i64 0]) := World.ownsRow_lit (base := w.heap.size) (e := 134) (size := 2) w #[.int .i64 2, .int .i64 0, .int .i64 5, .int .i64 0, .int .i64 1, .int .i64 0] 3 (Nat.le_refl _) (by unfold maxLen; omega) rfl
  go_enter Tryz.func152, Tryz.ntmps152
  go_wp2_with (first
    | (go_at_call 177; refine (moveTo_any _ _).mono ?_; rintro e w1 ⟨rfl, rfl⟩)
    | (at_builtin; refine wpList_append_own _ rfl _ _ 71 rfl w.heap.size 134 i0 (.agg #[.int .i64 0, .int .i64 0]) 2 16 Tryz.underlying71 hi hz0 hz1 hz2 rfl (by decide) _ 3 _ rfl (HO.out.alloc _) ⟨w.heap.size + 1, 0, none⟩ 1 1 [.int .i64 6, .int .i64 0] rfl rfl (news_new _ _ _ _ (by simp)) (fun x hx => by simp at hx; rcases hx with rfl | rfl <;> rfl) (by unfold maxLen; omega) (by omega) (by simp; omega) ?_
       intro v' w3 hown' hgrow3 hnil3
       have X : Hid (GoalsOwn w w3 v' [(2, 0), (5, 0), (1, 0), (6, 0)]) := ⟨hown', Below.grown (((Below.refl _ _).alloc (Nat.le_refl _) _).alloc (by simp) _) hgrow3 (by simp; omega) (fun j hj => (HO.out.lt j hj).1)⟩
       clear hown' hgrow3 hnil3))
  go_returns
  exact ⟨_, rfl, X.out⟩

-- left out: this seat has not what it speaks of

-- left out: this seat has not what it speaks of

-- left out: this seat has not what it speaks of

end Go.Proofs.YtaikbojdmfkbhaaGreatDoor
