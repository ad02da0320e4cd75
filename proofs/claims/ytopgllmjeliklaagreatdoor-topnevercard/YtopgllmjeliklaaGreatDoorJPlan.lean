/- Chapter 5: what the plans are, the program's and the document's (D2); contracts for the laws. -/
import Derived.Test.YtopgllmjeliklaaGreatDoorJShelf
import Derived.Deep.RegionHeld3
import Derived.Deep.RegionLawGrows
namespace Go.Proofs.YtopgllmjeliklaaGreatDoor
open Go.ChangeShapes Go.WideShapes Go.ChangeAt Go.RowKit
set_option maxRecDepth 100000
set_option linter.unusedSimpArgs false
set_option linter.unusedVariables false

/-- Goals, one behind the other, as they lie in memory. -/
def flatG : List (Int × Int) → List Value
  | [] => []
  | g :: l => .int .i64 g.1 :: .int .i64 g.2 :: flatG l
theorem flatG_length : ∀ l, (flatG l).length = l.length * 2
  | [] => rfl
  | g :: l => by simp [flatG, flatG_length l]; omega

/-- The call hands over a list of its own, that holds these goals. -/
def GoalsOwn (w w' : World) (v : Value) (l : List (Int × Int)) : Prop := w'.ownsRow w.heap.size 102 2 v l.length (flatG l) ∧ Below w.heap.size w w'

theorem Tryz.infoGoal : (Tryz.prog.info? 102).map (fun i => (i.zero, i.size, i.bytes)) = some (some (.agg #[.int .i64 0, .int .i64 0]), 2, 16) := by kernel_rfl
theorem info_goal : ∃ i, Tryz.prog.info? 102 = some i ∧ i.zero = some (.agg #[.int .i64 0, .int .i64 0]) ∧ i.size = 2 ∧ i.bytes = 16 := by
  have h := Tryz.infoGoal
  cases hi : Tryz.prog.info? 102 with
  | none => rw [hi] at h; cases h
  | some i =>
    rw [hi] at h
    simp only [Option.map_some, Option.some.injEq, Prod.mk.injEq] at h
    exact ⟨i, rfl, h.1, h.2.1, h.2.2⟩

theorem news_new (w : World) (l : List Value) (t : TypeId) (n : Nat) (hn : n = w.heap.size) : ∀ j u, l[j]? = some u → (w.alloc (.cells l.toArray t)).cell? ((⟨n, 0, none⟩ : Addr).add j) = some u := by
  subst hn
  intro j u h
  have e : (⟨w.heap.size, 0, none⟩ : Addr).add j = ⟨w.heap.size, j, none⟩ := by
    unfold Addr.add
    split
    · rename_i h0; subst h0; rfl
    · simp
  rw [e, World.cell?_alloc_mark]
  simpa using h

set_option maxHeartbeats 400000 in
theorem moveTo_any (h : Int) (w : World) : Calls Tryz.prog 145 #[.int .i64 h] w fun e w' =>
    e = .returned (.slice (some ⟨w.heap.size, 0, none⟩) 3 3) ∧ w' = w.alloc (.cells #[.int .i64 2, .int .i64 0, .int .i64 5, .int .i64 0, .int .i64 1, .int .i64 h] 102) := by
  go_enter Tryz.func145, Tryz.ntmps145
  go_wp2
  go_returns
  exact ⟨rfl, rfl⟩

-- left out: this seat has not what it speaks of

set_option maxHeartbeats 1000000 in
theorem takeIn_any (w : World) : Calls Tryz.prog 123 #[] w fun e w' => ∃ v, e = .returned v ∧ GoalsOwn w w' v [(2, 0), (5, 0), (1, 0), (7, 0)] := by
  obtain ⟨i0, hi, hz0, hz1, hz2⟩ := info_goal
  have HO : Hid ((w.alloc (.cells #[.int .i64 2, .int .i64 0, .int .i64 5, .int .i64 0, .int .i64 1, .int .i64 0] 102)).ownsRow w.heap.size 102 2 (.slice (some ⟨w.heap.size, 0, none⟩) 3 3) 3 [.int .i64 2, .int .i64 0, .int .i64 5, .int .i64 0, .int .i64 1, .int .i64 0]) := World.ownsRow_lit (base := w.heap.size) (e := 102) (size := 2) w #[.int .i64 2, .int .i64 0, .int .i64 5, .int .i64 0, .int .i64 1, .int .i64 0] 3 (Nat.le_refl _) (by unfold maxLen; omega) rfl
  go_enter Tryz.func123, Tryz.ntmps123
  go_wp2_with (first
    | (go_at_call 145; refine (moveTo_any _ _).mono ?_; rintro e w1 ⟨rfl, rfl⟩)
    | (at_builtin; refine wpList_append_own _ rfl _ _ 53 rfl w.heap.size 102 i0 (.agg #[.int .i64 0, .int .i64 0]) 2 16 Tryz.underlying53 hi hz0 hz1 hz2 rfl (by decide) _ 3 _ rfl (HO.out.alloc _) ⟨w.heap.size + 1, 0, none⟩ 1 1 [.int .i64 7, .int .i64 0] rfl rfl (news_new _ _ _ _ (by simp)) (fun x hx => by simp at hx; rcases hx with rfl | rfl <;> rfl) (by unfold maxLen; omega) (by omega) (by simp; omega) ?_
       intro v' w3 hown' hgrow3 hnil3
       have X : Hid (GoalsOwn w w3 v' [(2, 0), (5, 0), (1, 0), (7, 0)]) := ⟨hown', Below.grown (((Below.refl _ _).alloc (Nat.le_refl _) _).alloc (by simp) _) hgrow3 (by simp; omega) (fun j hj => (HO.out.lt j hj).1)⟩
       clear hown' hgrow3 hnil3))
  go_returns
  exact ⟨_, rfl, X.out⟩

set_option maxHeartbeats 1000000 in
theorem giveOut_any (w : World) : Calls Tryz.prog 115 #[] w fun e w' => ∃ v, e = .returned v ∧ GoalsOwn w w' v [(2, 0), (5, 0), (1, 0), (8, 0), (6, 0)] := by
  obtain ⟨i0, hi, hz0, hz1, hz2⟩ := info_goal
  have HO : Hid ((w.alloc (.cells #[.int .i64 2, .int .i64 0, .int .i64 5, .int .i64 0, .int .i64 1, .int .i64 0] 102)).ownsRow w.heap.size 102 2 (.slice (some ⟨w.heap.size, 0, none⟩) 3 3) 3 [.int .i64 2, .int .i64 0, .int .i64 5, .int .i64 0, .int .i64 1, .int .i64 0]) := World.ownsRow_lit (base := w.heap.size) (e := 102) (size := 2) w #[.int .i64 2, .int .i64 0, .int .i64 5, .int .i64 0, .int .i64 1, .int .i64 0] 3 (Nat.le_refl _) (by unfold maxLen; omega) rfl
  go_enter Tryz.func115, Tryz.ntmps115
  go_wp2_with (first
    | (go_at_call 145; refine (moveTo_any _ _).mono ?_; rintro e w1 ⟨rfl, rfl⟩)
    | (at_builtin; refine wpList_append_own _ rfl _ _ 53 rfl w.heap.size 102 i0 (.agg #[.int .i64 0, .int .i64 0]) 2 16 Tryz.underlying53 hi hz0 hz1 hz2 rfl (by decide) _ 3 _ rfl (HO.out.alloc _) ⟨w.heap.size + 1, 0, none⟩ 2 2 [.int .i64 8, .int .i64 0, .int .i64 6, .int .i64 0] rfl rfl (news_new _ _ _ _ (by simp)) (fun x hx => by simp at hx; rcases hx with rfl | rfl | rfl | rfl <;> rfl) (by unfold maxLen; omega) (by omega) (by simp; omega) ?_
       intro v' w3 hown' hgrow3 hnil3
       have X : Hid (GoalsOwn w w3 v' [(2, 0), (5, 0), (1, 0), (8, 0), (6, 0)]) := ⟨hown', Below.grown (((Below.refl _ _).alloc (Nat.le_refl _) _).alloc (by simp) _) hgrow3 (by simp; omega) (fun j hj => (HO.out.lt j hj).1)⟩
       clear hown' hgrow3 hnil3))
  go_returns
  exact ⟨_, rfl, X.out⟩

set_option maxHeartbeats 1000000 in
theorem welcome_any (w : World) : Calls Tryz.prog 118 #[] w fun e w' => ∃ v, e = .returned v ∧ GoalsOwn w w' v [(2, 0), (5, 0), (1, 0), (6, 0)] := by
  obtain ⟨i0, hi, hz0, hz1, hz2⟩ := info_goal
  have HO : Hid ((w.alloc (.cells #[.int .i64 2, .int .i64 0, .int .i64 5, .int .i64 0, .int .i64 1, .int .i64 0] 102)).ownsRow w.heap.size 102 2 (.slice (some ⟨w.heap.size, 0, none⟩) 3 3) 3 [.int .i64 2, .int .i64 0, .int .i64 5, .int .i64 0, .int .i64 1, .int .i64 0]) := World.ownsRow_lit (base := w.heap.size) (e := 102) (size := 2) w #[.int .i64 2, .int .i64 0, .int .i64 5, .int .i64 0, .int .i64 1, .int .i64 0] 3 (Nat.le_refl _) (by unfold maxLen; omega) rfl
  go_enter Tryz.func118, Tryz.ntmps118
  go_wp2_with (first
    | (go_at_call 145; refine (moveTo_any _ _).mono ?_; rintro e w1 ⟨rfl, rfl⟩)
    | (at_builtin; refine wpList_append_own _ rfl _ _ 53 rfl w.heap.size 102 i0 (.agg #[.int .i64 0, .int .i64 0]) 2 16 Tryz.underlying53 hi hz0 hz1 hz2 rfl (by decide) _ 3 _ rfl (HO.out.alloc _) ⟨w.heap.size + 1, 0, none⟩ 1 1 [.int .i64 6, .int .i64 0] rfl rfl (news_new _ _ _ _ (by simp)) (fun x hx => by simp at hx; rcases hx with rfl | rfl <;> rfl) (by unfold maxLen; omega) (by omega) (by simp; omega) ?_
       intro v' w3 hown' hgrow3 hnil3
       have X : Hid (GoalsOwn w w3 v' [(2, 0), (5, 0), (1, 0), (6, 0)]) := ⟨hown', Below.grown (((Below.refl _ _).alloc (Nat.le_refl _) _).alloc (by simp) _) hgrow3 (by simp; omega) (fun j hj => (HO.out.lt j hj).1)⟩
       clear hown' hgrow3 hnil3))
  go_returns
  exact ⟨_, rfl, X.out⟩

-- left out: this seat has not what it speaks of

-- left out: this seat has not what it speaks of

-- left out: this seat has not what it speaks of

end Go.Proofs.YtopgllmjeliklaaGreatDoor

namespace Go.Proofs.YtopgllmjeliklaaGreatDoor
open Go.ChangeShapes Go.WideShapes Go.ChangeAt Go.RowKit
set_option maxRecDepth 100000
set_option linter.unusedSimpArgs false
set_option linter.unusedVariables false

theorem olds_old {w : World} {b : Nat} {l : List Value} (x : Obj) (hr : ∀ o, w.cell? ⟨b, o, none⟩ = l.toArray[o]?) (hlt : b < w.heap.size) :
    ∀ b', some (⟨b, 0, none⟩ : Addr) = some b' → ∀ j u, l[j]? = some u → (w.alloc x).cell? (b'.add j) = some u := by
  intro b' hb j u h
  cases hb
  have e : (⟨b, 0, none⟩ : Addr).add j = ⟨b, j, none⟩ := by
    unfold Addr.add
    split
    · rename_i h0; subst h0; rfl
    · simp
  rw [e, B.row_old x hr hlt j]
  simpa using h
theorem ints_one (l : List Int) : ∀ u ∈ l.map (Value.int .i64), u.oneCell' = true := by
  intro u hu
  obtain ⟨n, _, rfl⟩ := List.mem_map.1 hu
  rfl
theorem owns_le {w : World} {base base' : Nat} {e : TypeId} {size : Nat} {v : Value} {n : Nat} {xs : List Value} (h : w.ownsRow base e size v n xs) (hb : base' ≤ base) : w.ownsRow base' e size v n xs :=
  ⟨h.1, h.2.elim Or.inl (fun ⟨g, cap, cur, hv, hg, r⟩ => Or.inr ⟨g, cap, cur, hv, Nat.le_trans hb hg, r⟩)⟩

set_option maxHeartbeats 2000000 in
theorem visit_any (x y z kind : Int) (w : World) (hx1 : 1 ≤ x) (hx4 : x ≤ 4) (hz0 : 0 ≤ z) (hz1 : z ≤ 1) :
    Calls Tryz.prog 117 #[.agg #[.int .i64 x, .int .i64 y, .int .i64 z], .int .i64 kind] w fun e w' =>
      ∃ v, e = .returned v ∧ GoalsOwn w w' v [(2, 0), (5, 0), (1, x * 3), (2, extI y z), (kind, 0), (2, 0)] := by
  obtain ⟨i0, hi, hi0, hi1, hi2⟩ := info_goal
  obtain ⟨n, HN⟩ : ∃ n : Int, Hid (n = x * 3) := ⟨_, rfl⟩
  have hm : IntKind.i64.wrap (x * 3) = n := by rw [IntKind.wrap_i64, HN.out]; omega
  generalize hex : extI y z = ee
  have HE : Hid (extI y z = ee) := hex
  clear hex
  go_enter Tryz.func117, Tryz.ntmps117
  go_wp2_with fail
  go_region_held3 (fun wx => wx.cell? ⟨w.heap.size, 0, none⟩ = some (.int .i64 x) ∧ wx.cell? ⟨w.heap.size, 1, none⟩ = some (.int .i64 y) ∧ wx.cell? ⟨w.heap.size, 2, none⟩ = some (.int .i64 z)) (go_keep)
    (first
      | (go_at_call 145; refine (moveTo_any _ _).mono ?_; rintro e w1 ⟨rfl, rfl⟩)
      | (go_at_call 146; refine (ext_any _ _ _ _ hz0 hz1).mono ?_; rw [HE.out]; rintro e w2 ⟨rfl, hb2⟩
         have hc2 := B.row hb2 (b := w.heap.size) (C := #[.int .i64 x, .int .i64 y, .int .i64 z]) (B.row_old _ (B.row_new w _ _) (by simp)) (by simp; omega)
         have hd2 := B.row hb2 (b := w.heap.size + 1) (C := #[.int .i64 2, .int .i64 0, .int .i64 5, .int .i64 0, .int .i64 1, .int .i64 n]) (fun o => by rw [show w.heap.size + 1 = (w.alloc (.cells #[.int .i64 x, .int .i64 y, .int .i64 z] 65)).drew.heap.size from by simp]; exact B.row_new _ _ _ o) (by simp)
         have z2 : w.heap.size + 2 ≤ w2.heap.size := by have := hb2.size; simp at this; omega
         have B2 : Hid (Below w.heap.size w w2) := B.next ((B.new1 w _).drew.alloc (by simp) _) hb2 (by simp; omega)
         clear hb2)
      | (refine step_append_grows rfl _ _ 53 rfl 102 i0 (.agg #[.int .i64 0, .int .i64 0]) 2 16 Tryz.underlying53 hi hi0 hi1 hi2 rfl (by decide) (some ⟨w.heap.size + 1, 0, none⟩) 3 3 [.int .i64 2, .int .i64 0, .int .i64 5, .int .i64 0, .int .i64 1, .int .i64 n] rfl (fun h => by cases h) rfl (olds_old _ hd2 (by omega)) ⟨w2.heap.size, 0, none⟩ 3 3 [.int .i64 2, .int .i64 ee, .int .i64 kind, .int .i64 0, .int .i64 2, .int .i64 0] rfl rfl (news_new _ _ _ _ rfl) (ints_one [2, ee, kind, 0, 2, 0]) (by decide) (by unfold maxLen; omega) (by omega) ?_
         intro v' w3 hown' hgrow3
         have X : Hid (GoalsOwn w w3 v' [(2, 0), (5, 0), (1, n), (2, ee), (kind, 0), (2, 0)]) := ⟨owns_le hown' (by simp; omega), Below.grown (B2.out.alloc (by omega) _) hgrow3 (by simp; omega) (fun k h => by cases h)⟩
         have hc3 := B.row (Below.grown (Below.refl _ _) hgrow3 (Nat.le_refl _) (fun k h => by cases h)) (B.row_old _ hc2 (by omega)) (by simp; omega)
         clear hown' hgrow3))
  go_wp2
  go_returns
  refine ⟨_, rfl, ?_⟩
  rw [← HN.out]
  exact X.out

-- left out: this seat has not what it speaks of

end Go.Proofs.YtopgllmjeliklaaGreatDoor
