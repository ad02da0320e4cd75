/- FromNums. -/
import Derived.Test.YtopgllmjeliklaaGreatDoorKiBookCheckB
set_option maxRecDepth 100000
set_option linter.unusedSimpArgs false
set_option linter.unusedVariables false
namespace Go.Proofs.YtopgllmjeliklaaGreatDoor
open Go.Shelf Go.ChangeShapes Go.WideShapes Go.ChangeAt Go.RowKit
namespace Tx
open Bk
def NumsAt (w : World) (g o : Nat) (L : List Int) : Prop := ∀ j, j < L.length → w.cell? ⟨g, o + j, none⟩ = some (.int .i64 (L.getD j 0))
theorem NumsAt.below {w w' : World} {g o : Nat} {L : List Int} (h : NumsAt w g o L) (hg : g < w.heap.size) (hb : Below w.heap.size w w') : NumsAt w' g o L := fun j hj => (hb.cell (p := ⟨g, _, none⟩) hg).trans (h j hj)
theorem NumsAt.drop {w : World} {g o : Nat} {L : List Int} (h : NumsAt w g o L) (k : Nat) : NumsAt w g (o + k) (L.drop k) := fun j hj => by
 rw [List.length_drop] at hj; have := h (k + j) (by omega); rw [Nat.add_assoc, this]
 simp [List.getD, List.getElem?_drop]
set_option maxHeartbeats 16000000 in
theorem stayFrom_any (g o cap : Nat) (L : List Int) (w : World) (h8 : 8 ≤ L.length) (hcap : L.length ≤ cap) (hm : cap ≤ 1000000) (hg : g < w.heap.size) (h : NumsAt w g o L) :
  Calls Tryz.prog 159 #[.slice (some ⟨g, o, none⟩) L.length cap] w fun e w' => e = .returned (.agg #[.int .i64 (stayP L).t, .int .i64 (stayP L).id, .int .i64 (stayP L).a, .int .i64 (stayP L).b, .int .i64 (stayP L).c, .int .i64 (stayP L).x, .int .i64 (stayP L).y, .int .i64 (stayP L).z]) ∧ Below w.heap.size w w' := by
 have s0 := h 0 (by omega); have s1 := h 1 (by omega); have s2 := h 2 (by omega); have s3 := h 3 (by omega); have s4 := h 4 (by omega); have s5 := h 5 (by omega); have s6 := h 6 (by omega); have s7 := h 7 (by omega); rw [Nat.add_zero] at s0; clear h; unfold stayP; simp only; generalize L.getD 0 0 = x0 at *; generalize L.getD 1 0 = x1 at *; generalize L.getD 2 0 = x2 at *; generalize L.getD 3 0 = x3 at *; generalize L.getD 4 0 = x4 at *; generalize L.getD 5 0 = x5 at *; generalize L.getD 6 0 = x6 at *; generalize L.getD 7 0 = x7 at *; generalize L.length = n at *; have b0 : (0 : Int) < (n : Int) := by omega
 have b0' : 0 < n := by omega
 have b1 : (1 : Int) < (n : Int) := by omega
 have b2 : (2 : Int) < (n : Int) := by omega
 have b3 : (3 : Int) < (n : Int) := by omega
 have b4 : (4 : Int) < (n : Int) := by omega
 have b5 : (5 : Int) < (n : Int) := by omega
 have b6 : (6 : Int) < (n : Int) := by omega
 have b7 : (7 : Int) < (n : Int) := by omega
 obtain ⟨wa, hwa⟩ : ∃ wa, w.alloc (.cells #[.int .i64 0, .int .i64 0, .int .i64 0, .int .i64 0, .int .i64 0, .int .i64 0, .int .i64 0, .int .i64 0] 67) = wa := ⟨_, rfl⟩
 have NA : Hid (Below w.heap.size w wa ∧ Blk wa w.heap.size #[.int .i64 0, .int .i64 0, .int .i64 0, .int .i64 0, .int .i64 0, .int .i64 0, .int .i64 0, .int .i64 0] 67 ∧ ∀ j, wa.cell? ⟨g, o + j, none⟩ = w.cell? ⟨g, o + j, none⟩) := by
  show _ ∧ _ ∧ _
  rw [← hwa]; have hb : Below w.heap.size w (w.alloc (.cells #[.int .i64 0, .int .i64 0, .int .i64 0, .int .i64 0, .int .i64 0, .int .i64 0, .int .i64 0, .int .i64 0] 67)) := B.new1 _ _; exact ⟨hb, Blk.new _ _ _, fun j => hb.cell (p := ⟨g, o + j, none⟩) hg⟩
 have t0 : wa.cell? ⟨g, o, none⟩ = _ := (NA.out.2.2 0).trans s0; have t1 := (NA.out.2.2 1).trans s1; have t2 := (NA.out.2.2 2).trans s2; have t3 := (NA.out.2.2 3).trans s3; have t4 := (NA.out.2.2 4).trans s4; have t5 := (NA.out.2.2 5).trans s5; have t6 := (NA.out.2.2 6).trans s6; have t7 := (NA.out.2.2 7).trans s7; have KZ := NA.out.2.1; have ff : ∀ o, wa.frozen? ⟨w.heap.size, o, none⟩ = false := KZ.free
 have gg : ∀ o, wa.cell? ⟨w.heap.size, o, none⟩ = #[.int .i64 0, .int .i64 0, .int .i64 0, .int .i64 0, .int .i64 0, .int .i64 0, .int .i64 0, .int .i64 0][o]? := KZ.cell
 obtain ⟨w9, hw9⟩ : ∃ w9, ((((((((wa.setCell ⟨w.heap.size, 0, none⟩ (.int .i64 x0)).setCell ⟨w.heap.size, 1, none⟩ (.int .i64 x1)).setCell ⟨w.heap.size, 2, none⟩ (.int .i64 x2)).setCell ⟨w.heap.size, 3, none⟩ (.int .i64 x3)).setCell ⟨w.heap.size, 4, none⟩ (.int .i64 x4)).setCell ⟨w.heap.size, 5, none⟩ (.int .i64 x5)).setCell ⟨w.heap.size, 6, none⟩ (.int .i64 x6)).setCell ⟨w.heap.size, 7, none⟩ (.int .i64 x7)) = w9 := ⟨_, rfl⟩
 have K9 : Hid (Blk w9 w.heap.size #[.int .i64 x0, .int .i64 x1, .int .i64 x2, .int .i64 x3, .int .i64 x4, .int .i64 x5, .int .i64 x6, .int .i64 x7] 67 ∧ Below w.heap.size w w9) := by
  show _ ∧ _
  rw [← hw9]; exact ⟨((((((((KZ.set 0 (.int .i64 x0)).set 1 (.int .i64 x1)).set 2 (.int .i64 x2)).set 3 (.int .i64 x3)).set 4 (.int .i64 x4)).set 5 (.int .i64 x5)).set 6 (.int .i64 x6)).set 7 (.int .i64 x7)), ((((((((NA.out.1.setCell (p := ⟨w.heap.size, 0, none⟩) (Nat.le_refl _) _).setCell (p := ⟨w.heap.size, 1, none⟩) (Nat.le_refl _) _).setCell (p := ⟨w.heap.size, 2, none⟩) (Nat.le_refl _) _).setCell (p := ⟨w.heap.size, 3, none⟩) (Nat.le_refl _) _).setCell (p := ⟨w.heap.size, 4, none⟩) (Nat.le_refl _) _).setCell (p := ⟨w.heap.size, 5, none⟩) (Nat.le_refl _) _).setCell (p := ⟨w.heap.size, 6, none⟩) (Nat.le_refl _) _).setCell (p := ⟨w.heap.size, 7, none⟩) (Nat.le_refl _) _)⟩
 have HS1 : Hid (wa.drew.cell? ⟨g, o, none⟩ = some (.int .i64 x0) ∧ wa.drew.cell? ⟨g, o + 1, none⟩ = some (.int .i64 x1) ∧ wa.drew.cell? ⟨g, o + 2, none⟩ = some (.int .i64 x2) ∧ wa.drew.cell? ⟨g, o + 3, none⟩ = some (.int .i64 x3) ∧ wa.drew.cell? ⟨g, o + 4, none⟩ = some (.int .i64 x4) ∧ wa.drew.cell? ⟨g, o + 5, none⟩ = some (.int .i64 x5) ∧ wa.drew.cell? ⟨g, o + 6, none⟩ = some (.int .i64 x6) ∧ wa.drew.cell? ⟨g, o + 7, none⟩ = some (.int .i64 x7)) := ⟨t0, t1, t2, t3, t4, t5, t6, t7⟩
 have HS9 : Hid (w9.drew.cell? ⟨g, o, none⟩ = some (.int .i64 x0) ∧ w9.drew.cell? ⟨g, o + 1, none⟩ = some (.int .i64 x1) ∧ w9.drew.cell? ⟨g, o + 2, none⟩ = some (.int .i64 x2) ∧ w9.drew.cell? ⟨g, o + 3, none⟩ = some (.int .i64 x3) ∧ w9.drew.cell? ⟨g, o + 4, none⟩ = some (.int .i64 x4) ∧ w9.drew.cell? ⟨g, o + 5, none⟩ = some (.int .i64 x5) ∧ w9.drew.cell? ⟨g, o + 6, none⟩ = some (.int .i64 x6) ∧ w9.drew.cell? ⟨g, o + 7, none⟩ = some (.int .i64 x7)) := by
  have e : ∀ p : Addr, p.block = g → w9.drew.cell? p = w.cell? p := fun p hp => K9.out.2.cell (by rw [hp]; exact hg)
  exact ⟨(e _ rfl).trans s0, (e _ rfl).trans s1, (e _ rfl).trans s2, (e _ rfl).trans s3, (e _ rfl).trans s4, (e _ rfl).trans s5, (e _ rfl).trans s6, (e _ rfl).trans s7⟩
 clear KZ s0 s1 s2 s3 s4 s5 s6 s7; have g9 := K9.out.1.cell
 go_enter Tryz.func159, Tryz.ntmps159
 go_wp2_with fail
 go_region_held3 (fun W => W.cell? ⟨g, o, none⟩ = some (.int .i64 x0) ∧ W.cell? ⟨g, o + 1, none⟩ = some (.int .i64 x1) ∧ W.cell? ⟨g, o + 2, none⟩ = some (.int .i64 x2) ∧ W.cell? ⟨g, o + 3, none⟩ = some (.int .i64 x3) ∧ W.cell? ⟨g, o + 4, none⟩ = some (.int .i64 x4) ∧ W.cell? ⟨g, o + 5, none⟩ = some (.int .i64 x5) ∧ W.cell? ⟨g, o + 6, none⟩ = some (.int .i64 x6) ∧ W.cell? ⟨g, o + 7, none⟩ = some (.int .i64 x7)) (first | with_reducible exact HS1.out | with_reducible exact HS9.out) (fail)
 go_wp2
 (try simp only [Exit.inBlock, Exit.then])
 refine bodyPost_ret (v := .agg #[.int .i64 x0, .int .i64 x1, .int .i64 x2, .int .i64 x3, .int .i64 x4, .int .i64 x5, .int .i64 x6, .int .i64 x7]) (by simp [results, Tryz.results159, go_sem, g9]; try rfl) rfl ?_; exact ⟨rfl, K9.out.2.drew⟩
theorem ownGe {α : Type} [Inhabited α] {w : World} {base : Nat} {T : TypeId} {k : Nat} {enc : α → List Value} {v : Value} {l : List α} (h : OwnAt w base T k enc v l) : ∀ g, v.ownBlock = some g → base ≤ g ∧ g < w.heap.size := by
 intro g e
 rcases h with ⟨rfl, _⟩ | ⟨n, cap, cur, rfl, hg, hk, _⟩
 ·cases e
 ·have : n = g := by simpa [Value.ownBlock] using e
  subst this; exact ⟨hg, hk.lt⟩
theorem ownSet {α : Type} [Inhabited α] {w : World} {base : Nat} {T : TypeId} {k : Nat} {enc : α → List Value} {v : Value} {l : List α} (h : OwnAt w base T k enc v l) {b o : Nat} (u : Value) (hne : b < base) : OwnAt (w.setCell ⟨b, o, none⟩ u) base T k enc v l := by
 rcases h with h | ⟨n, cap, cur, rfl, hg, hk, r⟩
 ·exact Or.inl h
 ·exact Or.inr ⟨n, cap, cur, rfl, hg, hk.other (by omega) _ _, r⟩
structure FI (w wx : World) (last : Int) (vs vj : Value) (S : List Stay) (J : List Job) : Prop where
 below : Below w.heap.size w wx
 b0 : Blk wx w.heap.size #[.int .i64 0, .slice none 0 0, .slice none 0 0] 39
 b1 : Blk wx (w.heap.size + 1) #[.int .i64 last, vs, vj] 39
 s : OwnAt wx (w.heap.size + 2) 67 8 Stay.enc vs S
 j : OwnAt wx (w.heap.size + 2) 88 2 Job.enc vj J
theorem FI.next {w wx : World} {last : Int} {vs vj : Value} {S : List Stay} {J : List Job} (h : FI w wx last vs vj S J) {wy : World} (hb : Below wx.heap.size wx wy) : FI w wy last vs vj S J :=
 ⟨B.next h.below hb h.below.size, h.b0.below hb, h.b1.below hb, h.s.below hb, h.j.below hb⟩
theorem ownNeT {α : Type} [Inhabited α] {w : World} {b : Nat} {T T' : TypeId} {k : Nat} {enc : α → List Value} {v : Value} {l : List α} {n : Nat} {a : Array Value} (h : OwnAt w b T k enc v l) (hk : Blk w n a T') (hT : T ≠ T') : v.ownBlock ≠ some n := by
 intro e
 rcases h with ⟨rfl, _⟩ | ⟨g, cap, cur, rfl, hg, hb, _⟩
 ·simp [Value.ownBlock] at e
 ·simp [Value.ownBlock] at e
  subst e; exact hT (blkType (a := cur) hb hk)
theorem FI.apart {w wx : World} {last : Int} {vs vj : Value} {S : List Stay} {J : List Job} (h : FI w wx last vs vj S J) : ∀ g, vs.ownBlock = some g → vj.ownBlock ≠ some g := fun g e e' => by
 rcases h.j with ⟨rfl, _⟩ | ⟨g', cap, cur, rfl, hg, hk, _⟩
 ·cases e'
 ·simp [Value.ownBlock] at e'
  subst e'; exact ownNeT h.s hk (by decide) e
theorem FI.moreS {w wx : World} {last : Int} {vs vj : Value} {S : List Stay} {J : List Job} (h : FI w wx last vs vj S J) {wy : World} {vs' : Value} {S' : List Stay} (g : wx.grownBy wy vs.ownBlock) (ho : OwnAt wy (w.heap.size + 2) 67 8 Stay.enc vs' S') : FI w (wy.setCell ⟨w.heap.size + 1, 1, none⟩ vs') last vs' vj S' J := by
 have kb : ∀ {n : Nat} {a : Array Value} {T : TypeId}, Blk wx n a T → n < w.heap.size + 2 → Blk wy n a T := fun hk hn => (g.block _ hk.lt (fun e => by have := (ownGe h.s _ e.symm).1; omega)).trans hk
 refine ⟨(grown_below' h.below g (fun n e => Nat.le_trans (by omega) (ownGe h.s n e).1) h.below.size).setCell (p := ⟨w.heap.size + 1, 1, none⟩) (by show w.heap.size ≤ w.heap.size + 1; omega) _, (kb h.b0 (by omega)).other (by omega) _ _, (kb h.b1 (by omega)).set 1 _, ownSet ho _ (by omega), ownSet (h.j.grown g (fun n e e' => h.apart n e' e)) _ (by omega)⟩
theorem FI.moreJ {w wx : World} {last : Int} {vs vj : Value} {S : List Stay} {J : List Job} (h : FI w wx last vs vj S J) {wy : World} {vj' : Value} {J' : List Job} (g : wx.grownBy wy vj.ownBlock) (ho : OwnAt wy (w.heap.size + 2) 88 2 Job.enc vj' J') : FI w (wy.setCell ⟨w.heap.size + 1, 2, none⟩ vj') last vs vj' S J' := by
 have kb : ∀ {n : Nat} {a : Array Value} {T : TypeId}, Blk wx n a T → n < w.heap.size + 2 → Blk wy n a T := fun hk hn => (g.block _ hk.lt (fun e => by have := (ownGe h.j _ e.symm).1; omega)).trans hk
 refine ⟨(grown_below' h.below g (fun n e => Nat.le_trans (by omega) (ownGe h.j n e).1) h.below.size).setCell (p := ⟨w.heap.size + 1, 2, none⟩) (by show w.heap.size ≤ w.heap.size + 1; omega) _, (kb h.b0 (by omega)).other (by omega) _ _, (kb h.b1 (by omega)).set 2 _, ownSet (h.s.grown g (fun n e e' => h.apart n e e')) _ (by omega), ownSet ho _ (by omega)⟩
theorem FI.appS {w wx : World} {last : Int} {vs vj : Value} {S : List Stay} {J : List Job} (h : FI w wx last vs vj S J) {wy : World} {sv : Stay} {g cap : Nat} (hg : wx.grownBy wy vs.ownBlock) (ho : wy.ownsRow (w.heap.size + 2) 67 8 (.slice (some ⟨g, 0, none⟩) (S.length + 1) cap) (S.length + 1) (S.flatMap Stay.enc ++ [.int .i64 sv.t, .int .i64 sv.id, .int .i64 sv.a, .int .i64 sv.b, .int .i64 sv.c, .int .i64 sv.x, .int .i64 sv.y, .int .i64 sv.z])) : FI w (wy.setCell ⟨w.heap.size + 1, 1, none⟩ (.slice (some ⟨g, 0, none⟩) (S.length + 1) cap)) last (.slice (some ⟨g, 0, none⟩) (S.length + 1) cap) vj (S ++ [sv]) J :=
 h.moreS hg (OwnAt.of_owns stay_len (by rw [List.length_append, List.flatMap_append]; exact ho))
theorem FI.appJ {w wx : World} {last : Int} {vs vj : Value} {S : List Stay} {J : List Job} (h : FI w wx last vs vj S J) {wy : World} {a : Int} {q : Bool} {g cap : Nat} (hg : wx.grownBy wy vj.ownBlock) (ho : wy.ownsRow (w.heap.size + 2) 88 2 (.slice (some ⟨g, 0, none⟩) (J.length + 1) cap) (J.length + 1) (J.flatMap Job.enc ++ [.int .i64 a, .bool q])) : FI w (wy.setCell ⟨w.heap.size + 1, 2, none⟩ (.slice (some ⟨g, 0, none⟩) (J.length + 1) cap)) last vs (.slice (some ⟨g, 0, none⟩) (J.length + 1) cap) S (J ++ [⟨a, q⟩]) :=
 h.moreJ hg (OwnAt.of_owns job_len (by rw [List.length_append, List.flatMap_append]; exact ho))
def FromPost (L : List Int) (w : World) (e : Ending) (w' : World) : Prop := Below w.heap.size w w' ∧
 ((fromP L = none ∧ e = .returned (.tuple #[.agg #[.int .i64 0, .slice none 0 0, .slice none 0 0], .bool false])) ∨
  ∃ b vs vj, fromP L = some b ∧ e = .returned (.tuple #[.agg #[.int .i64 b.last, vs, vj], .bool true]) ∧ OwnBook w' w.heap.size vs vj b.stays b.jobs)
end Tx
end Go.Proofs.YtopgllmjeliklaaGreatDoor
