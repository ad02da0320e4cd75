/- PlantA PlantB PlantC. -/
import Derived.Test.YtopgllmjeliklaaGreatDoorKiKept
set_option maxRecDepth 100000
set_option linter.unusedSimpArgs false
set_option linter.unusedVariables false
namespace Go.Proofs.YtopgllmjeliklaaGreatDoor
open Go.ChangeShapes Go.WideShapes Go.ChangeAt Go.RowKit Go.Maps
namespace Pl
def carAtI (D : DataW Unit) (lv h ex : Int) : Int := if endB lv h ex = true then carOf D (endX lv h ex) (endY lv h ex) (endZ lv h ex) else 0
theorem cars_below {w w' : World} {mb n : Nat} {D : DataW Unit} (h : Cars w mb n D) (hb : Below w.heap.size w w') : Cars w' mb n D := by
 obtain ⟨es, clock, hm, r⟩ := h; exact ⟨es, clock, (hb.block mb (Array.getElem?_eq_some_iff.1 hm).1).trans hm, r⟩
theorem end_wf {lv h ex : Int} (h0 : 0 ≤ h) (h12 : h ≤ 12) (e0 : -3 ≤ ex) (e3 : ex ≤ 3) : (Lit.int .i64 (endX lv h ex)).wf = true ∧ (Lit.int .i64 (endY lv h ex)).wf = true ∧ (Lit.int .i64 (endZ lv h ex)).wf = true := by
 refine ⟨wfI ?_, wfI ?_, wfI ?_⟩ <;> simp only [endX, endY, endZ] <;> (repeat' split) <;> omega
set_option maxHeartbeats 1000000 in
theorem carAt_any (pb mb n : Nat) (D : DataW Unit) (lv h ex : Int) (w : World) (c0 : w.cell? ⟨pb, 0, none⟩ = some (.int .i64 lv)) (c1 : w.cell? ⟨pb, 1, none⟩ = some (.int .i64 h)) (c7 : w.cell? ⟨pb, 7, none⟩ = some (.map (some mb))) (hown : Cars w mb n D)
  (h0 : 0 ≤ h) (h12 : h ≤ 12) (e0 : -3 ≤ ex) (e3 : ex ≤ 3) :
  Calls Tryz.prog 50 #[.pointer (some ⟨pb, 0, none⟩), .int .i64 ex] w fun e w' => e = .returned (.int .i64 (carAtI D lv h ex)) ∧ Below w.heap.size w w' := by
 have hlt : pb < w.heap.size := World.block_lt_of_cell? w _ c7; obtain ⟨wx, wy, wz⟩ := end_wf (lv := lv) h0 h12 e0 e3; have HE := fun w => end_any pb lv h ex w
 cases k : endB lv h ex with
 | false =>
   have K : Hid (carAtI D lv h ex = 0) := by show _ = _; simp [carAtI, k]
   have KV : Hid (endV lv h ex = _) := endV_f k; clear k
   go_enter Tryz.func50, Tryz.ntmps50
   go_wp2_with fail; refine (HE _ c0 c1 h0 h12 e0 e3).mono ?_; rw [KV.out]; rintro e w1 ⟨rfl, hb1⟩; clear HE; go_wp2; go_returns; exact ⟨B.ret_int K.out.symm, hb1.alloc hb1.size _⟩
 | true =>
   generalize hX : endX lv h ex = X at wx; generalize hY : endY lv h ex = Y at wy; generalize hZ : endZ lv h ex = Z at wz; have K : Hid (carAtI D lv h ex = carOf D X Y Z) := by show _ = _; simp [carAtI, k, hX, hY, hZ]
   have KV : Hid (endV lv h ex = .tuple #[.agg #[.int .i64 X, .int .i64 Y, .int .i64 Z], .bool true]) := by show _ = _; simp only [endV, hX, hY, hZ, k]
   clear k hX hY hZ
   go_enter Tryz.func50, Tryz.ntmps50
   go_wp2_with fail; refine (HE _ c0 c1 h0 h12 e0 e3).mono ?_; rw [KV.out]; rintro e w1 ⟨rfl, hb1⟩; clear HE; have c71 := (B.cell hb1 pb 7 hlt).trans c7; have hown1 := cars_below hown hb1; have B1 : Hid (Below w.heap.size w w1) := hb1; have z1 := hb1.size; have hlt1 : pb < w1.heap.size := by omega
   clear hb1 hown c7 c0 c1; go_wp2_with fail; refine (at_any pb mb n D X Y Z _ ((B.cell (B.new1 w1 _) pb 7 hlt1).trans c71) (hown1.alloc _) wx wy wz).mono ?_; rintro e w2 ⟨rfl, hb2⟩; go_wp2; go_returns; exact ⟨B.ret_int K.out.symm, B.next (B1.out.alloc z1 _) hb2 (by simp; omega)⟩
theorem hurtIf_any (pb : Nat) (hu b : Bool) (w : World) (c9 : w.cell? ⟨pb, 9, none⟩ = some (.bool hu)) (f9 : w.frozen? ⟨pb, 9, none⟩ = false) :
  Calls Tryz.prog 108 #[.pointer (some ⟨pb, 0, none⟩), .bool b] w fun e w' => e = .returned (.tuple #[]) ∧ w' = w.setCell ⟨pb, 9, none⟩ (.bool (hu || b)) := by
 cases hu <;> cases b <;> (
  go_enter Tryz.func108, Tryz.ntmps108
  go_wp2; go_returns; exact ⟨rfl, rfl⟩)
theorem below_any (pb : Nat) (h ex : Int) (w : World) (c1 : w.cell? ⟨pb, 1, none⟩ = some (.int .i64 h)) (c2 : w.cell? ⟨pb, 2, none⟩ = some (.int .i64 ex)) :
  Calls Tryz.prog 109 #[.pointer (some ⟨pb, 0, none⟩)] w fun e w' => e = .returned (.bool (decide (h = 0 ∧ ex = 0))) ∧ w' = w := by
 have ha : (h == 0) = decide (h = 0) := by rw [Bool.eq_iff_iff]; simp
 have hb : (ex == 0) = decide (ex = 0) := by rw [Bool.eq_iff_iff]; simp
 have HK : Hid (decide (h = 0 ∧ ex = 0) = (decide (h = 0) && decide (ex = 0))) := by show _ = _; simp
 rw [HK.out]
 cases ka : decide (h = 0) <;> cases kb : decide (ex = 0) <;> (
  rw [ka] at ha; rw [kb] at hb; clear ka kb
  go_enter Tryz.func109, Tryz.ntmps109
  go_wp2; go_returns; exact ⟨rfl, rfl⟩)
end Pl
namespace Pl
structure St where
 lv : Int
 h : Int
 ex : Int
 op : Bool
 pe : Int
 li : Int
 ba : Int
 D : DataW Unit
 st : Int
 hu : Bool
def arr (s : St) (mb : Nat) : Array Value := #[.int .i64 s.lv, .int .i64 s.h, .int .i64 s.ex, .bool s.op, .int .i64 s.pe, .int .i64 s.li, .int .i64 s.ba, .map (some mb), .int .i64 s.st, .bool s.hu]
structure IsP (w : World) (pb mb n : Nat) (s : St) : Prop where
 row : w.heap[pb]? = some (.cells (arr s mb) 92 (0, 0))
 cars : Cars w mb n s.D
theorem IsP.lt {w : World} {pb mb n : Nat} {s : St} (h : IsP w pb mb n s) : pb < w.heap.size := (Array.getElem?_eq_some_iff.1 h.row).1
theorem IsP.ne {w : World} {pb mb n : Nat} {s : St} (h : IsP w pb mb n s) : pb ≠ mb := by
 intro e
 obtain ⟨es, clock, hm, r⟩ := h.cars; have := h.row; rw [e, hm] at this
 cases this
theorem IsP.cell {w : World} {pb mb n : Nat} {s : St} (h : IsP w pb mb n s) (o : Nat) : w.cell? ⟨pb, o, none⟩ = (arr s mb)[o]? := by simp [World.cell?, h.row]
theorem IsP.free {w : World} {pb mb n : Nat} {s : St} (h : IsP w pb mb n s) (o : Nat) : w.frozen? ⟨pb, o, none⟩ = false := by simp [World.frozen?, h.row]
theorem IsP.below {w w' : World} {pb mb n : Nat} {s : St} (h : IsP w pb mb n s) (hb : Below w.heap.size w w') : IsP w' pb mb n s := ⟨(hb.block pb h.lt).trans h.row, cars_below h.cars hb⟩
theorem IsP.c0 {w : World} {pb mb n : Nat} {s : St} (h : IsP w pb mb n s) : w.cell? ⟨pb, 0, none⟩ = some (.int .i64 s.lv) := h.cell 0
theorem IsP.c1 {w : World} {pb mb n : Nat} {s : St} (h : IsP w pb mb n s) : w.cell? ⟨pb, 1, none⟩ = some (.int .i64 s.h) := h.cell 1
theorem IsP.c2 {w : World} {pb mb n : Nat} {s : St} (h : IsP w pb mb n s) : w.cell? ⟨pb, 2, none⟩ = some (.int .i64 s.ex) := h.cell 2
theorem IsP.c3 {w : World} {pb mb n : Nat} {s : St} (h : IsP w pb mb n s) : w.cell? ⟨pb, 3, none⟩ = some (.bool s.op) := h.cell 3
theorem IsP.c4 {w : World} {pb mb n : Nat} {s : St} (h : IsP w pb mb n s) : w.cell? ⟨pb, 4, none⟩ = some (.int .i64 s.pe) := h.cell 4
theorem IsP.c5 {w : World} {pb mb n : Nat} {s : St} (h : IsP w pb mb n s) : w.cell? ⟨pb, 5, none⟩ = some (.int .i64 s.li) := h.cell 5
theorem IsP.c6 {w : World} {pb mb n : Nat} {s : St} (h : IsP w pb mb n s) : w.cell? ⟨pb, 6, none⟩ = some (.int .i64 s.ba) := h.cell 6
theorem IsP.c7 {w : World} {pb mb n : Nat} {s : St} (h : IsP w pb mb n s) : w.cell? ⟨pb, 7, none⟩ = some (.map (some mb)) := h.cell 7
theorem IsP.c8 {w : World} {pb mb n : Nat} {s : St} (h : IsP w pb mb n s) : w.cell? ⟨pb, 8, none⟩ = some (.int .i64 s.st) := h.cell 8
theorem IsP.c9 {w : World} {pb mb n : Nat} {s : St} (h : IsP w pb mb n s) : w.cell? ⟨pb, 9, none⟩ = some (.bool s.hu) := h.cell 9
structure Ok (s : St) : Prop where
 lv1 : 1 ≤ s.lv
 lv4 : s.lv ≤ 4
 h0 : 0 ≤ s.h
 h12 : s.h ≤ s.lv * 3
 e0 : -2 ≤ s.ex
 e2 : s.ex ≤ 2
theorem IsP.set {w : World} {pb mb n : Nat} {s s' : St} (h : IsP w pb mb n s) (o : Nat) (v : Value) (hs : (arr s mb).setIfInBounds o v = arr s' mb) (hD : s'.D = s.D) : IsP (w.setCell ⟨pb, o, none⟩ v) pb mb n s' := by
 refine ⟨?_, ?_⟩
 ·have := h.row
  simp [World.setCell, Array.getElem?_modify, this, hs]
 ·rw [hD]
  obtain ⟨es, clock, hm, r⟩ := h.cars; exact ⟨es, clock, (Below.heap_setCell w _ v mb (by simpa using h.ne.symm)).trans hm, r⟩
def senseV (s : St) : Value := .agg #[.int .i64 s.h, .int .i64 s.ex, .bool s.op, .int .i64 s.pe, .int .i64 s.li, .int .i64 s.ba, .bool (carAtI s.D s.lv s.h s.ex != 0), .bool (carAtI s.D s.lv s.h (s.ex - 1) != 0), .bool (carAtI s.D s.lv s.h (s.ex + 1) != 0)]
end Pl
namespace Pl
theorem set9_0 {w : World} {b : Nat} {a0 a1 a2 a3 a4 a5 a6 a7 a8 : Value} (g : ∀ o, w.cell? ⟨b, o, none⟩ = (#[a0, a1, a2, a3, a4, a5, a6, a7, a8] : Array Value)[o]?) (v0 v1 v2 v3 v4 v5 v6 v7 v8 : Value) : (((((((((w.setCell ⟨b, 0, none⟩ v0).setCell ⟨b, 1, none⟩ v1).setCell ⟨b, 2, none⟩ v2).setCell ⟨b, 3, none⟩ v3).setCell ⟨b, 4, none⟩ v4).setCell ⟨b, 5, none⟩ v5).setCell ⟨b, 6, none⟩ v6).setCell ⟨b, 7, none⟩ v7).setCell ⟨b, 8, none⟩ v8).cell? ⟨b, 0, none⟩ = some v0 := by
 have h0 := g 0
 simp at h0
 simp [World.cell?_setCell_same', World.cell?_setCell_other, h0]
theorem set9_1 {w : World} {b : Nat} {a0 a1 a2 a3 a4 a5 a6 a7 a8 : Value} (g : ∀ o, w.cell? ⟨b, o, none⟩ = (#[a0, a1, a2, a3, a4, a5, a6, a7, a8] : Array Value)[o]?) (v0 v1 v2 v3 v4 v5 v6 v7 v8 : Value) : (((((((((w.setCell ⟨b, 0, none⟩ v0).setCell ⟨b, 1, none⟩ v1).setCell ⟨b, 2, none⟩ v2).setCell ⟨b, 3, none⟩ v3).setCell ⟨b, 4, none⟩ v4).setCell ⟨b, 5, none⟩ v5).setCell ⟨b, 6, none⟩ v6).setCell ⟨b, 7, none⟩ v7).setCell ⟨b, 8, none⟩ v8).cell? ⟨b, 1, none⟩ = some v1 := by
 have h1 := g 1
 simp at h1
 simp [World.cell?_setCell_same', World.cell?_setCell_other, h1]
theorem set9_2 {w : World} {b : Nat} {a0 a1 a2 a3 a4 a5 a6 a7 a8 : Value} (g : ∀ o, w.cell? ⟨b, o, none⟩ = (#[a0, a1, a2, a3, a4, a5, a6, a7, a8] : Array Value)[o]?) (v0 v1 v2 v3 v4 v5 v6 v7 v8 : Value) : (((((((((w.setCell ⟨b, 0, none⟩ v0).setCell ⟨b, 1, none⟩ v1).setCell ⟨b, 2, none⟩ v2).setCell ⟨b, 3, none⟩ v3).setCell ⟨b, 4, none⟩ v4).setCell ⟨b, 5, none⟩ v5).setCell ⟨b, 6, none⟩ v6).setCell ⟨b, 7, none⟩ v7).setCell ⟨b, 8, none⟩ v8).cell? ⟨b, 2, none⟩ = some v2 := by
 have h2 := g 2
 simp at h2
 simp [World.cell?_setCell_same', World.cell?_setCell_other, h2]
theorem set9_3 {w : World} {b : Nat} {a0 a1 a2 a3 a4 a5 a6 a7 a8 : Value} (g : ∀ o, w.cell? ⟨b, o, none⟩ = (#[a0, a1, a2, a3, a4, a5, a6, a7, a8] : Array Value)[o]?) (v0 v1 v2 v3 v4 v5 v6 v7 v8 : Value) : (((((((((w.setCell ⟨b, 0, none⟩ v0).setCell ⟨b, 1, none⟩ v1).setCell ⟨b, 2, none⟩ v2).setCell ⟨b, 3, none⟩ v3).setCell ⟨b, 4, none⟩ v4).setCell ⟨b, 5, none⟩ v5).setCell ⟨b, 6, none⟩ v6).setCell ⟨b, 7, none⟩ v7).setCell ⟨b, 8, none⟩ v8).cell? ⟨b, 3, none⟩ = some v3 := by
 have h3 := g 3
 simp at h3
 simp [World.cell?_setCell_same', World.cell?_setCell_other, h3]
theorem set9_4 {w : World} {b : Nat} {a0 a1 a2 a3 a4 a5 a6 a7 a8 : Value} (g : ∀ o, w.cell? ⟨b, o, none⟩ = (#[a0, a1, a2, a3, a4, a5, a6, a7, a8] : Array Value)[o]?) (v0 v1 v2 v3 v4 v5 v6 v7 v8 : Value) : (((((((((w.setCell ⟨b, 0, none⟩ v0).setCell ⟨b, 1, none⟩ v1).setCell ⟨b, 2, none⟩ v2).setCell ⟨b, 3, none⟩ v3).setCell ⟨b, 4, none⟩ v4).setCell ⟨b, 5, none⟩ v5).setCell ⟨b, 6, none⟩ v6).setCell ⟨b, 7, none⟩ v7).setCell ⟨b, 8, none⟩ v8).cell? ⟨b, 4, none⟩ = some v4 := by
 have h4 := g 4
 simp at h4
 simp [World.cell?_setCell_same', World.cell?_setCell_other, h4]
theorem set9_5 {w : World} {b : Nat} {a0 a1 a2 a3 a4 a5 a6 a7 a8 : Value} (g : ∀ o, w.cell? ⟨b, o, none⟩ = (#[a0, a1, a2, a3, a4, a5, a6, a7, a8] : Array Value)[o]?) (v0 v1 v2 v3 v4 v5 v6 v7 v8 : Value) : (((((((((w.setCell ⟨b, 0, none⟩ v0).setCell ⟨b, 1, none⟩ v1).setCell ⟨b, 2, none⟩ v2).setCell ⟨b, 3, none⟩ v3).setCell ⟨b, 4, none⟩ v4).setCell ⟨b, 5, none⟩ v5).setCell ⟨b, 6, none⟩ v6).setCell ⟨b, 7, none⟩ v7).setCell ⟨b, 8, none⟩ v8).cell? ⟨b, 5, none⟩ = some v5 := by
 have h5 := g 5
 simp at h5
 simp [World.cell?_setCell_same', World.cell?_setCell_other, h5]
theorem set9_6 {w : World} {b : Nat} {a0 a1 a2 a3 a4 a5 a6 a7 a8 : Value} (g : ∀ o, w.cell? ⟨b, o, none⟩ = (#[a0, a1, a2, a3, a4, a5, a6, a7, a8] : Array Value)[o]?) (v0 v1 v2 v3 v4 v5 v6 v7 v8 : Value) : (((((((((w.setCell ⟨b, 0, none⟩ v0).setCell ⟨b, 1, none⟩ v1).setCell ⟨b, 2, none⟩ v2).setCell ⟨b, 3, none⟩ v3).setCell ⟨b, 4, none⟩ v4).setCell ⟨b, 5, none⟩ v5).setCell ⟨b, 6, none⟩ v6).setCell ⟨b, 7, none⟩ v7).setCell ⟨b, 8, none⟩ v8).cell? ⟨b, 6, none⟩ = some v6 := by
 have h6 := g 6
 simp at h6
 simp [World.cell?_setCell_same', World.cell?_setCell_other, h6]
theorem set9_7 {w : World} {b : Nat} {a0 a1 a2 a3 a4 a5 a6 a7 a8 : Value} (g : ∀ o, w.cell? ⟨b, o, none⟩ = (#[a0, a1, a2, a3, a4, a5, a6, a7, a8] : Array Value)[o]?) (v0 v1 v2 v3 v4 v5 v6 v7 v8 : Value) : (((((((((w.setCell ⟨b, 0, none⟩ v0).setCell ⟨b, 1, none⟩ v1).setCell ⟨b, 2, none⟩ v2).setCell ⟨b, 3, none⟩ v3).setCell ⟨b, 4, none⟩ v4).setCell ⟨b, 5, none⟩ v5).setCell ⟨b, 6, none⟩ v6).setCell ⟨b, 7, none⟩ v7).setCell ⟨b, 8, none⟩ v8).cell? ⟨b, 7, none⟩ = some v7 := by
 have h7 := g 7
 simp at h7
 simp [World.cell?_setCell_same', World.cell?_setCell_other, h7]
theorem set9_8 {w : World} {b : Nat} {a0 a1 a2 a3 a4 a5 a6 a7 a8 : Value} (g : ∀ o, w.cell? ⟨b, o, none⟩ = (#[a0, a1, a2, a3, a4, a5, a6, a7, a8] : Array Value)[o]?) (v0 v1 v2 v3 v4 v5 v6 v7 v8 : Value) : (((((((((w.setCell ⟨b, 0, none⟩ v0).setCell ⟨b, 1, none⟩ v1).setCell ⟨b, 2, none⟩ v2).setCell ⟨b, 3, none⟩ v3).setCell ⟨b, 4, none⟩ v4).setCell ⟨b, 5, none⟩ v5).setCell ⟨b, 6, none⟩ v6).setCell ⟨b, 7, none⟩ v7).setCell ⟨b, 8, none⟩ v8).cell? ⟨b, 8, none⟩ = some v8 := by
 have h8 := g 8
 simp at h8
 simp [World.cell?_setCell_same', World.cell?_setCell_other, h8]
theorem set9_below {w0 w : World} {b : Nat} (h : Below b w0 w) (v0 v1 v2 v3 v4 v5 v6 v7 v8 : Value) : Below b w0 (((((((((w.setCell ⟨b, 0, none⟩ v0).setCell ⟨b, 1, none⟩ v1).setCell ⟨b, 2, none⟩ v2).setCell ⟨b, 3, none⟩ v3).setCell ⟨b, 4, none⟩ v4).setCell ⟨b, 5, none⟩ v5).setCell ⟨b, 6, none⟩ v6).setCell ⟨b, 7, none⟩ v7).setCell ⟨b, 8, none⟩ v8) := ((((((((h.setCell (Nat.le_refl _) _).setCell (Nat.le_refl _) _).setCell (Nat.le_refl _) _).setCell (Nat.le_refl _) _).setCell (Nat.le_refl _) _).setCell (Nat.le_refl _) _).setCell (Nat.le_refl _) _).setCell (Nat.le_refl _) _).setCell (Nat.le_refl _) _
set_option maxHeartbeats 4000000 in
theorem sense_any (pb mb n : Nat) (s : St) (w : World) (hp : IsP w pb mb n s) (ok : Ok s) :
  Calls Tryz.prog 19 #[.pointer (some ⟨pb, 0, none⟩)] w fun e w' => e = .returned (senseV s) ∧ Below w.heap.size w w' := by
 obtain ⟨lv, h, ex, op, pe, li, ba, D, st, hu⟩ := s; obtain ⟨lv1, lv4, h0, h12, e0, e2⟩ := ok; simp only at lv1 lv4 h0 h12 e0 e2; obtain ⟨x1, HX1⟩ : ∃ x : Int, Hid (x = ex - 1) := ⟨_, rfl⟩
 obtain ⟨x2, HX2⟩ : ∃ x : Int, Hid (x = ex + 1) := ⟨_, rfl⟩
 have m1 : IntKind.i64.wrap (ex - 1) = x1 := by rw [IntKind.wrap_i64, HX1.out]; omega
 have m2 : IntKind.i64.wrap (ex + 1) = x2 := by rw [IntKind.wrap_i64, HX2.out]; omega
 have b1 : Hid (-3 ≤ x1 ∧ x1 ≤ 3) := by show _ ∧ _; rw [HX1.out]; omega
 have b2 : Hid (-3 ≤ x2 ∧ x2 ≤ 3) := by show _ ∧ _; rw [HX2.out]; omega
 generalize ha : carAtI D lv h ex = a; generalize hb : carAtI D lv h x1 = b; generalize hc : carAtI D lv h x2 = c
 have KV : Hid (senseV ⟨lv, h, ex, op, pe, li, ba, D, st, hu⟩ = .agg #[.int .i64 h, .int .i64 ex, .bool op, .int .i64 pe, .int .i64 li, .int .i64 ba, .bool (a != 0), .bool (b != 0), .bool (c != 0)]) := by
  show _ = _
  simp only [senseV, ← HX1.out, ← HX2.out, ha, hb, hc]
 have HA : Hid (carAtI D lv h ex = a) := ha; have HB : Hid (carAtI D lv h x1 = b) := hb; have HC : Hid (carAtI D lv h x2 = c) := hc; clear ha hb hc; have P0 : Hid (IsP w pb mb n ⟨lv, h, ex, op, pe, li, ba, D, st, hu⟩) := hp; have hlt := hp.lt; have P1 : Hid (IsP (w.alloc (.cells #[.int .i64 0, .int .i64 0, .bool false, .int .i64 0, .int .i64 0, .int .i64 0, .bool false, .bool false, .bool false] 46)) pb mb n ⟨lv, h, ex, op, pe, li, ba, D, st, hu⟩) := hp.below (B.new1 w _); have c0 := P1.out.c0; have c1 := P1.out.c1; have c2 := P1.out.c2; have c3 := P1.out.c3; have c4 := P1.out.c4; have c5 := P1.out.c5; have c6 := P1.out.c6; simp only at c0 c1 c2 c3 c4 c5 c6; have npb : w.heap.size ≠ pb := by omega
 clear hp
 go_enter Tryz.func19, Tryz.ntmps19
 go_wp2_with fail
 go_region_held3 (fun wx => wx.cell? ⟨pb, 1, none⟩ = some (.int .i64 h) ∧ wx.cell? ⟨pb, 2, none⟩ = some (.int .i64 ex) ∧ wx.cell? ⟨pb, 3, none⟩ = some (.bool op) ∧ wx.cell? ⟨pb, 4, none⟩ = some (.int .i64 pe) ∧ wx.cell? ⟨pb, 5, none⟩ = some (.int .i64 li) ∧ wx.cell? ⟨pb, 6, none⟩ = some (.int .i64 ba)) (go_keep)
  (first
    | (go_at_call_of 50 (Value.int .i64 ex); refine (carAt_any pb mb n D lv h ex _ (P1.out.below ((Below.refl _ _).drew)).c0 (P1.out.below ((Below.refl _ _).drew)).c1 (P1.out.below ((Below.refl _ _).drew)).c7 (P1.out.below ((Below.refl _ _).drew)).cars h0 (by omega) (by omega) (by omega)).mono ?_; rw [HA.out]; rintro e wa ⟨rfl, hbwa⟩
       have Pwa : Hid (IsP wa pb mb n ⟨lv, h, ex, op, pe, li, ba, D, st, hu⟩) := (P1.out.below ((Below.refl _ _).drew)).below hbwa; have Zwa : Hid (Below w.heap.size w wa) := B.next (B.new1 w _).drew hbwa (by simp); have Gwa : Hid (w.heap.size < wa.heap.size ∧ (∀ o, wa.cell? ⟨w.heap.size, o, none⟩ = (#[.int .i64 0, .int .i64 0, .bool false, .int .i64 0, .int .i64 0, .int .i64 0, .bool false, .bool false, .bool false] : Array Value)[o]?) ∧ ∀ o, wa.frozen? ⟨w.heap.size, o, none⟩ = false) := ⟨by have := hbwa.size; simp at this; omega, B.row hbwa (B.row_new w _ _) (by simp), fun o => (B.frozen hbwa _ o (by simp)).trans (by simp)⟩
       have d1wa := Pwa.out.c1; have d2wa := Pwa.out.c2; have d3wa := Pwa.out.c3; have d4wa := Pwa.out.c4; have d5wa := Pwa.out.c5; have d6wa := Pwa.out.c6; simp only at d1wa d2wa d3wa d4wa d5wa d6wa; clear hbwa)
    | (go_at_call_of 50 (Value.int .i64 x1); refine (carAt_any pb mb n D lv h x1 _ (Pwa.out).c0 (Pwa.out).c1 (Pwa.out).c7 (Pwa.out).cars h0 (by omega) b1.out.1 b1.out.2).mono ?_; rw [HB.out]; rintro e wb ⟨rfl, hbwb⟩
       have Pwb : Hid (IsP wb pb mb n ⟨lv, h, ex, op, pe, li, ba, D, st, hu⟩) := (Pwa.out).below hbwb; have Zwb : Hid (Below w.heap.size w wb) := B.next Zwa.out hbwb Zwa.out.size; have Gwb : Hid (w.heap.size < wb.heap.size ∧ (∀ o, wb.cell? ⟨w.heap.size, o, none⟩ = (#[.int .i64 0, .int .i64 0, .bool false, .int .i64 0, .int .i64 0, .int .i64 0, .bool false, .bool false, .bool false] : Array Value)[o]?) ∧ ∀ o, wb.frozen? ⟨w.heap.size, o, none⟩ = false) := ⟨Nat.lt_of_lt_of_le Gwa.out.1 hbwb.size, B.row hbwb Gwa.out.2.1 Gwa.out.1, fun o => (B.frozen hbwb _ o Gwa.out.1).trans (Gwa.out.2.2 o)⟩
       have d1wb := Pwb.out.c1; have d2wb := Pwb.out.c2; have d3wb := Pwb.out.c3; have d4wb := Pwb.out.c4; have d5wb := Pwb.out.c5; have d6wb := Pwb.out.c6; simp only at d1wb d2wb d3wb d4wb d5wb d6wb; clear hbwb)
    | (go_at_call_of 50 (Value.int .i64 x2); refine (carAt_any pb mb n D lv h x2 _ (Pwb.out).c0 (Pwb.out).c1 (Pwb.out).c7 (Pwb.out).cars h0 (by omega) b2.out.1 b2.out.2).mono ?_; rw [HC.out]; rintro e wc ⟨rfl, hbwc⟩
       have Pwc : Hid (IsP wc pb mb n ⟨lv, h, ex, op, pe, li, ba, D, st, hu⟩) := (Pwb.out).below hbwc; have Zwc : Hid (Below w.heap.size w wc) := B.next Zwb.out hbwc Zwb.out.size; have Gwc : Hid (w.heap.size < wc.heap.size ∧ (∀ o, wc.cell? ⟨w.heap.size, o, none⟩ = (#[.int .i64 0, .int .i64 0, .bool false, .int .i64 0, .int .i64 0, .int .i64 0, .bool false, .bool false, .bool false] : Array Value)[o]?) ∧ ∀ o, wc.frozen? ⟨w.heap.size, o, none⟩ = false) := ⟨Nat.lt_of_lt_of_le Gwb.out.1 hbwc.size, B.row hbwc Gwb.out.2.1 Gwb.out.1, fun o => (B.frozen hbwc _ o Gwb.out.1).trans (Gwb.out.2.2 o)⟩
       have d1wc := Pwc.out.c1; have d2wc := Pwc.out.c2; have d3wc := Pwc.out.c3; have d4wc := Pwc.out.c4; have d5wc := Pwc.out.c5; have d6wc := Pwc.out.c6; simp only at d1wc d2wc d3wc d4wc d5wc d6wc; have gc := Gwc.out.2.1; have fc := Gwc.out.2.2; clear hbwc))
 go_wp2
 (try simp only [Exit.inBlock, Exit.then])
 refine bodyPost_ret (by simp [results, Tryz.results19, go_sem, set9_0 gc, set9_1 gc, set9_2 gc, set9_3 gc, set9_4 gc, set9_5 gc, set9_6 gc, set9_7 gc, set9_8 gc]; try rfl) rfl ?_; exact ⟨by rw [KV.out], set9_below Zwc.out _ _ _ _ _ _ _ _ _⟩
end Pl
end Go.Proofs.YtopgllmjeliklaaGreatDoor
