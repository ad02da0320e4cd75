/- Chapter 2: the machine: its cells, its map of cars (B1), and what its smallest functions answer. -/
import Derived.Test.YtopgllmjeliklaaGreatDoorJShelf
import Derived.Maps.OwnSet
import Derived.Maps.OwnOps
import Derived.DeepKeys4
import Derived.MapViews
import Derived.Deep.RegionHeld3
namespace Go.Proofs.YtopgllmjeliklaaGreatDoor
open Go.ChangeShapes Go.WideShapes Go.ChangeAt Go.RowKit Go.Maps
set_option maxRecDepth 100000
set_option linter.unusedSimpArgs false
set_option linter.unusedVariables false

namespace Pl
/-! ### the map's key: a place -/
theorem rowP : (65 : TypeId) < Tryz.prog.types.size := of_decide_eq_true (by kernel_rfl)
theorem wideP : (match Tryz.prog.underlying 65 with | some (.array _ _) | some (.struct _) => true | _ => false) = true := by kernel_rfl
theorem law : Keyed Tryz.prog 65 := Keyed.of_law (deep_law_laid Tryz.laidOut (m := 3) (by omega) rowP (by kernel_rfl) wideP)
theorem zeroI (w : World) : (zeroValue 3).run Tryz.prog w = .ok (.int .i64 0) w := by kernel_rfl
theorem deepP : Tryz.prog.keyTypeAt (Tryz.prog.types.size + 1) 65 = true := by kernel_rfl

theorem cellsP : Tryz.prog.cellsOf 65 = 3 := by kernel_rfl
theorem cellsI : Tryz.prog.cellsOf 3 = 1 := by kernel_rfl
/-- A place as the map's key reads. -/
def pk (x y z : Int) : Lit := .string (keyBytes [.int .i64 x, .int .i64 y, .int .i64 z])

theorem wfI {n : Int} (h : -9223372036854775808 ≤ n ∧ n ≤ 9223372036854775807) : (Lit.int .i64 n).wf = true := WalkArith.wf_i64 (by omega)

theorem key_place {x y z : Int} (hx : (Lit.int .i64 x).wf = true) (hy : (Lit.int .i64 y).wf = true) (hz : (Lit.int .i64 z).wf = true) :
    keyOf Tryz.prog 65 (.agg #[.int .i64 x, .int .i64 y, .int .i64 z]) = some (pk x y z) := by
  have hk : Tryz.prog.keyType 65 = true := deepP
  have hf : (Value.agg #[.int .i64 x, .int .i64 y, .int .i64 z]).formed Tryz.prog 65 = true := by simp [Value.formed, Tryz.underlying65, cellsP]
  have hn : ∃ m, Tryz.prog.types.size + 1 = m + 2 := ⟨Tryz.prog.types.size - 1, by have h1 : (65 : Nat) < Tryz.prog.types.size := rowP; omega⟩
  obtain ⟨m, hm⟩ := hn
  unfold keyOf
  rw [Tryz.underlying65]
  simp only [hk, hf, Bool.and_self, if_true, hm]
  simp [Program.keyLits, Tryz.underlying65, Tryz.underlying3, cellsP, cellsI, Value.cells, hx, hy, hz, pk]

/-! ### three cells written in a row -/
theorem set3_2 {w : World} {b : Nat} {a0 a1 a2 : Value} (g : ∀ o, w.cell? ⟨b, o, none⟩ = #[a0, a1, a2][o]?) (x y z : Value) : (((w.setCell ⟨b, 0, none⟩ x).setCell ⟨b, 1, none⟩ y).setCell ⟨b, 2, none⟩ z).cell? ⟨b, 2, none⟩ = some z := by
  have h0 := g 0; have h1 := g 1; have h2 := g 2
  simp at h0 h1 h2
  simp [World.cell?_setCell_same', World.cell?_setCell_other, h0, h1, h2]
theorem set3_1 {w : World} {b : Nat} {a0 a1 a2 : Value} (g : ∀ o, w.cell? ⟨b, o, none⟩ = #[a0, a1, a2][o]?) (x y z : Value) : (((w.setCell ⟨b, 0, none⟩ x).setCell ⟨b, 1, none⟩ y).setCell ⟨b, 2, none⟩ z).cell? ⟨b, 1, none⟩ = some y := by
  have h0 := g 0; have h1 := g 1; have h2 := g 2
  simp at h0 h1 h2
  simp [World.cell?_setCell_same', World.cell?_setCell_other, h0, h1, h2]
theorem set3_0 {w : World} {b : Nat} {a0 a1 a2 : Value} (g : ∀ o, w.cell? ⟨b, o, none⟩ = #[a0, a1, a2][o]?) (x y z : Value) : (((w.setCell ⟨b, 0, none⟩ x).setCell ⟨b, 1, none⟩ y).setCell ⟨b, 2, none⟩ z).cell? ⟨b, 0, none⟩ = some x := by
  have h0 := g 0; have h1 := g 1; have h2 := g 2
  simp at h0 h1 h2
  simp [World.cell?_setCell_same', World.cell?_setCell_other, h0, h1, h2]

/-! ### what lies in front of the shuttle -/
def endB (lv h ex : Int) : Bool := decide (0 < h ∧ h % 3 = 0 ∧ ex ≠ 0) && placeB (h / 3) (if ex < 0 then 0 else 1) (if ex < 0 then -ex - 1 else ex - 1) lv
def endX (lv h ex : Int) : Int := if endB lv h ex = true then h / 3 else 0
def endY (lv h ex : Int) : Int := if endB lv h ex = true then (if ex < 0 then 0 else 1) else 0
def endZ (lv h ex : Int) : Int := if endB lv h ex = true then (if ex < 0 then -ex - 1 else ex - 1) else 0
def endV (lv h ex : Int) : Value := .tuple #[.agg #[.int .i64 (endX lv h ex), .int .i64 (endY lv h ex), .int .i64 (endZ lv h ex)], .bool (endB lv h ex)]
theorem endV_f {lv h ex : Int} (k : endB lv h ex = false) : endV lv h ex = .tuple #[.agg #[.int .i64 0, .int .i64 0, .int .i64 0], .bool false] := by simp [endV, endX, endY, endZ, k]

set_option maxHeartbeats 1000000 in
theorem end_a (pb : Nat) (lv h ex : Int) (w : World) (c1 : w.cell? ⟨pb, 1, none⟩ = some (.int .i64 h)) (h0 : 0 ≤ h) (h12 : h ≤ 12) (k : decide (0 < h ∧ h % 3 = 0 ∧ ex ≠ 0) = false) :
    Calls Tryz.prog 76 #[.pointer (some ⟨pb, 0, none⟩), .int .i64 ex] w fun e w' => e = .returned (endV lv h ex) ∧ Below w.heap.size w w' := by
  have hlt : pb < w.heap.size := World.block_lt_of_cell? w _ c1
  have c1' : ∀ o, (w.alloc o).cell? ⟨pb, 1, none⟩ = some (.int .i64 h) := fun o => ((B.cell (B.new1 w o)) pb 1 hlt).trans c1
  have K : Hid (endV lv h ex = .tuple #[.agg #[.int .i64 0, .int .i64 0, .int .i64 0], .bool false]) := endV_f (by simp [endB, k])
  have K2 : Hid (decide (0 < h ∧ h % 3 = 0 ∧ ex ≠ 0) = false) := k
  clear k
  go_enter Tryz.func76, Tryz.ntmps76
  go_wp2_with fail
  all_goals first
    | (go_returns; exact ⟨by rw [K.out], by go_grown⟩)
    | (exfalso; go_light; have := K2.out; simp only [decide_eq_false_iff_not] at this; simp only [beq_eq_false_iff_ne, ne_eq] at *; omega)

/-! ### the ways of end -/

set_option maxHeartbeats 1000000 in
theorem end_b (pb : Nat) (lv h ex : Int) (w : World) (c0 : w.cell? ⟨pb, 0, none⟩ = some (.int .i64 lv)) (c1 : w.cell? ⟨pb, 1, none⟩ = some (.int .i64 h)) (h0 : 0 < h) (h12 : h ≤ 12) (hm : h % 3 = 0) (e0 : 0 < ex) (e3 : ex ≤ 3) (k : placeB (h / 3) 1 (ex - 1) lv = true) :
    Calls Tryz.prog 76 #[.pointer (some ⟨pb, 0, none⟩), .int .i64 ex] w fun e w' => e = .returned (.tuple #[.agg #[.int .i64 (h / 3), .int .i64 1, .int .i64 (ex - 1)], .bool true]) ∧ Below w.heap.size w w' := by
  have hlt : pb < w.heap.size := World.block_lt_of_cell? w _ c1
  have c1' : ∀ o, (w.alloc o).cell? ⟨pb, 1, none⟩ = some (.int .i64 h) := fun o => ((B.cell (B.new1 w o)) pb 1 hlt).trans c1
  have c0' : ∀ wx, Below w.heap.size w wx → wx.cell? ⟨pb, 0, none⟩ = some (.int .i64 lv) := fun wx hb => (B.cell hb pb 0 hlt).trans c0
  have K : Hid (placeB (h / 3) 1 (ex - 1) lv = true) := k
  have e1 : (ex == 0) = false := by simp; omega
  clear k
  go_enter Tryz.func76, Tryz.ntmps76
  go_wp2_with fail
  go_region_held3 (fun wx => wx.cell? ⟨pb, 0, none⟩ = some (.int .i64 lv) ∧ wx.cell? ⟨w.heap.size + 1, 0, none⟩ = some (.int .i64 (h / 3)) ∧ wx.cell? ⟨w.heap.size + 1, 1, none⟩ = some (.int .i64 1) ∧ wx.cell? ⟨w.heap.size + 1, 2, none⟩ = some (.int .i64 (ex - 1))) (first | go_keep | (refine ⟨c0' _ (by go_grown), ?_, ?_, ?_⟩ <;> simp))
    (first
      | (go_at_call 92; refine (checkPlace_any _ _ _ _ _).mono ?_; rw [K.out, faultN_t, errV0]; rintro e w1 ⟨rfl, hb1⟩
         have z1 : w.heap.size + 2 ≤ w1.heap.size := by have := hb1.size; simp at this; omega
         have s1 := B.row hb1 (b := w.heap.size + 1) (C := #[.int .i64 (h / 3), .int .i64 1, .int .i64 (ex - 1)]) (fun o => by rw [show w.heap.size + 1 = (w.alloc (.cells #[.int .i64 0, .int .i64 0, .int .i64 0] 65)).heap.size from by simp]; exact B.row_new _ _ _ o) (by simp)
         have g1 := B.row hb1 (b := w.heap.size) (C := #[.int .i64 0, .int .i64 0, .int .i64 0]) (B.row_old _ (B.row_new w _ _) (by simp)) (by simp; omega)
         have f1 : ∀ o, w1.frozen? ⟨w.heap.size, o, none⟩ = false := fun o => (B.frozen hb1 _ o (by simp; omega)).trans (by simp)
         have B1 : Hid (Below w.heap.size w w1) := B.next (by go_grown) hb1 (by simp; omega)
         have c01 := c0' w1 B1.out
         have q0 := set3_0 g1
         have q1 := set3_1 g1
         have q2 := set3_2 g1
         clear hb1))
  go_wp2
  (try simp only [Exit.inBlock, Exit.then])
  refine bodyPost_ret (by simp [results, Tryz.results76, go_sem, q0, q1, q2]; try rfl) rfl ?_
  exact ⟨by simp, by have := B1.out; go_grown⟩

set_option maxHeartbeats 1000000 in
theorem end_c (pb : Nat) (lv h ex : Int) (w : World) (c0 : w.cell? ⟨pb, 0, none⟩ = some (.int .i64 lv)) (c1 : w.cell? ⟨pb, 1, none⟩ = some (.int .i64 h)) (h0 : 0 < h) (h12 : h ≤ 12) (hm : h % 3 = 0) (e0 : 0 < ex) (e3 : ex ≤ 3) (k : placeB (h / 3) 1 (ex - 1) lv = false) :
    Calls Tryz.prog 76 #[.pointer (some ⟨pb, 0, none⟩), .int .i64 ex] w fun e w' => e = .returned (.tuple #[.agg #[.int .i64 0, .int .i64 0, .int .i64 0], .bool false]) ∧ Below w.heap.size w w' := by
  have hlt : pb < w.heap.size := World.block_lt_of_cell? w _ c1
  have c1' : ∀ o, (w.alloc o).cell? ⟨pb, 1, none⟩ = some (.int .i64 h) := fun o => ((B.cell (B.new1 w o)) pb 1 hlt).trans c1
  have c0' : ∀ wx, Below w.heap.size w wx → wx.cell? ⟨pb, 0, none⟩ = some (.int .i64 lv) := fun wx hb => (B.cell hb pb 0 hlt).trans c0
  have K : Hid (placeB (h / 3) 1 (ex - 1) lv = false) := k
  have e1 : (ex == 0) = false := by simp; omega
  clear k
  go_enter Tryz.func76, Tryz.ntmps76
  go_wp2_with fail
  go_region_held3 (fun wx => wx.cell? ⟨pb, 0, none⟩ = some (.int .i64 lv) ∧ wx.cell? ⟨w.heap.size + 1, 0, none⟩ = some (.int .i64 (h / 3)) ∧ wx.cell? ⟨w.heap.size + 1, 1, none⟩ = some (.int .i64 1) ∧ wx.cell? ⟨w.heap.size + 1, 2, none⟩ = some (.int .i64 (ex - 1))) (first | go_keep | (refine ⟨c0' _ (by go_grown), ?_, ?_, ?_⟩ <;> simp))
    (first
      | (go_at_call 92; refine (checkPlace_any _ _ _ _ _).mono ?_; rw [K.out, faultN_f, errV_ne (by decide)]; rintro e w1 ⟨rfl, hb1⟩
         have z1 : w.heap.size + 2 ≤ w1.heap.size := by have := hb1.size; simp at this; omega
         have s1 := B.row hb1 (b := w.heap.size + 1) (C := #[.int .i64 (h / 3), .int .i64 1, .int .i64 (ex - 1)]) (fun o => by rw [show w.heap.size + 1 = (w.alloc (.cells #[.int .i64 0, .int .i64 0, .int .i64 0] 65)).heap.size from by simp]; exact B.row_new _ _ _ o) (by simp)
         have g1 := B.row hb1 (b := w.heap.size) (C := #[.int .i64 0, .int .i64 0, .int .i64 0]) (B.row_old _ (B.row_new w _ _) (by simp)) (by simp; omega)
         have f1 : ∀ o, w1.frozen? ⟨w.heap.size, o, none⟩ = false := fun o => (B.frozen hb1 _ o (by simp; omega)).trans (by simp)
         have B1 : Hid (Below w.heap.size w w1) := B.next (by go_grown) hb1 (by simp; omega)
         have c01 := c0' w1 B1.out
         have q0 := set3_0 g1
         have q1 := set3_1 g1
         have q2 := set3_2 g1
         clear hb1))
  go_wp2
  (try simp only [Exit.inBlock, Exit.then])
  refine bodyPost_ret (by simp [results, Tryz.results76, go_sem, q0, q1, q2]; try rfl) rfl ?_
  exact ⟨by simp, by have := B1.out; go_grown⟩

set_option maxHeartbeats 1000000 in
theorem end_d (pb : Nat) (lv h ex : Int) (w : World) (c0 : w.cell? ⟨pb, 0, none⟩ = some (.int .i64 lv)) (c1 : w.cell? ⟨pb, 1, none⟩ = some (.int .i64 h)) (h0 : 0 < h) (h12 : h ≤ 12) (hm : h % 3 = 0) (e0 : ex < 0) (e3 : -3 ≤ ex) (k : placeB (h / 3) 0 (-ex - 1) lv = true) :
    Calls Tryz.prog 76 #[.pointer (some ⟨pb, 0, none⟩), .int .i64 ex] w fun e w' => e = .returned (.tuple #[.agg #[.int .i64 (h / 3), .int .i64 0, .int .i64 (-ex - 1)], .bool true]) ∧ Below w.heap.size w w' := by
  have hlt : pb < w.heap.size := World.block_lt_of_cell? w _ c1
  have c1' : ∀ o, (w.alloc o).cell? ⟨pb, 1, none⟩ = some (.int .i64 h) := fun o => ((B.cell (B.new1 w o)) pb 1 hlt).trans c1
  have c0' : ∀ wx, Below w.heap.size w wx → wx.cell? ⟨pb, 0, none⟩ = some (.int .i64 lv) := fun wx hb => (B.cell hb pb 0 hlt).trans c0
  have K : Hid (placeB (h / 3) 0 (-ex - 1) lv = true) := k
  have e1 : (ex == 0) = false := by simp; omega
  clear k
  go_enter Tryz.func76, Tryz.ntmps76
  go_wp2_with fail
  go_region_held3 (fun wx => wx.cell? ⟨pb, 0, none⟩ = some (.int .i64 lv) ∧ wx.cell? ⟨w.heap.size + 1, 0, none⟩ = some (.int .i64 (h / 3)) ∧ wx.cell? ⟨w.heap.size + 1, 1, none⟩ = some (.int .i64 0) ∧ wx.cell? ⟨w.heap.size + 1, 2, none⟩ = some (.int .i64 (-ex - 1))) (first | go_keep | (refine ⟨c0' _ (by go_grown), ?_, ?_, ?_⟩ <;> simp))
    (first
      | (go_at_call 92; refine (checkPlace_any _ _ _ _ _).mono ?_; rw [K.out, faultN_t, errV0]; rintro e w1 ⟨rfl, hb1⟩
         have z1 : w.heap.size + 2 ≤ w1.heap.size := by have := hb1.size; simp at this; omega
         have s1 := B.row hb1 (b := w.heap.size + 1) (C := #[.int .i64 (h / 3), .int .i64 0, .int .i64 (-ex - 1)]) (fun o => by rw [show w.heap.size + 1 = (w.alloc (.cells #[.int .i64 0, .int .i64 0, .int .i64 0] 65)).heap.size from by simp]; exact B.row_new _ _ _ o) (by simp)
         have g1 := B.row hb1 (b := w.heap.size) (C := #[.int .i64 0, .int .i64 0, .int .i64 0]) (B.row_old _ (B.row_new w _ _) (by simp)) (by simp; omega)
         have f1 : ∀ o, w1.frozen? ⟨w.heap.size, o, none⟩ = false := fun o => (B.frozen hb1 _ o (by simp; omega)).trans (by simp)
         have B1 : Hid (Below w.heap.size w w1) := B.next (by go_grown) hb1 (by simp; omega)
         have c01 := c0' w1 B1.out
         have q0 := set3_0 g1
         have q1 := set3_1 g1
         have q2 := set3_2 g1
         clear hb1))
  go_wp2
  (try simp only [Exit.inBlock, Exit.then])
  refine bodyPost_ret (by simp [results, Tryz.results76, go_sem, q0, q1, q2]; try rfl) rfl ?_
  exact ⟨by simp, by have := B1.out; go_grown⟩

set_option maxHeartbeats 1000000 in
theorem end_e (pb : Nat) (lv h ex : Int) (w : World) (c0 : w.cell? ⟨pb, 0, none⟩ = some (.int .i64 lv)) (c1 : w.cell? ⟨pb, 1, none⟩ = some (.int .i64 h)) (h0 : 0 < h) (h12 : h ≤ 12) (hm : h % 3 = 0) (e0 : ex < 0) (e3 : -3 ≤ ex) (k : placeB (h / 3) 0 (-ex - 1) lv = false) :
    Calls Tryz.prog 76 #[.pointer (some ⟨pb, 0, none⟩), .int .i64 ex] w fun e w' => e = .returned (.tuple #[.agg #[.int .i64 0, .int .i64 0, .int .i64 0], .bool false]) ∧ Below w.heap.size w w' := by
  have hlt : pb < w.heap.size := World.block_lt_of_cell? w _ c1
  have c1' : ∀ o, (w.alloc o).cell? ⟨pb, 1, none⟩ = some (.int .i64 h) := fun o => ((B.cell (B.new1 w o)) pb 1 hlt).trans c1
  have c0' : ∀ wx, Below w.heap.size w wx → wx.cell? ⟨pb, 0, none⟩ = some (.int .i64 lv) := fun wx hb => (B.cell hb pb 0 hlt).trans c0
  have K : Hid (placeB (h / 3) 0 (-ex - 1) lv = false) := k
  have e1 : (ex == 0) = false := by simp; omega
  clear k
  go_enter Tryz.func76, Tryz.ntmps76
  go_wp2_with fail
  go_region_held3 (fun wx => wx.cell? ⟨pb, 0, none⟩ = some (.int .i64 lv) ∧ wx.cell? ⟨w.heap.size + 1, 0, none⟩ = some (.int .i64 (h / 3)) ∧ wx.cell? ⟨w.heap.size + 1, 1, none⟩ = some (.int .i64 0) ∧ wx.cell? ⟨w.heap.size + 1, 2, none⟩ = some (.int .i64 (-ex - 1))) (first | go_keep | (refine ⟨c0' _ (by go_grown), ?_, ?_, ?_⟩ <;> simp))
    (first
      | (go_at_call 92; refine (checkPlace_any _ _ _ _ _).mono ?_; rw [K.out, faultN_f, errV_ne (by decide)]; rintro e w1 ⟨rfl, hb1⟩
         have z1 : w.heap.size + 2 ≤ w1.heap.size := by have := hb1.size; simp at this; omega
         have s1 := B.row hb1 (b := w.heap.size + 1) (C := #[.int .i64 (h / 3), .int .i64 0, .int .i64 (-ex - 1)]) (fun o => by rw [show w.heap.size + 1 = (w.alloc (.cells #[.int .i64 0, .int .i64 0, .int .i64 0] 65)).heap.size from by simp]; exact B.row_new _ _ _ o) (by simp)
         have g1 := B.row hb1 (b := w.heap.size) (C := #[.int .i64 0, .int .i64 0, .int .i64 0]) (B.row_old _ (B.row_new w _ _) (by simp)) (by simp; omega)
         have f1 : ∀ o, w1.frozen? ⟨w.heap.size, o, none⟩ = false := fun o => (B.frozen hb1 _ o (by simp; omega)).trans (by simp)
         have B1 : Hid (Below w.heap.size w w1) := B.next (by go_grown) hb1 (by simp; omega)
         have c01 := c0' w1 B1.out
         have q0 := set3_0 g1
         have q1 := set3_1 g1
         have q2 := set3_2 g1
         clear hb1))
  go_wp2
  (try simp only [Exit.inBlock, Exit.then])
  refine bodyPost_ret (by simp [results, Tryz.results76, go_sem, q0, q1, q2]; try rfl) rfl ?_
  exact ⟨by simp, by have := B1.out; go_grown⟩

/-! ### behind the ways of end -/

theorem end_any (pb : Nat) (lv h ex : Int) (w : World) (c0 : w.cell? ⟨pb, 0, none⟩ = some (.int .i64 lv)) (c1 : w.cell? ⟨pb, 1, none⟩ = some (.int .i64 h)) (h0 : 0 ≤ h) (h12 : h ≤ 12) (e0 : -3 ≤ ex) (e3 : ex ≤ 3) :
    Calls Tryz.prog 76 #[.pointer (some ⟨pb, 0, none⟩), .int .i64 ex] w fun e w' => e = .returned (endV lv h ex) ∧ Below w.heap.size w w' := by
  cases k : decide (0 < h ∧ h % 3 = 0 ∧ ex ≠ 0) with
  | false => exact end_a pb lv h ex w c1 h0 h12 k
  | true =>
    have k' := k
    simp only [decide_eq_true_eq] at k'
    by_cases hn : ex < 0
    · cases q : placeB (h / 3) 0 (-ex - 1) lv with
      | true => rw [show endV lv h ex = .tuple #[.agg #[.int .i64 (h / 3), .int .i64 0, .int .i64 (-ex - 1)], .bool true] from by simp only [endV, endX, endY, endZ, endB, k, hn, q, if_true, Bool.and_self]]; exact end_d pb lv h ex w c0 c1 k'.1 h12 k'.2.1 hn e0 q
      | false => rw [endV_f (by simp only [endB, k, hn, q, if_true, Bool.and_false])]; exact end_e pb lv h ex w c0 c1 k'.1 h12 k'.2.1 hn e0 q
    · cases q : placeB (h / 3) 1 (ex - 1) lv with
      | true => rw [show endV lv h ex = .tuple #[.agg #[.int .i64 (h / 3), .int .i64 1, .int .i64 (ex - 1)], .bool true] from by simp only [endV, endX, endY, endZ, endB, k, hn, q, if_true, if_false, Bool.and_self]]; exact end_b pb lv h ex w c0 c1 k'.1 h12 k'.2.1 (by omega) e3 q
      | false => rw [endV_f (by simp only [endB, k, hn, q, if_true, if_false, Bool.and_false])]; exact end_c pb lv h ex w c0 c1 k'.1 h12 k'.2.1 (by omega) e3 q

/-! ### the map of cars -/
/-- The cars: block mb is a map of at most n entries that reads as D. -/
abbrev Cars (w : World) (mb n : Nat) (D : DataW Unit) : Prop := w.ownsMap Tryz.prog 65 (plainElem Tryz.prog 3) mb n D
/-- Which car is at a place, by the map's reading. -/
def carOf (D : DataW Unit) (x y z : Int) : Int := match D.atKey (pk x y z) (.lit (.int .i64 0)) with | .lit (.int .i64 c) => c | _ => 0
theorem carOf_of {D : DataW Unit} {x y z c : Int} (h : D.atKey (pk x y z) (.lit (.int .i64 0)) = .lit (.int .i64 c)) : carOf D x y z = c := by simp [carOf, h]

set_option maxHeartbeats 1000000 in
theorem at_any (pb mb n : Nat) (D : DataW Unit) (x y z : Int) (w : World) (c7 : w.cell? ⟨pb, 7, none⟩ = some (.map (some mb))) (hown : Cars w mb n D) (hx : (Lit.int .i64 x).wf = true) (hy : (Lit.int .i64 y).wf = true) (hz : (Lit.int .i64 z).wf = true) :
    Calls Tryz.prog 34 #[.pointer (some ⟨pb, 0, none⟩), .agg #[.int .i64 x, .int .i64 y, .int .i64 z]] w fun e w' => e = .returned (.int .i64 (carOf D x y z)) ∧ Below w.heap.size w w' := by
  have hlt : pb < w.heap.size := World.block_lt_of_cell? w _ c7
  have c7' : ∀ o, (w.alloc o).cell? ⟨pb, 7, none⟩ = some (.map (some mb)) := fun o => ((B.cell (B.new1 w o)) pb 7 hlt).trans c7
  have hkey := key_place hx hy hz
  have hown1 : Cars (w.alloc (.cells #[.int .i64 x, .int .i64 y, .int .i64 z] 65)).drew mb n D := hown.alloc _
  obtain ⟨c, hrun, hat, hwc⟩ := hown1.lookup_int law Tryz.underlying90 Tryz.underlying3 (zeroI _) hkey
  have K : Hid (carOf D x y z = c) := carOf_of hat
  clear hat hown1
  go_enter Tryz.func34, Tryz.ntmps34
  go_wp2_with fail
  go_region
  go_wp2
  go_returns
  exact ⟨B.ret_int K.out.symm, by go_grown⟩

end Pl
end Go.Proofs.YtopgllmjeliklaaGreatDoor

namespace Go.Proofs.YtopgllmjeliklaaGreatDoor
open Go.ChangeShapes Go.WideShapes Go.ChangeAt Go.RowKit Go.Maps
set_option maxRecDepth 100000
set_option linter.unusedSimpArgs false
set_option linter.unusedVariables false

namespace Pl
/-- Which car stands where the shuttle's end would be; 0: none. -/
def carAtI (D : DataW Unit) (lv h ex : Int) : Int := if endB lv h ex = true then carOf D (endX lv h ex) (endY lv h ex) (endZ lv h ex) else 0

theorem cars_below {w w' : World} {mb n : Nat} {D : DataW Unit} (h : Cars w mb n D) (hb : Below w.heap.size w w') : Cars w' mb n D := by
  obtain ⟨es, clock, hm, r⟩ := h
  exact ⟨es, clock, (hb.block mb (Array.getElem?_eq_some_iff.1 hm).1).trans hm, r⟩

theorem end_wf {lv h ex : Int} (h0 : 0 ≤ h) (h12 : h ≤ 12) (e0 : -3 ≤ ex) (e3 : ex ≤ 3) : (Lit.int .i64 (endX lv h ex)).wf = true ∧ (Lit.int .i64 (endY lv h ex)).wf = true ∧ (Lit.int .i64 (endZ lv h ex)).wf = true := by
  refine ⟨wfI ?_, wfI ?_, wfI ?_⟩ <;> simp only [endX, endY, endZ] <;> (repeat' split) <;> omega

set_option maxHeartbeats 1000000 in
theorem carAt_any (pb mb n : Nat) (D : DataW Unit) (lv h ex : Int) (w : World) (c0 : w.cell? ⟨pb, 0, none⟩ = some (.int .i64 lv)) (c1 : w.cell? ⟨pb, 1, none⟩ = some (.int .i64 h)) (c7 : w.cell? ⟨pb, 7, none⟩ = some (.map (some mb))) (hown : Cars w mb n D)
    (h0 : 0 ≤ h) (h12 : h ≤ 12) (e0 : -3 ≤ ex) (e3 : ex ≤ 3) :
    Calls Tryz.prog 50 #[.pointer (some ⟨pb, 0, none⟩), .int .i64 ex] w fun e w' => e = .returned (.int .i64 (carAtI D lv h ex)) ∧ Below w.heap.size w w' := by
  have hlt : pb < w.heap.size := World.block_lt_of_cell? w _ c7
  obtain ⟨wx, wy, wz⟩ := end_wf (lv := lv) h0 h12 e0 e3
  have HE := fun w => end_any pb lv h ex w
  cases k : endB lv h ex with
  | false =>
    have K : Hid (carAtI D lv h ex = 0) := by show _ = _; simp [carAtI, k]
    have KV : Hid (endV lv h ex = _) := endV_f k
    clear k
    go_enter Tryz.func50, Tryz.ntmps50
    go_wp2_with fail
    refine (HE _ c0 c1 h0 h12 e0 e3).mono ?_
    rw [KV.out]
    rintro e w1 ⟨rfl, hb1⟩
    clear HE
    go_wp2
    go_returns
    exact ⟨B.ret_int K.out.symm, hb1.alloc hb1.size _⟩
  | true =>
    generalize hX : endX lv h ex = X at wx
    generalize hY : endY lv h ex = Y at wy
    generalize hZ : endZ lv h ex = Z at wz
    have K : Hid (carAtI D lv h ex = carOf D X Y Z) := by show _ = _; simp [carAtI, k, hX, hY, hZ]
    have KV : Hid (endV lv h ex = .tuple #[.agg #[.int .i64 X, .int .i64 Y, .int .i64 Z], .bool true]) := by show _ = _; simp only [endV, hX, hY, hZ, k]
    clear k hX hY hZ
    go_enter Tryz.func50, Tryz.ntmps50
    go_wp2_with fail
    refine (HE _ c0 c1 h0 h12 e0 e3).mono ?_
    rw [KV.out]
    rintro e w1 ⟨rfl, hb1⟩
    clear HE
    have c71 := (B.cell hb1 pb 7 hlt).trans c7
    have hown1 := cars_below hown hb1
    have B1 : Hid (Below w.heap.size w w1) := hb1
    have z1 := hb1.size
    have hlt1 : pb < w1.heap.size := by omega
    clear hb1 hown c7 c0 c1
    go_wp2_with fail
    refine (at_any pb mb n D X Y Z _ ((B.cell (B.new1 w1 _) pb 7 hlt1).trans c71) (hown1.alloc _) wx wy wz).mono ?_
    rintro e w2 ⟨rfl, hb2⟩
    go_wp2
    go_returns
    exact ⟨B.ret_int K.out.symm, B.next (B1.out.alloc z1 _) hb2 (by simp; omega)⟩

/-- A cell of the machine is written, nothing else. -/
theorem hurtIf_any (pb : Nat) (hu b : Bool) (w : World) (c9 : w.cell? ⟨pb, 9, none⟩ = some (.bool hu)) (f9 : w.frozen? ⟨pb, 9, none⟩ = false) :
    Calls Tryz.prog 108 #[.pointer (some ⟨pb, 0, none⟩), .bool b] w fun e w' => e = .returned (.tuple #[]) ∧ w' = w.setCell ⟨pb, 9, none⟩ (.bool (hu || b)) := by
  cases hu <;> cases b <;> (
    go_enter Tryz.func108, Tryz.ntmps108
    go_wp2
    go_returns
    exact ⟨rfl, rfl⟩)

theorem below_any (pb : Nat) (h ex : Int) (w : World) (c1 : w.cell? ⟨pb, 1, none⟩ = some (.int .i64 h)) (c2 : w.cell? ⟨pb, 2, none⟩ = some (.int .i64 ex)) :
    Calls Tryz.prog 109 #[.pointer (some ⟨pb, 0, none⟩)] w fun e w' => e = .returned (.bool (decide (h = 0 ∧ ex = 0))) ∧ w' = w := by
  have ha : (h == 0) = decide (h = 0) := by rw [Bool.eq_iff_iff]; simp
  have hb : (ex == 0) = decide (ex = 0) := by rw [Bool.eq_iff_iff]; simp
  have HK : Hid (decide (h = 0 ∧ ex = 0) = (decide (h = 0) && decide (ex = 0))) := by show _ = _; simp
  rw [HK.out]
  cases ka : decide (h = 0) <;> cases kb : decide (ex = 0) <;> (
    rw [ka] at ha
    rw [kb] at hb
    clear ka kb
    go_enter Tryz.func109, Tryz.ntmps109
    go_wp2
    go_returns
    exact ⟨rfl, rfl⟩)

theorem hurt_any (pb : Nat) (hu : Bool) (w : World) (c9 : w.cell? ⟨pb, 9, none⟩ = some (.bool hu)) :
    Calls Tryz.prog 24 #[.pointer (some ⟨pb, 0, none⟩)] w fun e w' => e = .returned (.bool hu) ∧ w' = w := by
  go_enter Tryz.func24, Tryz.ntmps24
  go_wp2
  go_returns
  exact ⟨rfl, rfl⟩

end Pl
end Go.Proofs.YtopgllmjeliklaaGreatDoor

namespace Go.Proofs.YtopgllmjeliklaaGreatDoor
open Go.ChangeShapes Go.WideShapes Go.ChangeAt Go.RowKit Go.Maps
set_option maxRecDepth 100000
set_option linter.unusedSimpArgs false
set_option linter.unusedVariables false

namespace Pl
/-- The machine, as it is: its numbers, and its cars as the map reads. -/
structure St where
  lv : Int
  h : Int
  ex : Int
  op : Bool
  pe : Int
  li : Int
  ba : Int
  D : DataW Unit
  st : Int
  hu : Bool

def arr (s : St) (mb : Nat) : Array Value := #[.int .i64 s.lv, .int .i64 s.h, .int .i64 s.ex, .bool s.op, .int .i64 s.pe, .int .i64 s.li, .int .i64 s.ba, .map (some mb), .int .i64 s.st, .bool s.hu]

/-- Block pb is the machine s, its cars in the map of block mb. -/
structure IsP (w : World) (pb mb n : Nat) (s : St) : Prop where
  row : w.heap[pb]? = some (.cells (arr s mb) 92 (0, 0))
  cars : Cars w mb n s.D

theorem IsP.lt {w : World} {pb mb n : Nat} {s : St} (h : IsP w pb mb n s) : pb < w.heap.size := (Array.getElem?_eq_some_iff.1 h.row).1
theorem IsP.ltm {w : World} {pb mb n : Nat} {s : St} (h : IsP w pb mb n s) : mb < w.heap.size := by
  obtain ⟨es, clock, hm, r⟩ := h.cars
  exact (Array.getElem?_eq_some_iff.1 hm).1
theorem IsP.ne {w : World} {pb mb n : Nat} {s : St} (h : IsP w pb mb n s) : pb ≠ mb := by
  intro e
  obtain ⟨es, clock, hm, r⟩ := h.cars
  have := h.row
  rw [e, hm] at this
  cases this
theorem IsP.cell {w : World} {pb mb n : Nat} {s : St} (h : IsP w pb mb n s) (o : Nat) : w.cell? ⟨pb, o, none⟩ = (arr s mb)[o]? := by simp [World.cell?, h.row]
theorem IsP.free {w : World} {pb mb n : Nat} {s : St} (h : IsP w pb mb n s) (o : Nat) : w.frozen? ⟨pb, o, none⟩ = false := by simp [World.frozen?, h.row]
theorem IsP.below {w w' : World} {pb mb n : Nat} {s : St} (h : IsP w pb mb n s) (hb : Below w.heap.size w w') : IsP w' pb mb n s := ⟨(hb.block pb h.lt).trans h.row, cars_below h.cars hb⟩

/-- The cells, by their numbers. -/
theorem IsP.c0 {w : World} {pb mb n : Nat} {s : St} (h : IsP w pb mb n s) : w.cell? ⟨pb, 0, none⟩ = some (.int .i64 s.lv) := h.cell 0
theorem IsP.c1 {w : World} {pb mb n : Nat} {s : St} (h : IsP w pb mb n s) : w.cell? ⟨pb, 1, none⟩ = some (.int .i64 s.h) := h.cell 1
theorem IsP.c2 {w : World} {pb mb n : Nat} {s : St} (h : IsP w pb mb n s) : w.cell? ⟨pb, 2, none⟩ = some (.int .i64 s.ex) := h.cell 2
theorem IsP.c3 {w : World} {pb mb n : Nat} {s : St} (h : IsP w pb mb n s) : w.cell? ⟨pb, 3, none⟩ = some (.bool s.op) := h.cell 3
theorem IsP.c4 {w : World} {pb mb n : Nat} {s : St} (h : IsP w pb mb n s) : w.cell? ⟨pb, 4, none⟩ = some (.int .i64 s.pe) := h.cell 4
theorem IsP.c5 {w : World} {pb mb n : Nat} {s : St} (h : IsP w pb mb n s) : w.cell? ⟨pb, 5, none⟩ = some (.int .i64 s.li) := h.cell 5
theorem IsP.c6 {w : World} {pb mb n : Nat} {s : St} (h : IsP w pb mb n s) : w.cell? ⟨pb, 6, none⟩ = some (.int .i64 s.ba) := h.cell 6
theorem IsP.c7 {w : World} {pb mb n : Nat} {s : St} (h : IsP w pb mb n s) : w.cell? ⟨pb, 7, none⟩ = some (.map (some mb)) := h.cell 7
theorem IsP.c8 {w : World} {pb mb n : Nat} {s : St} (h : IsP w pb mb n s) : w.cell? ⟨pb, 8, none⟩ = some (.int .i64 s.st) := h.cell 8
theorem IsP.c9 {w : World} {pb mb n : Nat} {s : St} (h : IsP w pb mb n s) : w.cell? ⟨pb, 9, none⟩ = some (.bool s.hu) := h.cell 9

/-- A machine that is within its bounds. -/
structure Ok (s : St) : Prop where
  lv1 : 1 ≤ s.lv
  lv4 : s.lv ≤ 4
  h0 : 0 ≤ s.h
  h12 : s.h ≤ s.lv * 3
  e0 : -2 ≤ s.ex
  e2 : s.ex ≤ 2

/-- One cell of the machine is written. -/
theorem IsP.set {w : World} {pb mb n : Nat} {s s' : St} (h : IsP w pb mb n s) (o : Nat) (v : Value) (hs : (arr s mb).setIfInBounds o v = arr s' mb) (hD : s'.D = s.D) : IsP (w.setCell ⟨pb, o, none⟩ v) pb mb n s' := by
  refine ⟨?_, ?_⟩
  · have := h.row
    simp [World.setCell, Array.getElem?_modify, this, hs]
  · rw [hD]
    obtain ⟨es, clock, hm, r⟩ := h.cars
    exact ⟨es, clock, (Below.heap_setCell w _ v mb (by simpa using h.ne.symm)).trans hm, r⟩

/-- What is seen. -/
def senseV (s : St) : Value := .agg #[.int .i64 s.h, .int .i64 s.ex, .bool s.op, .int .i64 s.pe, .int .i64 s.li, .int .i64 s.ba, .bool (carAtI s.D s.lv s.h s.ex != 0), .bool (carAtI s.D s.lv s.h (s.ex - 1) != 0), .bool (carAtI s.D s.lv s.h (s.ex + 1) != 0)]

end Pl
end Go.Proofs.YtopgllmjeliklaaGreatDoor

namespace Go.Proofs.YtopgllmjeliklaaGreatDoor
open Go.ChangeShapes Go.WideShapes Go.ChangeAt Go.RowKit Go.Maps
set_option maxRecDepth 100000
set_option linter.unusedSimpArgs false
set_option linter.unusedVariables false

namespace Pl
theorem set9_0 {w : World} {b : Nat} {a0 a1 a2 a3 a4 a5 a6 a7 a8 : Value} (g : ∀ o, w.cell? ⟨b, o, none⟩ = (#[a0, a1, a2, a3, a4, a5, a6, a7, a8] : Array Value)[o]?) (v0 v1 v2 v3 v4 v5 v6 v7 v8 : Value) : (((((((((w.setCell ⟨b, 0, none⟩ v0).setCell ⟨b, 1, none⟩ v1).setCell ⟨b, 2, none⟩ v2).setCell ⟨b, 3, none⟩ v3).setCell ⟨b, 4, none⟩ v4).setCell ⟨b, 5, none⟩ v5).setCell ⟨b, 6, none⟩ v6).setCell ⟨b, 7, none⟩ v7).setCell ⟨b, 8, none⟩ v8).cell? ⟨b, 0, none⟩ = some v0 := by
  have h0 := g 0
  simp at h0
  simp [World.cell?_setCell_same', World.cell?_setCell_other, h0]
theorem set9_1 {w : World} {b : Nat} {a0 a1 a2 a3 a4 a5 a6 a7 a8 : Value} (g : ∀ o, w.cell? ⟨b, o, none⟩ = (#[a0, a1, a2, a3, a4, a5, a6, a7, a8] : Array Value)[o]?) (v0 v1 v2 v3 v4 v5 v6 v7 v8 : Value) : (((((((((w.setCell ⟨b, 0, none⟩ v0).setCell ⟨b, 1, none⟩ v1).setCell ⟨b, 2, none⟩ v2).setCell ⟨b, 3, none⟩ v3).setCell ⟨b, 4, none⟩ v4).setCell ⟨b, 5, none⟩ v5).setCell ⟨b, 6, none⟩ v6).setCell ⟨b, 7, none⟩ v7).setCell ⟨b, 8, none⟩ v8).cell? ⟨b, 1, none⟩ = some v1 := by
  have h1 := g 1
  simp at h1
  simp [World.cell?_setCell_same', World.cell?_setCell_other, h1]
theorem set9_2 {w : World} {b : Nat} {a0 a1 a2 a3 a4 a5 a6 a7 a8 : Value} (g : ∀ o, w.cell? ⟨b, o, none⟩ = (#[a0, a1, a2, a3, a4, a5, a6, a7, a8] : Array Value)[o]?) (v0 v1 v2 v3 v4 v5 v6 v7 v8 : Value) : (((((((((w.setCell ⟨b, 0, none⟩ v0).setCell ⟨b, 1, none⟩ v1).setCell ⟨b, 2, none⟩ v2).setCell ⟨b, 3, none⟩ v3).setCell ⟨b, 4, none⟩ v4).setCell ⟨b, 5, none⟩ v5).setCell ⟨b, 6, none⟩ v6).setCell ⟨b, 7, none⟩ v7).setCell ⟨b, 8, none⟩ v8).cell? ⟨b, 2, none⟩ = some v2 := by
  have h2 := g 2
  simp at h2
  simp [World.cell?_setCell_same', World.cell?_setCell_other, h2]
theorem set9_3 {w : World} {b : Nat} {a0 a1 a2 a3 a4 a5 a6 a7 a8 : Value} (g : ∀ o, w.cell? ⟨b, o, none⟩ = (#[a0, a1, a2, a3, a4, a5, a6, a7, a8] : Array Value)[o]?) (v0 v1 v2 v3 v4 v5 v6 v7 v8 : Value) : (((((((((w.setCell ⟨b, 0, none⟩ v0).setCell ⟨b, 1, none⟩ v1).setCell ⟨b, 2, none⟩ v2).setCell ⟨b, 3, none⟩ v3).setCell ⟨b, 4, none⟩ v4).setCell ⟨b, 5, none⟩ v5).setCell ⟨b, 6, none⟩ v6).setCell ⟨b, 7, none⟩ v7).setCell ⟨b, 8, none⟩ v8).cell? ⟨b, 3, none⟩ = some v3 := by
  have h3 := g 3
  simp at h3
  simp [World.cell?_setCell_same', World.cell?_setCell_other, h3]
theorem set9_4 {w : World} {b : Nat} {a0 a1 a2 a3 a4 a5 a6 a7 a8 : Value} (g : ∀ o, w.cell? ⟨b, o, none⟩ = (#[a0, a1, a2, a3, a4, a5, a6, a7, a8] : Array Value)[o]?) (v0 v1 v2 v3 v4 v5 v6 v7 v8 : Value) : (((((((((w.setCell ⟨b, 0, none⟩ v0).setCell ⟨b, 1, none⟩ v1).setCell ⟨b, 2, none⟩ v2).setCell ⟨b, 3, none⟩ v3).setCell ⟨b, 4, none⟩ v4).setCell ⟨b, 5, none⟩ v5).setCell ⟨b, 6, none⟩ v6).setCell ⟨b, 7, none⟩ v7).setCell ⟨b, 8, none⟩ v8).cell? ⟨b, 4, none⟩ = some v4 := by
  have h4 := g 4
  simp at h4
  simp [World.cell?_setCell_same', World.cell?_setCell_other, h4]
theorem set9_5 {w : World} {b : Nat} {a0 a1 a2 a3 a4 a5 a6 a7 a8 : Value} (g : ∀ o, w.cell? ⟨b, o, none⟩ = (#[a0, a1, a2, a3, a4, a5, a6, a7, a8] : Array Value)[o]?) (v0 v1 v2 v3 v4 v5 v6 v7 v8 : Value) : (((((((((w.setCell ⟨b, 0, none⟩ v0).setCell ⟨b, 1, none⟩ v1).setCell ⟨b, 2, none⟩ v2).setCell ⟨b, 3, none⟩ v3).setCell ⟨b, 4, none⟩ v4).setCell ⟨b, 5, none⟩ v5).setCell ⟨b, 6, none⟩ v6).setCell ⟨b, 7, none⟩ v7).setCell ⟨b, 8, none⟩ v8).cell? ⟨b, 5, none⟩ = some v5 := by
  have h5 := g 5
  simp at h5
  simp [World.cell?_setCell_same', World.cell?_setCell_other, h5]
theorem set9_6 {w : World} {b : Nat} {a0 a1 a2 a3 a4 a5 a6 a7 a8 : Value} (g : ∀ o, w.cell? ⟨b, o, none⟩ = (#[a0, a1, a2, a3, a4, a5, a6, a7, a8] : Array Value)[o]?) (v0 v1 v2 v3 v4 v5 v6 v7 v8 : Value) : (((((((((w.setCell ⟨b, 0, none⟩ v0).setCell ⟨b, 1, none⟩ v1).setCell ⟨b, 2, none⟩ v2).setCell ⟨b, 3, none⟩ v3).setCell ⟨b, 4, none⟩ v4).setCell ⟨b, 5, none⟩ v5).setCell ⟨b, 6, none⟩ v6).setCell ⟨b, 7, none⟩ v7).setCell ⟨b, 8, none⟩ v8).cell? ⟨b, 6, none⟩ = some v6 := by
  have h6 := g 6
  simp at h6
  simp [World.cell?_setCell_same', World.cell?_setCell_other, h6]
theorem set9_7 {w : World} {b : Nat} {a0 a1 a2 a3 a4 a5 a6 a7 a8 : Value} (g : ∀ o, w.cell? ⟨b, o, none⟩ = (#[a0, a1, a2, a3, a4, a5, a6, a7, a8] : Array Value)[o]?) (v0 v1 v2 v3 v4 v5 v6 v7 v8 : Value) : (((((((((w.setCell ⟨b, 0, none⟩ v0).setCell ⟨b, 1, none⟩ v1).setCell ⟨b, 2, none⟩ v2).setCell ⟨b, 3, none⟩ v3).setCell ⟨b, 4, none⟩ v4).setCell ⟨b, 5, none⟩ v5).setCell ⟨b, 6, none⟩ v6).setCell ⟨b, 7, none⟩ v7).setCell ⟨b, 8, none⟩ v8).cell? ⟨b, 7, none⟩ = some v7 := by
  have h7 := g 7
  simp at h7
  simp [World.cell?_setCell_same', World.cell?_setCell_other, h7]
theorem set9_8 {w : World} {b : Nat} {a0 a1 a2 a3 a4 a5 a6 a7 a8 : Value} (g : ∀ o, w.cell? ⟨b, o, none⟩ = (#[a0, a1, a2, a3, a4, a5, a6, a7, a8] : Array Value)[o]?) (v0 v1 v2 v3 v4 v5 v6 v7 v8 : Value) : (((((((((w.setCell ⟨b, 0, none⟩ v0).setCell ⟨b, 1, none⟩ v1).setCell ⟨b, 2, none⟩ v2).setCell ⟨b, 3, none⟩ v3).setCell ⟨b, 4, none⟩ v4).setCell ⟨b, 5, none⟩ v5).setCell ⟨b, 6, none⟩ v6).setCell ⟨b, 7, none⟩ v7).setCell ⟨b, 8, none⟩ v8).cell? ⟨b, 8, none⟩ = some v8 := by
  have h8 := g 8
  simp at h8
  simp [World.cell?_setCell_same', World.cell?_setCell_other, h8]
theorem set9_below {w0 w : World} {b : Nat} (h : Below b w0 w) (v0 v1 v2 v3 v4 v5 v6 v7 v8 : Value) : Below b w0 (((((((((w.setCell ⟨b, 0, none⟩ v0).setCell ⟨b, 1, none⟩ v1).setCell ⟨b, 2, none⟩ v2).setCell ⟨b, 3, none⟩ v3).setCell ⟨b, 4, none⟩ v4).setCell ⟨b, 5, none⟩ v5).setCell ⟨b, 6, none⟩ v6).setCell ⟨b, 7, none⟩ v7).setCell ⟨b, 8, none⟩ v8) := ((((((((h.setCell (Nat.le_refl _) _).setCell (Nat.le_refl _) _).setCell (Nat.le_refl _) _).setCell (Nat.le_refl _) _).setCell (Nat.le_refl _) _).setCell (Nat.le_refl _) _).setCell (Nat.le_refl _) _).setCell (Nat.le_refl _) _).setCell (Nat.le_refl _) _

set_option maxHeartbeats 4000000 in
theorem sense_any (pb mb n : Nat) (s : St) (w : World) (hp : IsP w pb mb n s) (ok : Ok s) :
    Calls Tryz.prog 19 #[.pointer (some ⟨pb, 0, none⟩)] w fun e w' => e = .returned (senseV s) ∧ Below w.heap.size w w' := by
  obtain ⟨lv, h, ex, op, pe, li, ba, D, st, hu⟩ := s
  obtain ⟨lv1, lv4, h0, h12, e0, e2⟩ := ok
  simp only at lv1 lv4 h0 h12 e0 e2
  obtain ⟨x1, HX1⟩ : ∃ x : Int, Hid (x = ex - 1) := ⟨_, rfl⟩
  obtain ⟨x2, HX2⟩ : ∃ x : Int, Hid (x = ex + 1) := ⟨_, rfl⟩
  have m1 : IntKind.i64.wrap (ex - 1) = x1 := by rw [IntKind.wrap_i64, HX1.out]; omega
  have m2 : IntKind.i64.wrap (ex + 1) = x2 := by rw [IntKind.wrap_i64, HX2.out]; omega
  have b1 : Hid (-3 ≤ x1 ∧ x1 ≤ 3) := by show _ ∧ _; rw [HX1.out]; omega
  have b2 : Hid (-3 ≤ x2 ∧ x2 ≤ 3) := by show _ ∧ _; rw [HX2.out]; omega
  generalize ha : carAtI D lv h ex = a
  generalize hb : carAtI D lv h x1 = b
  generalize hc : carAtI D lv h x2 = c
  have KV : Hid (senseV ⟨lv, h, ex, op, pe, li, ba, D, st, hu⟩ = .agg #[.int .i64 h, .int .i64 ex, .bool op, .int .i64 pe, .int .i64 li, .int .i64 ba, .bool (a != 0), .bool (b != 0), .bool (c != 0)]) := by
    show _ = _
    simp only [senseV, ← HX1.out, ← HX2.out, ha, hb, hc]
  have HA : Hid (carAtI D lv h ex = a) := ha
  have HB : Hid (carAtI D lv h x1 = b) := hb
  have HC : Hid (carAtI D lv h x2 = c) := hc
  clear ha hb hc
  have P0 : Hid (IsP w pb mb n ⟨lv, h, ex, op, pe, li, ba, D, st, hu⟩) := hp
  have hlt := hp.lt
  have P1 : Hid (IsP (w.alloc (.cells #[.int .i64 0, .int .i64 0, .bool false, .int .i64 0, .int .i64 0, .int .i64 0, .bool false, .bool false, .bool false] 46)) pb mb n ⟨lv, h, ex, op, pe, li, ba, D, st, hu⟩) := hp.below (B.new1 w _)
  have c0 := P1.out.c0; have c1 := P1.out.c1; have c2 := P1.out.c2; have c3 := P1.out.c3; have c4 := P1.out.c4; have c5 := P1.out.c5; have c6 := P1.out.c6
  simp only at c0 c1 c2 c3 c4 c5 c6
  have npb : w.heap.size ≠ pb := by omega
  clear hp
  go_enter Tryz.func19, Tryz.ntmps19
  go_wp2_with fail
  go_region_held3 (fun wx => wx.cell? ⟨pb, 1, none⟩ = some (.int .i64 h) ∧ wx.cell? ⟨pb, 2, none⟩ = some (.int .i64 ex) ∧ wx.cell? ⟨pb, 3, none⟩ = some (.bool op) ∧ wx.cell? ⟨pb, 4, none⟩ = some (.int .i64 pe) ∧ wx.cell? ⟨pb, 5, none⟩ = some (.int .i64 li) ∧ wx.cell? ⟨pb, 6, none⟩ = some (.int .i64 ba)) (go_keep)
    (first
      | (go_at_call_of 50 (Value.int .i64 ex); refine (carAt_any pb mb n D lv h ex _ (P1.out.below ((Below.refl _ _).drew)).c0 (P1.out.below ((Below.refl _ _).drew)).c1 (P1.out.below ((Below.refl _ _).drew)).c7 (P1.out.below ((Below.refl _ _).drew)).cars h0 (by omega) (by omega) (by omega)).mono ?_; rw [HA.out]; rintro e wa ⟨rfl, hbwa⟩
         have Pwa : Hid (IsP wa pb mb n ⟨lv, h, ex, op, pe, li, ba, D, st, hu⟩) := (P1.out.below ((Below.refl _ _).drew)).below hbwa
         have Zwa : Hid (Below w.heap.size w wa) := B.next (B.new1 w _).drew hbwa (by simp)
         have Gwa : Hid (w.heap.size < wa.heap.size ∧ (∀ o, wa.cell? ⟨w.heap.size, o, none⟩ = (#[.int .i64 0, .int .i64 0, .bool false, .int .i64 0, .int .i64 0, .int .i64 0, .bool false, .bool false, .bool false] : Array Value)[o]?) ∧ ∀ o, wa.frozen? ⟨w.heap.size, o, none⟩ = false) := ⟨by have := hbwa.size; simp at this; omega, B.row hbwa (B.row_new w _ _) (by simp), fun o => (B.frozen hbwa _ o (by simp)).trans (by simp)⟩
         have d1wa := Pwa.out.c1; have d2wa := Pwa.out.c2; have d3wa := Pwa.out.c3; have d4wa := Pwa.out.c4; have d5wa := Pwa.out.c5; have d6wa := Pwa.out.c6
         simp only at d1wa d2wa d3wa d4wa d5wa d6wa
         clear hbwa)
      | (go_at_call_of 50 (Value.int .i64 x1); refine (carAt_any pb mb n D lv h x1 _ (Pwa.out).c0 (Pwa.out).c1 (Pwa.out).c7 (Pwa.out).cars h0 (by omega) b1.out.1 b1.out.2).mono ?_; rw [HB.out]; rintro e wb ⟨rfl, hbwb⟩
         have Pwb : Hid (IsP wb pb mb n ⟨lv, h, ex, op, pe, li, ba, D, st, hu⟩) := (Pwa.out).below hbwb
         have Zwb : Hid (Below w.heap.size w wb) := B.next Zwa.out hbwb Zwa.out.size
         have Gwb : Hid (w.heap.size < wb.heap.size ∧ (∀ o, wb.cell? ⟨w.heap.size, o, none⟩ = (#[.int .i64 0, .int .i64 0, .bool false, .int .i64 0, .int .i64 0, .int .i64 0, .bool false, .bool false, .bool false] : Array Value)[o]?) ∧ ∀ o, wb.frozen? ⟨w.heap.size, o, none⟩ = false) := ⟨Nat.lt_of_lt_of_le Gwa.out.1 hbwb.size, B.row hbwb Gwa.out.2.1 Gwa.out.1, fun o => (B.frozen hbwb _ o Gwa.out.1).trans (Gwa.out.2.2 o)⟩
         have d1wb := Pwb.out.c1; have d2wb := Pwb.out.c2; have d3wb := Pwb.out.c3; have d4wb := Pwb.out.c4; have d5wb := Pwb.out.c5; have d6wb := Pwb.out.c6
         simp only at d1wb d2wb d3wb d4wb d5wb d6wb
         clear hbwb)
      | (go_at_call_of 50 (Value.int .i64 x2); refine (carAt_any pb mb n D lv h x2 _ (Pwb.out).c0 (Pwb.out).c1 (Pwb.out).c7 (Pwb.out).cars h0 (by omega) b2.out.1 b2.out.2).mono ?_; rw [HC.out]; rintro e wc ⟨rfl, hbwc⟩
         have Pwc : Hid (IsP wc pb mb n ⟨lv, h, ex, op, pe, li, ba, D, st, hu⟩) := (Pwb.out).below hbwc
         have Zwc : Hid (Below w.heap.size w wc) := B.next Zwb.out hbwc Zwb.out.size
         have Gwc : Hid (w.heap.size < wc.heap.size ∧ (∀ o, wc.cell? ⟨w.heap.size, o, none⟩ = (#[.int .i64 0, .int .i64 0, .bool false, .int .i64 0, .int .i64 0, .int .i64 0, .bool false, .bool false, .bool false] : Array Value)[o]?) ∧ ∀ o, wc.frozen? ⟨w.heap.size, o, none⟩ = false) := ⟨Nat.lt_of_lt_of_le Gwb.out.1 hbwc.size, B.row hbwc Gwb.out.2.1 Gwb.out.1, fun o => (B.frozen hbwc _ o Gwb.out.1).trans (Gwb.out.2.2 o)⟩
         have d1wc := Pwc.out.c1; have d2wc := Pwc.out.c2; have d3wc := Pwc.out.c3; have d4wc := Pwc.out.c4; have d5wc := Pwc.out.c5; have d6wc := Pwc.out.c6
         simp only at d1wc d2wc d3wc d4wc d5wc d6wc
         have gc := Gwc.out.2.1
         have fc := Gwc.out.2.2
         clear hbwc))
  go_wp2
  (try simp only [Exit.inBlock, Exit.then])
  refine bodyPost_ret (by simp [results, Tryz.results19, go_sem, set9_0 gc, set9_1 gc, set9_2 gc, set9_3 gc, set9_4 gc, set9_5 gc, set9_6 gc, set9_7 gc, set9_8 gc]; try rfl) rfl ?_
  exact ⟨by rw [KV.out], set9_below Zwc.out _ _ _ _ _ _ _ _ _⟩

end Pl
end Go.Proofs.YtopgllmjeliklaaGreatDoor
