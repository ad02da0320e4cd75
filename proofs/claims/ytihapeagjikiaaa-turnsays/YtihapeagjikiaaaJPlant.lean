/- Chapter 2: the machine: its cells, its map of cars (B1), and what its smallest functions answer. -/
import Derived.Test.YtihapeagjikiaaaJBase
import Derived.Maps.OwnSet
import Derived.Maps.OwnOps
import Derived.DeepKeys4
import Derived.MapViews
import Derived.Deep.RegionHeld3
namespace Go.Proofs.Ytihapeagjikiaaa
open Go.ChangeShapes Go.WideShapes Go.ChangeAt Go.RowKit Go.Maps
set_option maxRecDepth 100000
set_option linter.unusedSimpArgs false
set_option linter.unusedVariables false

namespace Pl
/-! ### the map's key: a place -/
theorem rowP : (38 : TypeId) < Try.prog.types.size := of_decide_eq_true (by kernel_rfl)
theorem wideP : (match Try.prog.underlying 38 with | some (.array _ _) | some (.struct _) => true | _ => false) = true := by kernel_rfl
theorem law : Keyed Try.prog 38 := Keyed.of_law (deep_law_laid Try.laidOut (m := 3) (by omega) rowP (by kernel_rfl) wideP)
theorem zeroI (w : World) : (zeroValue 3).run Try.prog w = .ok (.int .i64 0) w := by kernel_rfl
theorem deepP : Try.prog.keyTypeAt (Try.prog.types.size + 1) 38 = true := by kernel_rfl

theorem cellsP : Try.prog.cellsOf 38 = 3 := by kernel_rfl
theorem cellsI : Try.prog.cellsOf 3 = 1 := by kernel_rfl
/-- A place as the map's key reads. -/
def pk (x y z : Int) : Lit := .string (keyBytes [.int .i64 x, .int .i64 y, .int .i64 z])

theorem wfI {n : Int} (h : -9223372036854775808 ≤ n ∧ n ≤ 9223372036854775807) : (Lit.int .i64 n).wf = true := WalkArith.wf_i64 (by omega)

theorem key_place {x y z : Int} (hx : (Lit.int .i64 x).wf = true) (hy : (Lit.int .i64 y).wf = true) (hz : (Lit.int .i64 z).wf = true) :
    keyOf Try.prog 38 (.agg #[.int .i64 x, .int .i64 y, .int .i64 z]) = some (pk x y z) := by
  have hk : Try.prog.keyType 38 = true := deepP
  have hf : (Value.agg #[.int .i64 x, .int .i64 y, .int .i64 z]).formed Try.prog 38 = true := by simp [Value.formed, Try.underlying38, cellsP]
  have hn : ∃ m, Try.prog.types.size + 1 = m + 2 := ⟨Try.prog.types.size - 1, by have h1 : (38 : Nat) < Try.prog.types.size := rowP; omega⟩
  obtain ⟨m, hm⟩ := hn
  unfold keyOf
  rw [Try.underlying38]
  simp only [hk, hf, Bool.and_self, if_true, hm]
  simp [Program.keyLits, Try.underlying38, Try.underlying3, cellsP, cellsI, Value.cells, hx, hy, hz, pk]

/-! ### three cells written in a row -/
theorem set3_2 {w : World} {b : Nat} {a0 a1 a2 : Value} (g : ∀ o, w.cell? ⟨b, o, none⟩ = #[a0, a1, a2][o]?) (x y z : Value) : (((w.setCell ⟨b, 0, none⟩ x).setCell ⟨b, 1, none⟩ y).setCell ⟨b, 2, none⟩ z).cell? ⟨b, 2, none⟩ = some z := by
  have h0 := g 0; have h1 := g 1; have h2 := g 2
  simp at h0 h1 h2
  simp [World.cell?_setCell_same', World.cell?_setCell_other, h0, h1, h2]
theorem set3_1 {w : World} {b : Nat} {a0 a1 a2 : Value} (g : ∀ o, w.cell? ⟨b, o, none⟩ = #[a0, a1, a2][o]?) (x y z : Value) : (((w.setCell ⟨b, 0, none⟩ x).setCell ⟨b, 1, none⟩ y).setCell ⟨b, 2, none⟩ z).cell? ⟨b, 1, none⟩ = some y := by
  have h0 := g 0; have h1 := g 1; have h2 := g 2
  simp at h0 h1 h2
  simp [World.cell?_setCell_same', World.cell?_setCell_other, h0, h1, h2]
theorem set3_0 {w : World} {b : Nat} {a0 a1 a2 : Value} (g : ∀ o, w.cell? ⟨b, o, none⟩ = #[a0, a1, a2][o]?) (x y z : Value) : (((w.setCell ⟨b, 0, none⟩ x).setCell ⟨b, 1, none⟩ y).setCell ⟨b, 2, none⟩ z).cell? ⟨b, 0, none⟩ = some x := by
  have h0 := g 0; have h1 := g 1; have h2 := g 2
  simp at h0 h1 h2
  simp [World.cell?_setCell_same', World.cell?_setCell_other, h0, h1, h2]

/-! ### what lies in front of the shuttle -/
def endB (lv h ex : Int) : Bool := decide (0 < h ∧ h % 3 = 0 ∧ ex ≠ 0) && placeB (h / 3) (if ex < 0 then 0 else 1) (if ex < 0 then -ex - 1 else ex - 1) lv
def endX (lv h ex : Int) : Int := if endB lv h ex = true then h / 3 else 0
def endY (lv h ex : Int) : Int := if endB lv h ex = true then (if ex < 0 then 0 else 1) else 0
def endZ (lv h ex : Int) : Int := if endB lv h ex = true then (if ex < 0 then -ex - 1 else ex - 1) else 0
def endV (lv h ex : Int) : Value := .tuple #[.agg #[.int .i64 (endX lv h ex), .int .i64 (endY lv h ex), .int .i64 (endZ lv h ex)], .bool (endB lv h ex)]
theorem endV_f {lv h ex : Int} (k : endB lv h ex = false) : endV lv h ex = .tuple #[.agg #[.int .i64 0, .int .i64 0, .int .i64 0], .bool false] := by simp [endV, endX, endY, endZ, k]

set_option maxHeartbeats 1000000 in
theorem end_a (pb : Nat) (lv h ex : Int) (w : World) (c1 : w.cell? ⟨pb, 1, none⟩ = some (.int .i64 h)) (h0 : 0 ≤ h) (h12 : h ≤ 12) (k : decide (0 < h ∧ h % 3 = 0 ∧ ex ≠ 0) = false) :
    Calls Try.prog 148 #[.pointer (some ⟨pb, 0, none⟩), .int .i64 ex] w fun e w' => e = .returned (endV lv h ex) ∧ Below w.heap.size w w' := by
  have hlt : pb < w.heap.size := World.block_lt_of_cell? w _ c1
  have c1' : ∀ o, (w.alloc o).cell? ⟨pb, 1, none⟩ = some (.int .i64 h) := fun o => ((B.cell (B.new1 w o)) pb 1 hlt).trans c1
  have K : Hid (endV lv h ex = .tuple #[.agg #[.int .i64 0, .int .i64 0, .int .i64 0], .bool false]) := endV_f (by simp [endB, k])
  have K2 : Hid (decide (0 < h ∧ h % 3 = 0 ∧ ex ≠ 0) = false) := k
  clear k
  go_enter Try.func148, Try.ntmps148
  go_wp2_with fail
  all_goals first
    | (go_returns; exact ⟨by rw [K.out], by go_grown⟩)
    | (exfalso; go_light; have := K2.out; simp only [decide_eq_false_iff_not] at this; simp only [beq_eq_false_iff_ne, ne_eq] at *; omega)

/-! ### the ways of end -/

set_option maxHeartbeats 1000000 in
theorem end_b (pb : Nat) (lv h ex : Int) (w : World) (c0 : w.cell? ⟨pb, 0, none⟩ = some (.int .i64 lv)) (c1 : w.cell? ⟨pb, 1, none⟩ = some (.int .i64 h)) (h0 : 0 < h) (h12 : h ≤ 12) (hm : h % 3 = 0) (e0 : 0 < ex) (e3 : ex ≤ 3) (k : placeB (h / 3) 1 (ex - 1) lv = true) :
    Calls Try.prog 148 #[.pointer (some ⟨pb, 0, none⟩), .int .i64 ex] w fun e w' => e = .returned (.tuple #[.agg #[.int .i64 (h / 3), .int .i64 1, .int .i64 (ex - 1)], .bool true]) ∧ Below w.heap.size w w' := by
  have hlt : pb < w.heap.size := World.block_lt_of_cell? w _ c1
  have c1' : ∀ o, (w.alloc o).cell? ⟨pb, 1, none⟩ = some (.int .i64 h) := fun o => ((B.cell (B.new1 w o)) pb 1 hlt).trans c1
  have c0' : ∀ wx, Below w.heap.size w wx → wx.cell? ⟨pb, 0, none⟩ = some (.int .i64 lv) := fun wx hb => (B.cell hb pb 0 hlt).trans c0
  have K : Hid (placeB (h / 3) 1 (ex - 1) lv = true) := k
  have e1 : (ex == 0) = false := by simp; omega
  clear k
  go_enter Try.func148, Try.ntmps148
  go_wp2_with fail
  go_region_held3 (fun wx => wx.cell? ⟨pb, 0, none⟩ = some (.int .i64 lv) ∧ wx.cell? ⟨w.heap.size + 1, 0, none⟩ = some (.int .i64 (h / 3)) ∧ wx.cell? ⟨w.heap.size + 1, 1, none⟩ = some (.int .i64 1) ∧ wx.cell? ⟨w.heap.size + 1, 2, none⟩ = some (.int .i64 (ex - 1))) (first | go_keep | (refine ⟨c0' _ (by go_grown), ?_, ?_, ?_⟩ <;> simp))
    (first
      | (go_at_call 121; refine (checkPlace_any _ _ _ _ _).mono ?_; rw [K.out, faultN_t, errV0]; rintro e w1 ⟨rfl, hb1⟩
         have z1 : w.heap.size + 2 ≤ w1.heap.size := by have := hb1.size; simp at this; omega
         have s1 := B.row hb1 (b := w.heap.size + 1) (C := #[.int .i64 (h / 3), .int .i64 1, .int .i64 (ex - 1)]) (fun o => by rw [show w.heap.size + 1 = (w.alloc (.cells #[.int .i64 0, .int .i64 0, .int .i64 0] 38)).heap.size from by simp]; exact B.row_new _ _ _ o) (by simp)
         have g1 := B.row hb1 (b := w.heap.size) (C := #[.int .i64 0, .int .i64 0, .int .i64 0]) (B.row_old _ (B.row_new w _ _) (by simp)) (by simp; omega)
         have f1 : ∀ o, w1.frozen? ⟨w.heap.size, o, none⟩ = false := fun o => (B.frozen hb1 _ o (by simp; omega)).trans (by simp)
         have B1 : Hid (Below w.heap.size w w1) := B.next (by go_grown) hb1 (by simp; omega)
         have c01 := c0' w1 B1.out
         have q0 := set3_0 g1
         have q1 := set3_1 g1
         have q2 := set3_2 g1
         clear hb1))
  go_wp2
  (try simp only [Exit.inBlock, Exit.then])
  refine bodyPost_ret (by simp [results, Try.results148, go_sem, q0, q1, q2]; try rfl) rfl ?_
  exact ⟨by simp, by have := B1.out; go_grown⟩

set_option maxHeartbeats 1000000 in
theorem end_c (pb : Nat) (lv h ex : Int) (w : World) (c0 : w.cell? ⟨pb, 0, none⟩ = some (.int .i64 lv)) (c1 : w.cell? ⟨pb, 1, none⟩ = some (.int .i64 h)) (h0 : 0 < h) (h12 : h ≤ 12) (hm : h % 3 = 0) (e0 : 0 < ex) (e3 : ex ≤ 3) (k : placeB (h / 3) 1 (ex - 1) lv = false) :
    Calls Try.prog 148 #[.pointer (some ⟨pb, 0, none⟩), .int .i64 ex] w fun e w' => e = .returned (.tuple #[.agg #[.int .i64 0, .int .i64 0, .int .i64 0], .bool false]) ∧ Below w.heap.size w w' := by
  have hlt : pb < w.heap.size := World.block_lt_of_cell? w _ c1
  have c1' : ∀ o, (w.alloc o).cell? ⟨pb, 1, none⟩ = some (.int .i64 h) := fun o => ((B.cell (B.new1 w o)) pb 1 hlt).trans c1
  have c0' : ∀ wx, Below w.heap.size w wx → wx.cell? ⟨pb, 0, none⟩ = some (.int .i64 lv) := fun wx hb => (B.cell hb pb 0 hlt).trans c0
  have K : Hid (placeB (h / 3) 1 (ex - 1) lv = false) := k
  have e1 : (ex == 0) = false := by simp; omega
  clear k
  go_enter Try.func148, Try.ntmps148
  go_wp2_with fail
  go_region_held3 (fun wx => wx.cell? ⟨pb, 0, none⟩ = some (.int .i64 lv) ∧ wx.cell? ⟨w.heap.size + 1, 0, none⟩ = some (.int .i64 (h / 3)) ∧ wx.cell? ⟨w.heap.size + 1, 1, none⟩ = some (.int .i64 1) ∧ wx.cell? ⟨w.heap.size + 1, 2, none⟩ = some (.int .i64 (ex - 1))) (first | go_keep | (refine ⟨c0' _ (by go_grown), ?_, ?_, ?_⟩ <;> simp))
    (first
      | (go_at_call 121; refine (checkPlace_any _ _ _ _ _).mono ?_; rw [K.out, faultN_f, errV_ne (by decide)]; rintro e w1 ⟨rfl, hb1⟩
         have z1 : w.heap.size + 2 ≤ w1.heap.size := by have := hb1.size; simp at this; omega
         have s1 := B.row hb1 (b := w.heap.size + 1) (C := #[.int .i64 (h / 3), .int .i64 1, .int .i64 (ex - 1)]) (fun o => by rw [show w.heap.size + 1 = (w.alloc (.cells #[.int .i64 0, .int .i64 0, .int .i64 0] 38)).heap.size from by simp]; exact B.row_new _ _ _ o) (by simp)
         have g1 := B.row hb1 (b := w.heap.size) (C := #[.int .i64 0, .int .i64 0, .int .i64 0]) (B.row_old _ (B.row_new w _ _) (by simp)) (by simp; omega)
         have f1 : ∀ o, w1.frozen? ⟨w.heap.size, o, none⟩ = false := fun o => (B.frozen hb1 _ o (by simp; omega)).trans (by simp)
         have B1 : Hid (Below w.heap.size w w1) := B.next (by go_grown) hb1 (by simp; omega)
         have c01 := c0' w1 B1.out
         have q0 := set3_0 g1
         have q1 := set3_1 g1
         have q2 := set3_2 g1
         clear hb1))
  go_wp2
  (try simp only [Exit.inBlock, Exit.then])
  refine bodyPost_ret (by simp [results, Try.results148, go_sem, q0, q1, q2]; try rfl) rfl ?_
  exact ⟨by simp, by have := B1.out; go_grown⟩

set_option maxHeartbeats 1000000 in
theorem end_d (pb : Nat) (lv h ex : Int) (w : World) (c0 : w.cell? ⟨pb, 0, none⟩ = some (.int .i64 lv)) (c1 : w.cell? ⟨pb, 1, none⟩ = some (.int .i64 h)) (h0 : 0 < h) (h12 : h ≤ 12) (hm : h % 3 = 0) (e0 : ex < 0) (e3 : -3 ≤ ex) (k : placeB (h / 3) 0 (-ex - 1) lv = true) :
    Calls Try.prog 148 #[.pointer (some ⟨pb, 0, none⟩), .int .i64 ex] w fun e w' => e = .returned (.tuple #[.agg #[.int .i64 (h / 3), .int .i64 0, .int .i64 (-ex - 1)], .bool true]) ∧ Below w.heap.size w w' := by
  have hlt : pb < w.heap.size := World.block_lt_of_cell? w _ c1
  have c1' : ∀ o, (w.alloc o).cell? ⟨pb, 1, none⟩ = some (.int .i64 h) := fun o => ((B.cell (B.new1 w o)) pb 1 hlt).trans c1
  have c0' : ∀ wx, Below w.heap.size w wx → wx.cell? ⟨pb, 0, none⟩ = some (.int .i64 lv) := fun wx hb => (B.cell hb pb 0 hlt).trans c0
  have K : Hid (placeB (h / 3) 0 (-ex - 1) lv = true) := k
  have e1 : (ex == 0) = false := by simp; omega
  clear k
  go_enter Try.func148, Try.ntmps148
  go_wp2_with fail
  go_region_held3 (fun wx => wx.cell? ⟨pb, 0, none⟩ = some (.int .i64 lv) ∧ wx.cell? ⟨w.heap.size + 1, 0, none⟩ = some (.int .i64 (h / 3)) ∧ wx.cell? ⟨w.heap.size + 1, 1, none⟩ = some (.int .i64 0) ∧ wx.cell? ⟨w.heap.size + 1, 2, none⟩ = some (.int .i64 (-ex - 1))) (first | go_keep | (refine ⟨c0' _ (by go_grown), ?_, ?_, ?_⟩ <;> simp))
    (first
      | (go_at_call 121; refine (checkPlace_any _ _ _ _ _).mono ?_; rw [K.out, faultN_t, errV0]; rintro e w1 ⟨rfl, hb1⟩
         have z1 : w.heap.size + 2 ≤ w1.heap.size := by have := hb1.size; simp at this; omega
         have s1 := B.row hb1 (b := w.heap.size + 1) (C := #[.int .i64 (h / 3), .int .i64 0, .int .i64 (-ex - 1)]) (fun o => by rw [show w.heap.size + 1 = (w.alloc (.cells #[.int .i64 0, .int .i64 0, .int .i64 0] 38)).heap.size from by simp]; exact B.row_new _ _ _ o) (by simp)
         have g1 := B.row hb1 (b := w.heap.size) (C := #[.int .i64 0, .int .i64 0, .int .i64 0]) (B.row_old _ (B.row_new w _ _) (by simp)) (by simp; omega)
         have f1 : ∀ o, w1.frozen? ⟨w.heap.size, o, none⟩ = false := fun o => (B.frozen hb1 _ o (by simp; omega)).trans (by simp)
         have B1 : Hid (Below w.heap.size w w1) := B.next (by go_grown) hb1 (by simp; omega)
         have c01 := c0' w1 B1.out
         have q0 := set3_0 g1
         have q1 := set3_1 g1
         have q2 := set3_2 g1
         clear hb1))
  go_wp2
  (try simp only [Exit.inBlock, Exit.then])
  refine bodyPost_ret (by simp [results, Try.results148, go_sem, q0, q1, q2]; try rfl) rfl ?_
  exact ⟨by simp, by have := B1.out; go_grown⟩

set_option maxHeartbeats 1000000 in
theorem end_e (pb : Nat) (lv h ex : Int) (w : World) (c0 : w.cell? ⟨pb, 0, none⟩ = some (.int .i64 lv)) (c1 : w.cell? ⟨pb, 1, none⟩ = some (.int .i64 h)) (h0 : 0 < h) (h12 : h ≤ 12) (hm : h % 3 = 0) (e0 : ex < 0) (e3 : -3 ≤ ex) (k : placeB (h / 3) 0 (-ex - 1) lv = false) :
    Calls Try.prog 148 #[.pointer (some ⟨pb, 0, none⟩), .int .i64 ex] w fun e w' => e = .returned (.tuple #[.agg #[.int .i64 0, .int .i64 0, .int .i64 0], .bool false]) ∧ Below w.heap.size w w' := by
  have hlt : pb < w.heap.size := World.block_lt_of_cell? w _ c1
  have c1' : ∀ o, (w.alloc o).cell? ⟨pb, 1, none⟩ = some (.int .i64 h) := fun o => ((B.cell (B.new1 w o)) pb 1 hlt).trans c1
  have c0' : ∀ wx, Below w.heap.size w wx → wx.cell? ⟨pb, 0, none⟩ = some (.int .i64 lv) := fun wx hb => (B.cell hb pb 0 hlt).trans c0
  have K : Hid (placeB (h / 3) 0 (-ex - 1) lv = false) := k
  have e1 : (ex == 0) = false := by simp; omega
  clear k
  go_enter Try.func148, Try.ntmps148
  go_wp2_with fail
  go_region_held3 (fun wx => wx.cell? ⟨pb, 0, none⟩ = some (.int .i64 lv) ∧ wx.cell? ⟨w.heap.size + 1, 0, none⟩ = some (.int .i64 (h / 3)) ∧ wx.cell? ⟨w.heap.size + 1, 1, none⟩ = some (.int .i64 0) ∧ wx.cell? ⟨w.heap.size + 1, 2, none⟩ = some (.int .i64 (-ex - 1))) (first | go_keep | (refine ⟨c0' _ (by go_grown), ?_, ?_, ?_⟩ <;> simp))
    (first
      | (go_at_call 121; refine (checkPlace_any _ _ _ _ _).mono ?_; rw [K.out, faultN_f, errV_ne (by decide)]; rintro e w1 ⟨rfl, hb1⟩
         have z1 : w.heap.size + 2 ≤ w1.heap.size := by have := hb1.size; simp at this; omega
         have s1 := B.row hb1 (b := w.heap.size + 1) (C := #[.int .i64 (h / 3), .int .i64 0, .int .i64 (-ex - 1)]) (fun o => by rw [show w.heap.size + 1 = (w.alloc (.cells #[.int .i64 0, .int .i64 0, .int .i64 0] 38)).heap.size from by simp]; exact B.row_new _ _ _ o) (by simp)
         have g1 := B.row hb1 (b := w.heap.size) (C := #[.int .i64 0, .int .i64 0, .int .i64 0]) (B.row_old _ (B.row_new w _ _) (by simp)) (by simp; omega)
         have f1 : ∀ o, w1.frozen? ⟨w.heap.size, o, none⟩ = false := fun o => (B.frozen hb1 _ o (by simp; omega)).trans (by simp)
         have B1 : Hid (Below w.heap.size w w1) := B.next (by go_grown) hb1 (by simp; omega)
         have c01 := c0' w1 B1.out
         have q0 := set3_0 g1
         have q1 := set3_1 g1
         have q2 := set3_2 g1
         clear hb1))
  go_wp2
  (try simp only [Exit.inBlock, Exit.then])
  refine bodyPost_ret (by simp [results, Try.results148, go_sem, q0, q1, q2]; try rfl) rfl ?_
  exact ⟨by simp, by have := B1.out; go_grown⟩

/-! ### behind the ways of end -/

theorem end_any (pb : Nat) (lv h ex : Int) (w : World) (c0 : w.cell? ⟨pb, 0, none⟩ = some (.int .i64 lv)) (c1 : w.cell? ⟨pb, 1, none⟩ = some (.int .i64 h)) (h0 : 0 ≤ h) (h12 : h ≤ 12) (e0 : -3 ≤ ex) (e3 : ex ≤ 3) :
    Calls Try.prog 148 #[.pointer (some ⟨pb, 0, none⟩), .int .i64 ex] w fun e w' => e = .returned (endV lv h ex) ∧ Below w.heap.size w w' := by
  cases k : decide (0 < h ∧ h % 3 = 0 ∧ ex ≠ 0) with
  | false => exact end_a pb lv h ex w c1 h0 h12 k
  | true =>
    have k' := k
    simp only [decide_eq_true_eq] at k'
    by_cases hn : ex < 0
    · cases q : placeB (h / 3) 0 (-ex - 1) lv with
      | true => rw [show endV lv h ex = .tuple #[.agg #[.int .i64 (h / 3), .int .i64 0, .int .i64 (-ex - 1)], .bool true] from by simp only [endV, endX, endY, endZ, endB, k, hn, q, if_true, Bool.and_self]]; exact end_d pb lv h ex w c0 c1 k'.1 h12 k'.2.1 hn e0 q
      | false => rw [endV_f (by simp only [endB, k, hn, q, if_true, Bool.and_false])]; exact end_e pb lv h ex w c0 c1 k'.1 h12 k'.2.1 hn e0 q
    · cases q : placeB (h / 3) 1 (ex - 1) lv with
      | true => rw [show endV lv h ex = .tuple #[.agg #[.int .i64 (h / 3), .int .i64 1, .int .i64 (ex - 1)], .bool true] from by simp only [endV, endX, endY, endZ, endB, k, hn, q, if_true, if_false, Bool.and_self]]; exact end_b pb lv h ex w c0 c1 k'.1 h12 k'.2.1 (by omega) e3 q
      | false => rw [endV_f (by simp only [endB, k, hn, q, if_true, if_false, Bool.and_false])]; exact end_c pb lv h ex w c0 c1 k'.1 h12 k'.2.1 (by omega) e3 q

/-! ### the map of cars -/
/-- The cars: block mb is a map of at most n entries that reads as D. -/
abbrev Cars (w : World) (mb n : Nat) (D : DataW Unit) : Prop := w.ownsMap Try.prog 38 (plainElem Try.prog 3) mb n D
/-- Which car is at a place, by the map's reading. -/
def carOf (D : DataW Unit) (x y z : Int) : Int := match D.atKey (pk x y z) (.lit (.int .i64 0)) with | .lit (.int .i64 c) => c | _ => 0
theorem carOf_of {D : DataW Unit} {x y z c : Int} (h : D.atKey (pk x y z) (.lit (.int .i64 0)) = .lit (.int .i64 c)) : carOf D x y z = c := by simp [carOf, h]

set_option maxHeartbeats 1000000 in
theorem at_any (pb mb n : Nat) (D : DataW Unit) (x y z : Int) (w : World) (c7 : w.cell? ⟨pb, 7, none⟩ = some (.map (some mb))) (hown : Cars w mb n D) (hx : (Lit.int .i64 x).wf = true) (hy : (Lit.int .i64 y).wf = true) (hz : (Lit.int .i64 z).wf = true) :
    Calls Try.prog 93 #[.pointer (some ⟨pb, 0, none⟩), .agg #[.int .i64 x, .int .i64 y, .int .i64 z]] w fun e w' => e = .returned (.int .i64 (carOf D x y z)) ∧ Below w.heap.size w w' := by
  have hlt : pb < w.heap.size := World.block_lt_of_cell? w _ c7
  have c7' : ∀ o, (w.alloc o).cell? ⟨pb, 7, none⟩ = some (.map (some mb)) := fun o => ((B.cell (B.new1 w o)) pb 7 hlt).trans c7
  have hkey := key_place hx hy hz
  have hown1 : Cars (w.alloc (.cells #[.int .i64 x, .int .i64 y, .int .i64 z] 38)).drew mb n D := hown.alloc _
  obtain ⟨c, hrun, hat, hwc⟩ := hown1.lookup_int law Try.underlying148 Try.underlying3 (zeroI _) hkey
  have K : Hid (carOf D x y z = c) := carOf_of hat
  clear hat hown1
  go_enter Try.func93, Try.ntmps93
  go_wp2_with fail
  go_region
  go_wp2
  go_returns
  exact ⟨B.ret_int K.out.symm, by go_grown⟩

end Pl
end Go.Proofs.Ytihapeagjikiaaa
