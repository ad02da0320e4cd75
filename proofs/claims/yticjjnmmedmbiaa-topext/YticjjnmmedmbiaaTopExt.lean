/- Chapter 1, the statement 'TopExt': for every two places the shuttle goes to each place of a level by another way (A3); no condition. -/
import Derived.Test.YticjjnmmedmbiaaTower
namespace Go.Proofs.Yticjjnmmedmbiaa
open Go.ChangeShapes Go.WideShapes Go.ChangeAt Go.RowKit
set_option maxRecDepth 100000
set_option linter.unusedSimpArgs false
set_option linter.unusedVariables false

set_option maxHeartbeats 1000000 in
theorem topExt_a (x1 y1 z1 x2 y2 z2 : Int) (w : World) (ka : placeB x1 y1 z1 4 = false) :
    Calls Try.prog 9 #[.agg #[.int .i64 x1, .int .i64 y1, .int .i64 z1], .agg #[.int .i64 x2, .int .i64 y2, .int .i64 z2]] w fun e w' => e = .returned (.bool true) ∧ Below w.heap.size w w' := by
  have KA : Hid (placeB x1 y1 z1 4 = false) := ka
  clear ka
  go_enter Try.func9, Try.ntmps9
  go_wp2_with fail
  refine (ext_any _ _ _ _ (by omega) (by omega)).mono ?_
  rintro e w1 ⟨rfl, hb1⟩
  rw [show extI 0 0 = -1 from by decide]
  have z1' : w.heap.size + 2 ≤ w1.heap.size := by have := hb1.size; simp at this; omega
  have g1 := B.row hb1 (B.row_old _ (B.row_new w _ _) (by simp)) (by simp; omega)
  have s1 := B.row hb1 (B.row_new (w.alloc (.cells #[.int .i64 x1, .int .i64 y1, .int .i64 z1] 28)) _ _) (by simp)
  rw [show (w.alloc (.cells #[.int .i64 x1, .int .i64 y1, .int .i64 z1] 28)).heap.size = w.heap.size + 1 from by simp] at s1
  have B1 : Hid (Below w.heap.size w w1) := B.next ((B.new1 _ _).trans ((B.new1 _ _).mono (by simp))) hb1 (by simp; omega)
  clear hb1
  go_wp2_with fail
  refine (checkPlace_any _ _ _ _ _).mono ?_
  rintro e w2 ⟨rfl, hb2⟩
  have z2' : w.heap.size + 2 ≤ w2.heap.size := by have := hb2.size; omega
  have g2 := B.row hb2 g1 (by omega)
  have s2 := B.row hb2 s1 (by omega)
  have B2 : Hid (Below w.heap.size w w2) := B.next B1.out hb2 (by omega)
  clear hb2 B1 g1 s1
  rw [KA.out, faultN_f, errV_ne (by decide)]
  go_wp2
  go_returns
  exact ⟨rfl, B2.out⟩

set_option maxHeartbeats 1000000 in
theorem topExt_b (x1 y1 z1 x2 y2 z2 : Int) (w : World) (ka : placeB x1 y1 z1 4 = true) (kb : placeB x2 y2 z2 4 = false) :
    Calls Try.prog 9 #[.agg #[.int .i64 x1, .int .i64 y1, .int .i64 z1], .agg #[.int .i64 x2, .int .i64 y2, .int .i64 z2]] w fun e w' => e = .returned (.bool true) ∧ Below w.heap.size w w' := by
  have KA : Hid (placeB x1 y1 z1 4 = true) := ka
  have KB : Hid (placeB x2 y2 z2 4 = false) := kb
  clear ka kb
  go_enter Try.func9, Try.ntmps9
  go_wp2_with fail
  refine (ext_any _ _ _ _ (by omega) (by omega)).mono ?_
  rintro e w1 ⟨rfl, hb1⟩
  rw [show extI 0 0 = -1 from by decide]
  have z1' : w.heap.size + 2 ≤ w1.heap.size := by have := hb1.size; simp at this; omega
  have g1 := B.row hb1 (B.row_old _ (B.row_new w _ _) (by simp)) (by simp; omega)
  have s1 := B.row hb1 (B.row_new (w.alloc (.cells #[.int .i64 x1, .int .i64 y1, .int .i64 z1] 28)) _ _) (by simp)
  rw [show (w.alloc (.cells #[.int .i64 x1, .int .i64 y1, .int .i64 z1] 28)).heap.size = w.heap.size + 1 from by simp] at s1
  have B1 : Hid (Below w.heap.size w w1) := B.next ((B.new1 _ _).trans ((B.new1 _ _).mono (by simp))) hb1 (by simp; omega)
  clear hb1
  go_wp2_with fail
  refine (checkPlace_any _ _ _ _ _).mono ?_
  rintro e w2 ⟨rfl, hb2⟩
  have z2' : w.heap.size + 2 ≤ w2.heap.size := by have := hb2.size; omega
  have g2 := B.row hb2 g1 (by omega)
  have s2 := B.row hb2 s1 (by omega)
  have B2 : Hid (Below w.heap.size w w2) := B.next B1.out hb2 (by omega)
  clear hb2 B1 g1 s1
  rw [KA.out, faultN_t, errV0]
  go_wp2_with fail
  refine (checkPlace_any _ _ _ _ _).mono ?_
  rintro e w3 ⟨rfl, hb3⟩
  have z3' : w.heap.size + 2 ≤ w3.heap.size := by have := hb3.size; omega
  have g3 := B.row hb3 g2 (by omega)
  have s3 := B.row hb3 s2 (by omega)
  have B3 : Hid (Below w.heap.size w w3) := B.next B2.out hb3 (by omega)
  clear hb3 B2 g2 s2
  rw [KB.out, faultN_f, errV_ne (by decide)]
  go_wp2
  go_returns
  exact ⟨rfl, B3.out⟩

set_option maxHeartbeats 1000000 in
theorem topExt_0000 (x1 x2 : Int) (w : World) (ka : placeB x1 0 0 4 = true) (kb : placeB x2 0 0 4 = true) :
    Calls Try.prog 9 #[.agg #[.int .i64 x1, .int .i64 0, .int .i64 0], .agg #[.int .i64 x2, .int .i64 0, .int .i64 0]] w fun e w' => e = .returned (.bool true) ∧ Below w.heap.size w w' := by
  have KA : Hid (placeB x1 0 0 4 = true) := ka
  have KB : Hid (placeB x2 0 0 4 = true) := kb
  clear ka kb
  go_enter Try.func9, Try.ntmps9
  go_wp2_with fail
  refine (ext_any _ _ _ _ (by omega) (by omega)).mono ?_
  rintro e w1 ⟨rfl, hb1⟩
  rw [show extI 0 0 = -1 from by decide]
  have z1' : w.heap.size + 2 ≤ w1.heap.size := by have := hb1.size; simp at this; omega
  have g1 := B.row hb1 (B.row_old _ (B.row_new w _ _) (by simp)) (by simp; omega)
  have s1 := B.row hb1 (B.row_new (w.alloc (.cells #[.int .i64 x1, .int .i64 0, .int .i64 0] 28)) _ _) (by simp)
  rw [show (w.alloc (.cells #[.int .i64 x1, .int .i64 0, .int .i64 0] 28)).heap.size = w.heap.size + 1 from by simp] at s1
  have B1 : Hid (Below w.heap.size w w1) := B.next ((B.new1 _ _).trans ((B.new1 _ _).mono (by simp))) hb1 (by simp; omega)
  clear hb1
  go_wp2_with fail
  refine (checkPlace_any _ _ _ _ _).mono ?_
  rintro e w2 ⟨rfl, hb2⟩
  have z2' : w.heap.size + 2 ≤ w2.heap.size := by have := hb2.size; omega
  have g2 := B.row hb2 g1 (by omega)
  have s2 := B.row hb2 s1 (by omega)
  have B2 : Hid (Below w.heap.size w w2) := B.next B1.out hb2 (by omega)
  clear hb2 B1 g1 s1
  rw [KA.out, faultN_t, errV0]
  go_wp2_with fail
  refine (checkPlace_any _ _ _ _ _).mono ?_
  rintro e w3 ⟨rfl, hb3⟩
  have z3' : w.heap.size + 2 ≤ w3.heap.size := by have := hb3.size; omega
  have g3 := B.row hb3 g2 (by omega)
  have s3 := B.row hb3 s2 (by omega)
  have B3 : Hid (Below w.heap.size w w3) := B.next B2.out hb3 (by omega)
  clear hb3 B2 g2 s2
  rw [KB.out, faultN_t, errV0]
  go_wp2_with fail
  refine (ext_any _ _ _ _ (by omega) (by omega)).mono ?_
  rw [show extI 0 0 = -1 from by decide]
  rintro e w4 ⟨rfl, hb4⟩
  have z4' : w.heap.size + 2 ≤ w4.heap.size := by have := hb4.size; omega
  have g4 := B.row hb4 g3 (by omega)
  have s4 := B.row hb4 s3 (by omega)
  have B4 : Hid (Below w.heap.size w w4) := B.next B3.out hb4 (by omega)
  clear hb4 B3 g3 s3
  go_wp2_with fail
  refine (ext_any _ _ _ _ (by omega) (by omega)).mono ?_
  rw [show extI 0 0 = -1 from by decide]
  rintro e w5 ⟨rfl, hb5⟩
  have z5' : w.heap.size + 2 ≤ w5.heap.size := by have := hb5.size; omega
  have g5 := B.row hb5 g4 (by omega)
  have s5 := B.row hb5 s4 (by omega)
  have B5 : Hid (Below w.heap.size w w5) := B.next B4.out hb5 (by omega)
  clear hb5 B4 g4 s4
  go_wp2_with fail
  refine (front_any _ _ _ _).mono ?_
  rintro e w6 ⟨rfl, hb6⟩
  have z6' : w.heap.size + 2 ≤ w6.heap.size := by have := hb6.size; omega
  have g6 := B.row hb6 g5 (by omega)
  have s6 := B.row hb6 s5 (by omega)
  have B6 : Hid (Below w.heap.size w w6) := B.next B5.out hb6 (by omega)
  clear hb6 B5 g5 s5
  go_wp2_with fail
  refine (ext_any _ _ _ _ (by omega) (by omega)).mono ?_
  rw [show extI 0 0 = -1 from by decide]
  rintro e w7 ⟨rfl, hb7⟩
  have g7 := B.row hb7 g6 (by omega)
  have s7 := B.row hb7 s6 (by omega)
  have B7 : Hid (Below w.heap.size w w7) := B.next B6.out hb7 (by omega)
  clear hb7 B6 g6 s6
  go_wp2
  go_returns
  exact ⟨rfl, B7.out⟩

set_option maxHeartbeats 1000000 in
theorem topExt_0001 (x1 x2 : Int) (w : World) (ka : placeB x1 0 0 4 = true) (kb : placeB x2 0 1 4 = true) :
    Calls Try.prog 9 #[.agg #[.int .i64 x1, .int .i64 0, .int .i64 0], .agg #[.int .i64 x2, .int .i64 0, .int .i64 1]] w fun e w' => e = .returned (.bool true) ∧ Below w.heap.size w w' := by
  have KA : Hid (placeB x1 0 0 4 = true) := ka
  have KB : Hid (placeB x2 0 1 4 = true) := kb
  clear ka kb
  go_enter Try.func9, Try.ntmps9
  go_wp2_with fail
  refine (ext_any _ _ _ _ (by omega) (by omega)).mono ?_
  rintro e w1 ⟨rfl, hb1⟩
  rw [show extI 0 0 = -1 from by decide]
  have z1' : w.heap.size + 2 ≤ w1.heap.size := by have := hb1.size; simp at this; omega
  have g1 := B.row hb1 (B.row_old _ (B.row_new w _ _) (by simp)) (by simp; omega)
  have s1 := B.row hb1 (B.row_new (w.alloc (.cells #[.int .i64 x1, .int .i64 0, .int .i64 0] 28)) _ _) (by simp)
  rw [show (w.alloc (.cells #[.int .i64 x1, .int .i64 0, .int .i64 0] 28)).heap.size = w.heap.size + 1 from by simp] at s1
  have B1 : Hid (Below w.heap.size w w1) := B.next ((B.new1 _ _).trans ((B.new1 _ _).mono (by simp))) hb1 (by simp; omega)
  clear hb1
  go_wp2_with fail
  refine (checkPlace_any _ _ _ _ _).mono ?_
  rintro e w2 ⟨rfl, hb2⟩
  have z2' : w.heap.size + 2 ≤ w2.heap.size := by have := hb2.size; omega
  have g2 := B.row hb2 g1 (by omega)
  have s2 := B.row hb2 s1 (by omega)
  have B2 : Hid (Below w.heap.size w w2) := B.next B1.out hb2 (by omega)
  clear hb2 B1 g1 s1
  rw [KA.out, faultN_t, errV0]
  go_wp2_with fail
  refine (checkPlace_any _ _ _ _ _).mono ?_
  rintro e w3 ⟨rfl, hb3⟩
  have z3' : w.heap.size + 2 ≤ w3.heap.size := by have := hb3.size; omega
  have g3 := B.row hb3 g2 (by omega)
  have s3 := B.row hb3 s2 (by omega)
  have B3 : Hid (Below w.heap.size w w3) := B.next B2.out hb3 (by omega)
  clear hb3 B2 g2 s2
  rw [KB.out, faultN_t, errV0]
  go_wp2_with fail
  refine (ext_any _ _ _ _ (by omega) (by omega)).mono ?_
  rw [show extI 0 0 = -1 from by decide]
  rintro e w4 ⟨rfl, hb4⟩
  have z4' : w.heap.size + 2 ≤ w4.heap.size := by have := hb4.size; omega
  have g4 := B.row hb4 g3 (by omega)
  have s4 := B.row hb4 s3 (by omega)
  have B4 : Hid (Below w.heap.size w w4) := B.next B3.out hb4 (by omega)
  clear hb4 B3 g3 s3
  go_wp2_with fail
  refine (ext_any _ _ _ _ (by omega) (by omega)).mono ?_
  rw [show extI 0 1 = -2 from by decide]
  rintro e w5 ⟨rfl, hb5⟩
  have z5' : w.heap.size + 2 ≤ w5.heap.size := by have := hb5.size; omega
  have g5 := B.row hb5 g4 (by omega)
  have s5 := B.row hb5 s4 (by omega)
  have B5 : Hid (Below w.heap.size w w5) := B.next B4.out hb5 (by omega)
  clear hb5 B4 g4 s4
  go_wp2_with fail
  refine (front_any _ _ _ _).mono ?_
  rintro e w6 ⟨rfl, hb6⟩
  have z6' : w.heap.size + 2 ≤ w6.heap.size := by have := hb6.size; omega
  have g6 := B.row hb6 g5 (by omega)
  have s6 := B.row hb6 s5 (by omega)
  have B6 : Hid (Below w.heap.size w w6) := B.next B5.out hb6 (by omega)
  clear hb6 B5 g5 s5
  go_wp2_with fail
  refine (ext_any _ _ _ _ (by omega) (by omega)).mono ?_
  rw [show extI 0 0 = -1 from by decide]
  rintro e w7 ⟨rfl, hb7⟩
  have g7 := B.row hb7 g6 (by omega)
  have s7 := B.row hb7 s6 (by omega)
  have B7 : Hid (Below w.heap.size w w7) := B.next B6.out hb7 (by omega)
  clear hb7 B6 g6 s6
  go_wp2
  go_returns
  exact ⟨rfl, B7.out⟩

set_option maxHeartbeats 1000000 in
theorem topExt_0010 (x1 x2 : Int) (w : World) (ka : placeB x1 0 0 4 = true) (kb : placeB x2 1 0 4 = true) :
    Calls Try.prog 9 #[.agg #[.int .i64 x1, .int .i64 0, .int .i64 0], .agg #[.int .i64 x2, .int .i64 1, .int .i64 0]] w fun e w' => e = .returned (.bool true) ∧ Below w.heap.size w w' := by
  have KA : Hid (placeB x1 0 0 4 = true) := ka
  have KB : Hid (placeB x2 1 0 4 = true) := kb
  clear ka kb
  go_enter Try.func9, Try.ntmps9
  go_wp2_with fail
  refine (ext_any _ _ _ _ (by omega) (by omega)).mono ?_
  rintro e w1 ⟨rfl, hb1⟩
  rw [show extI 0 0 = -1 from by decide]
  have z1' : w.heap.size + 2 ≤ w1.heap.size := by have := hb1.size; simp at this; omega
  have g1 := B.row hb1 (B.row_old _ (B.row_new w _ _) (by simp)) (by simp; omega)
  have s1 := B.row hb1 (B.row_new (w.alloc (.cells #[.int .i64 x1, .int .i64 0, .int .i64 0] 28)) _ _) (by simp)
  rw [show (w.alloc (.cells #[.int .i64 x1, .int .i64 0, .int .i64 0] 28)).heap.size = w.heap.size + 1 from by simp] at s1
  have B1 : Hid (Below w.heap.size w w1) := B.next ((B.new1 _ _).trans ((B.new1 _ _).mono (by simp))) hb1 (by simp; omega)
  clear hb1
  go_wp2_with fail
  refine (checkPlace_any _ _ _ _ _).mono ?_
  rintro e w2 ⟨rfl, hb2⟩
  have z2' : w.heap.size + 2 ≤ w2.heap.size := by have := hb2.size; omega
  have g2 := B.row hb2 g1 (by omega)
  have s2 := B.row hb2 s1 (by omega)
  have B2 : Hid (Below w.heap.size w w2) := B.next B1.out hb2 (by omega)
  clear hb2 B1 g1 s1
  rw [KA.out, faultN_t, errV0]
  go_wp2_with fail
  refine (checkPlace_any _ _ _ _ _).mono ?_
  rintro e w3 ⟨rfl, hb3⟩
  have z3' : w.heap.size + 2 ≤ w3.heap.size := by have := hb3.size; omega
  have g3 := B.row hb3 g2 (by omega)
  have s3 := B.row hb3 s2 (by omega)
  have B3 : Hid (Below w.heap.size w w3) := B.next B2.out hb3 (by omega)
  clear hb3 B2 g2 s2
  rw [KB.out, faultN_t, errV0]
  go_wp2_with fail
  refine (ext_any _ _ _ _ (by omega) (by omega)).mono ?_
  rw [show extI 0 0 = -1 from by decide]
  rintro e w4 ⟨rfl, hb4⟩
  have z4' : w.heap.size + 2 ≤ w4.heap.size := by have := hb4.size; omega
  have g4 := B.row hb4 g3 (by omega)
  have s4 := B.row hb4 s3 (by omega)
  have B4 : Hid (Below w.heap.size w w4) := B.next B3.out hb4 (by omega)
  clear hb4 B3 g3 s3
  go_wp2_with fail
  refine (ext_any _ _ _ _ (by omega) (by omega)).mono ?_
  rw [show extI 1 0 = 1 from by decide]
  rintro e w5 ⟨rfl, hb5⟩
  have z5' : w.heap.size + 2 ≤ w5.heap.size := by have := hb5.size; omega
  have g5 := B.row hb5 g4 (by omega)
  have s5 := B.row hb5 s4 (by omega)
  have B5 : Hid (Below w.heap.size w w5) := B.next B4.out hb5 (by omega)
  clear hb5 B4 g4 s4
  go_wp2_with fail
  refine (front_any _ _ _ _).mono ?_
  rintro e w6 ⟨rfl, hb6⟩
  have z6' : w.heap.size + 2 ≤ w6.heap.size := by have := hb6.size; omega
  have g6 := B.row hb6 g5 (by omega)
  have s6 := B.row hb6 s5 (by omega)
  have B6 : Hid (Below w.heap.size w w6) := B.next B5.out hb6 (by omega)
  clear hb6 B5 g5 s5
  go_wp2_with fail
  refine (ext_any _ _ _ _ (by omega) (by omega)).mono ?_
  rw [show extI 0 0 = -1 from by decide]
  rintro e w7 ⟨rfl, hb7⟩
  have g7 := B.row hb7 g6 (by omega)
  have s7 := B.row hb7 s6 (by omega)
  have B7 : Hid (Below w.heap.size w w7) := B.next B6.out hb7 (by omega)
  clear hb7 B6 g6 s6
  go_wp2
  go_returns
  exact ⟨rfl, B7.out⟩

set_option maxHeartbeats 1000000 in
theorem topExt_0011 (x1 x2 : Int) (w : World) (ka : placeB x1 0 0 4 = true) (kb : placeB x2 1 1 4 = true) :
    Calls Try.prog 9 #[.agg #[.int .i64 x1, .int .i64 0, .int .i64 0], .agg #[.int .i64 x2, .int .i64 1, .int .i64 1]] w fun e w' => e = .returned (.bool true) ∧ Below w.heap.size w w' := by
  have KA : Hid (placeB x1 0 0 4 = true) := ka
  have KB : Hid (placeB x2 1 1 4 = true) := kb
  clear ka kb
  go_enter Try.func9, Try.ntmps9
  go_wp2_with fail
  refine (ext_any _ _ _ _ (by omega) (by omega)).mono ?_
  rintro e w1 ⟨rfl, hb1⟩
  rw [show extI 0 0 = -1 from by decide]
  have z1' : w.heap.size + 2 ≤ w1.heap.size := by have := hb1.size; simp at this; omega
  have g1 := B.row hb1 (B.row_old _ (B.row_new w _ _) (by simp)) (by simp; omega)
  have s1 := B.row hb1 (B.row_new (w.alloc (.cells #[.int .i64 x1, .int .i64 0, .int .i64 0] 28)) _ _) (by simp)
  rw [show (w.alloc (.cells #[.int .i64 x1, .int .i64 0, .int .i64 0] 28)).heap.size = w.heap.size + 1 from by simp] at s1
  have B1 : Hid (Below w.heap.size w w1) := B.next ((B.new1 _ _).trans ((B.new1 _ _).mono (by simp))) hb1 (by simp; omega)
  clear hb1
  go_wp2_with fail
  refine (checkPlace_any _ _ _ _ _).mono ?_
  rintro e w2 ⟨rfl, hb2⟩
  have z2' : w.heap.size + 2 ≤ w2.heap.size := by have := hb2.size; omega
  have g2 := B.row hb2 g1 (by omega)
  have s2 := B.row hb2 s1 (by omega)
  have B2 : Hid (Below w.heap.size w w2) := B.next B1.out hb2 (by omega)
  clear hb2 B1 g1 s1
  rw [KA.out, faultN_t, errV0]
  go_wp2_with fail
  refine (checkPlace_any _ _ _ _ _).mono ?_
  rintro e w3 ⟨rfl, hb3⟩
  have z3' : w.heap.size + 2 ≤ w3.heap.size := by have := hb3.size; omega
  have g3 := B.row hb3 g2 (by omega)
  have s3 := B.row hb3 s2 (by omega)
  have B3 : Hid (Below w.heap.size w w3) := B.next B2.out hb3 (by omega)
  clear hb3 B2 g2 s2
  rw [KB.out, faultN_t, errV0]
  go_wp2_with fail
  refine (ext_any _ _ _ _ (by omega) (by omega)).mono ?_
  rw [show extI 0 0 = -1 from by decide]
  rintro e w4 ⟨rfl, hb4⟩
  have z4' : w.heap.size + 2 ≤ w4.heap.size := by have := hb4.size; omega
  have g4 := B.row hb4 g3 (by omega)
  have s4 := B.row hb4 s3 (by omega)
  have B4 : Hid (Below w.heap.size w w4) := B.next B3.out hb4 (by omega)
  clear hb4 B3 g3 s3
  go_wp2_with fail
  refine (ext_any _ _ _ _ (by omega) (by omega)).mono ?_
  rw [show extI 1 1 = 2 from by decide]
  rintro e w5 ⟨rfl, hb5⟩
  have z5' : w.heap.size + 2 ≤ w5.heap.size := by have := hb5.size; omega
  have g5 := B.row hb5 g4 (by omega)
  have s5 := B.row hb5 s4 (by omega)
  have B5 : Hid (Below w.heap.size w w5) := B.next B4.out hb5 (by omega)
  clear hb5 B4 g4 s4
  go_wp2_with fail
  refine (front_any _ _ _ _).mono ?_
  rintro e w6 ⟨rfl, hb6⟩
  have z6' : w.heap.size + 2 ≤ w6.heap.size := by have := hb6.size; omega
  have g6 := B.row hb6 g5 (by omega)
  have s6 := B.row hb6 s5 (by omega)
  have B6 : Hid (Below w.heap.size w w6) := B.next B5.out hb6 (by omega)
  clear hb6 B5 g5 s5
  go_wp2_with fail
  refine (ext_any _ _ _ _ (by omega) (by omega)).mono ?_
  rw [show extI 0 0 = -1 from by decide]
  rintro e w7 ⟨rfl, hb7⟩
  have g7 := B.row hb7 g6 (by omega)
  have s7 := B.row hb7 s6 (by omega)
  have B7 : Hid (Below w.heap.size w w7) := B.next B6.out hb7 (by omega)
  clear hb7 B6 g6 s6
  go_wp2
  go_returns
  exact ⟨rfl, B7.out⟩

set_option maxHeartbeats 1000000 in
theorem topExt_0100 (x1 x2 : Int) (w : World) (ka : placeB x1 0 1 4 = true) (kb : placeB x2 0 0 4 = true) :
    Calls Try.prog 9 #[.agg #[.int .i64 x1, .int .i64 0, .int .i64 1], .agg #[.int .i64 x2, .int .i64 0, .int .i64 0]] w fun e w' => e = .returned (.bool true) ∧ Below w.heap.size w w' := by
  have KA : Hid (placeB x1 0 1 4 = true) := ka
  have KB : Hid (placeB x2 0 0 4 = true) := kb
  clear ka kb
  go_enter Try.func9, Try.ntmps9
  go_wp2_with fail
  refine (ext_any _ _ _ _ (by omega) (by omega)).mono ?_
  rintro e w1 ⟨rfl, hb1⟩
  rw [show extI 0 0 = -1 from by decide]
  have z1' : w.heap.size + 2 ≤ w1.heap.size := by have := hb1.size; simp at this; omega
  have g1 := B.row hb1 (B.row_old _ (B.row_new w _ _) (by simp)) (by simp; omega)
  have s1 := B.row hb1 (B.row_new (w.alloc (.cells #[.int .i64 x1, .int .i64 0, .int .i64 1] 28)) _ _) (by simp)
  rw [show (w.alloc (.cells #[.int .i64 x1, .int .i64 0, .int .i64 1] 28)).heap.size = w.heap.size + 1 from by simp] at s1
  have B1 : Hid (Below w.heap.size w w1) := B.next ((B.new1 _ _).trans ((B.new1 _ _).mono (by simp))) hb1 (by simp; omega)
  clear hb1
  go_wp2_with fail
  refine (checkPlace_any _ _ _ _ _).mono ?_
  rintro e w2 ⟨rfl, hb2⟩
  have z2' : w.heap.size + 2 ≤ w2.heap.size := by have := hb2.size; omega
  have g2 := B.row hb2 g1 (by omega)
  have s2 := B.row hb2 s1 (by omega)
  have B2 : Hid (Below w.heap.size w w2) := B.next B1.out hb2 (by omega)
  clear hb2 B1 g1 s1
  rw [KA.out, faultN_t, errV0]
  go_wp2_with fail
  refine (checkPlace_any _ _ _ _ _).mono ?_
  rintro e w3 ⟨rfl, hb3⟩
  have z3' : w.heap.size + 2 ≤ w3.heap.size := by have := hb3.size; omega
  have g3 := B.row hb3 g2 (by omega)
  have s3 := B.row hb3 s2 (by omega)
  have B3 : Hid (Below w.heap.size w w3) := B.next B2.out hb3 (by omega)
  clear hb3 B2 g2 s2
  rw [KB.out, faultN_t, errV0]
  go_wp2_with fail
  refine (ext_any _ _ _ _ (by omega) (by omega)).mono ?_
  rw [show extI 0 1 = -2 from by decide]
  rintro e w4 ⟨rfl, hb4⟩
  have z4' : w.heap.size + 2 ≤ w4.heap.size := by have := hb4.size; omega
  have g4 := B.row hb4 g3 (by omega)
  have s4 := B.row hb4 s3 (by omega)
  have B4 : Hid (Below w.heap.size w w4) := B.next B3.out hb4 (by omega)
  clear hb4 B3 g3 s3
  go_wp2_with fail
  refine (ext_any _ _ _ _ (by omega) (by omega)).mono ?_
  rw [show extI 0 0 = -1 from by decide]
  rintro e w5 ⟨rfl, hb5⟩
  have z5' : w.heap.size + 2 ≤ w5.heap.size := by have := hb5.size; omega
  have g5 := B.row hb5 g4 (by omega)
  have s5 := B.row hb5 s4 (by omega)
  have B5 : Hid (Below w.heap.size w w5) := B.next B4.out hb5 (by omega)
  clear hb5 B4 g4 s4
  go_wp2_with fail
  refine (front_any _ _ _ _).mono ?_
  rintro e w6 ⟨rfl, hb6⟩
  have z6' : w.heap.size + 2 ≤ w6.heap.size := by have := hb6.size; omega
  have g6 := B.row hb6 g5 (by omega)
  have s6 := B.row hb6 s5 (by omega)
  have B6 : Hid (Below w.heap.size w w6) := B.next B5.out hb6 (by omega)
  clear hb6 B5 g5 s5
  go_wp2_with fail
  refine (ext_any _ _ _ _ (by omega) (by omega)).mono ?_
  rw [show extI 0 0 = -1 from by decide]
  rintro e w7 ⟨rfl, hb7⟩
  have g7 := B.row hb7 g6 (by omega)
  have s7 := B.row hb7 s6 (by omega)
  have B7 : Hid (Below w.heap.size w w7) := B.next B6.out hb7 (by omega)
  clear hb7 B6 g6 s6
  go_wp2
  go_returns
  exact ⟨rfl, B7.out⟩

set_option maxHeartbeats 1000000 in
theorem topExt_0101 (x1 x2 : Int) (w : World) (ka : placeB x1 0 1 4 = true) (kb : placeB x2 0 1 4 = true) :
    Calls Try.prog 9 #[.agg #[.int .i64 x1, .int .i64 0, .int .i64 1], .agg #[.int .i64 x2, .int .i64 0, .int .i64 1]] w fun e w' => e = .returned (.bool true) ∧ Below w.heap.size w w' := by
  have KA : Hid (placeB x1 0 1 4 = true) := ka
  have KB : Hid (placeB x2 0 1 4 = true) := kb
  clear ka kb
  go_enter Try.func9, Try.ntmps9
  go_wp2_with fail
  refine (ext_any _ _ _ _ (by omega) (by omega)).mono ?_
  rintro e w1 ⟨rfl, hb1⟩
  rw [show extI 0 0 = -1 from by decide]
  have z1' : w.heap.size + 2 ≤ w1.heap.size := by have := hb1.size; simp at this; omega
  have g1 := B.row hb1 (B.row_old _ (B.row_new w _ _) (by simp)) (by simp; omega)
  have s1 := B.row hb1 (B.row_new (w.alloc (.cells #[.int .i64 x1, .int .i64 0, .int .i64 1] 28)) _ _) (by simp)
  rw [show (w.alloc (.cells #[.int .i64 x1, .int .i64 0, .int .i64 1] 28)).heap.size = w.heap.size + 1 from by simp] at s1
  have B1 : Hid (Below w.heap.size w w1) := B.next ((B.new1 _ _).trans ((B.new1 _ _).mono (by simp))) hb1 (by simp; omega)
  clear hb1
  go_wp2_with fail
  refine (checkPlace_any _ _ _ _ _).mono ?_
  rintro e w2 ⟨rfl, hb2⟩
  have z2' : w.heap.size + 2 ≤ w2.heap.size := by have := hb2.size; omega
  have g2 := B.row hb2 g1 (by omega)
  have s2 := B.row hb2 s1 (by omega)
  have B2 : Hid (Below w.heap.size w w2) := B.next B1.out hb2 (by omega)
  clear hb2 B1 g1 s1
  rw [KA.out, faultN_t, errV0]
  go_wp2_with fail
  refine (checkPlace_any _ _ _ _ _).mono ?_
  rintro e w3 ⟨rfl, hb3⟩
  have z3' : w.heap.size + 2 ≤ w3.heap.size := by have := hb3.size; omega
  have g3 := B.row hb3 g2 (by omega)
  have s3 := B.row hb3 s2 (by omega)
  have B3 : Hid (Below w.heap.size w w3) := B.next B2.out hb3 (by omega)
  clear hb3 B2 g2 s2
  rw [KB.out, faultN_t, errV0]
  go_wp2_with fail
  refine (ext_any _ _ _ _ (by omega) (by omega)).mono ?_
  rw [show extI 0 1 = -2 from by decide]
  rintro e w4 ⟨rfl, hb4⟩
  have z4' : w.heap.size + 2 ≤ w4.heap.size := by have := hb4.size; omega
  have g4 := B.row hb4 g3 (by omega)
  have s4 := B.row hb4 s3 (by omega)
  have B4 : Hid (Below w.heap.size w w4) := B.next B3.out hb4 (by omega)
  clear hb4 B3 g3 s3
  go_wp2_with fail
  refine (ext_any _ _ _ _ (by omega) (by omega)).mono ?_
  rw [show extI 0 1 = -2 from by decide]
  rintro e w5 ⟨rfl, hb5⟩
  have z5' : w.heap.size + 2 ≤ w5.heap.size := by have := hb5.size; omega
  have g5 := B.row hb5 g4 (by omega)
  have s5 := B.row hb5 s4 (by omega)
  have B5 : Hid (Below w.heap.size w w5) := B.next B4.out hb5 (by omega)
  clear hb5 B4 g4 s4
  go_wp2_with fail
  refine (front_any _ _ _ _).mono ?_
  rintro e w6 ⟨rfl, hb6⟩
  have z6' : w.heap.size + 2 ≤ w6.heap.size := by have := hb6.size; omega
  have g6 := B.row hb6 g5 (by omega)
  have s6 := B.row hb6 s5 (by omega)
  have B6 : Hid (Below w.heap.size w w6) := B.next B5.out hb6 (by omega)
  clear hb6 B5 g5 s5
  go_wp2_with fail
  refine (ext_any _ _ _ _ (by omega) (by omega)).mono ?_
  rw [show extI 0 0 = -1 from by decide]
  rintro e w7 ⟨rfl, hb7⟩
  have g7 := B.row hb7 g6 (by omega)
  have s7 := B.row hb7 s6 (by omega)
  have B7 : Hid (Below w.heap.size w w7) := B.next B6.out hb7 (by omega)
  clear hb7 B6 g6 s6
  go_wp2
  go_returns
  exact ⟨rfl, B7.out⟩

set_option maxHeartbeats 1000000 in
theorem topExt_0110 (x1 x2 : Int) (w : World) (ka : placeB x1 0 1 4 = true) (kb : placeB x2 1 0 4 = true) :
    Calls Try.prog 9 #[.agg #[.int .i64 x1, .int .i64 0, .int .i64 1], .agg #[.int .i64 x2, .int .i64 1, .int .i64 0]] w fun e w' => e = .returned (.bool true) ∧ Below w.heap.size w w' := by
  have KA : Hid (placeB x1 0 1 4 = true) := ka
  have KB : Hid (placeB x2 1 0 4 = true) := kb
  clear ka kb
  go_enter Try.func9, Try.ntmps9
  go_wp2_with fail
  refine (ext_any _ _ _ _ (by omega) (by omega)).mono ?_
  rintro e w1 ⟨rfl, hb1⟩
  rw [show extI 0 0 = -1 from by decide]
  have z1' : w.heap.size + 2 ≤ w1.heap.size := by have := hb1.size; simp at this; omega
  have g1 := B.row hb1 (B.row_old _ (B.row_new w _ _) (by simp)) (by simp; omega)
  have s1 := B.row hb1 (B.row_new (w.alloc (.cells #[.int .i64 x1, .int .i64 0, .int .i64 1] 28)) _ _) (by simp)
  rw [show (w.alloc (.cells #[.int .i64 x1, .int .i64 0, .int .i64 1] 28)).heap.size = w.heap.size + 1 from by simp] at s1
  have B1 : Hid (Below w.heap.size w w1) := B.next ((B.new1 _ _).trans ((B.new1 _ _).mono (by simp))) hb1 (by simp; omega)
  clear hb1
  go_wp2_with fail
  refine (checkPlace_any _ _ _ _ _).mono ?_
  rintro e w2 ⟨rfl, hb2⟩
  have z2' : w.heap.size + 2 ≤ w2.heap.size := by have := hb2.size; omega
  have g2 := B.row hb2 g1 (by omega)
  have s2 := B.row hb2 s1 (by omega)
  have B2 : Hid (Below w.heap.size w w2) := B.next B1.out hb2 (by omega)
  clear hb2 B1 g1 s1
  rw [KA.out, faultN_t, errV0]
  go_wp2_with fail
  refine (checkPlace_any _ _ _ _ _).mono ?_
  rintro e w3 ⟨rfl, hb3⟩
  have z3' : w.heap.size + 2 ≤ w3.heap.size := by have := hb3.size; omega
  have g3 := B.row hb3 g2 (by omega)
  have s3 := B.row hb3 s2 (by omega)
  have B3 : Hid (Below w.heap.size w w3) := B.next B2.out hb3 (by omega)
  clear hb3 B2 g2 s2
  rw [KB.out, faultN_t, errV0]
  go_wp2_with fail
  refine (ext_any _ _ _ _ (by omega) (by omega)).mono ?_
  rw [show extI 0 1 = -2 from by decide]
  rintro e w4 ⟨rfl, hb4⟩
  have z4' : w.heap.size + 2 ≤ w4.heap.size := by have := hb4.size; omega
  have g4 := B.row hb4 g3 (by omega)
  have s4 := B.row hb4 s3 (by omega)
  have B4 : Hid (Below w.heap.size w w4) := B.next B3.out hb4 (by omega)
  clear hb4 B3 g3 s3
  go_wp2_with fail
  refine (ext_any _ _ _ _ (by omega) (by omega)).mono ?_
  rw [show extI 1 0 = 1 from by decide]
  rintro e w5 ⟨rfl, hb5⟩
  have z5' : w.heap.size + 2 ≤ w5.heap.size := by have := hb5.size; omega
  have g5 := B.row hb5 g4 (by omega)
  have s5 := B.row hb5 s4 (by omega)
  have B5 : Hid (Below w.heap.size w w5) := B.next B4.out hb5 (by omega)
  clear hb5 B4 g4 s4
  go_wp2_with fail
  refine (front_any _ _ _ _).mono ?_
  rintro e w6 ⟨rfl, hb6⟩
  have z6' : w.heap.size + 2 ≤ w6.heap.size := by have := hb6.size; omega
  have g6 := B.row hb6 g5 (by omega)
  have s6 := B.row hb6 s5 (by omega)
  have B6 : Hid (Below w.heap.size w w6) := B.next B5.out hb6 (by omega)
  clear hb6 B5 g5 s5
  go_wp2_with fail
  refine (ext_any _ _ _ _ (by omega) (by omega)).mono ?_
  rw [show extI 0 0 = -1 from by decide]
  rintro e w7 ⟨rfl, hb7⟩
  have g7 := B.row hb7 g6 (by omega)
  have s7 := B.row hb7 s6 (by omega)
  have B7 : Hid (Below w.heap.size w w7) := B.next B6.out hb7 (by omega)
  clear hb7 B6 g6 s6
  go_wp2
  go_returns
  exact ⟨rfl, B7.out⟩

set_option maxHeartbeats 1000000 in
theorem topExt_0111 (x1 x2 : Int) (w : World) (ka : placeB x1 0 1 4 = true) (kb : placeB x2 1 1 4 = true) :
    Calls Try.prog 9 #[.agg #[.int .i64 x1, .int .i64 0, .int .i64 1], .agg #[.int .i64 x2, .int .i64 1, .int .i64 1]] w fun e w' => e = .returned (.bool true) ∧ Below w.heap.size w w' := by
  have KA : Hid (placeB x1 0 1 4 = true) := ka
  have KB : Hid (placeB x2 1 1 4 = true) := kb
  clear ka kb
  go_enter Try.func9, Try.ntmps9
  go_wp2_with fail
  refine (ext_any _ _ _ _ (by omega) (by omega)).mono ?_
  rintro e w1 ⟨rfl, hb1⟩
  rw [show extI 0 0 = -1 from by decide]
  have z1' : w.heap.size + 2 ≤ w1.heap.size := by have := hb1.size; simp at this; omega
  have g1 := B.row hb1 (B.row_old _ (B.row_new w _ _) (by simp)) (by simp; omega)
  have s1 := B.row hb1 (B.row_new (w.alloc (.cells #[.int .i64 x1, .int .i64 0, .int .i64 1] 28)) _ _) (by simp)
  rw [show (w.alloc (.cells #[.int .i64 x1, .int .i64 0, .int .i64 1] 28)).heap.size = w.heap.size + 1 from by simp] at s1
  have B1 : Hid (Below w.heap.size w w1) := B.next ((B.new1 _ _).trans ((B.new1 _ _).mono (by simp))) hb1 (by simp; omega)
  clear hb1
  go_wp2_with fail
  refine (checkPlace_any _ _ _ _ _).mono ?_
  rintro e w2 ⟨rfl, hb2⟩
  have z2' : w.heap.size + 2 ≤ w2.heap.size := by have := hb2.size; omega
  have g2 := B.row hb2 g1 (by omega)
  have s2 := B.row hb2 s1 (by omega)
  have B2 : Hid (Below w.heap.size w w2) := B.next B1.out hb2 (by omega)
  clear hb2 B1 g1 s1
  rw [KA.out, faultN_t, errV0]
  go_wp2_with fail
  refine (checkPlace_any _ _ _ _ _).mono ?_
  rintro e w3 ⟨rfl, hb3⟩
  have z3' : w.heap.size + 2 ≤ w3.heap.size := by have := hb3.size; omega
  have g3 := B.row hb3 g2 (by omega)
  have s3 := B.row hb3 s2 (by omega)
  have B3 : Hid (Below w.heap.size w w3) := B.next B2.out hb3 (by omega)
  clear hb3 B2 g2 s2
  rw [KB.out, faultN_t, errV0]
  go_wp2_with fail
  refine (ext_any _ _ _ _ (by omega) (by omega)).mono ?_
  rw [show extI 0 1 = -2 from by decide]
  rintro e w4 ⟨rfl, hb4⟩
  have z4' : w.heap.size + 2 ≤ w4.heap.size := by have := hb4.size; omega
  have g4 := B.row hb4 g3 (by omega)
  have s4 := B.row hb4 s3 (by omega)
  have B4 : Hid (Below w.heap.size w w4) := B.next B3.out hb4 (by omega)
  clear hb4 B3 g3 s3
  go_wp2_with fail
  refine (ext_any _ _ _ _ (by omega) (by omega)).mono ?_
  rw [show extI 1 1 = 2 from by decide]
  rintro e w5 ⟨rfl, hb5⟩
  have z5' : w.heap.size + 2 ≤ w5.heap.size := by have := hb5.size; omega
  have g5 := B.row hb5 g4 (by omega)
  have s5 := B.row hb5 s4 (by omega)
  have B5 : Hid (Below w.heap.size w w5) := B.next B4.out hb5 (by omega)
  clear hb5 B4 g4 s4
  go_wp2_with fail
  refine (front_any _ _ _ _).mono ?_
  rintro e w6 ⟨rfl, hb6⟩
  have z6' : w.heap.size + 2 ≤ w6.heap.size := by have := hb6.size; omega
  have g6 := B.row hb6 g5 (by omega)
  have s6 := B.row hb6 s5 (by omega)
  have B6 : Hid (Below w.heap.size w w6) := B.next B5.out hb6 (by omega)
  clear hb6 B5 g5 s5
  go_wp2_with fail
  refine (ext_any _ _ _ _ (by omega) (by omega)).mono ?_
  rw [show extI 0 0 = -1 from by decide]
  rintro e w7 ⟨rfl, hb7⟩
  have g7 := B.row hb7 g6 (by omega)
  have s7 := B.row hb7 s6 (by omega)
  have B7 : Hid (Below w.heap.size w w7) := B.next B6.out hb7 (by omega)
  clear hb7 B6 g6 s6
  go_wp2
  go_returns
  exact ⟨rfl, B7.out⟩

set_option maxHeartbeats 1000000 in
theorem topExt_1000 (x1 x2 : Int) (w : World) (ka : placeB x1 1 0 4 = true) (kb : placeB x2 0 0 4 = true) :
    Calls Try.prog 9 #[.agg #[.int .i64 x1, .int .i64 1, .int .i64 0], .agg #[.int .i64 x2, .int .i64 0, .int .i64 0]] w fun e w' => e = .returned (.bool true) ∧ Below w.heap.size w w' := by
  have KA : Hid (placeB x1 1 0 4 = true) := ka
  have KB : Hid (placeB x2 0 0 4 = true) := kb
  clear ka kb
  go_enter Try.func9, Try.ntmps9
  go_wp2_with fail
  refine (ext_any _ _ _ _ (by omega) (by omega)).mono ?_
  rintro e w1 ⟨rfl, hb1⟩
  rw [show extI 0 0 = -1 from by decide]
  have z1' : w.heap.size + 2 ≤ w1.heap.size := by have := hb1.size; simp at this; omega
  have g1 := B.row hb1 (B.row_old _ (B.row_new w _ _) (by simp)) (by simp; omega)
  have s1 := B.row hb1 (B.row_new (w.alloc (.cells #[.int .i64 x1, .int .i64 1, .int .i64 0] 28)) _ _) (by simp)
  rw [show (w.alloc (.cells #[.int .i64 x1, .int .i64 1, .int .i64 0] 28)).heap.size = w.heap.size + 1 from by simp] at s1
  have B1 : Hid (Below w.heap.size w w1) := B.next ((B.new1 _ _).trans ((B.new1 _ _).mono (by simp))) hb1 (by simp; omega)
  clear hb1
  go_wp2_with fail
  refine (checkPlace_any _ _ _ _ _).mono ?_
  rintro e w2 ⟨rfl, hb2⟩
  have z2' : w.heap.size + 2 ≤ w2.heap.size := by have := hb2.size; omega
  have g2 := B.row hb2 g1 (by omega)
  have s2 := B.row hb2 s1 (by omega)
  have B2 : Hid (Below w.heap.size w w2) := B.next B1.out hb2 (by omega)
  clear hb2 B1 g1 s1
  rw [KA.out, faultN_t, errV0]
  go_wp2_with fail
  refine (checkPlace_any _ _ _ _ _).mono ?_
  rintro e w3 ⟨rfl, hb3⟩
  have z3' : w.heap.size + 2 ≤ w3.heap.size := by have := hb3.size; omega
  have g3 := B.row hb3 g2 (by omega)
  have s3 := B.row hb3 s2 (by omega)
  have B3 : Hid (Below w.heap.size w w3) := B.next B2.out hb3 (by omega)
  clear hb3 B2 g2 s2
  rw [KB.out, faultN_t, errV0]
  go_wp2_with fail
  refine (ext_any _ _ _ _ (by omega) (by omega)).mono ?_
  rw [show extI 1 0 = 1 from by decide]
  rintro e w4 ⟨rfl, hb4⟩
  have z4' : w.heap.size + 2 ≤ w4.heap.size := by have := hb4.size; omega
  have g4 := B.row hb4 g3 (by omega)
  have s4 := B.row hb4 s3 (by omega)
  have B4 : Hid (Below w.heap.size w w4) := B.next B3.out hb4 (by omega)
  clear hb4 B3 g3 s3
  go_wp2_with fail
  refine (ext_any _ _ _ _ (by omega) (by omega)).mono ?_
  rw [show extI 0 0 = -1 from by decide]
  rintro e w5 ⟨rfl, hb5⟩
  have z5' : w.heap.size + 2 ≤ w5.heap.size := by have := hb5.size; omega
  have g5 := B.row hb5 g4 (by omega)
  have s5 := B.row hb5 s4 (by omega)
  have B5 : Hid (Below w.heap.size w w5) := B.next B4.out hb5 (by omega)
  clear hb5 B4 g4 s4
  go_wp2_with fail
  refine (front_any _ _ _ _).mono ?_
  rintro e w6 ⟨rfl, hb6⟩
  have z6' : w.heap.size + 2 ≤ w6.heap.size := by have := hb6.size; omega
  have g6 := B.row hb6 g5 (by omega)
  have s6 := B.row hb6 s5 (by omega)
  have B6 : Hid (Below w.heap.size w w6) := B.next B5.out hb6 (by omega)
  clear hb6 B5 g5 s5
  go_wp2_with fail
  refine (ext_any _ _ _ _ (by omega) (by omega)).mono ?_
  rw [show extI 1 0 = 1 from by decide]
  rintro e w7 ⟨rfl, hb7⟩
  have g7 := B.row hb7 g6 (by omega)
  have s7 := B.row hb7 s6 (by omega)
  have B7 : Hid (Below w.heap.size w w7) := B.next B6.out hb7 (by omega)
  clear hb7 B6 g6 s6
  go_wp2
  go_returns
  exact ⟨rfl, B7.out⟩

set_option maxHeartbeats 1000000 in
theorem topExt_1001 (x1 x2 : Int) (w : World) (ka : placeB x1 1 0 4 = true) (kb : placeB x2 0 1 4 = true) :
    Calls Try.prog 9 #[.agg #[.int .i64 x1, .int .i64 1, .int .i64 0], .agg #[.int .i64 x2, .int .i64 0, .int .i64 1]] w fun e w' => e = .returned (.bool true) ∧ Below w.heap.size w w' := by
  have KA : Hid (placeB x1 1 0 4 = true) := ka
  have KB : Hid (placeB x2 0 1 4 = true) := kb
  clear ka kb
  go_enter Try.func9, Try.ntmps9
  go_wp2_with fail
  refine (ext_any _ _ _ _ (by omega) (by omega)).mono ?_
  rintro e w1 ⟨rfl, hb1⟩
  rw [show extI 0 0 = -1 from by decide]
  have z1' : w.heap.size + 2 ≤ w1.heap.size := by have := hb1.size; simp at this; omega
  have g1 := B.row hb1 (B.row_old _ (B.row_new w _ _) (by simp)) (by simp; omega)
  have s1 := B.row hb1 (B.row_new (w.alloc (.cells #[.int .i64 x1, .int .i64 1, .int .i64 0] 28)) _ _) (by simp)
  rw [show (w.alloc (.cells #[.int .i64 x1, .int .i64 1, .int .i64 0] 28)).heap.size = w.heap.size + 1 from by simp] at s1
  have B1 : Hid (Below w.heap.size w w1) := B.next ((B.new1 _ _).trans ((B.new1 _ _).mono (by simp))) hb1 (by simp; omega)
  clear hb1
  go_wp2_with fail
  refine (checkPlace_any _ _ _ _ _).mono ?_
  rintro e w2 ⟨rfl, hb2⟩
  have z2' : w.heap.size + 2 ≤ w2.heap.size := by have := hb2.size; omega
  have g2 := B.row hb2 g1 (by omega)
  have s2 := B.row hb2 s1 (by omega)
  have B2 : Hid (Below w.heap.size w w2) := B.next B1.out hb2 (by omega)
  clear hb2 B1 g1 s1
  rw [KA.out, faultN_t, errV0]
  go_wp2_with fail
  refine (checkPlace_any _ _ _ _ _).mono ?_
  rintro e w3 ⟨rfl, hb3⟩
  have z3' : w.heap.size + 2 ≤ w3.heap.size := by have := hb3.size; omega
  have g3 := B.row hb3 g2 (by omega)
  have s3 := B.row hb3 s2 (by omega)
  have B3 : Hid (Below w.heap.size w w3) := B.next B2.out hb3 (by omega)
  clear hb3 B2 g2 s2
  rw [KB.out, faultN_t, errV0]
  go_wp2_with fail
  refine (ext_any _ _ _ _ (by omega) (by omega)).mono ?_
  rw [show extI 1 0 = 1 from by decide]
  rintro e w4 ⟨rfl, hb4⟩
  have z4' : w.heap.size + 2 ≤ w4.heap.size := by have := hb4.size; omega
  have g4 := B.row hb4 g3 (by omega)
  have s4 := B.row hb4 s3 (by omega)
  have B4 : Hid (Below w.heap.size w w4) := B.next B3.out hb4 (by omega)
  clear hb4 B3 g3 s3
  go_wp2_with fail
  refine (ext_any _ _ _ _ (by omega) (by omega)).mono ?_
  rw [show extI 0 1 = -2 from by decide]
  rintro e w5 ⟨rfl, hb5⟩
  have z5' : w.heap.size + 2 ≤ w5.heap.size := by have := hb5.size; omega
  have g5 := B.row hb5 g4 (by omega)
  have s5 := B.row hb5 s4 (by omega)
  have B5 : Hid (Below w.heap.size w w5) := B.next B4.out hb5 (by omega)
  clear hb5 B4 g4 s4
  go_wp2_with fail
  refine (front_any _ _ _ _).mono ?_
  rintro e w6 ⟨rfl, hb6⟩
  have z6' : w.heap.size + 2 ≤ w6.heap.size := by have := hb6.size; omega
  have g6 := B.row hb6 g5 (by omega)
  have s6 := B.row hb6 s5 (by omega)
  have B6 : Hid (Below w.heap.size w w6) := B.next B5.out hb6 (by omega)
  clear hb6 B5 g5 s5
  go_wp2_with fail
  refine (ext_any _ _ _ _ (by omega) (by omega)).mono ?_
  rw [show extI 1 0 = 1 from by decide]
  rintro e w7 ⟨rfl, hb7⟩
  have g7 := B.row hb7 g6 (by omega)
  have s7 := B.row hb7 s6 (by omega)
  have B7 : Hid (Below w.heap.size w w7) := B.next B6.out hb7 (by omega)
  clear hb7 B6 g6 s6
  go_wp2
  go_returns
  exact ⟨rfl, B7.out⟩

set_option maxHeartbeats 1000000 in
theorem topExt_1010 (x1 x2 : Int) (w : World) (ka : placeB x1 1 0 4 = true) (kb : placeB x2 1 0 4 = true) :
    Calls Try.prog 9 #[.agg #[.int .i64 x1, .int .i64 1, .int .i64 0], .agg #[.int .i64 x2, .int .i64 1, .int .i64 0]] w fun e w' => e = .returned (.bool true) ∧ Below w.heap.size w w' := by
  have KA : Hid (placeB x1 1 0 4 = true) := ka
  have KB : Hid (placeB x2 1 0 4 = true) := kb
  clear ka kb
  go_enter Try.func9, Try.ntmps9
  go_wp2_with fail
  refine (ext_any _ _ _ _ (by omega) (by omega)).mono ?_
  rintro e w1 ⟨rfl, hb1⟩
  rw [show extI 0 0 = -1 from by decide]
  have z1' : w.heap.size + 2 ≤ w1.heap.size := by have := hb1.size; simp at this; omega
  have g1 := B.row hb1 (B.row_old _ (B.row_new w _ _) (by simp)) (by simp; omega)
  have s1 := B.row hb1 (B.row_new (w.alloc (.cells #[.int .i64 x1, .int .i64 1, .int .i64 0] 28)) _ _) (by simp)
  rw [show (w.alloc (.cells #[.int .i64 x1, .int .i64 1, .int .i64 0] 28)).heap.size = w.heap.size + 1 from by simp] at s1
  have B1 : Hid (Below w.heap.size w w1) := B.next ((B.new1 _ _).trans ((B.new1 _ _).mono (by simp))) hb1 (by simp; omega)
  clear hb1
  go_wp2_with fail
  refine (checkPlace_any _ _ _ _ _).mono ?_
  rintro e w2 ⟨rfl, hb2⟩
  have z2' : w.heap.size + 2 ≤ w2.heap.size := by have := hb2.size; omega
  have g2 := B.row hb2 g1 (by omega)
  have s2 := B.row hb2 s1 (by omega)
  have B2 : Hid (Below w.heap.size w w2) := B.next B1.out hb2 (by omega)
  clear hb2 B1 g1 s1
  rw [KA.out, faultN_t, errV0]
  go_wp2_with fail
  refine (checkPlace_any _ _ _ _ _).mono ?_
  rintro e w3 ⟨rfl, hb3⟩
  have z3' : w.heap.size + 2 ≤ w3.heap.size := by have := hb3.size; omega
  have g3 := B.row hb3 g2 (by omega)
  have s3 := B.row hb3 s2 (by omega)
  have B3 : Hid (Below w.heap.size w w3) := B.next B2.out hb3 (by omega)
  clear hb3 B2 g2 s2
  rw [KB.out, faultN_t, errV0]
  go_wp2_with fail
  refine (ext_any _ _ _ _ (by omega) (by omega)).mono ?_
  rw [show extI 1 0 = 1 from by decide]
  rintro e w4 ⟨rfl, hb4⟩
  have z4' : w.heap.size + 2 ≤ w4.heap.size := by have := hb4.size; omega
  have g4 := B.row hb4 g3 (by omega)
  have s4 := B.row hb4 s3 (by omega)
  have B4 : Hid (Below w.heap.size w w4) := B.next B3.out hb4 (by omega)
  clear hb4 B3 g3 s3
  go_wp2_with fail
  refine (ext_any _ _ _ _ (by omega) (by omega)).mono ?_
  rw [show extI 1 0 = 1 from by decide]
  rintro e w5 ⟨rfl, hb5⟩
  have z5' : w.heap.size + 2 ≤ w5.heap.size := by have := hb5.size; omega
  have g5 := B.row hb5 g4 (by omega)
  have s5 := B.row hb5 s4 (by omega)
  have B5 : Hid (Below w.heap.size w w5) := B.next B4.out hb5 (by omega)
  clear hb5 B4 g4 s4
  go_wp2_with fail
  refine (front_any _ _ _ _).mono ?_
  rintro e w6 ⟨rfl, hb6⟩
  have z6' : w.heap.size + 2 ≤ w6.heap.size := by have := hb6.size; omega
  have g6 := B.row hb6 g5 (by omega)
  have s6 := B.row hb6 s5 (by omega)
  have B6 : Hid (Below w.heap.size w w6) := B.next B5.out hb6 (by omega)
  clear hb6 B5 g5 s5
  go_wp2_with fail
  refine (ext_any _ _ _ _ (by omega) (by omega)).mono ?_
  rw [show extI 1 0 = 1 from by decide]
  rintro e w7 ⟨rfl, hb7⟩
  have g7 := B.row hb7 g6 (by omega)
  have s7 := B.row hb7 s6 (by omega)
  have B7 : Hid (Below w.heap.size w w7) := B.next B6.out hb7 (by omega)
  clear hb7 B6 g6 s6
  go_wp2
  go_returns
  exact ⟨rfl, B7.out⟩

set_option maxHeartbeats 1000000 in
theorem topExt_1011 (x1 x2 : Int) (w : World) (ka : placeB x1 1 0 4 = true) (kb : placeB x2 1 1 4 = true) :
    Calls Try.prog 9 #[.agg #[.int .i64 x1, .int .i64 1, .int .i64 0], .agg #[.int .i64 x2, .int .i64 1, .int .i64 1]] w fun e w' => e = .returned (.bool true) ∧ Below w.heap.size w w' := by
  have KA : Hid (placeB x1 1 0 4 = true) := ka
  have KB : Hid (placeB x2 1 1 4 = true) := kb
  clear ka kb
  go_enter Try.func9, Try.ntmps9
  go_wp2_with fail
  refine (ext_any _ _ _ _ (by omega) (by omega)).mono ?_
  rintro e w1 ⟨rfl, hb1⟩
  rw [show extI 0 0 = -1 from by decide]
  have z1' : w.heap.size + 2 ≤ w1.heap.size := by have := hb1.size; simp at this; omega
  have g1 := B.row hb1 (B.row_old _ (B.row_new w _ _) (by simp)) (by simp; omega)
  have s1 := B.row hb1 (B.row_new (w.alloc (.cells #[.int .i64 x1, .int .i64 1, .int .i64 0] 28)) _ _) (by simp)
  rw [show (w.alloc (.cells #[.int .i64 x1, .int .i64 1, .int .i64 0] 28)).heap.size = w.heap.size + 1 from by simp] at s1
  have B1 : Hid (Below w.heap.size w w1) := B.next ((B.new1 _ _).trans ((B.new1 _ _).mono (by simp))) hb1 (by simp; omega)
  clear hb1
  go_wp2_with fail
  refine (checkPlace_any _ _ _ _ _).mono ?_
  rintro e w2 ⟨rfl, hb2⟩
  have z2' : w.heap.size + 2 ≤ w2.heap.size := by have := hb2.size; omega
  have g2 := B.row hb2 g1 (by omega)
  have s2 := B.row hb2 s1 (by omega)
  have B2 : Hid (Below w.heap.size w w2) := B.next B1.out hb2 (by omega)
  clear hb2 B1 g1 s1
  rw [KA.out, faultN_t, errV0]
  go_wp2_with fail
  refine (checkPlace_any _ _ _ _ _).mono ?_
  rintro e w3 ⟨rfl, hb3⟩
  have z3' : w.heap.size + 2 ≤ w3.heap.size := by have := hb3.size; omega
  have g3 := B.row hb3 g2 (by omega)
  have s3 := B.row hb3 s2 (by omega)
  have B3 : Hid (Below w.heap.size w w3) := B.next B2.out hb3 (by omega)
  clear hb3 B2 g2 s2
  rw [KB.out, faultN_t, errV0]
  go_wp2_with fail
  refine (ext_any _ _ _ _ (by omega) (by omega)).mono ?_
  rw [show extI 1 0 = 1 from by decide]
  rintro e w4 ⟨rfl, hb4⟩
  have z4' : w.heap.size + 2 ≤ w4.heap.size := by have := hb4.size; omega
  have g4 := B.row hb4 g3 (by omega)
  have s4 := B.row hb4 s3 (by omega)
  have B4 : Hid (Below w.heap.size w w4) := B.next B3.out hb4 (by omega)
  clear hb4 B3 g3 s3
  go_wp2_with fail
  refine (ext_any _ _ _ _ (by omega) (by omega)).mono ?_
  rw [show extI 1 1 = 2 from by decide]
  rintro e w5 ⟨rfl, hb5⟩
  have z5' : w.heap.size + 2 ≤ w5.heap.size := by have := hb5.size; omega
  have g5 := B.row hb5 g4 (by omega)
  have s5 := B.row hb5 s4 (by omega)
  have B5 : Hid (Below w.heap.size w w5) := B.next B4.out hb5 (by omega)
  clear hb5 B4 g4 s4
  go_wp2_with fail
  refine (front_any _ _ _ _).mono ?_
  rintro e w6 ⟨rfl, hb6⟩
  have z6' : w.heap.size + 2 ≤ w6.heap.size := by have := hb6.size; omega
  have g6 := B.row hb6 g5 (by omega)
  have s6 := B.row hb6 s5 (by omega)
  have B6 : Hid (Below w.heap.size w w6) := B.next B5.out hb6 (by omega)
  clear hb6 B5 g5 s5
  go_wp2_with fail
  refine (ext_any _ _ _ _ (by omega) (by omega)).mono ?_
  rw [show extI 1 0 = 1 from by decide]
  rintro e w7 ⟨rfl, hb7⟩
  have g7 := B.row hb7 g6 (by omega)
  have s7 := B.row hb7 s6 (by omega)
  have B7 : Hid (Below w.heap.size w w7) := B.next B6.out hb7 (by omega)
  clear hb7 B6 g6 s6
  go_wp2
  go_returns
  exact ⟨rfl, B7.out⟩

set_option maxHeartbeats 1000000 in
theorem topExt_1100 (x1 x2 : Int) (w : World) (ka : placeB x1 1 1 4 = true) (kb : placeB x2 0 0 4 = true) :
    Calls Try.prog 9 #[.agg #[.int .i64 x1, .int .i64 1, .int .i64 1], .agg #[.int .i64 x2, .int .i64 0, .int .i64 0]] w fun e w' => e = .returned (.bool true) ∧ Below w.heap.size w w' := by
  have KA : Hid (placeB x1 1 1 4 = true) := ka
  have KB : Hid (placeB x2 0 0 4 = true) := kb
  clear ka kb
  go_enter Try.func9, Try.ntmps9
  go_wp2_with fail
  refine (ext_any _ _ _ _ (by omega) (by omega)).mono ?_
  rintro e w1 ⟨rfl, hb1⟩
  rw [show extI 0 0 = -1 from by decide]
  have z1' : w.heap.size + 2 ≤ w1.heap.size := by have := hb1.size; simp at this; omega
  have g1 := B.row hb1 (B.row_old _ (B.row_new w _ _) (by simp)) (by simp; omega)
  have s1 := B.row hb1 (B.row_new (w.alloc (.cells #[.int .i64 x1, .int .i64 1, .int .i64 1] 28)) _ _) (by simp)
  rw [show (w.alloc (.cells #[.int .i64 x1, .int .i64 1, .int .i64 1] 28)).heap.size = w.heap.size + 1 from by simp] at s1
  have B1 : Hid (Below w.heap.size w w1) := B.next ((B.new1 _ _).trans ((B.new1 _ _).mono (by simp))) hb1 (by simp; omega)
  clear hb1
  go_wp2_with fail
  refine (checkPlace_any _ _ _ _ _).mono ?_
  rintro e w2 ⟨rfl, hb2⟩
  have z2' : w.heap.size + 2 ≤ w2.heap.size := by have := hb2.size; omega
  have g2 := B.row hb2 g1 (by omega)
  have s2 := B.row hb2 s1 (by omega)
  have B2 : Hid (Below w.heap.size w w2) := B.next B1.out hb2 (by omega)
  clear hb2 B1 g1 s1
  rw [KA.out, faultN_t, errV0]
  go_wp2_with fail
  refine (checkPlace_any _ _ _ _ _).mono ?_
  rintro e w3 ⟨rfl, hb3⟩
  have z3' : w.heap.size + 2 ≤ w3.heap.size := by have := hb3.size; omega
  have g3 := B.row hb3 g2 (by omega)
  have s3 := B.row hb3 s2 (by omega)
  have B3 : Hid (Below w.heap.size w w3) := B.next B2.out hb3 (by omega)
  clear hb3 B2 g2 s2
  rw [KB.out, faultN_t, errV0]
  go_wp2_with fail
  refine (ext_any _ _ _ _ (by omega) (by omega)).mono ?_
  rw [show extI 1 1 = 2 from by decide]
  rintro e w4 ⟨rfl, hb4⟩
  have z4' : w.heap.size + 2 ≤ w4.heap.size := by have := hb4.size; omega
  have g4 := B.row hb4 g3 (by omega)
  have s4 := B.row hb4 s3 (by omega)
  have B4 : Hid (Below w.heap.size w w4) := B.next B3.out hb4 (by omega)
  clear hb4 B3 g3 s3
  go_wp2_with fail
  refine (ext_any _ _ _ _ (by omega) (by omega)).mono ?_
  rw [show extI 0 0 = -1 from by decide]
  rintro e w5 ⟨rfl, hb5⟩
  have z5' : w.heap.size + 2 ≤ w5.heap.size := by have := hb5.size; omega
  have g5 := B.row hb5 g4 (by omega)
  have s5 := B.row hb5 s4 (by omega)
  have B5 : Hid (Below w.heap.size w w5) := B.next B4.out hb5 (by omega)
  clear hb5 B4 g4 s4
  go_wp2_with fail
  refine (front_any _ _ _ _).mono ?_
  rintro e w6 ⟨rfl, hb6⟩
  have z6' : w.heap.size + 2 ≤ w6.heap.size := by have := hb6.size; omega
  have g6 := B.row hb6 g5 (by omega)
  have s6 := B.row hb6 s5 (by omega)
  have B6 : Hid (Below w.heap.size w w6) := B.next B5.out hb6 (by omega)
  clear hb6 B5 g5 s5
  go_wp2_with fail
  refine (ext_any _ _ _ _ (by omega) (by omega)).mono ?_
  rw [show extI 1 0 = 1 from by decide]
  rintro e w7 ⟨rfl, hb7⟩
  have g7 := B.row hb7 g6 (by omega)
  have s7 := B.row hb7 s6 (by omega)
  have B7 : Hid (Below w.heap.size w w7) := B.next B6.out hb7 (by omega)
  clear hb7 B6 g6 s6
  go_wp2
  go_returns
  exact ⟨rfl, B7.out⟩

set_option maxHeartbeats 1000000 in
theorem topExt_1101 (x1 x2 : Int) (w : World) (ka : placeB x1 1 1 4 = true) (kb : placeB x2 0 1 4 = true) :
    Calls Try.prog 9 #[.agg #[.int .i64 x1, .int .i64 1, .int .i64 1], .agg #[.int .i64 x2, .int .i64 0, .int .i64 1]] w fun e w' => e = .returned (.bool true) ∧ Below w.heap.size w w' := by
  have KA : Hid (placeB x1 1 1 4 = true) := ka
  have KB : Hid (placeB x2 0 1 4 = true) := kb
  clear ka kb
  go_enter Try.func9, Try.ntmps9
  go_wp2_with fail
  refine (ext_any _ _ _ _ (by omega) (by omega)).mono ?_
  rintro e w1 ⟨rfl, hb1⟩
  rw [show extI 0 0 = -1 from by decide]
  have z1' : w.heap.size + 2 ≤ w1.heap.size := by have := hb1.size; simp at this; omega
  have g1 := B.row hb1 (B.row_old _ (B.row_new w _ _) (by simp)) (by simp; omega)
  have s1 := B.row hb1 (B.row_new (w.alloc (.cells #[.int .i64 x1, .int .i64 1, .int .i64 1] 28)) _ _) (by simp)
  rw [show (w.alloc (.cells #[.int .i64 x1, .int .i64 1, .int .i64 1] 28)).heap.size = w.heap.size + 1 from by simp] at s1
  have B1 : Hid (Below w.heap.size w w1) := B.next ((B.new1 _ _).trans ((B.new1 _ _).mono (by simp))) hb1 (by simp; omega)
  clear hb1
  go_wp2_with fail
  refine (checkPlace_any _ _ _ _ _).mono ?_
  rintro e w2 ⟨rfl, hb2⟩
  have z2' : w.heap.size + 2 ≤ w2.heap.size := by have := hb2.size; omega
  have g2 := B.row hb2 g1 (by omega)
  have s2 := B.row hb2 s1 (by omega)
  have B2 : Hid (Below w.heap.size w w2) := B.next B1.out hb2 (by omega)
  clear hb2 B1 g1 s1
  rw [KA.out, faultN_t, errV0]
  go_wp2_with fail
  refine (checkPlace_any _ _ _ _ _).mono ?_
  rintro e w3 ⟨rfl, hb3⟩
  have z3' : w.heap.size + 2 ≤ w3.heap.size := by have := hb3.size; omega
  have g3 := B.row hb3 g2 (by omega)
  have s3 := B.row hb3 s2 (by omega)
  have B3 : Hid (Below w.heap.size w w3) := B.next B2.out hb3 (by omega)
  clear hb3 B2 g2 s2
  rw [KB.out, faultN_t, errV0]
  go_wp2_with fail
  refine (ext_any _ _ _ _ (by omega) (by omega)).mono ?_
  rw [show extI 1 1 = 2 from by decide]
  rintro e w4 ⟨rfl, hb4⟩
  have z4' : w.heap.size + 2 ≤ w4.heap.size := by have := hb4.size; omega
  have g4 := B.row hb4 g3 (by omega)
  have s4 := B.row hb4 s3 (by omega)
  have B4 : Hid (Below w.heap.size w w4) := B.next B3.out hb4 (by omega)
  clear hb4 B3 g3 s3
  go_wp2_with fail
  refine (ext_any _ _ _ _ (by omega) (by omega)).mono ?_
  rw [show extI 0 1 = -2 from by decide]
  rintro e w5 ⟨rfl, hb5⟩
  have z5' : w.heap.size + 2 ≤ w5.heap.size := by have := hb5.size; omega
  have g5 := B.row hb5 g4 (by omega)
  have s5 := B.row hb5 s4 (by omega)
  have B5 : Hid (Below w.heap.size w w5) := B.next B4.out hb5 (by omega)
  clear hb5 B4 g4 s4
  go_wp2_with fail
  refine (front_any _ _ _ _).mono ?_
  rintro e w6 ⟨rfl, hb6⟩
  have z6' : w.heap.size + 2 ≤ w6.heap.size := by have := hb6.size; omega
  have g6 := B.row hb6 g5 (by omega)
  have s6 := B.row hb6 s5 (by omega)
  have B6 : Hid (Below w.heap.size w w6) := B.next B5.out hb6 (by omega)
  clear hb6 B5 g5 s5
  go_wp2_with fail
  refine (ext_any _ _ _ _ (by omega) (by omega)).mono ?_
  rw [show extI 1 0 = 1 from by decide]
  rintro e w7 ⟨rfl, hb7⟩
  have g7 := B.row hb7 g6 (by omega)
  have s7 := B.row hb7 s6 (by omega)
  have B7 : Hid (Below w.heap.size w w7) := B.next B6.out hb7 (by omega)
  clear hb7 B6 g6 s6
  go_wp2
  go_returns
  exact ⟨rfl, B7.out⟩

set_option maxHeartbeats 1000000 in
theorem topExt_1110 (x1 x2 : Int) (w : World) (ka : placeB x1 1 1 4 = true) (kb : placeB x2 1 0 4 = true) :
    Calls Try.prog 9 #[.agg #[.int .i64 x1, .int .i64 1, .int .i64 1], .agg #[.int .i64 x2, .int .i64 1, .int .i64 0]] w fun e w' => e = .returned (.bool true) ∧ Below w.heap.size w w' := by
  have KA : Hid (placeB x1 1 1 4 = true) := ka
  have KB : Hid (placeB x2 1 0 4 = true) := kb
  clear ka kb
  go_enter Try.func9, Try.ntmps9
  go_wp2_with fail
  refine (ext_any _ _ _ _ (by omega) (by omega)).mono ?_
  rintro e w1 ⟨rfl, hb1⟩
  rw [show extI 0 0 = -1 from by decide]
  have z1' : w.heap.size + 2 ≤ w1.heap.size := by have := hb1.size; simp at this; omega
  have g1 := B.row hb1 (B.row_old _ (B.row_new w _ _) (by simp)) (by simp; omega)
  have s1 := B.row hb1 (B.row_new (w.alloc (.cells #[.int .i64 x1, .int .i64 1, .int .i64 1] 28)) _ _) (by simp)
  rw [show (w.alloc (.cells #[.int .i64 x1, .int .i64 1, .int .i64 1] 28)).heap.size = w.heap.size + 1 from by simp] at s1
  have B1 : Hid (Below w.heap.size w w1) := B.next ((B.new1 _ _).trans ((B.new1 _ _).mono (by simp))) hb1 (by simp; omega)
  clear hb1
  go_wp2_with fail
  refine (checkPlace_any _ _ _ _ _).mono ?_
  rintro e w2 ⟨rfl, hb2⟩
  have z2' : w.heap.size + 2 ≤ w2.heap.size := by have := hb2.size; omega
  have g2 := B.row hb2 g1 (by omega)
  have s2 := B.row hb2 s1 (by omega)
  have B2 : Hid (Below w.heap.size w w2) := B.next B1.out hb2 (by omega)
  clear hb2 B1 g1 s1
  rw [KA.out, faultN_t, errV0]
  go_wp2_with fail
  refine (checkPlace_any _ _ _ _ _).mono ?_
  rintro e w3 ⟨rfl, hb3⟩
  have z3' : w.heap.size + 2 ≤ w3.heap.size := by have := hb3.size; omega
  have g3 := B.row hb3 g2 (by omega)
  have s3 := B.row hb3 s2 (by omega)
  have B3 : Hid (Below w.heap.size w w3) := B.next B2.out hb3 (by omega)
  clear hb3 B2 g2 s2
  rw [KB.out, faultN_t, errV0]
  go_wp2_with fail
  refine (ext_any _ _ _ _ (by omega) (by omega)).mono ?_
  rw [show extI 1 1 = 2 from by decide]
  rintro e w4 ⟨rfl, hb4⟩
  have z4' : w.heap.size + 2 ≤ w4.heap.size := by have := hb4.size; omega
  have g4 := B.row hb4 g3 (by omega)
  have s4 := B.row hb4 s3 (by omega)
  have B4 : Hid (Below w.heap.size w w4) := B.next B3.out hb4 (by omega)
  clear hb4 B3 g3 s3
  go_wp2_with fail
  refine (ext_any _ _ _ _ (by omega) (by omega)).mono ?_
  rw [show extI 1 0 = 1 from by decide]
  rintro e w5 ⟨rfl, hb5⟩
  have z5' : w.heap.size + 2 ≤ w5.heap.size := by have := hb5.size; omega
  have g5 := B.row hb5 g4 (by omega)
  have s5 := B.row hb5 s4 (by omega)
  have B5 : Hid (Below w.heap.size w w5) := B.next B4.out hb5 (by omega)
  clear hb5 B4 g4 s4
  go_wp2_with fail
  refine (front_any _ _ _ _).mono ?_
  rintro e w6 ⟨rfl, hb6⟩
  have z6' : w.heap.size + 2 ≤ w6.heap.size := by have := hb6.size; omega
  have g6 := B.row hb6 g5 (by omega)
  have s6 := B.row hb6 s5 (by omega)
  have B6 : Hid (Below w.heap.size w w6) := B.next B5.out hb6 (by omega)
  clear hb6 B5 g5 s5
  go_wp2_with fail
  refine (ext_any _ _ _ _ (by omega) (by omega)).mono ?_
  rw [show extI 1 0 = 1 from by decide]
  rintro e w7 ⟨rfl, hb7⟩
  have g7 := B.row hb7 g6 (by omega)
  have s7 := B.row hb7 s6 (by omega)
  have B7 : Hid (Below w.heap.size w w7) := B.next B6.out hb7 (by omega)
  clear hb7 B6 g6 s6
  go_wp2
  go_returns
  exact ⟨rfl, B7.out⟩

set_option maxHeartbeats 1000000 in
theorem topExt_1111 (x1 x2 : Int) (w : World) (ka : placeB x1 1 1 4 = true) (kb : placeB x2 1 1 4 = true) :
    Calls Try.prog 9 #[.agg #[.int .i64 x1, .int .i64 1, .int .i64 1], .agg #[.int .i64 x2, .int .i64 1, .int .i64 1]] w fun e w' => e = .returned (.bool true) ∧ Below w.heap.size w w' := by
  have KA : Hid (placeB x1 1 1 4 = true) := ka
  have KB : Hid (placeB x2 1 1 4 = true) := kb
  clear ka kb
  go_enter Try.func9, Try.ntmps9
  go_wp2_with fail
  refine (ext_any _ _ _ _ (by omega) (by omega)).mono ?_
  rintro e w1 ⟨rfl, hb1⟩
  rw [show extI 0 0 = -1 from by decide]
  have z1' : w.heap.size + 2 ≤ w1.heap.size := by have := hb1.size; simp at this; omega
  have g1 := B.row hb1 (B.row_old _ (B.row_new w _ _) (by simp)) (by simp; omega)
  have s1 := B.row hb1 (B.row_new (w.alloc (.cells #[.int .i64 x1, .int .i64 1, .int .i64 1] 28)) _ _) (by simp)
  rw [show (w.alloc (.cells #[.int .i64 x1, .int .i64 1, .int .i64 1] 28)).heap.size = w.heap.size + 1 from by simp] at s1
  have B1 : Hid (Below w.heap.size w w1) := B.next ((B.new1 _ _).trans ((B.new1 _ _).mono (by simp))) hb1 (by simp; omega)
  clear hb1
  go_wp2_with fail
  refine (checkPlace_any _ _ _ _ _).mono ?_
  rintro e w2 ⟨rfl, hb2⟩
  have z2' : w.heap.size + 2 ≤ w2.heap.size := by have := hb2.size; omega
  have g2 := B.row hb2 g1 (by omega)
  have s2 := B.row hb2 s1 (by omega)
  have B2 : Hid (Below w.heap.size w w2) := B.next B1.out hb2 (by omega)
  clear hb2 B1 g1 s1
  rw [KA.out, faultN_t, errV0]
  go_wp2_with fail
  refine (checkPlace_any _ _ _ _ _).mono ?_
  rintro e w3 ⟨rfl, hb3⟩
  have z3' : w.heap.size + 2 ≤ w3.heap.size := by have := hb3.size; omega
  have g3 := B.row hb3 g2 (by omega)
  have s3 := B.row hb3 s2 (by omega)
  have B3 : Hid (Below w.heap.size w w3) := B.next B2.out hb3 (by omega)
  clear hb3 B2 g2 s2
  rw [KB.out, faultN_t, errV0]
  go_wp2_with fail
  refine (ext_any _ _ _ _ (by omega) (by omega)).mono ?_
  rw [show extI 1 1 = 2 from by decide]
  rintro e w4 ⟨rfl, hb4⟩
  have z4' : w.heap.size + 2 ≤ w4.heap.size := by have := hb4.size; omega
  have g4 := B.row hb4 g3 (by omega)
  have s4 := B.row hb4 s3 (by omega)
  have B4 : Hid (Below w.heap.size w w4) := B.next B3.out hb4 (by omega)
  clear hb4 B3 g3 s3
  go_wp2_with fail
  refine (ext_any _ _ _ _ (by omega) (by omega)).mono ?_
  rw [show extI 1 1 = 2 from by decide]
  rintro e w5 ⟨rfl, hb5⟩
  have z5' : w.heap.size + 2 ≤ w5.heap.size := by have := hb5.size; omega
  have g5 := B.row hb5 g4 (by omega)
  have s5 := B.row hb5 s4 (by omega)
  have B5 : Hid (Below w.heap.size w w5) := B.next B4.out hb5 (by omega)
  clear hb5 B4 g4 s4
  go_wp2_with fail
  refine (front_any _ _ _ _).mono ?_
  rintro e w6 ⟨rfl, hb6⟩
  have z6' : w.heap.size + 2 ≤ w6.heap.size := by have := hb6.size; omega
  have g6 := B.row hb6 g5 (by omega)
  have s6 := B.row hb6 s5 (by omega)
  have B6 : Hid (Below w.heap.size w w6) := B.next B5.out hb6 (by omega)
  clear hb6 B5 g5 s5
  go_wp2_with fail
  refine (ext_any _ _ _ _ (by omega) (by omega)).mono ?_
  rw [show extI 1 0 = 1 from by decide]
  rintro e w7 ⟨rfl, hb7⟩
  have g7 := B.row hb7 g6 (by omega)
  have s7 := B.row hb7 s6 (by omega)
  have B7 : Hid (Below w.heap.size w w7) := B.next B6.out hb7 (by omega)
  clear hb7 B6 g6 s6
  go_wp2
  go_returns
  exact ⟨rfl, B7.out⟩

theorem topExt_any (x1 y1 z1 x2 y2 z2 : Int) (w : World) :
    Calls Try.prog 9 #[.agg #[.int .i64 x1, .int .i64 y1, .int .i64 z1], .agg #[.int .i64 x2, .int .i64 y2, .int .i64 z2]] w fun e w' => e = .returned (.bool true) ∧ Below w.heap.size w w' := by
  cases ka : placeB x1 y1 z1 4
  · exact topExt_a x1 y1 z1 x2 y2 z2 w ka
  cases kb : placeB x2 y2 z2 4
  · exact topExt_b x1 y1 z1 x2 y2 z2 w ka kb
  have ha := ka
  have hb := kb
  simp only [placeB, decide_eq_true_eq] at ha hb
  have ay : y1 = 0 ∨ y1 = 1 := by omega
  have az : z1 = 0 ∨ z1 = 1 := by omega
  have by' : y2 = 0 ∨ y2 = 1 := by omega
  have bz : z2 = 0 ∨ z2 = 1 := by omega
  clear ha hb
  rcases ay with rfl | rfl <;> rcases az with rfl | rfl <;> rcases by' with rfl | rfl <;> rcases bz with rfl | rfl
  · exact topExt_0000 x1 x2 w ka kb
  · exact topExt_0001 x1 x2 w ka kb
  · exact topExt_0010 x1 x2 w ka kb
  · exact topExt_0011 x1 x2 w ka kb
  · exact topExt_0100 x1 x2 w ka kb
  · exact topExt_0101 x1 x2 w ka kb
  · exact topExt_0110 x1 x2 w ka kb
  · exact topExt_0111 x1 x2 w ka kb
  · exact topExt_1000 x1 x2 w ka kb
  · exact topExt_1001 x1 x2 w ka kb
  · exact topExt_1010 x1 x2 w ka kb
  · exact topExt_1011 x1 x2 w ka kb
  · exact topExt_1100 x1 x2 w ka kb
  · exact topExt_1101 x1 x2 w ka kb
  · exact topExt_1110 x1 x2 w ka kb
  · exact topExt_1111 x1 x2 w ka kb

/-- The statement: for every input 'TopExt' answers true. -/
theorem topExt_holds : Rows.TopExtSaid :=
  OpenClaim.holds_of_wide 9 Try.f9 rfl rfl rfl rfl rfl rfl rfl ⟨rfl, rfl, rfl, rfl, rfl⟩ rfl rfl rfl rfl rfl (by kernel_rfl) Try.func9 (by kernel_rfl)
    (of_decide_eq_true (by kernel_rfl)) (by unfold Func.isWrapper; first | (rw [if_pos (by decide +kernel)]; kernel_rfl) | (rw [if_neg (by decide +kernel)]; exact ⟨rfl, rfl⟩))
    (fun os started H enc _ => law_lifted (s := Rows.topExtSpec) os started H enc (by kernel_rfl) Try.func9
      (ChangeSpec.witness6 (enc := enc) (C := Try.checked) false ⟨#[], #[.agg #[.int .i64 0, .int .i64 0, .int .i64 0], .agg #[.int .i64 0, .int .i64 0, .int .i64 0]], []⟩ 8 (by kernel_rfl) (by kernel_rfl) (by kernel_rfl) (by kernel_rfl))
      (by kernel_rfl) (by kernel_rfl) rfl
      (fun ds h => by
        match ds, h with
        | [d1, d2], _ => rfl)
      (fun W base args ds p hval hsz hA hlt => by
        rw [Try.params9] at hval hA
        obtain ⟨a, b, rfl⟩ := array_args2 (hsz.trans (by rw [Try.params9]; rfl))
        obtain ⟨x1, y1, z1, rfl, _⟩ := open_place (hval 0 28 a rfl rfl)
        obtain ⟨x2, y2, z2, rfl, _⟩ := open_place (hval 1 28 b rfl rfl)
        exact topExt_any x1 y1 z1 x2 y2 z2 W))

end Go.Proofs.Yticjjnmmedmbiaa
