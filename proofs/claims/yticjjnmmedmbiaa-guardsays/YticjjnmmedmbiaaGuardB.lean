/- The document's May, for the first bytes: what it answers (C1). -/
import Derived.Test.YticjjnmmedmbiaaGuard
import Derived.Deep.Light
namespace Go.Proofs.Yticjjnmmedmbiaa
open Go.ChangeShapes Go.WideShapes Go.ChangeAt Go.RowKit
set_option maxRecDepth 100000
set_option linter.unusedSimpArgs false
set_option linter.unusedVariables false

set_option maxHeartbeats 4000000 in
theorem rmay_45 (h ex : Int) (dr : Bool) (pe li ba : Int) (he tl tr : Bool) (w : World) (hh : -9223372036854775808 ≤ h ∧ h ≤ 9223372036854775807) (hx : -9223372036854775808 ≤ ex ∧ ex ≤ 9223372036854775807) :
    Calls Try.prog 45 #[.int .u8 45, .agg #[.int .i64 h, .int .i64 ex, .bool dr, .int .i64 pe, .int .i64 li, .int .i64 ba, .bool he, .bool tl, .bool tr]] w fun e w' => e = .returned (.bool (mayB 45 h ex dr pe li ba he tl tr)) ∧ Below w.heap.size w w' := by
  go_enter Try.func45, Try.ntmps45
  go_wp2
  all_goals
    go_returns
    refine ⟨ret_bool ?_, by go_grown⟩
    go_light
    first
      | (simp [mayB, levelB, closedB, belowB, reachB, *]; done)
      | (simp [mayB, levelB, closedB, belowB, reachB, *]; omega)

set_option maxHeartbeats 4000000 in
theorem rmay_117 (h ex : Int) (dr : Bool) (pe li ba : Int) (he tl tr : Bool) (w : World) (hh : -9223372036854775808 ≤ h ∧ h ≤ 9223372036854775807) (hx : -9223372036854775808 ≤ ex ∧ ex ≤ 9223372036854775807) :
    Calls Try.prog 45 #[.int .u8 117, .agg #[.int .i64 h, .int .i64 ex, .bool dr, .int .i64 pe, .int .i64 li, .int .i64 ba, .bool he, .bool tl, .bool tr]] w fun e w' => e = .returned (.bool (mayB 117 h ex dr pe li ba he tl tr)) ∧ Below w.heap.size w w' := by
  go_enter Try.func45, Try.ntmps45
  go_wp2
  all_goals
    go_returns
    refine ⟨ret_bool ?_, by go_grown⟩
    go_light
    first
      | (simp [mayB, levelB, closedB, belowB, reachB, *]; done)
      | (simp [mayB, levelB, closedB, belowB, reachB, *]; omega)

set_option maxHeartbeats 4000000 in
theorem rmay_100 (h ex : Int) (dr : Bool) (pe li ba : Int) (he tl tr : Bool) (w : World) (hh : -9223372036854775808 ≤ h ∧ h ≤ 9223372036854775807) (hx : -9223372036854775808 ≤ ex ∧ ex ≤ 9223372036854775807) :
    Calls Try.prog 45 #[.int .u8 100, .agg #[.int .i64 h, .int .i64 ex, .bool dr, .int .i64 pe, .int .i64 li, .int .i64 ba, .bool he, .bool tl, .bool tr]] w fun e w' => e = .returned (.bool (mayB 100 h ex dr pe li ba he tl tr)) ∧ Below w.heap.size w w' := by
  go_enter Try.func45, Try.ntmps45
  go_wp2
  all_goals
    go_returns
    refine ⟨ret_bool ?_, by go_grown⟩
    go_light
    first
      | (simp [mayB, levelB, closedB, belowB, reachB, *]; done)
      | (simp [mayB, levelB, closedB, belowB, reachB, *]; omega)

set_option maxHeartbeats 4000000 in
theorem rmay_108 (h ex : Int) (dr : Bool) (pe li ba : Int) (he tl tr : Bool) (w : World) (hh : -9223372036854775808 ≤ h ∧ h ≤ 9223372036854775807) (hx : -9223372036854775808 ≤ ex ∧ ex ≤ 9223372036854775807) :
    Calls Try.prog 45 #[.int .u8 108, .agg #[.int .i64 h, .int .i64 ex, .bool dr, .int .i64 pe, .int .i64 li, .int .i64 ba, .bool he, .bool tl, .bool tr]] w fun e w' => e = .returned (.bool (mayB 108 h ex dr pe li ba he tl tr)) ∧ Below w.heap.size w w' := by
  go_enter Try.func45, Try.ntmps45
  go_wp2
  all_goals
    go_returns
    refine ⟨ret_bool ?_, by go_grown⟩
    go_light
    first
      | (simp [mayB, levelB, closedB, belowB, reachB, *]; done)
      | (simp [mayB, levelB, closedB, belowB, reachB, *]; omega)
      | (cases tl <;> (rw [Bool.eq_iff_iff]; simp [mayB, levelB, reachB]; omega))
      | (simp only [wrap64] at *; cases tl <;> (rw [Bool.eq_iff_iff]; simp [mayB, levelB, reachB]; omega))

set_option maxHeartbeats 4000000 in
theorem rmay_114 (h ex : Int) (dr : Bool) (pe li ba : Int) (he tl tr : Bool) (w : World) (hh : -9223372036854775808 ≤ h ∧ h ≤ 9223372036854775807) (hx : -9223372036854775808 ≤ ex ∧ ex ≤ 9223372036854775807) :
    Calls Try.prog 45 #[.int .u8 114, .agg #[.int .i64 h, .int .i64 ex, .bool dr, .int .i64 pe, .int .i64 li, .int .i64 ba, .bool he, .bool tl, .bool tr]] w fun e w' => e = .returned (.bool (mayB 114 h ex dr pe li ba he tl tr)) ∧ Below w.heap.size w w' := by
  go_enter Try.func45, Try.ntmps45
  go_wp2
  all_goals
    go_returns
    refine ⟨ret_bool ?_, by go_grown⟩
    go_light
    first
      | (simp [mayB, levelB, closedB, belowB, reachB, *]; done)
      | (simp [mayB, levelB, closedB, belowB, reachB, *]; omega)
      | (cases tr <;> (rw [Bool.eq_iff_iff]; simp [mayB, levelB, reachB]; omega))
      | (simp only [wrap64] at *; cases tr <;> (rw [Bool.eq_iff_iff]; simp [mayB, levelB, reachB]; omega))

set_option maxHeartbeats 4000000 in
theorem rmay_103 (h ex : Int) (dr : Bool) (pe li ba : Int) (he tl tr : Bool) (w : World) (hh : -9223372036854775808 ≤ h ∧ h ≤ 9223372036854775807) (hx : -9223372036854775808 ≤ ex ∧ ex ≤ 9223372036854775807) :
    Calls Try.prog 45 #[.int .u8 103, .agg #[.int .i64 h, .int .i64 ex, .bool dr, .int .i64 pe, .int .i64 li, .int .i64 ba, .bool he, .bool tl, .bool tr]] w fun e w' => e = .returned (.bool (mayB 103 h ex dr pe li ba he tl tr)) ∧ Below w.heap.size w w' := by
  go_enter Try.func45, Try.ntmps45
  go_wp2
  all_goals
    go_returns
    refine ⟨ret_bool ?_, by go_grown⟩
    go_light
    first
      | (simp [mayB, levelB, closedB, belowB, reachB, *]; done)
      | (simp [mayB, levelB, closedB, belowB, reachB, *]; omega)

end Go.Proofs.Yticjjnmmedmbiaa
