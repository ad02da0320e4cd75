/- The document's May, for the other bytes: what it answers (C1). -/
import Derived.Test.YticjjnmmedmbiaaGuard
import Derived.Deep.Light
namespace Go.Proofs.Yticjjnmmedmbiaa
open Go.ChangeShapes Go.WideShapes Go.ChangeAt Go.RowKit
set_option maxRecDepth 100000
set_option linter.unusedSimpArgs false
set_option linter.unusedVariables false

set_option maxHeartbeats 4000000 in
theorem rmay_112 (h ex : Int) (dr : Bool) (pe li ba : Int) (he tl tr : Bool) (w : World) (hh : -9223372036854775808 ≤ h ∧ h ≤ 9223372036854775807) (hx : -9223372036854775808 ≤ ex ∧ ex ≤ 9223372036854775807) :
    Calls Try.prog 45 #[.int .u8 112, .agg #[.int .i64 h, .int .i64 ex, .bool dr, .int .i64 pe, .int .i64 li, .int .i64 ba, .bool he, .bool tl, .bool tr]] w fun e w' => e = .returned (.bool (mayB 112 h ex dr pe li ba he tl tr)) ∧ Below w.heap.size w w' := by
  go_enter Try.func45, Try.ntmps45
  go_wp2
  all_goals
    go_returns
    refine ⟨ret_bool ?_, by go_grown⟩
    go_light
    first
      | (simp [mayB, levelB, closedB, belowB, reachB, *]; done)
      | (simp [mayB, levelB, closedB, belowB, reachB, *]; omega)

set_option maxHeartbeats 4000000 in
theorem rmay_111 (h ex : Int) (dr : Bool) (pe li ba : Int) (he tl tr : Bool) (w : World) (hh : -9223372036854775808 ≤ h ∧ h ≤ 9223372036854775807) (hx : -9223372036854775808 ≤ ex ∧ ex ≤ 9223372036854775807) :
    Calls Try.prog 45 #[.int .u8 111, .agg #[.int .i64 h, .int .i64 ex, .bool dr, .int .i64 pe, .int .i64 li, .int .i64 ba, .bool he, .bool tl, .bool tr]] w fun e w' => e = .returned (.bool (mayB 111 h ex dr pe li ba he tl tr)) ∧ Below w.heap.size w w' := by
  go_enter Try.func45, Try.ntmps45
  go_wp2
  all_goals
    go_returns
    refine ⟨ret_bool ?_, by go_grown⟩
    go_light
    first
      | (simp [mayB, levelB, closedB, belowB, reachB, *]; done)
      | (simp [mayB, levelB, closedB, belowB, reachB, *]; omega)

set_option maxHeartbeats 4000000 in
theorem rmay_99 (h ex : Int) (dr : Bool) (pe li ba : Int) (he tl tr : Bool) (w : World) (hh : -9223372036854775808 ≤ h ∧ h ≤ 9223372036854775807) (hx : -9223372036854775808 ≤ ex ∧ ex ≤ 9223372036854775807) :
    Calls Try.prog 45 #[.int .u8 99, .agg #[.int .i64 h, .int .i64 ex, .bool dr, .int .i64 pe, .int .i64 li, .int .i64 ba, .bool he, .bool tl, .bool tr]] w fun e w' => e = .returned (.bool (mayB 99 h ex dr pe li ba he tl tr)) ∧ Below w.heap.size w w' := by
  go_enter Try.func45, Try.ntmps45
  go_wp2
  all_goals
    go_returns
    refine ⟨ret_bool ?_, by go_grown⟩
    go_light
    first
      | (simp [mayB, levelB, closedB, belowB, reachB, *]; done)
      | (simp [mayB, levelB, closedB, belowB, reachB, *]; omega)

set_option maxHeartbeats 4000000 in
theorem rmay_110 (h ex : Int) (dr : Bool) (pe li ba : Int) (he tl tr : Bool) (w : World) (hh : -9223372036854775808 ≤ h ∧ h ≤ 9223372036854775807) (hx : -9223372036854775808 ≤ ex ∧ ex ≤ 9223372036854775807) :
    Calls Try.prog 45 #[.int .u8 110, .agg #[.int .i64 h, .int .i64 ex, .bool dr, .int .i64 pe, .int .i64 li, .int .i64 ba, .bool he, .bool tl, .bool tr]] w fun e w' => e = .returned (.bool (mayB 110 h ex dr pe li ba he tl tr)) ∧ Below w.heap.size w w' := by
  go_enter Try.func45, Try.ntmps45
  go_wp2
  all_goals
    go_returns
    refine ⟨ret_bool ?_, by go_grown⟩
    go_light
    first
      | (simp [mayB, levelB, closedB, belowB, reachB, *]; done)
      | (simp [mayB, levelB, closedB, belowB, reachB, *]; omega)

set_option maxHeartbeats 4000000 in
theorem rmay_120 (h ex : Int) (dr : Bool) (pe li ba : Int) (he tl tr : Bool) (w : World) (hh : -9223372036854775808 ≤ h ∧ h ≤ 9223372036854775807) (hx : -9223372036854775808 ≤ ex ∧ ex ≤ 9223372036854775807) :
    Calls Try.prog 45 #[.int .u8 120, .agg #[.int .i64 h, .int .i64 ex, .bool dr, .int .i64 pe, .int .i64 li, .int .i64 ba, .bool he, .bool tl, .bool tr]] w fun e w' => e = .returned (.bool (mayB 120 h ex dr pe li ba he tl tr)) ∧ Below w.heap.size w w' := by
  go_enter Try.func45, Try.ntmps45
  go_wp2
  all_goals
    go_returns
    refine ⟨ret_bool ?_, by go_grown⟩
    go_light
    first
      | (simp [mayB, levelB, closedB, belowB, reachB, *]; done)
      | (simp [mayB, levelB, closedB, belowB, reachB, *]; omega)

set_option maxHeartbeats 4000000 in
theorem rmay_other (c h ex : Int) (dr : Bool) (pe li ba : Int) (he tl tr : Bool) (w : World) (hh : -9223372036854775808 ≤ h ∧ h ≤ 9223372036854775807)
    (n45 : (c == 45) = false) (n117 : (c == 117) = false) (n100 : (c == 100) = false) (n108 : (c == 108) = false) (n114 : (c == 114) = false) (n103 : (c == 103) = false) (n112 : (c == 112) = false) (n111 : (c == 111) = false) (n99 : (c == 99) = false) (n110 : (c == 110) = false) (n120 : (c == 120) = false) :
    Calls Try.prog 45 #[.int .u8 c, .agg #[.int .i64 h, .int .i64 ex, .bool dr, .int .i64 pe, .int .i64 li, .int .i64 ba, .bool he, .bool tl, .bool tr]] w fun e w' => e = .returned (.bool (mayB c h ex dr pe li ba he tl tr)) ∧ Below w.heap.size w w' := by
  have K : Hid (∀ h dr, mayB c h ex dr pe li ba he tl tr = false) := by
    intro h dr
    simp only [beq_eq_false_iff_ne, ne_eq] at *
    simp [mayB, n45, n117, n100, n108, n114, n103, n112, n111, n99, n110, n120]
  go_enter Try.func45, Try.ntmps45
  go_wp2
  all_goals
    go_returns
    exact ⟨ret_bool (K.out _ _).symm, by go_grown⟩

end Go.Proofs.Yticjjnmmedmbiaa
