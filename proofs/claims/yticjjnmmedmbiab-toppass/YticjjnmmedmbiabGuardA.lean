/- The guard's May, for each byte: what it answers (C1). -/
import Derived.Test.YticjjnmmedmbiabGuard
import Derived.Deep.Light
namespace Go.Proofs.Yticjjnmmedmbiab
open Go.ChangeShapes Go.WideShapes Go.ChangeAt Go.RowKit
set_option maxRecDepth 100000
set_option linter.unusedSimpArgs false
set_option linter.unusedVariables false

set_option maxHeartbeats 4000000 in
theorem may_45 (h ex : Int) (dr : Bool) (pe li ba : Int) (he tl tr : Bool) (w : World) (hh : -9223372036854775808 ≤ h ∧ h ≤ 9223372036854775807) (hx : -9223372036854775808 ≤ ex ∧ ex ≤ 9223372036854775807) :
    Calls Try.prog 79 #[.int .u8 45, .agg #[.int .i64 h, .int .i64 ex, .bool dr, .int .i64 pe, .int .i64 li, .int .i64 ba, .bool he, .bool tl, .bool tr]] w fun e w' => e = .returned (.bool (mayB 45 h ex dr pe li ba he tl tr)) ∧ Below w.heap.size w w' := by
  go_enter Try.func79, Try.ntmps79
  go_wp2
  all_goals
    go_returns
    refine ⟨ret_bool ?_, by go_grown⟩
    go_light
    first
      | (simp [mayB, levelB, closedB, belowB, reachB, *]; done)
      | (simp [mayB, levelB, closedB, belowB, reachB, *]; omega)

set_option maxHeartbeats 4000000 in
theorem may_117 (h ex : Int) (dr : Bool) (pe li ba : Int) (he tl tr : Bool) (w : World) (hh : -9223372036854775808 ≤ h ∧ h ≤ 9223372036854775807) (hx : -9223372036854775808 ≤ ex ∧ ex ≤ 9223372036854775807) :
    Calls Try.prog 79 #[.int .u8 117, .agg #[.int .i64 h, .int .i64 ex, .bool dr, .int .i64 pe, .int .i64 li, .int .i64 ba, .bool he, .bool tl, .bool tr]] w fun e w' => e = .returned (.bool (mayB 117 h ex dr pe li ba he tl tr)) ∧ Below w.heap.size w w' := by
  go_enter Try.func79, Try.ntmps79
  go_wp2
  all_goals
    go_returns
    refine ⟨ret_bool ?_, by go_grown⟩
    go_light
    first
      | (simp [mayB, levelB, closedB, belowB, reachB, *]; done)
      | (simp [mayB, levelB, closedB, belowB, reachB, *]; omega)

set_option maxHeartbeats 4000000 in
theorem may_100 (h ex : Int) (dr : Bool) (pe li ba : Int) (he tl tr : Bool) (w : World) (hh : -9223372036854775808 ≤ h ∧ h ≤ 9223372036854775807) (hx : -9223372036854775808 ≤ ex ∧ ex ≤ 9223372036854775807) :
    Calls Try.prog 79 #[.int .u8 100, .agg #[.int .i64 h, .int .i64 ex, .bool dr, .int .i64 pe, .int .i64 li, .int .i64 ba, .bool he, .bool tl, .bool tr]] w fun e w' => e = .returned (.bool (mayB 100 h ex dr pe li ba he tl tr)) ∧ Below w.heap.size w w' := by
  go_enter Try.func79, Try.ntmps79
  go_wp2
  all_goals
    go_returns
    refine ⟨ret_bool ?_, by go_grown⟩
    go_light
    first
      | (simp [mayB, levelB, closedB, belowB, reachB, *]; done)
      | (simp [mayB, levelB, closedB, belowB, reachB, *]; omega)

set_option maxHeartbeats 4000000 in
theorem may_108 (h ex : Int) (dr : Bool) (pe li ba : Int) (he tl tr : Bool) (w : World) (hh : -9223372036854775808 ≤ h ∧ h ≤ 9223372036854775807) (hx : -9223372036854775808 ≤ ex ∧ ex ≤ 9223372036854775807) :
    Calls Try.prog 79 #[.int .u8 108, .agg #[.int .i64 h, .int .i64 ex, .bool dr, .int .i64 pe, .int .i64 li, .int .i64 ba, .bool he, .bool tl, .bool tr]] w fun e w' => e = .returned (.bool (mayB 108 h ex dr pe li ba he tl tr)) ∧ Below w.heap.size w w' := by
  go_enter Try.func79, Try.ntmps79
  go_wp2
  all_goals
    go_returns
    refine ⟨ret_bool ?_, by go_grown⟩
    go_light
    first
      | (simp [mayB, levelB, closedB, belowB, reachB, *]; done)
      | (simp [mayB, levelB, closedB, belowB, reachB, *]; omega)
      | (cases tl <;> (rw [Bool.eq_iff_iff]; simp [mayB, levelB, reachB]; omega))
      | (simp only [wrap64] at *; cases tl <;> (rw [Bool.eq_iff_iff]; simp [mayB, levelB, reachB]; omega))

set_option maxHeartbeats 4000000 in
theorem may_114 (h ex : Int) (dr : Bool) (pe li ba : Int) (he tl tr : Bool) (w : World) (hh : -9223372036854775808 ≤ h ∧ h ≤ 9223372036854775807) (hx : -9223372036854775808 ≤ ex ∧ ex ≤ 9223372036854775807) :
    Calls Try.prog 79 #[.int .u8 114, .agg #[.int .i64 h, .int .i64 ex, .bool dr, .int .i64 pe, .int .i64 li, .int .i64 ba, .bool he, .bool tl, .bool tr]] w fun e w' => e = .returned (.bool (mayB 114 h ex dr pe li ba he tl tr)) ∧ Below w.heap.size w w' := by
  go_enter Try.func79, Try.ntmps79
  go_wp2
  all_goals
    go_returns
    refine ⟨ret_bool ?_, by go_grown⟩
    go_light
    first
      | (simp [mayB, levelB, closedB, belowB, reachB, *]; done)
      | (simp [mayB, levelB, closedB, belowB, reachB, *]; omega)
      | (cases tr <;> (rw [Bool.eq_iff_iff]; simp [mayB, levelB, reachB]; omega))
      | (simp only [wrap64] at *; cases tr <;> (rw [Bool.eq_iff_iff]; simp [mayB, levelB, reachB]; omega))

set_option maxHeartbeats 4000000 in
theorem may_103 (h ex : Int) (dr : Bool) (pe li ba : Int) (he tl tr : Bool) (w : World) (hh : -9223372036854775808 ≤ h ∧ h ≤ 9223372036854775807) (hx : -9223372036854775808 ≤ ex ∧ ex ≤ 9223372036854775807) :
    Calls Try.prog 79 #[.int .u8 103, .agg #[.int .i64 h, .int .i64 ex, .bool dr, .int .i64 pe, .int .i64 li, .int .i64 ba, .bool he, .bool tl, .bool tr]] w fun e w' => e = .returned (.bool (mayB 103 h ex dr pe li ba he tl tr)) ∧ Below w.heap.size w w' := by
  go_enter Try.func79, Try.ntmps79
  go_wp2
  all_goals
    go_returns
    refine ⟨ret_bool ?_, by go_grown⟩
    go_light
    first
      | (simp [mayB, levelB, closedB, belowB, reachB, *]; done)
      | (simp [mayB, levelB, closedB, belowB, reachB, *]; omega)

set_option maxHeartbeats 4000000 in
theorem may_112 (h ex : Int) (dr : Bool) (pe li ba : Int) (he tl tr : Bool) (w : World) (hh : -9223372036854775808 ≤ h ∧ h ≤ 9223372036854775807) (hx : -9223372036854775808 ≤ ex ∧ ex ≤ 9223372036854775807) :
    Calls Try.prog 79 #[.int .u8 112, .agg #[.int .i64 h, .int .i64 ex, .bool dr, .int .i64 pe, .int .i64 li, .int .i64 ba, .bool he, .bool tl, .bool tr]] w fun e w' => e = .returned (.bool (mayB 112 h ex dr pe li ba he tl tr)) ∧ Below w.heap.size w w' := by
  go_enter Try.func79, Try.ntmps79
  go_wp2
  all_goals
    go_returns
    refine ⟨ret_bool ?_, by go_grown⟩
    go_light
    first
      | (simp [mayB, levelB, closedB, belowB, reachB, *]; done)
      | (simp [mayB, levelB, closedB, belowB, reachB, *]; omega)

set_option maxHeartbeats 4000000 in
theorem may_111 (h ex : Int) (dr : Bool) (pe li ba : Int) (he tl tr : Bool) (w : World) (hh : -9223372036854775808 ≤ h ∧ h ≤ 9223372036854775807) (hx : -9223372036854775808 ≤ ex ∧ ex ≤ 9223372036854775807) :
    Calls Try.prog 79 #[.int .u8 111, .agg #[.int .i64 h, .int .i64 ex, .bool dr, .int .i64 pe, .int .i64 li, .int .i64 ba, .bool he, .bool tl, .bool tr]] w fun e w' => e = .returned (.bool (mayB 111 h ex dr pe li ba he tl tr)) ∧ Below w.heap.size w w' := by
  go_enter Try.func79, Try.ntmps79
  go_wp2
  all_goals
    go_returns
    refine ⟨ret_bool ?_, by go_grown⟩
    go_light
    first
      | (simp [mayB, levelB, closedB, belowB, reachB, *]; done)
      | (simp [mayB, levelB, closedB, belowB, reachB, *]; omega)

set_option maxHeartbeats 4000000 in
theorem may_99 (h ex : Int) (dr : Bool) (pe li ba : Int) (he tl tr : Bool) (w : World) (hh : -9223372036854775808 ≤ h ∧ h ≤ 9223372036854775807) (hx : -9223372036854775808 ≤ ex ∧ ex ≤ 9223372036854775807) :
    Calls Try.prog 79 #[.int .u8 99, .agg #[.int .i64 h, .int .i64 ex, .bool dr, .int .i64 pe, .int .i64 li, .int .i64 ba, .bool he, .bool tl, .bool tr]] w fun e w' => e = .returned (.bool (mayB 99 h ex dr pe li ba he tl tr)) ∧ Below w.heap.size w w' := by
  go_enter Try.func79, Try.ntmps79
  go_wp2
  all_goals
    go_returns
    refine ⟨ret_bool ?_, by go_grown⟩
    go_light
    first
      | (simp [mayB, levelB, closedB, belowB, reachB, *]; done)
      | (simp [mayB, levelB, closedB, belowB, reachB, *]; omega)

set_option maxHeartbeats 4000000 in
theorem may_110 (h ex : Int) (dr : Bool) (pe li ba : Int) (he tl tr : Bool) (w : World) (hh : -9223372036854775808 ≤ h ∧ h ≤ 9223372036854775807) (hx : -9223372036854775808 ≤ ex ∧ ex ≤ 9223372036854775807) :
    Calls Try.prog 79 #[.int .u8 110, .agg #[.int .i64 h, .int .i64 ex, .bool dr, .int .i64 pe, .int .i64 li, .int .i64 ba, .bool he, .bool tl, .bool tr]] w fun e w' => e = .returned (.bool (mayB 110 h ex dr pe li ba he tl tr)) ∧ Below w.heap.size w w' := by
  go_enter Try.func79, Try.ntmps79
  go_wp2
  all_goals
    go_returns
    refine ⟨ret_bool ?_, by go_grown⟩
    go_light
    first
      | (simp [mayB, levelB, closedB, belowB, reachB, *]; done)
      | (simp [mayB, levelB, closedB, belowB, reachB, *]; omega)

set_option maxHeartbeats 4000000 in
theorem may_120 (h ex : Int) (dr : Bool) (pe li ba : Int) (he tl tr : Bool) (w : World) (hh : -9223372036854775808 ≤ h ∧ h ≤ 9223372036854775807) (hx : -9223372036854775808 ≤ ex ∧ ex ≤ 9223372036854775807) :
    Calls Try.prog 79 #[.int .u8 120, .agg #[.int .i64 h, .int .i64 ex, .bool dr, .int .i64 pe, .int .i64 li, .int .i64 ba, .bool he, .bool tl, .bool tr]] w fun e w' => e = .returned (.bool (mayB 120 h ex dr pe li ba he tl tr)) ∧ Below w.heap.size w w' := by
  go_enter Try.func79, Try.ntmps79
  go_wp2
  all_goals
    go_returns
    refine ⟨ret_bool ?_, by go_grown⟩
    go_light
    first
      | (simp [mayB, levelB, closedB, belowB, reachB, *]; done)
      | (simp [mayB, levelB, closedB, belowB, reachB, *]; omega)

set_option maxHeartbeats 4000000 in
theorem may_other (c h ex : Int) (dr : Bool) (pe li ba : Int) (he tl tr : Bool) (w : World) (hh : -9223372036854775808 ≤ h ∧ h ≤ 9223372036854775807)
    (n45 : (c == 45) = false) (n117 : (c == 117) = false) (n100 : (c == 100) = false) (n108 : (c == 108) = false) (n114 : (c == 114) = false) (n103 : (c == 103) = false) (n112 : (c == 112) = false) (n111 : (c == 111) = false) (n99 : (c == 99) = false) (n110 : (c == 110) = false) (n120 : (c == 120) = false) :
    Calls Try.prog 79 #[.int .u8 c, .agg #[.int .i64 h, .int .i64 ex, .bool dr, .int .i64 pe, .int .i64 li, .int .i64 ba, .bool he, .bool tl, .bool tr]] w fun e w' => e = .returned (.bool (mayB c h ex dr pe li ba he tl tr)) ∧ Below w.heap.size w w' := by
  have K : Hid (∀ h dr, mayB c h ex dr pe li ba he tl tr = false) := by
    intro h dr
    simp only [beq_eq_false_iff_ne, ne_eq] at *
    simp [mayB, n45, n117, n100, n108, n114, n103, n112, n111, n99, n110, n120]
  go_enter Try.func79, Try.ntmps79
  go_wp2
  all_goals
    go_returns
    exact ⟨ret_bool (K.out _ _).symm, by go_grown⟩

theorem may_any (c h ex : Int) (dr : Bool) (pe li ba : Int) (he tl tr : Bool) (w : World) (hh : IntKind.i64.has h) (hx : IntKind.i64.has ex) :
    Calls Try.prog 79 #[.int .u8 c, .agg #[.int .i64 h, .int .i64 ex, .bool dr, .int .i64 pe, .int .i64 li, .int .i64 ba, .bool he, .bool tl, .bool tr]] w fun e w' => e = .returned (.bool (mayB c h ex dr pe li ba he tl tr)) ∧ Below w.heap.size w w' := by
  have hh := i64_bounds hh
  have hx := i64_bounds hx
  by_cases n45 : c = 45
  · subst n45; exact may_45 h ex dr pe li ba he tl tr w hh hx
  by_cases n117 : c = 117
  · subst n117; exact may_117 h ex dr pe li ba he tl tr w hh hx
  by_cases n100 : c = 100
  · subst n100; exact may_100 h ex dr pe li ba he tl tr w hh hx
  by_cases n108 : c = 108
  · subst n108; exact may_108 h ex dr pe li ba he tl tr w hh hx
  by_cases n114 : c = 114
  · subst n114; exact may_114 h ex dr pe li ba he tl tr w hh hx
  by_cases n103 : c = 103
  · subst n103; exact may_103 h ex dr pe li ba he tl tr w hh hx
  by_cases n112 : c = 112
  · subst n112; exact may_112 h ex dr pe li ba he tl tr w hh hx
  by_cases n111 : c = 111
  · subst n111; exact may_111 h ex dr pe li ba he tl tr w hh hx
  by_cases n99 : c = 99
  · subst n99; exact may_99 h ex dr pe li ba he tl tr w hh hx
  by_cases n110 : c = 110
  · subst n110; exact may_110 h ex dr pe li ba he tl tr w hh hx
  by_cases n120 : c = 120
  · subst n120; exact may_120 h ex dr pe li ba he tl tr w hh hx
  exact may_other c h ex dr pe li ba he tl tr w hh (by simpa using n45) (by simpa using n117) (by simpa using n100) (by simpa using n108) (by simpa using n114) (by simpa using n103) (by simpa using n112) (by simpa using n111) (by simpa using n99) (by simpa using n110) (by simpa using n120)

end Go.Proofs.Yticjjnmmedmbiab
