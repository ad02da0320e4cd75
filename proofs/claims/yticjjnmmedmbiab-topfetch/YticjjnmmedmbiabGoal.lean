/- Chapter 4: what is to be done for a goal, as things are (D1); contract. -/
import Derived.Test.YticjjnmmedmbiabBase
namespace Go.Proofs.Yticjjnmmedmbiab
open Go.ChangeShapes Go.WideShapes Go.ChangeAt Go.RowKit
set_option maxRecDepth 100000
set_option linter.unusedSimpArgs false
set_option linter.unusedVariables false

def nextC (k n h ex : Int) (dr : Bool) (li : Int) : Int :=
  if k = 1 then (if h < n then 117 else if n < h then 100 else 45)
  else if k = 2 then (if ex < n then 114 else if n < ex then 108 else 45)
  else if k = 3 then (if li = 0 then 103 else 45)
  else if k = 4 then (if li = 0 then 45 else 112)
  else if k = 5 then (if dr = true then 99 else 45)
  else if k = 6 then (if dr = true then 45 else 111)
  else if k = 7 then (if li = 0 then 110 else 45)
  else if k = 8 then (if li = 0 then 45 else 120)
  else 45

set_option maxHeartbeats 1000000 in
theorem next_1 (n h ex : Int) (dr : Bool) (pe li ba : Int) (he tl tr : Bool) (w : World) :
    Calls Try.prog 17 #[.agg #[.int .i64 1, .int .i64 n], .agg #[.int .i64 h, .int .i64 ex, .bool dr, .int .i64 pe, .int .i64 li, .int .i64 ba, .bool he, .bool tl, .bool tr]] w fun e w' =>
      e = .returned (.tuple #[.int .u8 (nextC 1 n h ex dr li), .bool (nextC 1 n h ex dr li == 45)]) ∧ Below w.heap.size w w' := by
  go_enter Try.func17, Try.ntmps17
  go_wp2
  all_goals
    go_returns
    refine ⟨B.ret_pair ?_ ?_, by go_grown⟩
    all_goals
      go_light
      first
        | (simp [nextC, *]; done)
        | (simp [nextC, *]; omega)
        | (simp [nextC]; (repeat' split) <;> first | omega | (simp_all; done) | (simp_all; omega))

set_option maxHeartbeats 1000000 in
theorem next_2 (n h ex : Int) (dr : Bool) (pe li ba : Int) (he tl tr : Bool) (w : World) :
    Calls Try.prog 17 #[.agg #[.int .i64 2, .int .i64 n], .agg #[.int .i64 h, .int .i64 ex, .bool dr, .int .i64 pe, .int .i64 li, .int .i64 ba, .bool he, .bool tl, .bool tr]] w fun e w' =>
      e = .returned (.tuple #[.int .u8 (nextC 2 n h ex dr li), .bool (nextC 2 n h ex dr li == 45)]) ∧ Below w.heap.size w w' := by
  go_enter Try.func17, Try.ntmps17
  go_wp2
  all_goals
    go_returns
    refine ⟨B.ret_pair ?_ ?_, by go_grown⟩
    all_goals
      go_light
      first
        | (simp [nextC, *]; done)
        | (simp [nextC, *]; omega)
        | (simp [nextC]; (repeat' split) <;> first | omega | (simp_all; done) | (simp_all; omega))

set_option maxHeartbeats 1000000 in
theorem next_3 (n h ex : Int) (dr : Bool) (pe li ba : Int) (he tl tr : Bool) (w : World) :
    Calls Try.prog 17 #[.agg #[.int .i64 3, .int .i64 n], .agg #[.int .i64 h, .int .i64 ex, .bool dr, .int .i64 pe, .int .i64 li, .int .i64 ba, .bool he, .bool tl, .bool tr]] w fun e w' =>
      e = .returned (.tuple #[.int .u8 (nextC 3 n h ex dr li), .bool (nextC 3 n h ex dr li == 45)]) ∧ Below w.heap.size w w' := by
  go_enter Try.func17, Try.ntmps17
  go_wp2
  all_goals
    go_returns
    refine ⟨B.ret_pair ?_ ?_, by go_grown⟩
    all_goals
      go_light
      first
        | (simp [nextC, *]; done)
        | (simp [nextC, *]; omega)
        | (simp [nextC]; (repeat' split) <;> first | omega | (simp_all; done) | (simp_all; omega))

set_option maxHeartbeats 1000000 in
theorem next_4 (n h ex : Int) (dr : Bool) (pe li ba : Int) (he tl tr : Bool) (w : World) :
    Calls Try.prog 17 #[.agg #[.int .i64 4, .int .i64 n], .agg #[.int .i64 h, .int .i64 ex, .bool dr, .int .i64 pe, .int .i64 li, .int .i64 ba, .bool he, .bool tl, .bool tr]] w fun e w' =>
      e = .returned (.tuple #[.int .u8 (nextC 4 n h ex dr li), .bool (nextC 4 n h ex dr li == 45)]) ∧ Below w.heap.size w w' := by
  go_enter Try.func17, Try.ntmps17
  go_wp2
  all_goals
    go_returns
    refine ⟨B.ret_pair ?_ ?_, by go_grown⟩
    all_goals
      go_light
      first
        | (simp [nextC, *]; done)
        | (simp [nextC, *]; omega)
        | (simp [nextC]; (repeat' split) <;> first | omega | (simp_all; done) | (simp_all; omega))

set_option maxHeartbeats 1000000 in
theorem next_5 (n h ex : Int) (dr : Bool) (pe li ba : Int) (he tl tr : Bool) (w : World) :
    Calls Try.prog 17 #[.agg #[.int .i64 5, .int .i64 n], .agg #[.int .i64 h, .int .i64 ex, .bool dr, .int .i64 pe, .int .i64 li, .int .i64 ba, .bool he, .bool tl, .bool tr]] w fun e w' =>
      e = .returned (.tuple #[.int .u8 (nextC 5 n h ex dr li), .bool (nextC 5 n h ex dr li == 45)]) ∧ Below w.heap.size w w' := by
  go_enter Try.func17, Try.ntmps17
  go_wp2
  all_goals
    go_returns
    refine ⟨B.ret_pair ?_ ?_, by go_grown⟩
    all_goals
      go_light
      first
        | (simp [nextC, *]; done)
        | (simp [nextC, *]; omega)
        | (simp [nextC]; (repeat' split) <;> first | omega | (simp_all; done) | (simp_all; omega))

set_option maxHeartbeats 1000000 in
theorem next_6 (n h ex : Int) (dr : Bool) (pe li ba : Int) (he tl tr : Bool) (w : World) :
    Calls Try.prog 17 #[.agg #[.int .i64 6, .int .i64 n], .agg #[.int .i64 h, .int .i64 ex, .bool dr, .int .i64 pe, .int .i64 li, .int .i64 ba, .bool he, .bool tl, .bool tr]] w fun e w' =>
      e = .returned (.tuple #[.int .u8 (nextC 6 n h ex dr li), .bool (nextC 6 n h ex dr li == 45)]) ∧ Below w.heap.size w w' := by
  go_enter Try.func17, Try.ntmps17
  go_wp2
  all_goals
    go_returns
    refine ⟨B.ret_pair ?_ ?_, by go_grown⟩
    all_goals
      go_light
      first
        | (simp [nextC, *]; done)
        | (simp [nextC, *]; omega)
        | (simp [nextC]; (repeat' split) <;> first | omega | (simp_all; done) | (simp_all; omega))

set_option maxHeartbeats 1000000 in
theorem next_7 (n h ex : Int) (dr : Bool) (pe li ba : Int) (he tl tr : Bool) (w : World) :
    Calls Try.prog 17 #[.agg #[.int .i64 7, .int .i64 n], .agg #[.int .i64 h, .int .i64 ex, .bool dr, .int .i64 pe, .int .i64 li, .int .i64 ba, .bool he, .bool tl, .bool tr]] w fun e w' =>
      e = .returned (.tuple #[.int .u8 (nextC 7 n h ex dr li), .bool (nextC 7 n h ex dr li == 45)]) ∧ Below w.heap.size w w' := by
  go_enter Try.func17, Try.ntmps17
  go_wp2
  all_goals
    go_returns
    refine ⟨B.ret_pair ?_ ?_, by go_grown⟩
    all_goals
      go_light
      first
        | (simp [nextC, *]; done)
        | (simp [nextC, *]; omega)
        | (simp [nextC]; (repeat' split) <;> first | omega | (simp_all; done) | (simp_all; omega))

set_option maxHeartbeats 1000000 in
theorem next_8 (n h ex : Int) (dr : Bool) (pe li ba : Int) (he tl tr : Bool) (w : World) :
    Calls Try.prog 17 #[.agg #[.int .i64 8, .int .i64 n], .agg #[.int .i64 h, .int .i64 ex, .bool dr, .int .i64 pe, .int .i64 li, .int .i64 ba, .bool he, .bool tl, .bool tr]] w fun e w' =>
      e = .returned (.tuple #[.int .u8 (nextC 8 n h ex dr li), .bool (nextC 8 n h ex dr li == 45)]) ∧ Below w.heap.size w w' := by
  go_enter Try.func17, Try.ntmps17
  go_wp2
  all_goals
    go_returns
    refine ⟨B.ret_pair ?_ ?_, by go_grown⟩
    all_goals
      go_light
      first
        | (simp [nextC, *]; done)
        | (simp [nextC, *]; omega)
        | (simp [nextC]; (repeat' split) <;> first | omega | (simp_all; done) | (simp_all; omega))

set_option maxHeartbeats 1000000 in
theorem next_other (k n h ex : Int) (dr : Bool) (pe li ba : Int) (he tl tr : Bool) (w : World) (n1 : (k == 1) = false) (n2 : (k == 2) = false) (n3 : (k == 3) = false) (n4 : (k == 4) = false) (n5 : (k == 5) = false) (n6 : (k == 6) = false) (n7 : (k == 7) = false) (n8 : (k == 8) = false) :
    Calls Try.prog 17 #[.agg #[.int .i64 k, .int .i64 n], .agg #[.int .i64 h, .int .i64 ex, .bool dr, .int .i64 pe, .int .i64 li, .int .i64 ba, .bool he, .bool tl, .bool tr]] w fun e w' =>
      e = .returned (.tuple #[.int .u8 (nextC k n h ex dr li), .bool (nextC k n h ex dr li == 45)]) ∧ Below w.heap.size w w' := by
  have K : Hid (nextC k n h ex dr li = 45) := by
    show _ = _
    simp only [beq_eq_false_iff_ne, ne_eq] at *
    simp [nextC, n1, n2, n3, n4, n5, n6, n7, n8]
  go_enter Try.func17, Try.ntmps17
  go_wp2
  all_goals
    go_returns
    exact ⟨B.ret_pair K.out.symm (by rw [K.out]; rfl), by go_grown⟩

theorem next_any (k n h ex : Int) (dr : Bool) (pe li ba : Int) (he tl tr : Bool) (w : World) :
    Calls Try.prog 17 #[.agg #[.int .i64 k, .int .i64 n], .agg #[.int .i64 h, .int .i64 ex, .bool dr, .int .i64 pe, .int .i64 li, .int .i64 ba, .bool he, .bool tl, .bool tr]] w fun e w' =>
      e = .returned (.tuple #[.int .u8 (nextC k n h ex dr li), .bool (nextC k n h ex dr li == 45)]) ∧ Below w.heap.size w w' := by
  by_cases n1 : k = 1
  · subst n1; exact next_1 n h ex dr pe li ba he tl tr w
  by_cases n2 : k = 2
  · subst n2; exact next_2 n h ex dr pe li ba he tl tr w
  by_cases n3 : k = 3
  · subst n3; exact next_3 n h ex dr pe li ba he tl tr w
  by_cases n4 : k = 4
  · subst n4; exact next_4 n h ex dr pe li ba he tl tr w
  by_cases n5 : k = 5
  · subst n5; exact next_5 n h ex dr pe li ba he tl tr w
  by_cases n6 : k = 6
  · subst n6; exact next_6 n h ex dr pe li ba he tl tr w
  by_cases n7 : k = 7
  · subst n7; exact next_7 n h ex dr pe li ba he tl tr w
  by_cases n8 : k = 8
  · subst n8; exact next_8 n h ex dr pe li ba he tl tr w
  exact next_other k n h ex dr pe li ba he tl tr w (by simpa using n1) (by simpa using n2) (by simpa using n3) (by simpa using n4) (by simpa using n5) (by simpa using n6) (by simpa using n7) (by simpa using n8)


end Go.Proofs.Yticjjnmmedmbiab
