/- Chapter 4, the statement 'GoalSays': for every goal and every reading of the machine, what is to be done is what the document says (D1); no condition. -/
import Derived.Test.YticjjnmmedmbiaaBase
namespace Go.Proofs.Yticjjnmmedmbiaa
open Go.ChangeShapes Go.WideShapes Go.ChangeAt Go.RowKit
set_option maxRecDepth 100000
set_option linter.unusedSimpArgs false
set_option linter.unusedVariables false

def nextC (k n h ex : Int) (dr : Bool) (li : Int) : Int :=
  if k = 1 then (if h < n then 117 else if n < h then 100 else 45)
  else if k = 2 then (if ex < n then 114 else if n < ex then 108 else 45)
  else if k = 3 then (if li = 0 then 103 else 45)
  else if k = 4 then (if li = 0 then 45 else 112)
  else if k = 5 then (if dr = true then 99 else 45)
  else if k = 6 then (if dr = true then 45 else 111)
  else if k = 7 then (if li = 0 then 110 else 45)
  else if k = 8 then (if li = 0 then 45 else 120)
  else 45

set_option maxHeartbeats 1000000 in
theorem next_1 (n h ex : Int) (dr : Bool) (pe li ba : Int) (he tl tr : Bool) (w : World) :
    Calls Try.prog 47 #[.agg #[.int .i64 1, .int .i64 n], .agg #[.int .i64 h, .int .i64 ex, .bool dr, .int .i64 pe, .int .i64 li, .int .i64 ba, .bool he, .bool tl, .bool tr]] w fun e w' =>
      e = .returned (.tuple #[.int .u8 (nextC 1 n h ex dr li), .bool (nextC 1 n h ex dr li == 45)]) ∧ Below w.heap.size w w' := by
  go_enter Try.func47, Try.ntmps47
  go_wp2
  all_goals
    go_returns
    refine ⟨B.ret_pair ?_ ?_, by go_grown⟩
    all_goals
      go_light
      first
        | (simp [nextC, *]; done)
        | (simp [nextC, *]; omega)
        | (simp [nextC]; (repeat' split) <;> first | omega | (simp_all; done) | (simp_all; omega))

set_option maxHeartbeats 1000000 in
theorem next_2 (n h ex : Int) (dr : Bool) (pe li ba : Int) (he tl tr : Bool) (w : World) :
    Calls Try.prog 47 #[.agg #[.int .i64 2, .int .i64 n], .agg #[.int .i64 h, .int .i64 ex, .bool dr, .int .i64 pe, .int .i64 li, .int .i64 ba, .bool he, .bool tl, .bool tr]] w fun e w' =>
      e = .returned (.tuple #[.int .u8 (nextC 2 n h ex dr li), .bool (nextC 2 n h ex dr li == 45)]) ∧ Below w.heap.size w w' := by
  go_enter Try.func47, Try.ntmps47
  go_wp2
  all_goals
    go_returns
    refine ⟨B.ret_pair ?_ ?_, by go_grown⟩
    all_goals
      go_light
      first
        | (simp [nextC, *]; done)
        | (simp [nextC, *]; omega)
        | (simp [nextC]; (repeat' split) <;> first | omega | (simp_all; done) | (simp_all; omega))

set_option maxHeartbeats 1000000 in
theorem next_3 (n h ex : Int) (dr : Bool) (pe li ba : Int) (he tl tr : Bool) (w : World) :
    Calls Try.prog 47 #[.agg #[.int .i64 3, .int .i64 n], .agg #[.int .i64 h, .int .i64 ex, .bool dr, .int .i64 pe, .int .i64 li, .int .i64 ba, .bool he, .bool tl, .bool tr]] w fun e w' =>
      e = .returned (.tuple #[.int .u8 (nextC 3 n h ex dr li), .bool (nextC 3 n h ex dr li == 45)]) ∧ Below w.heap.size w w' := by
  go_enter Try.func47, Try.ntmps47
  go_wp2
  all_goals
    go_returns
    refine ⟨B.ret_pair ?_ ?_, by go_grown⟩
    all_goals
      go_light
      first
        | (simp [nextC, *]; done)
        | (simp [nextC, *]; omega)
        | (simp [nextC]; (repeat' split) <;> first | omega | (simp_all; done) | (simp_all; omega))

set_option maxHeartbeats 1000000 in
theorem next_4 (n h ex : Int) (dr : Bool) (pe li ba : Int) (he tl tr : Bool) (w : World) :
    Calls Try.prog 47 #[.agg #[.int .i64 4, .int .i64 n], .agg #[.int .i64 h, .int .i64 ex, .bool dr, .int .i64 pe, .int .i64 li, .int .i64 ba, .bool he, .bool tl, .bool tr]] w fun e w' =>
      e = .returned (.tuple #[.int .u8 (nextC 4 n h ex dr li), .bool (nextC 4 n h ex dr li == 45)]) ∧ Below w.heap.size w w' := by
  go_enter Try.func47, Try.ntmps47
  go_wp2
  all_goals
    go_returns
    refine ⟨B.ret_pair ?_ ?_, by go_grown⟩
    all_goals
      go_light
      first
        | (simp [nextC, *]; done)
        | (simp [nextC, *]; omega)
        | (simp [nextC]; (repeat' split) <;> first | omega | (simp_all; done) | (simp_all; omega))

set_option maxHeartbeats 1000000 in
theorem next_5 (n h ex : Int) (dr : Bool) (pe li ba : Int) (he tl tr : Bool) (w : World) :
    Calls Try.prog 47 #[.agg #[.int .i64 5, .int .i64 n], .agg #[.int .i64 h, .int .i64 ex, .bool dr, .int .i64 pe, .int .i64 li, .int .i64 ba, .bool he, .bool tl, .bool tr]] w fun e w' =>
      e = .returned (.tuple #[.int .u8 (nextC 5 n h ex dr li), .bool (nextC 5 n h ex dr li == 45)]) ∧ Below w.heap.size w w' := by
  go_enter Try.func47, Try.ntmps47
  go_wp2
  all_goals
    go_returns
    refine ⟨B.ret_pair ?_ ?_, by go_grown⟩
    all_goals
      go_light
      first
        | (simp [nextC, *]; done)
        | (simp [nextC, *]; omega)
        | (simp [nextC]; (repeat' split) <;> first | omega | (simp_all; done) | (simp_all; omega))

set_option maxHeartbeats 1000000 in
theorem next_6 (n h ex : Int) (dr : Bool) (pe li ba : Int) (he tl tr : Bool) (w : World) :
    Calls Try.prog 47 #[.agg #[.int .i64 6, .int .i64 n], .agg #[.int .i64 h, .int .i64 ex, .bool dr, .int .i64 pe, .int .i64 li, .int .i64 ba, .bool he, .bool tl, .bool tr]] w fun e w' =>
      e = .returned (.tuple #[.int .u8 (nextC 6 n h ex dr li), .bool (nextC 6 n h ex dr li == 45)]) ∧ Below w.heap.size w w' := by
  go_enter Try.func47, Try.ntmps47
  go_wp2
  all_goals
    go_returns
    refine ⟨B.ret_pair ?_ ?_, by go_grown⟩
    all_goals
      go_light
      first
        | (simp [nextC, *]; done)
        | (simp [nextC, *]; omega)
        | (simp [nextC]; (repeat' split) <;> first | omega | (simp_all; done) | (simp_all; omega))

set_option maxHeartbeats 1000000 in
theorem next_7 (n h ex : Int) (dr : Bool) (pe li ba : Int) (he tl tr : Bool) (w : World) :
    Calls Try.prog 47 #[.agg #[.int .i64 7, .int .i64 n], .agg #[.int .i64 h, .int .i64 ex, .bool dr, .int .i64 pe, .int .i64 li, .int .i64 ba, .bool he, .bool tl, .bool tr]] w fun e w' =>
      e = .returned (.tuple #[.int .u8 (nextC 7 n h ex dr li), .bool (nextC 7 n h ex dr li == 45)]) ∧ Below w.heap.size w w' := by
  go_enter Try.func47, Try.ntmps47
  go_wp2
  all_goals
    go_returns
    refine ⟨B.ret_pair ?_ ?_, by go_grown⟩
    all_goals
      go_light
      first
        | (simp [nextC, *]; done)
        | (simp [nextC, *]; omega)
        | (simp [nextC]; (repeat' split) <;> first | omega | (simp_all; done) | (simp_all; omega))

set_option maxHeartbeats 1000000 in
theorem next_8 (n h ex : Int) (dr : Bool) (pe li ba : Int) (he tl tr : Bool) (w : World) :
    Calls Try.prog 47 #[.agg #[.int .i64 8, .int .i64 n], .agg #[.int .i64 h, .int .i64 ex, .bool dr, .int .i64 pe, .int .i64 li, .int .i64 ba, .bool he, .bool tl, .bool tr]] w fun e w' =>
      e = .returned (.tuple #[.int .u8 (nextC 8 n h ex dr li), .bool (nextC 8 n h ex dr li == 45)]) ∧ Below w.heap.size w w' := by
  go_enter Try.func47, Try.ntmps47
  go_wp2
  all_goals
    go_returns
    refine ⟨B.ret_pair ?_ ?_, by go_grown⟩
    all_goals
      go_light
      first
        | (simp [nextC, *]; done)
        | (simp [nextC, *]; omega)
        | (simp [nextC]; (repeat' split) <;> first | omega | (simp_all; done) | (simp_all; omega))

set_option maxHeartbeats 1000000 in
theorem next_other (k n h ex : Int) (dr : Bool) (pe li ba : Int) (he tl tr : Bool) (w : World) (n1 : (k == 1) = false) (n2 : (k == 2) = false) (n3 : (k == 3) = false) (n4 : (k == 4) = false) (n5 : (k == 5) = false) (n6 : (k == 6) = false) (n7 : (k == 7) = false) (n8 : (k == 8) = false) :
    Calls Try.prog 47 #[.agg #[.int .i64 k, .int .i64 n], .agg #[.int .i64 h, .int .i64 ex, .bool dr, .int .i64 pe, .int .i64 li, .int .i64 ba, .bool he, .bool tl, .bool tr]] w fun e w' =>
      e = .returned (.tuple #[.int .u8 (nextC k n h ex dr li), .bool (nextC k n h ex dr li == 45)]) ∧ Below w.heap.size w w' := by
  have K : Hid (nextC k n h ex dr li = 45) := by
    show _ = _
    simp only [beq_eq_false_iff_ne, ne_eq] at *
    simp [nextC, n1, n2, n3, n4, n5, n6, n7, n8]
  go_enter Try.func47, Try.ntmps47
  go_wp2
  all_goals
    go_returns
    exact ⟨B.ret_pair K.out.symm (by rw [K.out]; rfl), by go_grown⟩

theorem next_any (k n h ex : Int) (dr : Bool) (pe li ba : Int) (he tl tr : Bool) (w : World) :
    Calls Try.prog 47 #[.agg #[.int .i64 k, .int .i64 n], .agg #[.int .i64 h, .int .i64 ex, .bool dr, .int .i64 pe, .int .i64 li, .int .i64 ba, .bool he, .bool tl, .bool tr]] w fun e w' =>
      e = .returned (.tuple #[.int .u8 (nextC k n h ex dr li), .bool (nextC k n h ex dr li == 45)]) ∧ Below w.heap.size w w' := by
  by_cases n1 : k = 1
  · subst n1; exact next_1 n h ex dr pe li ba he tl tr w
  by_cases n2 : k = 2
  · subst n2; exact next_2 n h ex dr pe li ba he tl tr w
  by_cases n3 : k = 3
  · subst n3; exact next_3 n h ex dr pe li ba he tl tr w
  by_cases n4 : k = 4
  · subst n4; exact next_4 n h ex dr pe li ba he tl tr w
  by_cases n5 : k = 5
  · subst n5; exact next_5 n h ex dr pe li ba he tl tr w
  by_cases n6 : k = 6
  · subst n6; exact next_6 n h ex dr pe li ba he tl tr w
  by_cases n7 : k = 7
  · subst n7; exact next_7 n h ex dr pe li ba he tl tr w
  by_cases n8 : k = 8
  · subst n8; exact next_8 n h ex dr pe li ba he tl tr w
  exact next_other k n h ex dr pe li ba he tl tr w (by simpa using n1) (by simpa using n2) (by simpa using n3) (by simpa using n4) (by simpa using n5) (by simpa using n6) (by simpa using n7) (by simpa using n8)

set_option maxHeartbeats 1000000 in
theorem rnext_1 (n h ex : Int) (dr : Bool) (pe li ba : Int) (he tl tr : Bool) (w : World) :
    Calls Try.prog 48 #[.agg #[.int .i64 1, .int .i64 n], .agg #[.int .i64 h, .int .i64 ex, .bool dr, .int .i64 pe, .int .i64 li, .int .i64 ba, .bool he, .bool tl, .bool tr]] w fun e w' =>
      e = .returned (.tuple #[.int .u8 (nextC 1 n h ex dr li), .bool (nextC 1 n h ex dr li == 45)]) ∧ Below w.heap.size w w' := by
  go_enter Try.func48, Try.ntmps48
  go_wp2
  all_goals
    go_returns
    refine ⟨B.ret_pair ?_ ?_, by go_grown⟩
    all_goals
      go_light
      first
        | (simp [nextC, *]; done)
        | (simp [nextC, *]; omega)
        | (simp [nextC]; (repeat' split) <;> first | omega | (simp_all; done) | (simp_all; omega))

set_option maxHeartbeats 1000000 in
theorem rnext_2 (n h ex : Int) (dr : Bool) (pe li ba : Int) (he tl tr : Bool) (w : World) :
    Calls Try.prog 48 #[.agg #[.int .i64 2, .int .i64 n], .agg #[.int .i64 h, .int .i64 ex, .bool dr, .int .i64 pe, .int .i64 li, .int .i64 ba, .bool he, .bool tl, .bool tr]] w fun e w' =>
      e = .returned (.tuple #[.int .u8 (nextC 2 n h ex dr li), .bool (nextC 2 n h ex dr li == 45)]) ∧ Below w.heap.size w w' := by
  go_enter Try.func48, Try.ntmps48
  go_wp2
  all_goals
    go_returns
    refine ⟨B.ret_pair ?_ ?_, by go_grown⟩
    all_goals
      go_light
      first
        | (simp [nextC, *]; done)
        | (simp [nextC, *]; omega)
        | (simp [nextC]; (repeat' split) <;> first | omega | (simp_all; done) | (simp_all; omega))

set_option maxHeartbeats 1000000 in
theorem rnext_3 (n h ex : Int) (dr : Bool) (pe li ba : Int) (he tl tr : Bool) (w : World) :
    Calls Try.prog 48 #[.agg #[.int .i64 3, .int .i64 n], .agg #[.int .i64 h, .int .i64 ex, .bool dr, .int .i64 pe, .int .i64 li, .int .i64 ba, .bool he, .bool tl, .bool tr]] w fun e w' =>
      e = .returned (.tuple #[.int .u8 (nextC 3 n h ex dr li), .bool (nextC 3 n h ex dr li == 45)]) ∧ Below w.heap.size w w' := by
  go_enter Try.func48, Try.ntmps48
  go_wp2
  all_goals
    go_returns
    refine ⟨B.ret_pair ?_ ?_, by go_grown⟩
    all_goals
      go_light
      first
        | (simp [nextC, *]; done)
        | (simp [nextC, *]; omega)
        | (simp [nextC]; (repeat' split) <;> first | omega | (simp_all; done) | (simp_all; omega))

set_option maxHeartbeats 1000000 in
theorem rnext_4 (n h ex : Int) (dr : Bool) (pe li ba : Int) (he tl tr : Bool) (w : World) :
    Calls Try.prog 48 #[.agg #[.int .i64 4, .int .i64 n], .agg #[.int .i64 h, .int .i64 ex, .bool dr, .int .i64 pe, .int .i64 li, .int .i64 ba, .bool he, .bool tl, .bool tr]] w fun e w' =>
      e = .returned (.tuple #[.int .u8 (nextC 4 n h ex dr li), .bool (nextC 4 n h ex dr li == 45)]) ∧ Below w.heap.size w w' := by
  go_enter Try.func48, Try.ntmps48
  go_wp2
  all_goals
    go_returns
    refine ⟨B.ret_pair ?_ ?_, by go_grown⟩
    all_goals
      go_light
      first
        | (simp [nextC, *]; done)
        | (simp [nextC, *]; omega)
        | (simp [nextC]; (repeat' split) <;> first | omega | (simp_all; done) | (simp_all; omega))

set_option maxHeartbeats 1000000 in
theorem rnext_5 (n h ex : Int) (dr : Bool) (pe li ba : Int) (he tl tr : Bool) (w : World) :
    Calls Try.prog 48 #[.agg #[.int .i64 5, .int .i64 n], .agg #[.int .i64 h, .int .i64 ex, .bool dr, .int .i64 pe, .int .i64 li, .int .i64 ba, .bool he, .bool tl, .bool tr]] w fun e w' =>
      e = .returned (.tuple #[.int .u8 (nextC 5 n h ex dr li), .bool (nextC 5 n h ex dr li == 45)]) ∧ Below w.heap.size w w' := by
  go_enter Try.func48, Try.ntmps48
  go_wp2
  all_goals
    go_returns
    refine ⟨B.ret_pair ?_ ?_, by go_grown⟩
    all_goals
      go_light
      first
        | (simp [nextC, *]; done)
        | (simp [nextC, *]; omega)
        | (simp [nextC]; (repeat' split) <;> first | omega | (simp_all; done) | (simp_all; omega))

set_option maxHeartbeats 1000000 in
theorem rnext_6 (n h ex : Int) (dr : Bool) (pe li ba : Int) (he tl tr : Bool) (w : World) :
    Calls Try.prog 48 #[.agg #[.int .i64 6, .int .i64 n], .agg #[.int .i64 h, .int .i64 ex, .bool dr, .int .i64 pe, .int .i64 li, .int .i64 ba, .bool he, .bool tl, .bool tr]] w fun e w' =>
      e = .returned (.tuple #[.int .u8 (nextC 6 n h ex dr li), .bool (nextC 6 n h ex dr li == 45)]) ∧ Below w.heap.size w w' := by
  go_enter Try.func48, Try.ntmps48
  go_wp2
  all_goals
    go_returns
    refine ⟨B.ret_pair ?_ ?_, by go_grown⟩
    all_goals
      go_light
      first
        | (simp [nextC, *]; done)
        | (simp [nextC, *]; omega)
        | (simp [nextC]; (repeat' split) <;> first | omega | (simp_all; done) | (simp_all; omega))

set_option maxHeartbeats 1000000 in
theorem rnext_7 (n h ex : Int) (dr : Bool) (pe li ba : Int) (he tl tr : Bool) (w : World) :
    Calls Try.prog 48 #[.agg #[.int .i64 7, .int .i64 n], .agg #[.int .i64 h, .int .i64 ex, .bool dr, .int .i64 pe, .int .i64 li, .int .i64 ba, .bool he, .bool tl, .bool tr]] w fun e w' =>
      e = .returned (.tuple #[.int .u8 (nextC 7 n h ex dr li), .bool (nextC 7 n h ex dr li == 45)]) ∧ Below w.heap.size w w' := by
  go_enter Try.func48, Try.ntmps48
  go_wp2
  all_goals
    go_returns
    refine ⟨B.ret_pair ?_ ?_, by go_grown⟩
    all_goals
      go_light
      first
        | (simp [nextC, *]; done)
        | (simp [nextC, *]; omega)
        | (simp [nextC]; (repeat' split) <;> first | omega | (simp_all; done) | (simp_all; omega))

set_option maxHeartbeats 1000000 in
theorem rnext_8 (n h ex : Int) (dr : Bool) (pe li ba : Int) (he tl tr : Bool) (w : World) :
    Calls Try.prog 48 #[.agg #[.int .i64 8, .int .i64 n], .agg #[.int .i64 h, .int .i64 ex, .bool dr, .int .i64 pe, .int .i64 li, .int .i64 ba, .bool he, .bool tl, .bool tr]] w fun e w' =>
      e = .returned (.tuple #[.int .u8 (nextC 8 n h ex dr li), .bool (nextC 8 n h ex dr li == 45)]) ∧ Below w.heap.size w w' := by
  go_enter Try.func48, Try.ntmps48
  go_wp2
  all_goals
    go_returns
    refine ⟨B.ret_pair ?_ ?_, by go_grown⟩
    all_goals
      go_light
      first
        | (simp [nextC, *]; done)
        | (simp [nextC, *]; omega)
        | (simp [nextC]; (repeat' split) <;> first | omega | (simp_all; done) | (simp_all; omega))

set_option maxHeartbeats 1000000 in
theorem rnext_other (k n h ex : Int) (dr : Bool) (pe li ba : Int) (he tl tr : Bool) (w : World) (n1 : (k == 1) = false) (n2 : (k == 2) = false) (n3 : (k == 3) = false) (n4 : (k == 4) = false) (n5 : (k == 5) = false) (n6 : (k == 6) = false) (n7 : (k == 7) = false) (n8 : (k == 8) = false) :
    Calls Try.prog 48 #[.agg #[.int .i64 k, .int .i64 n], .agg #[.int .i64 h, .int .i64 ex, .bool dr, .int .i64 pe, .int .i64 li, .int .i64 ba, .bool he, .bool tl, .bool tr]] w fun e w' =>
      e = .returned (.tuple #[.int .u8 (nextC k n h ex dr li), .bool (nextC k n h ex dr li == 45)]) ∧ Below w.heap.size w w' := by
  have K : Hid (nextC k n h ex dr li = 45) := by
    show _ = _
    simp only [beq_eq_false_iff_ne, ne_eq] at *
    simp [nextC, n1, n2, n3, n4, n5, n6, n7, n8]
  go_enter Try.func48, Try.ntmps48
  go_wp2
  all_goals
    go_returns
    exact ⟨B.ret_pair K.out.symm (by rw [K.out]; rfl), by go_grown⟩

theorem rnext_any (k n h ex : Int) (dr : Bool) (pe li ba : Int) (he tl tr : Bool) (w : World) :
    Calls Try.prog 48 #[.agg #[.int .i64 k, .int .i64 n], .agg #[.int .i64 h, .int .i64 ex, .bool dr, .int .i64 pe, .int .i64 li, .int .i64 ba, .bool he, .bool tl, .bool tr]] w fun e w' =>
      e = .returned (.tuple #[.int .u8 (nextC k n h ex dr li), .bool (nextC k n h ex dr li == 45)]) ∧ Below w.heap.size w w' := by
  by_cases n1 : k = 1
  · subst n1; exact rnext_1 n h ex dr pe li ba he tl tr w
  by_cases n2 : k = 2
  · subst n2; exact rnext_2 n h ex dr pe li ba he tl tr w
  by_cases n3 : k = 3
  · subst n3; exact rnext_3 n h ex dr pe li ba he tl tr w
  by_cases n4 : k = 4
  · subst n4; exact rnext_4 n h ex dr pe li ba he tl tr w
  by_cases n5 : k = 5
  · subst n5; exact rnext_5 n h ex dr pe li ba he tl tr w
  by_cases n6 : k = 6
  · subst n6; exact rnext_6 n h ex dr pe li ba he tl tr w
  by_cases n7 : k = 7
  · subst n7; exact rnext_7 n h ex dr pe li ba he tl tr w
  by_cases n8 : k = 8
  · subst n8; exact rnext_8 n h ex dr pe li ba he tl tr w
  exact rnext_other k n h ex dr pe li ba he tl tr w (by simpa using n1) (by simpa using n2) (by simpa using n3) (by simpa using n4) (by simpa using n5) (by simpa using n6) (by simpa using n7) (by simpa using n8)

set_option maxHeartbeats 1000000 in
theorem goals_any (w : World) : Calls Try.prog 46 #[] w fun e w' => e = .returned (.bool true) ∧ Below w.heap.size w w' := by
  go_enter Try.func46, Try.ntmps46
  go_wp2_with fail
  refine (next_any _ _ _ _ _ _ _ _ _ _ _ _).mono ?_
  rintro e w1 ⟨rfl, hb1⟩
  rw [show nextC 1 3 1 0 false 0 = 117 from by decide]
  go_wp2
  go_returns
  exact ⟨by simp, hb1⟩

set_option maxHeartbeats 1000000 in
theorem goalSays_any (k n h ex : Int) (dr : Bool) (pe li ba : Int) (he tl tr : Bool) (w : World) :
    Calls Try.prog 6 #[.agg #[.int .i64 k, .int .i64 n], .agg #[.int .i64 h, .int .i64 ex, .bool dr, .int .i64 pe, .int .i64 li, .int .i64 ba, .bool he, .bool tl, .bool tr]] w fun e w' => e = .returned (.bool true) ∧ Below w.heap.size w w' := by
  go_enter Try.func6, Try.ntmps6
  go_wp2_with fail
  refine (goals_any _).mono ?_
  rintro e w1 ⟨rfl, hb1⟩
  have z1 : w.heap.size + 2 ≤ w1.heap.size := by have := hb1.size; simp at this; omega
  have g1 := B.row hb1 (B.row_old _ (B.row_new w _ _) (by simp)) (by simp; omega)
  have s1 := B.row hb1 (B.row_new (w.alloc (.cells #[.int .i64 k, .int .i64 n] 74)) _ _) (by simp)
  rw [show (w.alloc (.cells #[.int .i64 k, .int .i64 n] 74)).heap.size = w.heap.size + 1 from by simp] at s1
  have B1 : Hid (Below w.heap.size w w1) := B.next ((B.new1 _ _).trans ((B.new1 _ _).mono (by simp))) hb1 (by simp; omega)
  clear hb1
  go_wp2_with fail
  refine (next_any _ _ _ _ _ _ _ _ _ _ _ _).mono ?_
  rintro e w2 ⟨rfl, hb2⟩
  have z2 : w.heap.size + 2 ≤ w2.heap.size := by have := hb2.size; omega
  have g2 := B.row hb2 g1 (by omega)
  have s2 := B.row hb2 s1 (by omega)
  have B2 : Hid (Below w.heap.size w w2) := B.next B1.out hb2 (by omega)
  clear hb2 B1 g1 s1
  go_wp2_with fail
  refine (rnext_any _ _ _ _ _ _ _ _ _ _ _ _).mono ?_
  rintro e w3 ⟨rfl, hb3⟩
  have B3 : Hid (Below w.heap.size w w3) := B.next B2.out hb3 (by omega)
  clear hb3 B2 g2 s2
  go_wp2
  go_returns
  exact ⟨by simp, B3.out⟩

/-- The statement: for every input 'GoalSays' answers true. -/
theorem goalSays_holds : Rows.GoalSaysSaid :=
  OpenClaim.holds_of_wide 6 Try.f6 rfl rfl rfl rfl rfl rfl rfl ⟨rfl, rfl, rfl, rfl, rfl⟩ rfl rfl rfl rfl rfl (by kernel_rfl) Try.func6 (by kernel_rfl)
    (of_decide_eq_true (by kernel_rfl)) (by unfold Func.isWrapper; first | (rw [if_pos (by decide +kernel)]; kernel_rfl) | (rw [if_neg (by decide +kernel)]; exact ⟨rfl, rfl⟩))
    (fun os started H enc _ => law_lifted (s := Rows.goalSaysSpec) os started H enc (by kernel_rfl) Try.func6
      (ChangeSpec.witness6 (enc := enc) (C := Try.checked) false ⟨#[], #[.agg #[.int .i64 0, .int .i64 0], .agg #[.int .i64 0, .int .i64 0, .bool false, .int .i64 0, .int .i64 0, .int .i64 0, .bool false, .bool false, .bool false]], []⟩ 8 (by kernel_rfl) (by kernel_rfl) (by kernel_rfl) (by kernel_rfl))
      (by kernel_rfl) (by kernel_rfl) rfl
      (fun ds h => by
        match ds, h with
        | [d1, d2], _ => rfl)
      (fun W base args ds p hval hsz hA hlt => by
        rw [Try.params6] at hval hA
        obtain ⟨a, b, rfl⟩ := array_args2 (hsz.trans (by rw [Try.params6]; rfl))
        obtain ⟨k, n, rfl, _, _⟩ := open_goal (hval 0 74 a rfl rfl)
        obtain ⟨h, ex, dr, pe, li, ba, he, tl, tr, rfl, _⟩ := open_sensed (hval 1 71 b rfl rfl)
        exact goalSays_any k n h ex dr pe li ba he tl tr W))

end Go.Proofs.Yticjjnmmedmbiaa
