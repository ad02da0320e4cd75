/- Chapter 3: what may be done (C1): the guard's May and the document's say the same, whatever is seen; 'GuardSays' is proved of every byte and every reading. -/
import Derived.Test.YticjjnmmedmbiabKit
import Derived.WalkSpells
import Derived.WalkLawsBesides
import Derived.Deep.QuietTactic
import Derived.BigQuiet
import Derived.Deep.RegionWith
namespace Go.Proofs.Yticjjnmmedmbiab
open Go.ChangeShapes Go.WideShapes Go.ChangeAt Go.RowKit
set_option maxRecDepth 100000
set_option linter.unusedSimpArgs false
set_option linter.unusedVariables false

def levelB (h : Int) : Bool := decide (0 < h) && (h % 3 == 0)
def closedB (dr : Bool) (pe : Int) : Bool := !dr && (pe == 0)
def belowB (h ex : Int) : Bool := (h == 0) && (ex == 0)
def reachB (x h li : Int) (car : Bool) : Bool := decide (-2 ≤ x ∧ x ≤ 2) && ((x == 0) || levelB h && ((li == 0) || !car))

def mayB (c h ex : Int) (dr : Bool) (pe li ba : Int) (he tl tr : Bool) : Bool :=
  if c = 45 then true
  else if c = 117 ∨ c = 100 then (ex == 0) && closedB dr pe
  else if c = 108 then reachB (ex - 1) h li tl
  else if c = 114 then reachB (ex + 1) h li tr
  else if c = 103 then levelB h && (ex != 0) && (li == 0) && he
  else if c = 112 then levelB h && (ex != 0) && (li != 0) && !he
  else if c = 111 then belowB h ex
  else if c = 99 then pe == 0
  else if c = 110 then belowB h ex && closedB dr pe && (li == 0) && (ba != 0)
  else if c = 120 then belowB h ex && closedB dr pe && (li != 0) && (ba == 0)
  else false

theorem i64_bounds {n : Int} (h : IntKind.i64.has n) : -9223372036854775808 ≤ n ∧ n ≤ 9223372036854775807 := by
  simpa [IntKind.has, IntKind.min, IntKind.max, IntKind.bits, IntKind.signed] using h

set_option maxHeartbeats 400000 in
theorem closed_any (h ex : Int) (dr : Bool) (pe li ba : Int) (he tl tr : Bool) (w : World) :
    Calls Try.prog 113 #[.agg #[.int .i64 h, .int .i64 ex, .bool dr, .int .i64 pe, .int .i64 li, .int .i64 ba, .bool he, .bool tl, .bool tr]] w fun e w' => e = .returned (.bool (closedB dr pe)) ∧ Below w.heap.size w w' := by
  cases dr
  all_goals
    go_enter Try.func113, Try.ntmps113
    go_wp2
    go_returns
    exact ⟨by simp [closedB], by go_grown⟩

set_option maxHeartbeats 400000 in
theorem below_any (h ex : Int) (dr : Bool) (pe li ba : Int) (he tl tr : Bool) (w : World) :
    Calls Try.prog 116 #[.agg #[.int .i64 h, .int .i64 ex, .bool dr, .int .i64 pe, .int .i64 li, .int .i64 ba, .bool he, .bool tl, .bool tr]] w fun e w' => e = .returned (.bool (belowB h ex)) ∧ Below w.heap.size w w' := by
  by_cases c : h = 0
  · subst c
    go_enter Try.func116, Try.ntmps116
    go_wp2
    go_returns
    exact ⟨by simp [belowB], by go_grown⟩
  · have c' : (h == 0) = false := by simpa using c
    go_enter Try.func116, Try.ntmps116
    go_wp2
    go_returns
    exact ⟨by simp [belowB, c'], by go_grown⟩

set_option maxHeartbeats 400000 in
theorem level_any (h ex : Int) (dr : Bool) (pe li ba : Int) (he tl tr : Bool) (w : World) (hh : IntKind.i64.has h) :
    Calls Try.prog 115 #[.agg #[.int .i64 h, .int .i64 ex, .bool dr, .int .i64 pe, .int .i64 li, .int .i64 ba, .bool he, .bool tl, .bool tr]] w fun e w' => e = .returned (.bool (levelB h)) ∧ Below w.heap.size w w' := by
  have hb := i64_bounds hh
  by_cases c : 0 < h
  · go_enter Try.func115, Try.ntmps115
    go_wp2
    go_returns
    exact ⟨by simp [levelB, c], by go_grown⟩
  · have c' : decide (0 < h) = false := by simpa using c
    go_enter Try.func115, Try.ntmps115
    go_wp2
    go_returns
    exact ⟨by simp [levelB, c'], by go_grown⟩

set_option maxHeartbeats 1000000 in
theorem reach_any (x : Int) (car : Bool) (h ex : Int) (dr : Bool) (pe li ba : Int) (he tl tr : Bool) (w : World) (hh : IntKind.i64.has h) :
    Calls Try.prog 114 #[.int .i64 x, .bool car, .agg #[.int .i64 h, .int .i64 ex, .bool dr, .int .i64 pe, .int .i64 li, .int .i64 ba, .bool he, .bool tl, .bool tr]] w fun e w' => e = .returned (.bool (reachB x h li car)) ∧ Below w.heap.size w w' := by
  have hb := i64_bounds hh
  clear hh
  by_cases c1 : x < -2
  · have g : decide (-2 ≤ x ∧ x ≤ 2) = false := by simp; omega
    go_enter Try.func114, Try.ntmps114
    go_wp2
    go_returns
    exact ⟨by simp [reachB, g], by go_grown⟩
  by_cases c2 : 2 < x
  · have g : decide (-2 ≤ x ∧ x ≤ 2) = false := by simp; omega
    go_enter Try.func114, Try.ntmps114
    go_wp2
    go_returns
    exact ⟨by simp [reachB, g], by go_grown⟩
  have G : Hid (decide (-2 ≤ x ∧ x ≤ 2) = true) := by show _ = _; simp; omega
  by_cases c3 : x = 0
  · subst c3
    go_enter Try.func114, Try.ntmps114
    go_wp2
    go_returns
    exact ⟨by simp [reachB], by go_grown⟩
  have c3' : (x == 0) = false := by simpa using c3
  clear c3
  by_cases p : 0 < h
  · cases q : (h % 3 == 0)
    · go_enter Try.func114, Try.ntmps114
      go_wp2
      go_returns
      exact ⟨by simp [reachB, G.out, levelB, p, q, c3'], by go_grown⟩
    · cases l : (li == 0)
      all_goals
        go_enter Try.func114, Try.ntmps114
        go_wp2
        go_returns
        exact ⟨by simp [reachB, G.out, levelB, p, q, l, c3'], by go_grown⟩
  · have p' : decide (0 < h) = false := by simpa using p
    go_enter Try.func114, Try.ntmps114
    go_wp2
    go_returns
    exact ⟨by simp [reachB, G.out, levelB, p', c3'], by go_grown⟩

theorem ret_bool {a b : Bool} (h : a = b) : Ending.returned (.bool a) = .returned (.bool b) := by rw [h]

end Go.Proofs.Yticjjnmmedmbiab
