/- Chapter 1: what the functions of package tower, and the document's own, answer (A1 to A3); contracts for the laws. -/
import Derived.Test.YtkgicpialdhnhaaDoorBase
namespace Go.Proofs.YtkgicpialdhnhaaDoor
open Go.ChangeShapes Go.WideShapes Go.ChangeAt Go.RowKit
set_option maxRecDepth 100000
set_option linter.unusedSimpArgs false
set_option linter.unusedVariables false

/-- An error of package api by its number, as the walk has it; 0: none. -/
def errV (n : Int) : Value := if n = 0 then .nilIface else .iface 55 (.int .i64 n)
theorem errV0 : errV 0 = .nilIface := rfl
theorem errV_ne {n : Int} (h : n ≠ 0) : errV n = .iface 55 (.int .i64 n) := by simp [errV, h]
theorem ret_err {a b : Int} (h : a = b) : Ending.returned (errV a) = .returned (errV b) := by rw [h]

/-- 0 or 1: is it right? -/
def faultN (b : Bool) : Int := if b = true then 0 else 1
theorem faultN_t : faultN true = 0 := rfl
theorem faultN_f : faultN false = 1 := rfl

def placeB (x y z lv : Int) : Bool := decide (1 ≤ x ∧ x ≤ lv ∧ 0 ≤ y ∧ y ≤ 1 ∧ 0 ≤ z ∧ z ≤ 1)
def sizeB (x y z : Int) : Bool := decide (1 ≤ x ∧ x ≤ 99 ∧ 1 ≤ y ∧ y ≤ 99 ∧ 1 ≤ z ∧ z ≤ 99)
def fitsB (a b c x y z : Int) : Bool := decide (a ≤ x ∧ b ≤ y ∧ c ≤ z)
def extI (y z : Int) : Int := if y = 0 then -(z + 1) else z + 1

set_option maxHeartbeats 400000 in
theorem within_any (n l m : Int) (w : World) : Calls Tryd.prog 50 #[.int .i64 n, .int .i64 l, .int .i64 m] w fun e w' => e = .returned (.bool (decide (l ≤ n ∧ n ≤ m))) ∧ w' = w := by
  go_enter Tryd.func50, Tryd.ntmps50
  go_wp2
  all_goals
    go_returns
    refine ⟨B.ret_bool ?_, rfl⟩
    go_light
    first | (simp [*]; done) | (simp [*]; omega) | (simp; omega)

set_option maxHeartbeats 400000 in
theorem checkPlace_any (x y z lv : Int) (w : World) :
    Calls Tryd.prog 37 #[.agg #[.int .i64 x, .int .i64 y, .int .i64 z], .int .i64 lv] w fun e w' => e = .returned (errV (faultN (placeB x y z lv))) ∧ Below w.heap.size w w' := by
  go_enter Tryd.func37, Tryd.ntmps37
  go_wp2
  all_goals
    go_returns
    refine ⟨?_, by go_grown⟩
    go_light
    cases k : placeB x y z lv <;> first | rfl | (simp [errV, faultN]; done) | (exfalso; simp only [placeB, decide_eq_false_iff_not, decide_eq_true_eq] at k; omega)

set_option maxHeartbeats 400000 in
theorem checkSize_any (x y z : Int) (w : World) :
    Calls Tryd.prog 51 #[.agg #[.int .i64 x, .int .i64 y, .int .i64 z]] w fun e w' => e = .returned (errV (faultN (sizeB x y z))) ∧ Below w.heap.size w w' := by
  go_enter Tryd.func51, Tryd.ntmps51
  go_wp2
  all_goals
    go_returns
    refine ⟨?_, by go_grown⟩
    go_light
    cases k : sizeB x y z <;> first | rfl | (simp [errV, faultN]; done) | (exfalso; simp only [sizeB, decide_eq_false_iff_not, decide_eq_true_eq] at k; omega)

-- left out: this seat has not what it speaks of

-- left out: this seat has not what it speaks of

-- left out: this seat has not what it speaks of

-- left out: this seat has not what it speaks of

-- left out: this seat has not what it speaks of

set_option maxHeartbeats 400000 in
theorem spare_any (n : Int) (w : World) :
    Calls Tryd.prog 53 #[.int .i64 n] w fun e w' => e = .returned (.agg #[.int .i64 n, .int .i64 1, .int .i64 0]) ∧ Below w.heap.size w w' := by
  go_enter Tryd.func53, Tryd.ntmps53
  go_wp2
  go_returns
  exact ⟨rfl, by go_grown⟩

-- left out: this seat has not what it speaks of

set_option maxHeartbeats 400000 in
theorem rplace_any (x y z lv : Int) (w : World) :
    Calls Tryd.prog 19 #[.agg #[.int .i64 x, .int .i64 y, .int .i64 z], .int .i64 lv] w fun e w' => e = .returned (.int .i64 (faultN (placeB x y z lv))) ∧ Below w.heap.size w w' := by
  go_enter Tryd.func19, Tryd.ntmps19
  go_wp2
  all_goals
    go_returns
    refine ⟨?_, by go_grown⟩
    go_light
    cases k : placeB x y z lv <;> first | rfl | (simp [errV, faultN]; done) | (exfalso; simp only [placeB, decide_eq_false_iff_not, decide_eq_true_eq] at k; omega)

set_option maxHeartbeats 400000 in
theorem rsize_any (x y z : Int) (w : World) :
    Calls Tryd.prog 35 #[.agg #[.int .i64 x, .int .i64 y, .int .i64 z]] w fun e w' => e = .returned (.int .i64 (faultN (sizeB x y z))) ∧ Below w.heap.size w w' := by
  go_enter Tryd.func35, Tryd.ntmps35
  go_wp2
  all_goals
    go_returns
    refine ⟨?_, by go_grown⟩
    go_light
    cases k : sizeB x y z <;> first | rfl | (simp [errV, faultN]; done) | (exfalso; simp only [sizeB, decide_eq_false_iff_not, decide_eq_true_eq] at k; omega)

def carN (i x y z : Int) : Int := faultN (decide (1 ≤ i ∧ i ≤ 999) && sizeB x y z)

set_option maxHeartbeats 1000000 in
theorem checkCar_any (i x y z : Int) (w : World) :
    Calls Tryd.prog 36 #[.agg #[.int .i64 i, .int .i64 x, .int .i64 y, .int .i64 z]] w fun e w' => e = .returned (errV (carN i x y z)) ∧ Below w.heap.size w w' := by
  go_enter Tryd.func36, Tryd.ntmps36
  go_wp2
  all_goals
    go_returns
    refine ⟨?_, by go_grown⟩
    go_light
    cases k : sizeB x y z <;> by_cases k2 : 1 ≤ i ∧ i ≤ 999 <;> first | (simp [errV, faultN, carN, k, k2]; done) | (exfalso; simp only [sizeB, decide_eq_false_iff_not, decide_eq_true_eq] at k; omega) | (exfalso; simp only [sizeB, Bool.not_eq_true', Bool.not_eq_false', decide_eq_false_iff_not, decide_eq_true_eq] at *; omega)

set_option maxHeartbeats 1000000 in
theorem rcar_any (i x y z : Int) (w : World) :
    Calls Tryd.prog 18 #[.agg #[.int .i64 i, .int .i64 x, .int .i64 y, .int .i64 z]] w fun e w' => e = .returned (.int .i64 (carN i x y z)) ∧ Below w.heap.size w w' := by
  go_enter Tryd.func18, Tryd.ntmps18
  go_wp2
  all_goals
    go_returns
    refine ⟨?_, by go_grown⟩
    go_light
    cases k : sizeB x y z <;> by_cases k2 : 1 ≤ i ∧ i ≤ 999 <;> first | (simp [errV, faultN, carN, k, k2]; done) | (exfalso; simp only [sizeB, decide_eq_false_iff_not, decide_eq_true_eq] at k; omega) | (exfalso; simp only [sizeB, Bool.not_eq_true', Bool.not_eq_false', decide_eq_false_iff_not, decide_eq_true_eq] at *; omega)

set_option maxHeartbeats 400000 in
theorem same_nil (f : Int) (w : World) : Calls Tryd.prog 7 #[.nilIface, .int .i64 f] w fun e w' => e = .returned (.bool (f == 0)) ∧ w' = w := by
  go_enter Tryd.func7, Tryd.ntmps7
  go_wp2
  go_returns
  exact ⟨rfl, rfl⟩

set_option maxHeartbeats 400000 in
theorem same_err (n f : Int) (w : World) (hf : 0 < f) : Calls Tryd.prog 7 #[.iface 55 (.int .i64 n), .int .i64 f] w fun e w' => e = .returned (.bool (n == f)) ∧ w' = w := by
  have ta : ∀ w : World, Sem.run Tryd.prog (Instr.typeAssert (.iface 55 (.int .i64 n)) 31 55 true) w = .ok (.tuple #[.int .i64 n, .bool true]) w := fun _ => by kernel_rfl
  go_enter Tryd.func7, Tryd.ntmps7
  go_wp2
  go_returns
  exact ⟨rfl, rfl⟩

/-- The same number, told by an error and by itself: they are the same. -/
theorem same_any (n : Int) (w : World) (hn : 0 ≤ n) : Calls Tryd.prog 7 #[errV n, .int .i64 n] w fun e w' => e = .returned (.bool true) ∧ w' = w := by
  by_cases h : n = 0
  · subst h
    exact same_nil 0 w
  · rw [errV_ne h]
    refine (same_err n n w (by omega)).mono ?_
    rintro e w' ⟨rfl, rfl⟩
    exact ⟨B.ret_bool (by simp), rfl⟩

end Go.Proofs.YtkgicpialdhnhaaDoor
