/- Chapter 1: what the functions of package tower, and the document's own, answer (A1 to A3); contracts for the laws. -/
import Derived.Test.YtaikbojdmfkbhaaGreatDoorBase
namespace Go.Proofs.YtaikbojdmfkbhaaGreatDoor
open Go.ChangeShapes Go.WideShapes Go.ChangeAt Go.RowKit
set_option maxRecDepth 100000
set_option linter.unusedSimpArgs false
set_option linter.unusedVariables false

/-- An error of package api by its number, as the walk has it; 0: none. -/
def errV (n : Int) : Value := if n = 0 then .nilIface else .iface 94 (.int .i64 n)
theorem errV0 : errV 0 = .nilIface := rfl
theorem errV_ne {n : Int} (h : n ≠ 0) : errV n = .iface 94 (.int .i64 n) := by simp [errV, h]
theorem ret_err {a b : Int} (h : a = b) : Ending.returned (errV a) = .returned (errV b) := by rw [h]

/-- 0 or 1: is it right? -/
def faultN (b : Bool) : Int := if b = true then 0 else 1
theorem faultN_t : faultN true = 0 := rfl
theorem faultN_f : faultN false = 1 := rfl

def placeB (x y z lv : Int) : Bool := decide (1 ≤ x ∧ x ≤ lv ∧ 0 ≤ y ∧ y ≤ 1 ∧ 0 ≤ z ∧ z ≤ 1)
def sizeB (x y z : Int) : Bool := decide (1 ≤ x ∧ x ≤ 99 ∧ 1 ≤ y ∧ y ≤ 99 ∧ 1 ≤ z ∧ z ≤ 99)
def fitsB (a b c x y z : Int) : Bool := decide (a ≤ x ∧ b ≤ y ∧ c ≤ z)
def extI (y z : Int) : Int := if y = 0 then -(z + 1) else z + 1

set_option maxHeartbeats 400000 in
theorem within_any (n l m : Int) (w : World) : Calls Tryz.prog 81 #[.int .i64 n, .int .i64 l, .int .i64 m] w fun e w' => e = .returned (.bool (decide (l ≤ n ∧ n ≤ m))) ∧ w' = w := by
  go_enter Tryz.func81, Tryz.ntmps81
  go_wp2
  all_goals
    go_returns
    refine ⟨B.ret_bool ?_, rfl⟩
    go_light
    first | (simp [*]; done) | (simp [*]; omega) | (simp; omega)

set_option maxHeartbeats 400000 in
theorem checkPlace_any (x y z lv : Int) (w : World) :
    Calls Tryz.prog 103 #[.agg #[.int .i64 x, .int .i64 y, .int .i64 z], .int .i64 lv] w fun e w' => e = .returned (errV (faultN (placeB x y z lv))) ∧ Below w.heap.size w w' := by
  go_enter Tryz.func103, Tryz.ntmps103
  go_wp2
  all_goals
    go_returns
    refine ⟨?_, by go_grown⟩
    go_light
    cases k : placeB x y z lv <;> first | rfl | (simp [errV, faultN]; done) | (exfalso; simp only [placeB, decide_eq_false_iff_not, decide_eq_true_eq] at k; omega)

set_option maxHeartbeats 400000 in
theorem checkSize_any (x y z : Int) (w : World) :
    Calls Tryz.prog 82 #[.agg #[.int .i64 x, .int .i64 y, .int .i64 z]] w fun e w' => e = .returned (errV (faultN (sizeB x y z))) ∧ Below w.heap.size w w' := by
  go_enter Tryz.func82, Tryz.ntmps82
  go_wp2
  all_goals
    go_returns
    refine ⟨?_, by go_grown⟩
    go_light
    cases k : sizeB x y z <;> first | rfl | (simp [errV, faultN]; done) | (exfalso; simp only [sizeB, decide_eq_false_iff_not, decide_eq_true_eq] at k; omega)

set_option maxHeartbeats 400000 in
theorem ext_any (x y z : Int) (w : World) (h0 : 0 ≤ z) (h1 : z ≤ 1) :
    Calls Tryz.prog 178 #[.agg #[.int .i64 x, .int .i64 y, .int .i64 z]] w fun e w' => e = .returned (.int .i64 (extI y z)) ∧ Below w.heap.size w w' := by
  by_cases hy : y = 0
  · subst hy
    go_enter Tryz.func178, Tryz.ntmps178
    go_wp2
    go_returns
    exact ⟨B.ret_int (by simp [extI]), by go_grown⟩
  · have hy' : (y == 0) = false := by simpa using hy
    have K : Hid (extI y z = z + 1) := by show _ = _; simp [extI, hy]
    clear hy
    go_enter Tryz.func178, Tryz.ntmps178
    go_wp2
    go_returns
    exact ⟨B.ret_int K.out.symm, by go_grown⟩

-- left out: this seat has not what it speaks of

set_option maxHeartbeats 400000 in
theorem front_any (x y z : Int) (w : World) :
    Calls Tryz.prog 126 #[.agg #[.int .i64 x, .int .i64 y, .int .i64 z]] w fun e w' => e = .returned (.agg #[.int .i64 x, .int .i64 y, .int .i64 0]) ∧ Below w.heap.size w w' := by
  go_enter Tryz.func126, Tryz.ntmps126
  go_wp2
  go_returns
  exact ⟨rfl, by go_grown⟩

set_option maxHeartbeats 400000 in
theorem fits_any (a b c x y z : Int) (w : World) :
    Calls Tryz.prog 47 #[.agg #[.int .i64 a, .int .i64 b, .int .i64 c], .agg #[.int .i64 x, .int .i64 y, .int .i64 z]] w fun e w' => e = .returned (.bool (fitsB a b c x y z)) ∧ Below w.heap.size w w' := by
  go_enter Tryz.func47, Tryz.ntmps47
  go_wp2
  all_goals
    go_returns
    refine ⟨B.ret_bool ?_, by go_grown⟩
    go_light
    cases k : fitsB a b c x y z <;> first | rfl | (simp only [fitsB, decide_eq_false_iff_not, decide_eq_true_eq] at k; simp; omega) | (exfalso; simp only [fitsB, decide_eq_false_iff_not, decide_eq_true_eq] at k; omega)

-- left out: this seat has not what it speaks of

set_option maxHeartbeats 400000 in
theorem spare_any (n : Int) (w : World) :
    Calls Tryz.prog 72 #[.int .i64 n] w fun e w' => e = .returned (.agg #[.int .i64 n, .int .i64 1, .int .i64 0]) ∧ Below w.heap.size w w' := by
  go_enter Tryz.func72, Tryz.ntmps72
  go_wp2
  go_returns
  exact ⟨rfl, by go_grown⟩

-- left out: this seat has not what it speaks of

set_option maxHeartbeats 400000 in
theorem rplace_any (x y z lv : Int) (w : World) :
    Calls Tryz.prog 61 #[.agg #[.int .i64 x, .int .i64 y, .int .i64 z], .int .i64 lv] w fun e w' => e = .returned (.int .i64 (faultN (placeB x y z lv))) ∧ Below w.heap.size w w' := by
  go_enter Tryz.func61, Tryz.ntmps61
  go_wp2
  all_goals
    go_returns
    refine ⟨?_, by go_grown⟩
    go_light
    cases k : placeB x y z lv <;> first | rfl | (simp [errV, faultN]; done) | (exfalso; simp only [placeB, decide_eq_false_iff_not, decide_eq_true_eq] at k; omega)

set_option maxHeartbeats 400000 in
theorem rsize_any (x y z : Int) (w : World) :
    Calls Tryz.prog 100 #[.agg #[.int .i64 x, .int .i64 y, .int .i64 z]] w fun e w' => e = .returned (.int .i64 (faultN (sizeB x y z))) ∧ Below w.heap.size w w' := by
  go_enter Tryz.func100, Tryz.ntmps100
  go_wp2
  all_goals
    go_returns
    refine ⟨?_, by go_grown⟩
    go_light
    cases k : sizeB x y z <;> first | rfl | (simp [errV, faultN]; done) | (exfalso; simp only [sizeB, decide_eq_false_iff_not, decide_eq_true_eq] at k; omega)

def carN (i x y z : Int) : Int := faultN (decide (1 ≤ i ∧ i ≤ 999) && sizeB x y z)

set_option maxHeartbeats 1000000 in
theorem checkCar_any (i x y z : Int) (w : World) :
    Calls Tryz.prog 49 #[.agg #[.int .i64 i, .int .i64 x, .int .i64 y, .int .i64 z]] w fun e w' => e = .returned (errV (carN i x y z)) ∧ Below w.heap.size w w' := by
  go_enter Tryz.func49, Tryz.ntmps49
  go_wp2
  all_goals
    go_returns
    refine ⟨?_, by go_grown⟩
    go_light
    cases k : sizeB x y z <;> by_cases k2 : 1 ≤ i ∧ i ≤ 999 <;> first | (simp [errV, faultN, carN, k, k2]; done) | (exfalso; simp only [sizeB, decide_eq_false_iff_not, decide_eq_true_eq] at k; omega) | (exfalso; simp only [sizeB, Bool.not_eq_true', Bool.not_eq_false', decide_eq_false_iff_not, decide_eq_true_eq] at *; omega)

set_option maxHeartbeats 1000000 in
theorem rcar_any (i x y z : Int) (w : World) :
    Calls Tryz.prog 60 #[.agg #[.int .i64 i, .int .i64 x, .int .i64 y, .int .i64 z]] w fun e w' => e = .returned (.int .i64 (carN i x y z)) ∧ Below w.heap.size w w' := by
  go_enter Tryz.func60, Tryz.ntmps60
  go_wp2
  all_goals
    go_returns
    refine ⟨?_, by go_grown⟩
    go_light
    cases k : sizeB x y z <;> by_cases k2 : 1 ≤ i ∧ i ≤ 999 <;> first | (simp [errV, faultN, carN, k, k2]; done) | (exfalso; simp only [sizeB, decide_eq_false_iff_not, decide_eq_true_eq] at k; omega) | (exfalso; simp only [sizeB, Bool.not_eq_true', Bool.not_eq_false', decide_eq_false_iff_not, decide_eq_true_eq] at *; omega)

set_option maxHeartbeats 400000 in
theorem same_nil (f : Int) (w : World) : Calls Tryz.prog 18 #[.nilIface, .int .i64 f] w fun e w' => e = .returned (.bool (f == 0)) ∧ w' = w := by
  go_enter Tryz.func18, Tryz.ntmps18
  go_wp2
  go_returns
  exact ⟨rfl, rfl⟩

set_option maxHeartbeats 400000 in
theorem same_err (n f : Int) (w : World) (hf : 0 < f) : Calls Tryz.prog 18 #[.iface 94 (.int .i64 n), .int .i64 f] w fun e w' => e = .returned (.bool (n == f)) ∧ w' = w := by
  have ta : ∀ w : World, Sem.run Tryz.prog (Instr.typeAssert (.iface 94 (.int .i64 n)) 27 94 true) w = .ok (.tuple #[.int .i64 n, .bool true]) w := fun _ => by kernel_rfl
  go_enter Tryz.func18, Tryz.ntmps18
  go_wp2
  go_returns
  exact ⟨rfl, rfl⟩

/-- The same number, told by an error and by itself: they are the same. -/
theorem same_any (n : Int) (w : World) (hn : 0 ≤ n) : Calls Tryz.prog 18 #[errV n, .int .i64 n] w fun e w' => e = .returned (.bool true) ∧ w' = w := by
  by_cases h : n = 0
  · subst h
    exact same_nil 0 w
  · rw [errV_ne h]
    refine (same_err n n w (by omega)).mono ?_
    rintro e w' ⟨rfl, rfl⟩
    exact ⟨B.ret_bool (by simp), rfl⟩

end Go.Proofs.YtaikbojdmfkbhaaGreatDoor
