/- Small facts that the laws of this seat share: bounds of numbers, endings, what old memory reads behind a call. -/
import Derived.Test.YtihapeagjikiaaaKit
import Derived.WalkSpells
import Derived.WalkLawsBesides
import Derived.Deep.QuietTactic
import Derived.BigQuiet
import Derived.Deep.RegionWith
import Derived.Deep.Light
namespace Go.Proofs.Ytihapeagjikiaaa
open Go.ChangeShapes Go.WideShapes Go.ChangeAt Go.RowKit
set_option maxRecDepth 100000

namespace B
theorem i64_bounds {n : Int} (h : IntKind.i64.has n) : -9223372036854775808 ≤ n ∧ n ≤ 9223372036854775807 := by
  simpa [IntKind.has, IntKind.min, IntKind.max, IntKind.bits, IntKind.signed] using h
theorem has_of {n : Int} (h : -9223372036854775808 ≤ n ∧ n ≤ 9223372036854775807) : IntKind.i64.has n := by
  simpa [IntKind.has, IntKind.min, IntKind.max, IntKind.bits, IntKind.signed] using h
theorem ret_bool {a b : Bool} (h : a = b) : Ending.returned (.bool a) = .returned (.bool b) := by rw [h]
theorem ret_int {k : IntKind} {a b : Int} (h : a = b) : Ending.returned (.int k a) = .returned (.int k b) := by rw [h]
theorem ret_pair {k : IntKind} {a b : Int} {c d : Bool} (h : a = b) (h2 : c = d) : Ending.returned (.tuple #[.int k a, .bool c]) = .returned (.tuple #[.int k b, .bool d]) := by rw [h, h2]
theorem cell {W w1 : World} (hb : Below W.heap.size W w1) : ∀ b o, b < W.heap.size → w1.cell? ⟨b, o, none⟩ = W.cell? ⟨b, o, none⟩ := fun b o h => hb.cell (p := ⟨b, o, none⟩) h
theorem frozen {W w1 : World} (hb : Below W.heap.size W w1) : ∀ b o, b < W.heap.size → w1.frozen? ⟨b, o, none⟩ = W.frozen? ⟨b, o, none⟩ := fun b o h => hb.frozen (p := ⟨b, o, none⟩) h
/-- A call behind another step: below the first size nothing has turned. -/
theorem next {B : Nat} {w w1 w2 : World} (h : Below B w w1) (k : Below w1.heap.size w1 w2) (hB : B ≤ w1.heap.size) : Below B w w2 := h.trans (k.mono hB)
theorem new1 (w : World) (o : Obj) : Below w.heap.size w (w.alloc o) := (Below.refl _ _).alloc (Nat.le_refl _) o
theorem new_size (w : World) (o : Obj) : (w.alloc o).heap.size = w.heap.size + 1 := by simp
/-- A row of cells that lay there reads on. -/
theorem row {W w1 : World} {b : Nat} {C : Array Value} (hb : Below W.heap.size W w1) (h : ∀ o, W.cell? ⟨b, o, none⟩ = C[o]?) (hlt : b < W.heap.size) : ∀ o, w1.cell? ⟨b, o, none⟩ = C[o]? :=
  fun o => (hb.cell (p := ⟨b, o, none⟩) hlt).trans (h o)
theorem row_new (w : World) (C : Array Value) (t : TypeId) : ∀ o, (w.alloc (.cells C t)).cell? ⟨w.heap.size, o, none⟩ = C[o]? := fun o => World.cell?_alloc_mark w C t (0, 0) o
theorem row_old {w : World} {b : Nat} {C : Array Value} (x : Obj) (h : ∀ o, w.cell? ⟨b, o, none⟩ = C[o]?) (hlt : b < w.heap.size) : ∀ o, (w.alloc x).cell? ⟨b, o, none⟩ = C[o]? :=
  row (new1 w x) h hlt
end B

end Go.Proofs.Ytihapeagjikiaaa

namespace Go.Proofs.Ytihapeagjikiaaa
open Go.ChangeShapes Go.WideShapes Go.ChangeAt Go.RowKit
set_option maxRecDepth 100000
set_option linter.unusedSimpArgs false
set_option linter.unusedVariables false

/-- An error of package api by its number, as the walk has it; 0: none. -/
def errV (n : Int) : Value := if n = 0 then .nilIface else .iface 115 (.int .i64 n)
theorem errV0 : errV 0 = .nilIface := rfl
theorem errV_ne {n : Int} (h : n ≠ 0) : errV n = .iface 115 (.int .i64 n) := by simp [errV, h]
theorem ret_err {a b : Int} (h : a = b) : Ending.returned (errV a) = .returned (errV b) := by rw [h]

/-- 0 or 1: is it right? -/
def faultN (b : Bool) : Int := if b = true then 0 else 1
theorem faultN_t : faultN true = 0 := rfl
theorem faultN_f : faultN false = 1 := rfl

def placeB (x y z lv : Int) : Bool := decide (1 ≤ x ∧ x ≤ lv ∧ 0 ≤ y ∧ y ≤ 1 ∧ 0 ≤ z ∧ z ≤ 1)
def sizeB (x y z : Int) : Bool := decide (1 ≤ x ∧ x ≤ 99 ∧ 1 ≤ y ∧ y ≤ 99 ∧ 1 ≤ z ∧ z ≤ 99)
def fitsB (a b c x y z : Int) : Bool := decide (a ≤ x ∧ b ≤ y ∧ c ≤ z)
def extI (y z : Int) : Int := if y = 0 then -(z + 1) else z + 1

set_option maxHeartbeats 400000 in
theorem within_any (n l m : Int) (w : World) : Calls Try.prog 68 #[.int .i64 n, .int .i64 l, .int .i64 m] w fun e w' => e = .returned (.bool (decide (l ≤ n ∧ n ≤ m))) ∧ w' = w := by
  go_enter Try.func68, Try.ntmps68
  go_wp2
  all_goals
    go_returns
    refine ⟨B.ret_bool ?_, rfl⟩
    go_light
    first | (simp [*]; done) | (simp [*]; omega) | (simp; omega)

set_option maxHeartbeats 400000 in
theorem checkPlace_any (x y z lv : Int) (w : World) :
    Calls Try.prog 121 #[.agg #[.int .i64 x, .int .i64 y, .int .i64 z], .int .i64 lv] w fun e w' => e = .returned (errV (faultN (placeB x y z lv))) ∧ Below w.heap.size w w' := by
  go_enter Try.func121, Try.ntmps121
  go_wp2
  all_goals
    go_returns
    refine ⟨?_, by go_grown⟩
    go_light
    cases k : placeB x y z lv <;> first | rfl | (simp [errV, faultN]; done) | (exfalso; simp only [placeB, decide_eq_false_iff_not, decide_eq_true_eq] at k; omega)

set_option maxHeartbeats 400000 in
theorem checkSize_any (x y z : Int) (w : World) :
    Calls Try.prog 69 #[.agg #[.int .i64 x, .int .i64 y, .int .i64 z]] w fun e w' => e = .returned (errV (faultN (sizeB x y z))) ∧ Below w.heap.size w w' := by
  go_enter Try.func69, Try.ntmps69
  go_wp2
  all_goals
    go_returns
    refine ⟨?_, by go_grown⟩
    go_light
    cases k : sizeB x y z <;> first | rfl | (simp [errV, faultN]; done) | (exfalso; simp only [sizeB, decide_eq_false_iff_not, decide_eq_true_eq] at k; omega)

set_option maxHeartbeats 400000 in
theorem ext_any (x y z : Int) (w : World) (h0 : 0 ≤ z) (h1 : z ≤ 1) :
    Calls Try.prog 150 #[.agg #[.int .i64 x, .int .i64 y, .int .i64 z]] w fun e w' => e = .returned (.int .i64 (extI y z)) ∧ Below w.heap.size w w' := by
  by_cases hy : y = 0
  · subst hy
    go_enter Try.func150, Try.ntmps150
    go_wp2
    go_returns
    exact ⟨B.ret_int (by simp [extI]), by go_grown⟩
  · have hy' : (y == 0) = false := by simpa using hy
    have K : Hid (extI y z = z + 1) := by show _ = _; simp [extI, hy]
    clear hy
    go_enter Try.func150, Try.ntmps150
    go_wp2
    go_returns
    exact ⟨B.ret_int K.out.symm, by go_grown⟩

set_option maxHeartbeats 400000 in
theorem rext_any (x y z : Int) (w : World) (h0 : 0 ≤ z) (h1 : z ≤ 1) :
    Calls Try.prog 145 #[.agg #[.int .i64 x, .int .i64 y, .int .i64 z]] w fun e w' => e = .returned (.int .i64 (extI y z)) ∧ Below w.heap.size w w' := by
  by_cases hy : y = 0
  · subst hy
    go_enter Try.func145, Try.ntmps145
    go_wp2
    go_returns
    exact ⟨B.ret_int (by simp [extI]), by go_grown⟩
  · have hy' : (y == 0) = false := by simpa using hy
    have K : Hid (extI y z = z + 1) := by show _ = _; simp [extI, hy]
    clear hy
    go_enter Try.func145, Try.ntmps145
    go_wp2
    go_returns
    exact ⟨B.ret_int K.out.symm, by go_grown⟩

set_option maxHeartbeats 400000 in
theorem front_any (x y z : Int) (w : World) :
    Calls Try.prog 29 #[.agg #[.int .i64 x, .int .i64 y, .int .i64 z]] w fun e w' => e = .returned (.agg #[.int .i64 x, .int .i64 y, .int .i64 0]) ∧ Below w.heap.size w w' := by
  go_enter Try.func29, Try.ntmps29
  go_wp2
  go_returns
  exact ⟨rfl, by go_grown⟩

set_option maxHeartbeats 400000 in
theorem fits_any (a b c x y z : Int) (w : World) :
    Calls Try.prog 28 #[.agg #[.int .i64 a, .int .i64 b, .int .i64 c], .agg #[.int .i64 x, .int .i64 y, .int .i64 z]] w fun e w' => e = .returned (.bool (fitsB a b c x y z)) ∧ Below w.heap.size w w' := by
  go_enter Try.func28, Try.ntmps28
  go_wp2
  all_goals
    go_returns
    refine ⟨B.ret_bool ?_, by go_grown⟩
    go_light
    cases k : fitsB a b c x y z <;> first | rfl | (simp only [fitsB, decide_eq_false_iff_not, decide_eq_true_eq] at k; simp; omega) | (exfalso; simp only [fitsB, decide_eq_false_iff_not, decide_eq_true_eq] at k; omega)

set_option maxHeartbeats 400000 in
theorem rfits_any (a b c x y z : Int) (w : World) :
    Calls Try.prog 54 #[.agg #[.int .i64 a, .int .i64 b, .int .i64 c], .agg #[.int .i64 x, .int .i64 y, .int .i64 z]] w fun e w' => e = .returned (.bool (fitsB a b c x y z)) ∧ Below w.heap.size w w' := by
  go_enter Try.func54, Try.ntmps54
  go_wp2
  all_goals
    go_returns
    refine ⟨B.ret_bool ?_, by go_grown⟩
    go_light
    cases k : fitsB a b c x y z <;> first | rfl | (simp only [fitsB, decide_eq_false_iff_not, decide_eq_true_eq] at k; simp; omega) | (exfalso; simp only [fitsB, decide_eq_false_iff_not, decide_eq_true_eq] at k; omega)

set_option maxHeartbeats 400000 in
theorem spare_any (n : Int) (w : World) :
    Calls Try.prog 72 #[.int .i64 n] w fun e w' => e = .returned (.agg #[.int .i64 n, .int .i64 1, .int .i64 0]) ∧ Below w.heap.size w w' := by
  go_enter Try.func72, Try.ntmps72
  go_wp2
  go_returns
  exact ⟨rfl, by go_grown⟩

set_option maxHeartbeats 400000 in
theorem rspare_any (n : Int) (w : World) :
    Calls Try.prog 104 #[.int .i64 n] w fun e w' => e = .returned (.agg #[.int .i64 n, .int .i64 1, .int .i64 0]) ∧ Below w.heap.size w w' := by
  go_enter Try.func104, Try.ntmps104
  go_wp2
  go_returns
  exact ⟨rfl, by go_grown⟩

set_option maxHeartbeats 400000 in
theorem rplace_any (x y z lv : Int) (w : World) :
    Calls Try.prog 57 #[.agg #[.int .i64 x, .int .i64 y, .int .i64 z], .int .i64 lv] w fun e w' => e = .returned (.int .i64 (faultN (placeB x y z lv))) ∧ Below w.heap.size w w' := by
  go_enter Try.func57, Try.ntmps57
  go_wp2
  all_goals
    go_returns
    refine ⟨?_, by go_grown⟩
    go_light
    cases k : placeB x y z lv <;> first | rfl | (simp [errV, faultN]; done) | (exfalso; simp only [placeB, decide_eq_false_iff_not, decide_eq_true_eq] at k; omega)

set_option maxHeartbeats 400000 in
theorem rsize_any (x y z : Int) (w : World) :
    Calls Try.prog 53 #[.agg #[.int .i64 x, .int .i64 y, .int .i64 z]] w fun e w' => e = .returned (.int .i64 (faultN (sizeB x y z))) ∧ Below w.heap.size w w' := by
  go_enter Try.func53, Try.ntmps53
  go_wp2
  all_goals
    go_returns
    refine ⟨?_, by go_grown⟩
    go_light
    cases k : sizeB x y z <;> first | rfl | (simp [errV, faultN]; done) | (exfalso; simp only [sizeB, decide_eq_false_iff_not, decide_eq_true_eq] at k; omega)

def carN (i x y z : Int) : Int := faultN (decide (1 ≤ i ∧ i ≤ 999) && sizeB x y z)

set_option maxHeartbeats 1000000 in
theorem checkCar_any (i x y z : Int) (w : World) :
    Calls Try.prog 59 #[.agg #[.int .i64 i, .int .i64 x, .int .i64 y, .int .i64 z]] w fun e w' => e = .returned (errV (carN i x y z)) ∧ Below w.heap.size w w' := by
  go_enter Try.func59, Try.ntmps59
  go_wp2
  all_goals
    go_returns
    refine ⟨?_, by go_grown⟩
    go_light
    cases k : sizeB x y z <;> by_cases k2 : 1 ≤ i ∧ i ≤ 999 <;> first | (simp [errV, faultN, carN, k, k2]; done) | (exfalso; simp only [sizeB, decide_eq_false_iff_not, decide_eq_true_eq] at k; omega) | (exfalso; simp only [sizeB, Bool.not_eq_true', Bool.not_eq_false', decide_eq_false_iff_not, decide_eq_true_eq] at *; omega)

set_option maxHeartbeats 1000000 in
theorem rcar_any (i x y z : Int) (w : World) :
    Calls Try.prog 56 #[.agg #[.int .i64 i, .int .i64 x, .int .i64 y, .int .i64 z]] w fun e w' => e = .returned (.int .i64 (carN i x y z)) ∧ Below w.heap.size w w' := by
  go_enter Try.func56, Try.ntmps56
  go_wp2
  all_goals
    go_returns
    refine ⟨?_, by go_grown⟩
    go_light
    cases k : sizeB x y z <;> by_cases k2 : 1 ≤ i ∧ i ≤ 999 <;> first | (simp [errV, faultN, carN, k, k2]; done) | (exfalso; simp only [sizeB, decide_eq_false_iff_not, decide_eq_true_eq] at k; omega) | (exfalso; simp only [sizeB, Bool.not_eq_true', Bool.not_eq_false', decide_eq_false_iff_not, decide_eq_true_eq] at *; omega)

set_option maxHeartbeats 400000 in
theorem same_nil (f : Int) (w : World) : Calls Try.prog 18 #[.nilIface, .int .i64 f] w fun e w' => e = .returned (.bool (f == 0)) ∧ w' = w := by
  go_enter Try.func18, Try.ntmps18
  go_wp2
  go_returns
  exact ⟨rfl, rfl⟩

set_option maxHeartbeats 400000 in
theorem same_err (n f : Int) (w : World) (hf : 0 < f) : Calls Try.prog 18 #[.iface 115 (.int .i64 n), .int .i64 f] w fun e w' => e = .returned (.bool (n == f)) ∧ w' = w := by
  have ta : ∀ w : World, Sem.run Try.prog (Instr.typeAssert (.iface 115 (.int .i64 n)) 42 115 true) w = .ok (.tuple #[.int .i64 n, .bool true]) w := fun _ => by kernel_rfl
  go_enter Try.func18, Try.ntmps18
  go_wp2
  go_returns
  exact ⟨rfl, rfl⟩

/-- The same number, told by an error and by itself: they are the same. -/
theorem same_any (n : Int) (w : World) (hn : 0 ≤ n) : Calls Try.prog 18 #[errV n, .int .i64 n] w fun e w' => e = .returned (.bool true) ∧ w' = w := by
  by_cases h : n = 0
  · subst h
    exact same_nil 0 w
  · rw [errV_ne h]
    refine (same_err n n w (by omega)).mono ?_
    rintro e w' ⟨rfl, rfl⟩
    exact ⟨B.ret_bool (by simp), rfl⟩

end Go.Proofs.Ytihapeagjikiaaa
