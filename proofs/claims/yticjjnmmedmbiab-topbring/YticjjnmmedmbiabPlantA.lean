/- Chapter 2: the machine's own small steps (B1 to B3); contracts. -/
import Derived.Test.YticjjnmmedmbiabPlant
namespace Go.Proofs.Yticjjnmmedmbiab
open Go.ChangeShapes Go.WideShapes Go.ChangeAt Go.RowKit Go.Maps
set_option maxRecDepth 100000
set_option linter.unusedSimpArgs false
set_option linter.unusedVariables false

namespace Pl
/-- Which car stands where the shuttle's end would be; 0: none. -/
def carAtI (D : DataW Unit) (lv h ex : Int) : Int := if endB lv h ex = true then carOf D (endX lv h ex) (endY lv h ex) (endZ lv h ex) else 0

theorem cars_below {w w' : World} {mb n : Nat} {D : DataW Unit} (h : Cars w mb n D) (hb : Below w.heap.size w w') : Cars w' mb n D := by
  obtain ⟨es, clock, hm, r⟩ := h
  exact ⟨es, clock, (hb.block mb (Array.getElem?_eq_some_iff.1 hm).1).trans hm, r⟩

theorem end_wf {lv h ex : Int} (h0 : 0 ≤ h) (h12 : h ≤ 12) (e0 : -3 ≤ ex) (e3 : ex ≤ 3) : (Lit.int .i64 (endX lv h ex)).wf = true ∧ (Lit.int .i64 (endY lv h ex)).wf = true ∧ (Lit.int .i64 (endZ lv h ex)).wf = true := by
  refine ⟨wfI ?_, wfI ?_, wfI ?_⟩ <;> simp only [endX, endY, endZ] <;> (repeat' split) <;> omega

set_option maxHeartbeats 1000000 in
theorem carAt_any (pb mb n : Nat) (D : DataW Unit) (lv h ex : Int) (w : World) (c0 : w.cell? ⟨pb, 0, none⟩ = some (.int .i64 lv)) (c1 : w.cell? ⟨pb, 1, none⟩ = some (.int .i64 h)) (c7 : w.cell? ⟨pb, 7, none⟩ = some (.map (some mb))) (hown : Cars w mb n D)
    (h0 : 0 ≤ h) (h12 : h ≤ 12) (e0 : -3 ≤ ex) (e3 : ex ≤ 3) :
    Calls Try.prog 68 #[.pointer (some ⟨pb, 0, none⟩), .int .i64 ex] w fun e w' => e = .returned (.int .i64 (carAtI D lv h ex)) ∧ Below w.heap.size w w' := by
  have hlt : pb < w.heap.size := World.block_lt_of_cell? w _ c7
  obtain ⟨wx, wy, wz⟩ := end_wf (lv := lv) h0 h12 e0 e3
  have HE := fun w => end_any pb lv h ex w
  cases k : endB lv h ex with
  | false =>
    have K : Hid (carAtI D lv h ex = 0) := by show _ = _; simp [carAtI, k]
    have KV : Hid (endV lv h ex = _) := endV_f k
    clear k
    go_enter Try.func68, Try.ntmps68
    go_wp2_with fail
    refine (HE _ c0 c1 h0 h12 e0 e3).mono ?_
    rw [KV.out]
    rintro e w1 ⟨rfl, hb1⟩
    clear HE
    go_wp2
    go_returns
    exact ⟨B.ret_int K.out.symm, hb1.alloc hb1.size _⟩
  | true =>
    generalize hX : endX lv h ex = X at wx
    generalize hY : endY lv h ex = Y at wy
    generalize hZ : endZ lv h ex = Z at wz
    have K : Hid (carAtI D lv h ex = carOf D X Y Z) := by show _ = _; simp [carAtI, k, hX, hY, hZ]
    have KV : Hid (endV lv h ex = .tuple #[.agg #[.int .i64 X, .int .i64 Y, .int .i64 Z], .bool true]) := by show _ = _; simp only [endV, hX, hY, hZ, k]
    clear k hX hY hZ
    go_enter Try.func68, Try.ntmps68
    go_wp2_with fail
    refine (HE _ c0 c1 h0 h12 e0 e3).mono ?_
    rw [KV.out]
    rintro e w1 ⟨rfl, hb1⟩
    clear HE
    have c71 := (B.cell hb1 pb 7 hlt).trans c7
    have hown1 := cars_below hown hb1
    have B1 : Hid (Below w.heap.size w w1) := hb1
    have z1 := hb1.size
    have hlt1 : pb < w1.heap.size := by omega
    clear hb1 hown c7 c0 c1
    go_wp2_with fail
    refine (at_any pb mb n D X Y Z _ ((B.cell (B.new1 w1 _) pb 7 hlt1).trans c71) (hown1.alloc _) wx wy wz).mono ?_
    rintro e w2 ⟨rfl, hb2⟩
    go_wp2
    go_returns
    exact ⟨B.ret_int K.out.symm, B.next (B1.out.alloc z1 _) hb2 (by simp; omega)⟩

/-- A cell of the machine is written, nothing else. -/
theorem hurtIf_any (pb : Nat) (hu b : Bool) (w : World) (c9 : w.cell? ⟨pb, 9, none⟩ = some (.bool hu)) (f9 : w.frozen? ⟨pb, 9, none⟩ = false) :
    Calls Try.prog 75 #[.pointer (some ⟨pb, 0, none⟩), .bool b] w fun e w' => e = .returned (.tuple #[]) ∧ w' = w.setCell ⟨pb, 9, none⟩ (.bool (hu || b)) := by
  cases hu <;> cases b <;> (
    go_enter Try.func75, Try.ntmps75
    go_wp2
    go_returns
    exact ⟨rfl, rfl⟩)

theorem below_any (pb : Nat) (h ex : Int) (w : World) (c1 : w.cell? ⟨pb, 1, none⟩ = some (.int .i64 h)) (c2 : w.cell? ⟨pb, 2, none⟩ = some (.int .i64 ex)) :
    Calls Try.prog 76 #[.pointer (some ⟨pb, 0, none⟩)] w fun e w' => e = .returned (.bool (decide (h = 0 ∧ ex = 0))) ∧ w' = w := by
  have ha : (h == 0) = decide (h = 0) := by rw [Bool.eq_iff_iff]; simp
  have hb : (ex == 0) = decide (ex = 0) := by rw [Bool.eq_iff_iff]; simp
  have HK : Hid (decide (h = 0 ∧ ex = 0) = (decide (h = 0) && decide (ex = 0))) := by show _ = _; simp
  rw [HK.out]
  cases ka : decide (h = 0) <;> cases kb : decide (ex = 0) <;> (
    rw [ka] at ha
    rw [kb] at hb
    clear ka kb
    go_enter Try.func76, Try.ntmps76
    go_wp2
    go_returns
    exact ⟨rfl, rfl⟩)

theorem hurt_any (pb : Nat) (hu : Bool) (w : World) (c9 : w.cell? ⟨pb, 9, none⟩ = some (.bool hu)) :
    Calls Try.prog 26 #[.pointer (some ⟨pb, 0, none⟩)] w fun e w' => e = .returned (.bool hu) ∧ w' = w := by
  go_enter Try.func26, Try.ntmps26
  go_wp2
  go_returns
  exact ⟨rfl, rfl⟩

end Pl
end Go.Proofs.Yticjjnmmedmbiab
