/- The document's machine: a slot is written; contracts for PlantSays. -/
import Derived.Test.YticjjnmmedmbiaaRefPlant
namespace Go.Proofs.Yticjjnmmedmbiaa
open Go.ChangeShapes Go.WideShapes Go.ChangeAt Go.RowKit Go.Maps
set_option maxRecDepth 100000
set_option linter.unusedSimpArgs false
set_option linter.unusedVariables false

namespace Pl
open Ac
theorem rarr_size (s : St) : (rarr s).size = 29 := rfl
theorem rarr_set {s s' : St} (m : Nat) (hm : m < 20) (v : Int) (e1 : s'.lv = s.lv) (e2 : s'.h = s.h) (e3 : s'.ex = s.ex) (e4 : s'.op = s.op) (e5 : s'.pe = s.pe) (e6 : s'.li = s.li) (e7 : s'.ba = s.ba) (e8 : s'.st = s.st) (e9 : s'.hu = s.hu)
    (hs : ∀ j, j < 20 → slotN s' j = if j = m then v else slotN s j) : (rarr s).setIfInBounds (7 + m) (.int .i64 v) = rarr s' := by
  apply Array.ext_getElem?
  intro i
  rw [Array.getElem?_setIfInBounds]
  by_cases h1 : 7 ≤ i ∧ i < 27
  · obtain ⟨j, rfl⟩ : ∃ j, i = 7 + j := ⟨i - 7, by omega⟩
    have hj := hs j (by omega)
    rw [rarr_slot s' j (by omega), rarr_slot s j (by omega), hj]
    by_cases e : j = m
    · subst e
      rw [if_pos rfl, if_pos rfl, if_pos (by rw [rarr_size]; omega)]
    · rw [if_neg (by omega), if_neg e]
  · rw [if_neg (by omega)]
    have h : i = 0 ∨ i = 1 ∨ i = 2 ∨ i = 3 ∨ i = 4 ∨ i = 5 ∨ i = 6 ∨ i = 27 ∨ i = 28 ∨ 29 ≤ i := by omega
    rcases h with rfl | rfl | rfl | rfl | rfl | rfl | rfl | rfl | rfl | h
    · show some (Value.int .i64 s.lv) = some (Value.int .i64 s'.lv); rw [e1]
    · show some (Value.int .i64 s.h) = some (Value.int .i64 s'.h); rw [e2]
    · show some (Value.int .i64 s.ex) = some (Value.int .i64 s'.ex); rw [e3]
    · show some (Value.bool s.op) = some (Value.bool s'.op); rw [e4]
    · show some (Value.int .i64 s.pe) = some (Value.int .i64 s'.pe); rw [e5]
    · show some (Value.int .i64 s.li) = some (Value.int .i64 s'.li); rw [e6]
    · show some (Value.int .i64 s.ba) = some (Value.int .i64 s'.ba); rw [e7]
    · show some (Value.int .i64 s.st) = some (Value.int .i64 s'.st); rw [e8]
    · show some (Value.bool s.hu) = some (Value.bool s'.hu); rw [e9]
    · rw [Array.getElem?_eq_none (by rw [rarr_size]; omega), Array.getElem?_eq_none (by rw [rarr_size]; omega)]

theorem slot_wf (j : Nat) (h : j < 20) : (Lit.int .i64 ((j / 4 : Nat) : Int)).wf = true ∧ (Lit.int .i64 ((j % 4 / 2 : Nat) : Int)).wf = true ∧ (Lit.int .i64 ((j % 2 : Nat) : Int)).wf = true :=
  ⟨wfI (by omega), wfI (by omega), wfI (by omega)⟩
theorem slot_del (s : St) {x y z : Nat} (hx : 1 ≤ x ∧ x ≤ 4) (hy : y ≤ 1) (hz : z ≤ 1) (j : Nat) (hj : j < 20) : slotN { s with D := s.D.del (pk x y z) } j = if j = x * 4 + y * 2 + z then 0 else slotN s j := by
  unfold slotN
  by_cases h4 : j < 4
  · rw [if_pos h4, if_pos h4, if_neg (by omega)]
  · rw [if_neg h4, if_neg h4]
    obtain ⟨w1, w2, w3⟩ := slot_wf j hj
    rw [carOf_del (wfI (by omega)) (wfI (by omega)) (wfI (by omega)) w1 w2 w3]
    by_cases e : j = x * 4 + y * 2 + z
    · rw [if_pos e, if_pos (by omega)]
    · rw [if_neg e, if_neg (by omega)]
theorem slot_put (s : St) (c : Int) (hM : IsMap s.D) {x y z : Nat} (hx : 1 ≤ x ∧ x ≤ 4) (hy : y ≤ 1) (hz : z ≤ 1) (j : Nat) (hj : j < 20) : slotN { s with D := s.D.put (pk x y z) (.lit (.int .i64 c)) } j = if j = x * 4 + y * 2 + z then c else slotN s j := by
  unfold slotN
  by_cases h4 : j < 4
  · rw [if_pos h4, if_pos h4, if_neg (by omega)]
  · rw [if_neg h4, if_neg h4]
    obtain ⟨w1, w2, w3⟩ := slot_wf j hj
    rw [carOf_put hM (wfI (by omega)) (wfI (by omega)) (wfI (by omega)) w1 w2 w3]
    by_cases e : j = x * 4 + y * 2 + z
    · rw [if_pos e, if_pos (by omega)]
    · rw [if_neg e, if_neg (by omega)]
theorem slot_car (s : St) {x y z : Nat} (hx : 1 ≤ x ∧ x ≤ 4) (hy : y ≤ 1) (hz : z ≤ 1) : slotN s (x * 4 + y * 2 + z) = carOf s.D x y z := by
  unfold slotN
  rw [if_neg (by omega), show (x * 4 + y * 2 + z) / 4 = x from by omega, show (x * 4 + y * 2 + z) % 4 / 2 = y from by omega, show (x * 4 + y * 2 + z) % 2 = z from by omega]

end Pl
end Go.Proofs.Yticjjnmmedmbiaa
