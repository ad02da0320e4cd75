/- The document's machine: a slot is written; contracts for PlantSays. -/
import Derived.Test.YtihapeagjikiaaaJRefPlant
import Derived.Test.YtihapeagjikiaaaJRefPlantH
namespace Go.Proofs.Ytihapeagjikiaaa
open Go.ChangeShapes Go.WideShapes Go.ChangeAt Go.RowKit Go.Maps
set_option maxRecDepth 100000
set_option linter.unusedSimpArgs false
set_option linter.unusedVariables false

namespace Pl
open Ac
theorem rarr_size (s : St) : (rarr s).size = 29 := rfl
theorem rarr_set {s s' : St} (m : Nat) (hm : m < 20) (v : Int) (e1 : s'.lv = s.lv) (e2 : s'.h = s.h) (e3 : s'.ex = s.ex) (e4 : s'.op = s.op) (e5 : s'.pe = s.pe) (e6 : s'.li = s.li) (e7 : s'.ba = s.ba) (e8 : s'.st = s.st) (e9 : s'.hu = s.hu)
    (hs : ∀ j, j < 20 → slotN s' j = if j = m then v else slotN s j) : (rarr s).setIfInBounds (7 + m) (.int .i64 v) = rarr s' := by
  apply Array.ext_getElem?
  intro i
  rw [Array.getElem?_setIfInBounds]
  by_cases h1 : 7 ≤ i ∧ i < 27
  · obtain ⟨j, rfl⟩ : ∃ j, i = 7 + j := ⟨i - 7, by omega⟩
    have hj := hs j (by omega)
    rw [rarr_slot s' j (by omega), rarr_slot s j (by omega), hj]
    by_cases e : j = m
    · subst e
      rw [if_pos rfl, if_pos rfl, if_pos (by rw [rarr_size]; omega)]
    · rw [if_neg (by omega), if_neg e]
  · rw [if_neg (by omega)]
    have h : i = 0 ∨ i = 1 ∨ i = 2 ∨ i = 3 ∨ i = 4 ∨ i = 5 ∨ i = 6 ∨ i = 27 ∨ i = 28 ∨ 29 ≤ i := by omega
    rcases h with rfl | rfl | rfl | rfl | rfl | rfl | rfl | rfl | rfl | h
    · show some (Value.int .i64 s.lv) = some (Value.int .i64 s'.lv); rw [e1]
    · show some (Value.int .i64 s.h) = some (Value.int .i64 s'.h); rw [e2]
    · show some (Value.int .i64 s.ex) = some (Value.int .i64 s'.ex); rw [e3]
    · show some (Value.bool s.op) = some (Value.bool s'.op); rw [e4]
    · show some (Value.int .i64 s.pe) = some (Value.int .i64 s'.pe); rw [e5]
    · show some (Value.int .i64 s.li) = some (Value.int .i64 s'.li); rw [e6]
    · show some (Value.int .i64 s.ba) = some (Value.int .i64 s'.ba); rw [e7]
    · show some (Value.int .i64 s.st) = some (Value.int .i64 s'.st); rw [e8]
    · show some (Value.bool s.hu) = some (Value.bool s'.hu); rw [e9]
    · rw [Array.getElem?_eq_none (by rw [rarr_size]; omega), Array.getElem?_eq_none (by rw [rarr_size]; omega)]

theorem slot_wf (j : Nat) (h : j < 20) : (Lit.int .i64 ((j / 4 : Nat) : Int)).wf = true ∧ (Lit.int .i64 ((j % 4 / 2 : Nat) : Int)).wf = true ∧ (Lit.int .i64 ((j % 2 : Nat) : Int)).wf = true :=
  ⟨wfI (by omega), wfI (by omega), wfI (by omega)⟩
theorem slot_del (s : St) {x y z : Nat} (hx : 1 ≤ x ∧ x ≤ 4) (hy : y ≤ 1) (hz : z ≤ 1) (j : Nat) (hj : j < 20) : slotN { s with D := s.D.del (pk x y z) } j = if j = x * 4 + y * 2 + z then 0 else slotN s j := by
  unfold slotN
  by_cases h4 : j < 4
  · rw [if_pos h4, if_pos h4, if_neg (by omega)]
  · rw [if_neg h4, if_neg h4]
    obtain ⟨w1, w2, w3⟩ := slot_wf j hj
    rw [carOf_del (wfI (by omega)) (wfI (by omega)) (wfI (by omega)) w1 w2 w3]
    by_cases e : j = x * 4 + y * 2 + z
    · rw [if_pos e, if_pos (by omega)]
    · rw [if_neg e, if_neg (by omega)]
theorem slot_put (s : St) (c : Int) (hM : IsMap s.D) {x y z : Nat} (hx : 1 ≤ x ∧ x ≤ 4) (hy : y ≤ 1) (hz : z ≤ 1) (j : Nat) (hj : j < 20) : slotN { s with D := s.D.put (pk x y z) (.lit (.int .i64 c)) } j = if j = x * 4 + y * 2 + z then c else slotN s j := by
  unfold slotN
  by_cases h4 : j < 4
  · rw [if_pos h4, if_pos h4, if_neg (by omega)]
  · rw [if_neg h4, if_neg h4]
    obtain ⟨w1, w2, w3⟩ := slot_wf j hj
    rw [carOf_put hM (wfI (by omega)) (wfI (by omega)) (wfI (by omega)) w1 w2 w3]
    by_cases e : j = x * 4 + y * 2 + z
    · rw [if_pos e, if_pos (by omega)]
    · rw [if_neg e, if_neg (by omega)]
theorem slot_car (s : St) {x y z : Nat} (hx : 1 ≤ x ∧ x ≤ 4) (hy : y ≤ 1) (hz : z ≤ 1) : slotN s (x * 4 + y * 2 + z) = carOf s.D x y z := by
  unfold slotN
  rw [if_neg (by omega), show (x * 4 + y * 2 + z) / 4 = x from by omega, show (x * 4 + y * 2 + z) % 4 / 2 = y from by omega, show (x * 4 + y * 2 + z) % 2 = z from by omega]

end Pl
end Go.Proofs.Ytihapeagjikiaaa

namespace Go.Proofs.Ytihapeagjikiaaa
open Go.ChangeShapes Go.WideShapes Go.ChangeAt Go.RowKit Go.Maps
set_option maxRecDepth 100000
set_option linter.unusedSimpArgs false
set_option linter.unusedVariables false

namespace Pl
open Ac
def liS (s : St) (v : Int) : St := { s with li := v }
theorem IsR.sliS {w : World} {rb : Nat} {s : St} (h : IsR w rb s) (k : Int) : IsR (w.setCell ⟨rb, 5, none⟩ (.int .i64 k)) rb (liS s k) := h.sli k
theorem add3 (x y z : Nat) : 7 + (x * 4 + y * 2 + z) = 7 + x * 4 + y * 2 + z := by omega

set_option maxHeartbeats 4000000 in
theorem rstep_g0 (rb : Nat) (s : St) (w : World) (hr : IsR w rb s) (iv : Inv s) (hs : ¬ 0 < s.st) (hq : endB s.lv s.h s.ex = false) : RStepTo rb 103 w (grabS s) := by
  have HR : Hid (∀ w1, Below w.heap.size w w1 → IsR w1 rb s) := fun w1 hb => hr.below hb
  have HE : Hid (Calls Try.prog 135 #[.pointer (some ⟨rb, 0, none⟩), .int .i64 s.ex] w fun e w' => e = .returned (.tuple #[.agg #[.int .i64 (endX s.lv s.h s.ex), .int .i64 (endY s.lv s.h s.ex), .int .i64 (endZ s.lv s.h s.ex)], .bool (endB s.lv s.h s.ex)]) ∧ Below w.heap.size w w') := rend_any rb s s.ex w hr iv (by have := iv.ok.e0; omega) (by have := iv.ok.e2; omega)
  have K : Hid (grabS s = s) := by show _ = _; simp [grabS, grabB, hq]
  rw [hq] at HE
  have c2 : w.cell? ⟨rb, 2, none⟩ = some (.int .i64 s.ex) := hr.cell 2
  have c3 : w.cell? ⟨rb, 3, none⟩ = some (.bool s.op) := hr.cell 3
  have c4 : w.cell? ⟨rb, 4, none⟩ = some (.int .i64 s.pe) := hr.cell 4
  have c27 : w.cell? ⟨rb, 27, none⟩ = some (.int .i64 s.st) := hr.cell 27
  generalize endX s.lv s.h s.ex = X at *
  generalize endY s.lv s.h s.ex = Y at *
  generalize endZ s.lv s.h s.ex = Z at *
  generalize s.ex = ex at *
  generalize s.op = op at *
  generalize s.pe = pe at *
  generalize s.st = st at *
  generalize grabS s = s2 at *
  clear hr iv hq
  go_enter Try.func83, Try.ntmps83
  go_wp2_with fail
  all_goals
    refine HE.out.mono ?_
    rintro e w1 ⟨rfl, b1⟩
    have z1 := b1.size
    have B1 : Hid (∀ o, Below w.heap.size w (w1.alloc o)) := fun o => b1.alloc z1 o
    clear b1
    go_wp2
    go_returns
    exact ⟨rfl, (HR.out _ (B1.out _)).cast K.out.symm, Turn.of_below (B1.out _)⟩

set_option maxHeartbeats 4000000 in
theorem rstep_p0 (rb : Nat) (s : St) (w : World) (hr : IsR w rb s) (iv : Inv s) (hs : ¬ 0 < s.st) (hq : endB s.lv s.h s.ex = false) : RStepTo rb 112 w (putS s) := by
  have HR : Hid (∀ w1, Below w.heap.size w w1 → IsR w1 rb s) := fun w1 hb => hr.below hb
  have HE : Hid (Calls Try.prog 135 #[.pointer (some ⟨rb, 0, none⟩), .int .i64 s.ex] w fun e w' => e = .returned (.tuple #[.agg #[.int .i64 (endX s.lv s.h s.ex), .int .i64 (endY s.lv s.h s.ex), .int .i64 (endZ s.lv s.h s.ex)], .bool (endB s.lv s.h s.ex)]) ∧ Below w.heap.size w w') := rend_any rb s s.ex w hr iv (by have := iv.ok.e0; omega) (by have := iv.ok.e2; omega)
  have K : Hid (putS s = s) := by show _ = _; simp [putS, putB, hq]
  rw [hq] at HE
  have c2 : w.cell? ⟨rb, 2, none⟩ = some (.int .i64 s.ex) := hr.cell 2
  have c3 : w.cell? ⟨rb, 3, none⟩ = some (.bool s.op) := hr.cell 3
  have c4 : w.cell? ⟨rb, 4, none⟩ = some (.int .i64 s.pe) := hr.cell 4
  have c27 : w.cell? ⟨rb, 27, none⟩ = some (.int .i64 s.st) := hr.cell 27
  generalize endX s.lv s.h s.ex = X at *
  generalize endY s.lv s.h s.ex = Y at *
  generalize endZ s.lv s.h s.ex = Z at *
  generalize s.ex = ex at *
  generalize s.op = op at *
  generalize s.pe = pe at *
  generalize s.st = st at *
  generalize putS s = s2 at *
  clear hr iv hq
  go_enter Try.func83, Try.ntmps83
  go_wp2_with fail
  all_goals
    refine HE.out.mono ?_
    rintro e w1 ⟨rfl, b1⟩
    have z1 := b1.size
    have B1 : Hid (∀ o, Below w.heap.size w (w1.alloc o)) := fun o => b1.alloc z1 o
    clear b1
    go_wp2
    go_returns
    exact ⟨rfl, (HR.out _ (B1.out _)).cast K.out.symm, Turn.of_below (B1.out _)⟩

set_option maxHeartbeats 4000000 in
theorem rstep_g1 (rb : Nat) (s : St) (w : World) (hr : IsR w rb s) (iv : Inv s) (hs : ¬ 0 < s.st) (hq : endB s.lv s.h s.ex = true) (hl : s.li = 0) : RStepTo rb 103 w (grabS s) := by
  have HR : Hid (∀ w1, Below w.heap.size w w1 → IsR w1 rb s) := fun w1 hb => hr.below hb
  have HE : Hid (Calls Try.prog 135 #[.pointer (some ⟨rb, 0, none⟩), .int .i64 s.ex] w fun e w' => e = .returned (.tuple #[.agg #[.int .i64 (endX s.lv s.h s.ex), .int .i64 (endY s.lv s.h s.ex), .int .i64 (endZ s.lv s.h s.ex)], .bool (endB s.lv s.h s.ex)]) ∧ Below w.heap.size w w') := rend_any rb s s.ex w hr iv (by have := iv.ok.e0; omega) (by have := iv.ok.e2; omega)
  obtain ⟨hX, hY, hZ⟩ := endB_in hq
  have h4 := iv.ok.lv4
  obtain ⟨x, hx⟩ : ∃ x : Nat, endX s.lv s.h s.ex = x := ⟨(endX s.lv s.h s.ex).toNat, by omega⟩
  obtain ⟨y, hy⟩ : ∃ y : Nat, endY s.lv s.h s.ex = y := ⟨(endY s.lv s.h s.ex).toNat, by omega⟩
  obtain ⟨z, hz⟩ : ∃ z : Nat, endZ s.lv s.h s.ex = z := ⟨(endZ s.lv s.h s.ex).toNat, by omega⟩
  rw [hx] at hX
  rw [hy] at hY
  rw [hz] at hZ
  rw [hq, hx, hy, hz] at HE
  have x1 : 1 ≤ x ∧ x ≤ 4 := by omega
  have y1 : y ≤ 1 := by omega
  have zz1 : z ≤ 1 := by omega
  have x5 : (x : Int) < 5 := by omega
  have y2 : (y : Int) < 2 := by omega
  have z2 : (z : Int) < 2 := by omega
  have n5 : ¬ 7 + x * 4 + y * 2 + z = 5 := by omega
  have n5' : ¬ 5 = 7 + x * 4 + y * 2 + z := by omega
  have SC : Hid (slotN s (x * 4 + y * 2 + z) = carOf s.D x y z) := slot_car s x1 y1 zz1
  have HC : Hid (∀ w1, IsR w1 rb s → w1.cell? ⟨rb, 7 + x * 4 + y * 2 + z, none⟩ = some (.int .i64 (carOf s.D x y z))) := fun w1 h => by rw [← add3, h.cell, rarr_slot s _ (by omega), SC.out]
  have K : Hid (grabS s = { s with li := carOf s.D x y z, D := s.D.del (pk x y z) }) := by show _ = _; simp [grabS, grabB, hq, hl, hx, hy, hz]
  have HS : Hid (∀ w1, IsR w1 rb (liS s (carOf s.D x y z)) → IsR (w1.setCell ⟨rb, 7 + x * 4 + y * 2 + z, none⟩ (.int .i64 0)) rb (grabS s)) := fun w1 h => by
    rw [K.out, ← add3]
    exact h.set _ _ (rarr_set _ (by omega) 0 rfl rfl rfl rfl rfl rfl rfl rfl rfl (fun j hj => slot_del (liS s (carOf s.D x y z)) x1 y1 zz1 j hj))
  have c2 : w.cell? ⟨rb, 2, none⟩ = some (.int .i64 s.ex) := hr.cell 2
  have c3 : w.cell? ⟨rb, 3, none⟩ = some (.bool s.op) := hr.cell 3
  have c4 : w.cell? ⟨rb, 4, none⟩ = some (.int .i64 s.pe) := hr.cell 4
  have c27 : w.cell? ⟨rb, 27, none⟩ = some (.int .i64 s.st) := hr.cell 27
  have C5 : Hid (∀ w1, IsR w1 rb s → w1.cell? ⟨rb, 5, none⟩ = some (.int .i64 s.li)) := fun w1 h => h.cell 5
  have F : Hid (∀ w1, IsR w1 rb s → ∀ o, w1.frozen? ⟨rb, o, none⟩ = false) := fun w1 h => h.free
  generalize grabS s = s2 at *
  generalize carOf s.D x y z = c at *
  generalize s.ex = ex at *
  generalize s.op = op at *
  generalize s.pe = pe at *
  generalize s.st = st at *
  rw [hl] at C5
  clear hl K hr iv hq hX hY hZ hx hy hz h4 SC x1 y1 zz1
  go_enter Try.func83, Try.ntmps83
  go_wp2_with fail
  all_goals
    refine HE.out.mono ?_
    rintro e w1 ⟨rfl, b1⟩
    obtain ⟨wa, hwa⟩ : ∃ wa, w1.alloc (.cells #[.int .i64 x, .int .i64 y, .int .i64 z] 38) = wa := ⟨_, rfl⟩
    have BA : Hid (Below w.heap.size w wa) := by show Below _ _ _; rw [← hwa]; exact b1.alloc b1.size _
    have r0 : ∀ o, wa.cell? ⟨w1.heap.size, o, none⟩ = (#[.int .i64 x, .int .i64 y, .int .i64 z] : Array Value)[o]? := by rw [← hwa]; exact B.row_new _ _ _
    have RA : Hid (IsR wa rb s) := HR.out _ BA.out
    have d5 := C5.out wa RA.out
    have dS := HC.out wa RA.out
    have fS := F.out wa RA.out
    clear b1 C5 HC F HE HR c2 c3 c4 c27
    go_wp2_with fail
    go_region
    go_wp2
    go_returns
    exact ⟨rfl, (HS.out _ (RA.out.sliS _)).drew, (((Turn.of_below BA.out).thenSet _ _).thenSet _ _).trans (Turn.drew _)⟩

set_option maxHeartbeats 4000000 in
theorem rstep_g2 (rb : Nat) (s : St) (w : World) (hr : IsR w rb s) (iv : Inv s) (hs : ¬ 0 < s.st) (hq : endB s.lv s.h s.ex = true) (hl : ¬ s.li = 0) : RStepTo rb 103 w (grabS s) := by
  have HR : Hid (∀ w1, Below w.heap.size w w1 → IsR w1 rb s) := fun w1 hb => hr.below hb
  have HE : Hid (Calls Try.prog 135 #[.pointer (some ⟨rb, 0, none⟩), .int .i64 s.ex] w fun e w' => e = .returned (.tuple #[.agg #[.int .i64 (endX s.lv s.h s.ex), .int .i64 (endY s.lv s.h s.ex), .int .i64 (endZ s.lv s.h s.ex)], .bool (endB s.lv s.h s.ex)]) ∧ Below w.heap.size w w') := rend_any rb s s.ex w hr iv (by have := iv.ok.e0; omega) (by have := iv.ok.e2; omega)
  obtain ⟨hX, hY, hZ⟩ := endB_in hq
  have h4 := iv.ok.lv4
  obtain ⟨x, hx⟩ : ∃ x : Nat, endX s.lv s.h s.ex = x := ⟨(endX s.lv s.h s.ex).toNat, by omega⟩
  obtain ⟨y, hy⟩ : ∃ y : Nat, endY s.lv s.h s.ex = y := ⟨(endY s.lv s.h s.ex).toNat, by omega⟩
  obtain ⟨z, hz⟩ : ∃ z : Nat, endZ s.lv s.h s.ex = z := ⟨(endZ s.lv s.h s.ex).toNat, by omega⟩
  rw [hx] at hX
  rw [hy] at hY
  rw [hz] at hZ
  rw [hq, hx, hy, hz] at HE
  have x1 : 1 ≤ x ∧ x ≤ 4 := by omega
  have y1 : y ≤ 1 := by omega
  have zz1 : z ≤ 1 := by omega
  have x5 : (x : Int) < 5 := by omega
  have y2 : (y : Int) < 2 := by omega
  have z2 : (z : Int) < 2 := by omega
  have n5 : ¬ 7 + x * 4 + y * 2 + z = 5 := by omega
  have n5' : ¬ 5 = 7 + x * 4 + y * 2 + z := by omega
  have SC : Hid (slotN s (x * 4 + y * 2 + z) = carOf s.D x y z) := slot_car s x1 y1 zz1
  have HC : Hid (∀ w1, IsR w1 rb s → w1.cell? ⟨rb, 7 + x * 4 + y * 2 + z, none⟩ = some (.int .i64 (carOf s.D x y z))) := fun w1 h => by rw [← add3, h.cell, rarr_slot s _ (by omega), SC.out]
  have K : Hid (grabS s = s) := by show _ = _; simp [grabS, grabB, hq, hl]
  have hl' : (s.li == 0) = false := by simpa using hl
  have c2 : w.cell? ⟨rb, 2, none⟩ = some (.int .i64 s.ex) := hr.cell 2
  have c3 : w.cell? ⟨rb, 3, none⟩ = some (.bool s.op) := hr.cell 3
  have c4 : w.cell? ⟨rb, 4, none⟩ = some (.int .i64 s.pe) := hr.cell 4
  have c27 : w.cell? ⟨rb, 27, none⟩ = some (.int .i64 s.st) := hr.cell 27
  have C5 : Hid (∀ w1, IsR w1 rb s → w1.cell? ⟨rb, 5, none⟩ = some (.int .i64 s.li)) := fun w1 h => h.cell 5
  have F : Hid (∀ w1, IsR w1 rb s → ∀ o, w1.frozen? ⟨rb, o, none⟩ = false) := fun w1 h => h.free
  generalize grabS s = s2 at *
  generalize carOf s.D x y z = c at *
  generalize s.ex = ex at *
  generalize s.op = op at *
  generalize s.pe = pe at *
  generalize s.st = st at *
  generalize s.li = li at *
  clear hl hr iv hq hX hY hZ hx hy hz h4 SC x1 y1 zz1
  go_enter Try.func83, Try.ntmps83
  go_wp2_with fail
  all_goals
    refine HE.out.mono ?_
    rintro e w1 ⟨rfl, b1⟩
    obtain ⟨wa, hwa⟩ : ∃ wa, w1.alloc (.cells #[.int .i64 x, .int .i64 y, .int .i64 z] 38) = wa := ⟨_, rfl⟩
    have BA : Hid (Below w.heap.size w wa) := by show Below _ _ _; rw [← hwa]; exact b1.alloc b1.size _
    have r0 : ∀ o, wa.cell? ⟨w1.heap.size, o, none⟩ = (#[.int .i64 x, .int .i64 y, .int .i64 z] : Array Value)[o]? := by rw [← hwa]; exact B.row_new _ _ _
    have RA : Hid (IsR wa rb s) := HR.out _ BA.out
    have d5 := C5.out wa RA.out
    have dS := HC.out wa RA.out
    have fS := F.out wa RA.out
    clear b1 C5 HC F HE HR c2 c3 c4 c27
    go_wp2_with fail
    go_region
    go_wp2
    go_returns
    exact ⟨rfl, RA.out.drew.cast K.out.symm, (Turn.of_below BA.out).trans (Turn.drew _)⟩

set_option maxHeartbeats 4000000 in
theorem rstep_p1 (rb : Nat) (s : St) (w : World) (hr : IsR w rb s) (iv : Inv s) (hs : ¬ 0 < s.st) (hq : endB s.lv s.h s.ex = true) (hc : ∀ x y z : Nat, endX s.lv s.h s.ex = x → endY s.lv s.h s.ex = y → endZ s.lv s.h s.ex = z → carOf s.D x y z = 0) : RStepTo rb 112 w (putS s) := by
  have HR : Hid (∀ w1, Below w.heap.size w w1 → IsR w1 rb s) := fun w1 hb => hr.below hb
  have HE : Hid (Calls Try.prog 135 #[.pointer (some ⟨rb, 0, none⟩), .int .i64 s.ex] w fun e w' => e = .returned (.tuple #[.agg #[.int .i64 (endX s.lv s.h s.ex), .int .i64 (endY s.lv s.h s.ex), .int .i64 (endZ s.lv s.h s.ex)], .bool (endB s.lv s.h s.ex)]) ∧ Below w.heap.size w w') := rend_any rb s s.ex w hr iv (by have := iv.ok.e0; omega) (by have := iv.ok.e2; omega)
  obtain ⟨hX, hY, hZ⟩ := endB_in hq
  have h4 := iv.ok.lv4
  obtain ⟨x, hx⟩ : ∃ x : Nat, endX s.lv s.h s.ex = x := ⟨(endX s.lv s.h s.ex).toNat, by omega⟩
  obtain ⟨y, hy⟩ : ∃ y : Nat, endY s.lv s.h s.ex = y := ⟨(endY s.lv s.h s.ex).toNat, by omega⟩
  obtain ⟨z, hz⟩ : ∃ z : Nat, endZ s.lv s.h s.ex = z := ⟨(endZ s.lv s.h s.ex).toNat, by omega⟩
  rw [hx] at hX
  rw [hy] at hY
  rw [hz] at hZ
  rw [hq, hx, hy, hz] at HE
  have x1 : 1 ≤ x ∧ x ≤ 4 := by omega
  have y1 : y ≤ 1 := by omega
  have zz1 : z ≤ 1 := by omega
  have x5 : (x : Int) < 5 := by omega
  have y2 : (y : Int) < 2 := by omega
  have z2 : (z : Int) < 2 := by omega
  have n5 : ¬ 7 + x * 4 + y * 2 + z = 5 := by omega
  have n5' : ¬ 5 = 7 + x * 4 + y * 2 + z := by omega
  have SC : Hid (slotN s (x * 4 + y * 2 + z) = carOf s.D x y z) := slot_car s x1 y1 zz1
  have HC : Hid (∀ w1, IsR w1 rb s → w1.cell? ⟨rb, 7 + x * 4 + y * 2 + z, none⟩ = some (.int .i64 (carOf s.D x y z))) := fun w1 h => by rw [← add3, h.cell, rarr_slot s _ (by omega), SC.out]
  have hc0 := hc x y z hx hy hz
  have hca : carAtI s.D s.lv s.h s.ex = 0 := by simp [carAtI, hq, hx, hy, hz, hc0]
  have HS : Hid (∀ w1, IsR w1 rb s → IsR ((w1.setCell ⟨rb, 7 + x * 4 + y * 2 + z, none⟩ (.int .i64 s.li)).setCell ⟨rb, 5, none⟩ (.int .i64 0)) rb (putS s)) := fun w1 h => by
    rw [← add3]
    by_cases hl : s.li = 0
    · rw [show putS s = { s with li := 0 } from by rw [show putS s = s from by simp [putS, putB, hq, hl]]; rw [← hl]]
      exact (h.set (s' := s) _ _ (rarr_set _ (by omega) s.li rfl rfl rfl rfl rfl rfl rfl rfl rfl (fun j hj => by
        by_cases e : j = x * 4 + y * 2 + z
        · rw [if_pos e, e, SC.out, hc0, hl]
        · rw [if_neg e]))).sli 0
    · rw [show putS s = { s with li := 0, D := s.D.put (pk x y z) (.lit (.int .i64 s.li)) } from by simp [putS, putB, hq, hl, hca, hx, hy, hz]]
      exact (h.set (s' := { s with D := s.D.put (pk x y z) (.lit (.int .i64 s.li)) }) _ _ (rarr_set _ (by omega) s.li rfl rfl rfl rfl rfl rfl rfl rfl rfl (fun j hj => slot_put s s.li iv.D.isMap x1 y1 zz1 j hj))).sli 0
  rw [hc0] at HC
  have c2 : w.cell? ⟨rb, 2, none⟩ = some (.int .i64 s.ex) := hr.cell 2
  have c3 : w.cell? ⟨rb, 3, none⟩ = some (.bool s.op) := hr.cell 3
  have c4 : w.cell? ⟨rb, 4, none⟩ = some (.int .i64 s.pe) := hr.cell 4
  have c27 : w.cell? ⟨rb, 27, none⟩ = some (.int .i64 s.st) := hr.cell 27
  have C5 : Hid (∀ w1, IsR w1 rb s → w1.cell? ⟨rb, 5, none⟩ = some (.int .i64 s.li)) := fun w1 h => h.cell 5
  have F : Hid (∀ w1, IsR w1 rb s → ∀ o, w1.frozen? ⟨rb, o, none⟩ = false) := fun w1 h => h.free
  generalize putS s = s2 at *
  generalize s.ex = ex at *
  generalize s.op = op at *
  generalize s.pe = pe at *
  generalize s.st = st at *
  generalize s.li = li at *
  clear hc hc0 hca hr iv hq hX hY hZ hx hy hz h4 SC x1 y1 zz1
  go_enter Try.func83, Try.ntmps83
  go_wp2_with fail
  all_goals
    refine HE.out.mono ?_
    rintro e w1 ⟨rfl, b1⟩
    obtain ⟨wa, hwa⟩ : ∃ wa, w1.alloc (.cells #[.int .i64 x, .int .i64 y, .int .i64 z] 38) = wa := ⟨_, rfl⟩
    have BA : Hid (Below w.heap.size w wa) := by show Below _ _ _; rw [← hwa]; exact b1.alloc b1.size _
    have r0 : ∀ o, wa.cell? ⟨w1.heap.size, o, none⟩ = (#[.int .i64 x, .int .i64 y, .int .i64 z] : Array Value)[o]? := by rw [← hwa]; exact B.row_new _ _ _
    have RA : Hid (IsR wa rb s) := HR.out _ BA.out
    have d5 := C5.out wa RA.out
    have dS := HC.out wa RA.out
    have fS := F.out wa RA.out
    clear b1 C5 HC F HE HR c2 c3 c4 c27
    go_wp2_with fail
    go_region
    go_wp2
    go_returns
    exact ⟨rfl, (HS.out _ RA.out).drew, (((Turn.of_below BA.out).thenSet _ _).thenSet _ _).trans (Turn.drew _)⟩

set_option maxHeartbeats 4000000 in
theorem rstep_p2 (rb : Nat) (s : St) (w : World) (hr : IsR w rb s) (iv : Inv s) (hs : ¬ 0 < s.st) (hq : endB s.lv s.h s.ex = true) (hc : ∀ x y z : Nat, endX s.lv s.h s.ex = x → endY s.lv s.h s.ex = y → endZ s.lv s.h s.ex = z → ¬ carOf s.D x y z = 0) : RStepTo rb 112 w (putS s) := by
  have HR : Hid (∀ w1, Below w.heap.size w w1 → IsR w1 rb s) := fun w1 hb => hr.below hb
  have HE : Hid (Calls Try.prog 135 #[.pointer (some ⟨rb, 0, none⟩), .int .i64 s.ex] w fun e w' => e = .returned (.tuple #[.agg #[.int .i64 (endX s.lv s.h s.ex), .int .i64 (endY s.lv s.h s.ex), .int .i64 (endZ s.lv s.h s.ex)], .bool (endB s.lv s.h s.ex)]) ∧ Below w.heap.size w w') := rend_any rb s s.ex w hr iv (by have := iv.ok.e0; omega) (by have := iv.ok.e2; omega)
  obtain ⟨hX, hY, hZ⟩ := endB_in hq
  have h4 := iv.ok.lv4
  obtain ⟨x, hx⟩ : ∃ x : Nat, endX s.lv s.h s.ex = x := ⟨(endX s.lv s.h s.ex).toNat, by omega⟩
  obtain ⟨y, hy⟩ : ∃ y : Nat, endY s.lv s.h s.ex = y := ⟨(endY s.lv s.h s.ex).toNat, by omega⟩
  obtain ⟨z, hz⟩ : ∃ z : Nat, endZ s.lv s.h s.ex = z := ⟨(endZ s.lv s.h s.ex).toNat, by omega⟩
  rw [hx] at hX
  rw [hy] at hY
  rw [hz] at hZ
  rw [hq, hx, hy, hz] at HE
  have x1 : 1 ≤ x ∧ x ≤ 4 := by omega
  have y1 : y ≤ 1 := by omega
  have zz1 : z ≤ 1 := by omega
  have x5 : (x : Int) < 5 := by omega
  have y2 : (y : Int) < 2 := by omega
  have z2 : (z : Int) < 2 := by omega
  have n5 : ¬ 7 + x * 4 + y * 2 + z = 5 := by omega
  have n5' : ¬ 5 = 7 + x * 4 + y * 2 + z := by omega
  have SC : Hid (slotN s (x * 4 + y * 2 + z) = carOf s.D x y z) := slot_car s x1 y1 zz1
  have HC : Hid (∀ w1, IsR w1 rb s → w1.cell? ⟨rb, 7 + x * 4 + y * 2 + z, none⟩ = some (.int .i64 (carOf s.D x y z))) := fun w1 h => by rw [← add3, h.cell, rarr_slot s _ (by omega), SC.out]
  have hc0 := hc x y z hx hy hz
  have hc1 : (carOf s.D x y z == 0) = false := by simpa using hc0
  have K : Hid (putS s = s) := by show _ = _; simp [putS, putB, hq, carAtI, hx, hy, hz, hc0]
  have c2 : w.cell? ⟨rb, 2, none⟩ = some (.int .i64 s.ex) := hr.cell 2
  have c3 : w.cell? ⟨rb, 3, none⟩ = some (.bool s.op) := hr.cell 3
  have c4 : w.cell? ⟨rb, 4, none⟩ = some (.int .i64 s.pe) := hr.cell 4
  have c27 : w.cell? ⟨rb, 27, none⟩ = some (.int .i64 s.st) := hr.cell 27
  have C5 : Hid (∀ w1, IsR w1 rb s → w1.cell? ⟨rb, 5, none⟩ = some (.int .i64 s.li)) := fun w1 h => h.cell 5
  have F : Hid (∀ w1, IsR w1 rb s → ∀ o, w1.frozen? ⟨rb, o, none⟩ = false) := fun w1 h => h.free
  generalize putS s = s2 at *
  generalize carOf s.D x y z = c at *
  generalize s.ex = ex at *
  generalize s.op = op at *
  generalize s.pe = pe at *
  generalize s.st = st at *
  generalize s.li = li at *
  clear hc hc0 hr iv hq hX hY hZ hx hy hz h4 SC x1 y1 zz1
  go_enter Try.func83, Try.ntmps83
  go_wp2_with fail
  all_goals
    refine HE.out.mono ?_
    rintro e w1 ⟨rfl, b1⟩
    obtain ⟨wa, hwa⟩ : ∃ wa, w1.alloc (.cells #[.int .i64 x, .int .i64 y, .int .i64 z] 38) = wa := ⟨_, rfl⟩
    have BA : Hid (Below w.heap.size w wa) := by show Below _ _ _; rw [← hwa]; exact b1.alloc b1.size _
    have r0 : ∀ o, wa.cell? ⟨w1.heap.size, o, none⟩ = (#[.int .i64 x, .int .i64 y, .int .i64 z] : Array Value)[o]? := by rw [← hwa]; exact B.row_new _ _ _
    have RA : Hid (IsR wa rb s) := HR.out _ BA.out
    have d5 := C5.out wa RA.out
    have dS := HC.out wa RA.out
    have fS := F.out wa RA.out
    clear b1 C5 HC F HE HR c2 c3 c4 c27
    go_wp2_with fail
    go_region
    go_wp2
    go_returns
    exact ⟨rfl, RA.out.drew.cast K.out.symm, (Turn.of_below BA.out).trans (Turn.drew _)⟩

theorem rstep_g (rb : Nat) (s : St) (w : World) (hr : IsR w rb s) (iv : Inv s) (hs : ¬ 0 < s.st) : RStepTo rb 103 w (grabS s) := by
  cases hq : endB s.lv s.h s.ex with
  | false => exact rstep_g0 rb s w hr iv hs hq
  | true =>
    by_cases hl : s.li = 0
    · exact rstep_g1 rb s w hr iv hs hq hl
    · exact rstep_g2 rb s w hr iv hs hq hl

theorem rstep_p (rb : Nat) (s : St) (w : World) (hr : IsR w rb s) (iv : Inv s) (hs : ¬ 0 < s.st) : RStepTo rb 112 w (putS s) := by
  cases hq : endB s.lv s.h s.ex with
  | false => exact rstep_p0 rb s w hr iv hs hq
  | true =>
    by_cases hc : carOf s.D (endX s.lv s.h s.ex) (endY s.lv s.h s.ex) (endZ s.lv s.h s.ex) = 0
    · exact rstep_p1 rb s w hr iv hs hq (fun x y z hx hy hz => by rw [← hx, ← hy, ← hz]; exact hc)
    · exact rstep_p2 rb s w hr iv hs hq (fun x y z hx hy hz => by rw [← hx, ← hy, ← hz]; exact hc)

theorem rstep_any (rb : Nat) (s : St) (c : Int) (w : World) (hr : IsR w rb s) (iv : Inv s) : RStepTo rb c w (stepS c s) := by
  by_cases hs : 0 < s.st ∧ c ≠ 45
  · rw [show stepS c s = { s with st := s.st - 1 } from if_pos hs]
    exact rstep_stall rb s c w hr hs.1 iv.st.2 hs.2
  · rw [show stepS c s = doS c s from if_neg hs]
    unfold doS
    by_cases k1 : c = 117
    · subst k1
      simp only [if_true]
      exact rstep_u rb s w hr iv (by omega)
    rw [if_neg k1]
    by_cases k2 : c = 100
    · subst k2
      simp only [if_true]
      exact rstep_d rb s w hr iv (by omega)
    rw [if_neg k2]
    by_cases k3 : c = 108
    · subst k3
      simp only [if_true]
      exact rstep_l rb s w hr iv (by omega)
    rw [if_neg k3]
    by_cases k4 : c = 114
    · subst k4
      simp only [if_true]
      exact rstep_r rb s w hr iv (by omega)
    rw [if_neg k4]
    by_cases k5 : c = 103
    · subst k5
      simp only [if_true]
      exact rstep_g rb s w hr iv (by omega)
    rw [if_neg k5]
    by_cases k6 : c = 112
    · subst k6
      simp only [if_true]
      exact rstep_p rb s w hr iv (by omega)
    rw [if_neg k6]
    by_cases k7 : c = 111
    · subst k7
      simp only [if_true]
      exact rstep_o rb s w hr iv (by omega)
    rw [if_neg k7]
    by_cases k8 : c = 99
    · subst k8
      simp only [if_true]
      exact rstep_c rb s w hr iv (by omega)
    rw [if_neg k8]
    by_cases k9 : c = 110
    · subst k9
      simp only [if_true]
      exact rstep_n rb s w hr iv (by omega)
    rw [if_neg k9]
    by_cases k10 : c = 120
    · subst k10
      simp only [if_true]
      exact rstep_x rb s w hr iv (by omega)
    rw [if_neg k10]
    exact rstep_none rb s c w hr hs k1 k2 k3 k4 k5 k6 k7 k8 k9 k10

end Pl
end Go.Proofs.Ytihapeagjikiaaa
