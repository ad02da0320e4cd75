/- Are all cars where they were, but one place: contract of the laws' own function 'but'. -/
import Derived.Test.YticjjnmmedmbiabPlanPure
import Derived.Deep.CutRange
import Derived.Deep.DeepCutAuto
namespace Go.Proofs.Yticjjnmmedmbiab
open Go.ChangeShapes Go.WideShapes Go.ChangeAt Go.RowKit Go.Maps
set_option maxRecDepth 100000
set_option linter.unusedSimpArgs false
set_option linter.unusedVariables false

namespace Pl
open Ac
set_option maxHeartbeats 8000000 in
theorem but_any (pq mq n1 pp mp n2 : Nat) (s1 s2 : St) (X Y Z : Int) (w : World) (h1 : IsP w pq mq n1 s1) (h2 : IsP w pp mp n2 s2) (hne : pq ≠ pp)
    (heq : ∀ x y z : Int, 1 ≤ x ∧ x ≤ 4 → 0 ≤ y ∧ y ≤ 1 → 0 ≤ z ∧ z ≤ 1 → ¬ (x = X ∧ y = Y ∧ z = Z) → carOf s1.D x y z = carOf s2.D x y z) :
    Calls Try.prog 25 #[.pointer (some ⟨pq, 0, none⟩), .pointer (some ⟨pp, 0, none⟩), .agg #[.int .i64 X, .int .i64 Y, .int .i64 Z]] w fun e w' => e = .returned (.bool true) ∧ Below w.heap.size w w' := by
  obtain ⟨w0, hw0⟩ : ∃ w0, w0 = w.alloc (.cells #[.int .i64 X, .int .i64 Y, .int .i64 Z] 52) := ⟨_, rfl⟩
  have HW : Hid (Below w.heap.size w w0) := by rw [hw0]; exact B.new1 _ _
  have z0 : w0.heap.size = w.heap.size + 1 := by rw [hw0]; simp
  have HX : Hid (∀ wx, Below w0.heap.size w0 wx → ∀ o, wx.cell? ⟨w.heap.size, o, none⟩ = (#[.int .i64 X, .int .i64 Y, .int .i64 Z] : Array Value)[o]?) := fun wx hb => B.row hb (by rw [hw0]; exact B.row_new _ _ _) (by omega)
  have HQ1 : Hid (∀ wx, Below w0.heap.size w0 wx → IsP wx pq mq n1 s1) := fun wx hb => (h1.below HW.out).below hb
  have HQ2 : Hid (∀ wx, Below w0.heap.size w0 wx → IsP wx pp mp n2 s2) := fun wx hb => (h2.below HW.out).below hb
  have HEQ : Hid (∀ x y z : Int, 1 ≤ x ∧ x ≤ 4 → 0 ≤ y ∧ y ≤ 1 → 0 ≤ z ∧ z ≤ 1 → ¬ (x = X ∧ y = Y ∧ z = Z) → carOf s1.D x y z = carOf s2.D x y z) := heq
  have FIN : Hid (∀ wx, Below w0.heap.size w0 wx → Below w.heap.size w wx) := fun wx hb => B.next HW.out hb (by omega)
  clear h1 h2 heq
  go_enter Try.func25, Try.ntmps25
  go_wp2_with fail
  rw [← hw0]
  clear hw0
  go_loopg [7] 4 (fun q i wr => ∃ k : Nat, k + q = 4 ∧ i = .int .i64 ((k : Int) + 1) ∧ Hid (Below w0.heap.size w0 wr))
  case atStart => exact ⟨0, by omega, by simp, Below.refl _ _⟩
  case round =>
    obtain ⟨k, hk, rfl, PO⟩ := hrel
    have HK : Hid (k + gk = 4) := hk
    by_cases hlt : k < 4
    · have i4 : ((k : Int) + 1) ≤ 4 := by omega
      go_wp2_with fail
      go_loopg [8] 4 (fun q i wr => ∃ j : Nat, j + q = 4 ∧ i = .int .i64 j ∧ Hid (Below w0.heap.size w0 wr))
      case atStart => exact ⟨0, by omega, rfl, PO⟩
      case round =>
        obtain ⟨j, hj, rfl, PR⟩ := hrel
        have HJ : Hid (j + gk = 4) := hj
        by_cases hlj : j < 4
        · clear hj
          have hJ : j = 0 ∨ j = 1 ∨ j = 2 ∨ j = 3 := by omega
          rcases hJ with rfl | rfl | rfl | rfl
          · have hz := PR.out.size
            obtain ⟨wa, hwa⟩ : ∃ wa, wr.alloc (.cells #[.int .i64 ((k : Int) + 1), .int .i64 0, .int .i64 0] 52) = wa := ⟨_, rfl⟩
            have Awa : Hid (∀ o, wa.cell? ⟨wr.heap.size, o, none⟩ = (#[.int .i64 ((k : Int) + 1), .int .i64 0, .int .i64 0] : Array Value)[o]?) := by rw [← hwa]; exact B.row_new wr _ _
            have Bwa : Hid (Below w0.heap.size w0 wa) := by rw [← hwa]; exact PR.out.alloc PR.out.size _
            have Xwa : Hid (∀ o, wa.cell? ⟨w.heap.size, o, none⟩ = (#[.int .i64 X, .int .i64 Y, .int .i64 Z] : Array Value)[o]?) := HX.out _ Bwa.out
            have za : wr.heap.size < wa.heap.size := by rw [← hwa]; simp
            have HWA : Hid (wr.alloc (.cells #[.int .i64 ((k : Int) + 1), .int .i64 0, .int .i64 0] 52) = wa) := hwa
            clear hwa
            have HE1 : Hid (¬ (((k : Int) + 1) = X ∧ (0 : Int) = Y ∧ (0 : Int) = Z) → carOf s1.D ((k : Int) + 1) 0 0 = carOf s2.D ((k : Int) + 1) 0 0) := HEQ.out ((k : Int) + 1) 0 0 (by omega) (by omega) (by omega)
            have HA1 : Hid (∀ w1, Below w0.heap.size w0 w1 → Calls Try.prog 21 #[.pointer (some ⟨pq, 0, none⟩), .agg #[.int .i64 ((k : Int) + 1), .int .i64 0, .int .i64 0]] w1 fun e w' => e = .returned (.int .i64 (carOf s1.D ((k : Int) + 1) 0 0)) ∧ Below w1.heap.size w1 w') := fun w1 hb => at_any pq mq n1 s1.D _ _ _ w1 (HQ1.out _ hb).c7 (HQ1.out _ hb).cars (wfI (by omega)) (wfI (by omega)) (wfI (by omega))
            have HA2 : Hid (∀ w1, Below w0.heap.size w0 w1 → Calls Try.prog 21 #[.pointer (some ⟨pp, 0, none⟩), .agg #[.int .i64 ((k : Int) + 1), .int .i64 0, .int .i64 0]] w1 fun e w' => e = .returned (.int .i64 (carOf s2.D ((k : Int) + 1) 0 0)) ∧ Below w1.heap.size w1 w') := fun w1 hb => at_any pp mp n2 s2.D _ _ _ w1 (HQ2.out _ hb).c7 (HQ2.out _ hb).cars (wfI (by omega)) (wfI (by omega)) (wfI (by omega))
            generalize carOf s1.D ((k : Int) + 1) 0 0 = r1 at *
            generalize carOf s2.D ((k : Int) + 1) 0 0 = r2 at *
            cases ex : ((k : Int) + 1 == X) <;> cases ey : ((0 : Int) == Y) <;> cases ez : ((0 : Int) == Z)
            case true.true.true =>
              go_upto_region 8 with fail
              rw [HWA.out]
              clear HWA
              have pa0 : wa.cell? ⟨wr.heap.size, 0, none⟩ = some (.int .i64 ((k : Int) + 1)) := Awa.out 0; have pa1 : wa.cell? ⟨wr.heap.size, 1, none⟩ = some (.int .i64 0) := Awa.out 1; have pa2 : wa.cell? ⟨wr.heap.size, 2, none⟩ = some (.int .i64 0) := Awa.out 2; have px0 : wa.cell? ⟨w.heap.size, 0, none⟩ = some (.int .i64 X) := Xwa.out 0; have px1 : wa.cell? ⟨w.heap.size, 1, none⟩ = some (.int .i64 Y) := Xwa.out 1; have px2 : wa.cell? ⟨w.heap.size, 2, none⟩ = some (.int .i64 Z) := Xwa.out 2
              go_region
              go_wp2_with fail
              go_roundg (gk - 1)
              case measure => have := HJ.out; omega
              case rel => exact ⟨0 + 1, by have := HJ.out; omega, by go_num, Bwa.out.drew⟩
            all_goals
              have hr12 : r1 = r2 := HE1.out (by simp at ex ey ez; omega)
              subst hr12
              go_upto_region 8 with fail
              rw [HWA.out]
              clear HWA HE1
              have pa0 : wa.cell? ⟨wr.heap.size, 0, none⟩ = some (.int .i64 ((k : Int) + 1)) := Awa.out 0; have pa1 : wa.cell? ⟨wr.heap.size, 1, none⟩ = some (.int .i64 0) := Awa.out 1; have pa2 : wa.cell? ⟨wr.heap.size, 2, none⟩ = some (.int .i64 0) := Awa.out 2; have px0 : wa.cell? ⟨w.heap.size, 0, none⟩ = some (.int .i64 X) := Xwa.out 0; have px1 : wa.cell? ⟨w.heap.size, 1, none⟩ = some (.int .i64 Y) := Xwa.out 1; have px2 : wa.cell? ⟨w.heap.size, 2, none⟩ = some (.int .i64 Z) := Xwa.out 2
              go_region_held3 (fun wx => wx.cell? ⟨wr.heap.size, 0, none⟩ = some (.int .i64 ((k : Int) + 1)) ∧ wx.cell? ⟨wr.heap.size, 1, none⟩ = some (.int .i64 0) ∧ wx.cell? ⟨wr.heap.size, 2, none⟩ = some (.int .i64 0) ∧ wx.cell? ⟨w.heap.size, 0, none⟩ = some (.int .i64 X) ∧ wx.cell? ⟨w.heap.size, 1, none⟩ = some (.int .i64 Y) ∧ wx.cell? ⟨w.heap.size, 2, none⟩ = some (.int .i64 Z)) (go_keep)
                (first
                  | (go_at_call_of 21 (Value.pointer (some ⟨pq, 0, none⟩)); refine (HA1.out _ Bwa.out.drew).mono ?_; rintro e wb ⟨rfl, bb⟩
                     have Bwb : Hid (Below w0.heap.size w0 wb) := B.next Bwa.out.drew bb Bwa.out.size
                     have Awb : Hid (∀ o, wb.cell? ⟨wr.heap.size, o, none⟩ = (#[.int .i64 ((k : Int) + 1), .int .i64 0, .int .i64 0] : Array Value)[o]?) := B.row bb Awa.out za
                     have Xwb : Hid (∀ o, wb.cell? ⟨w.heap.size, o, none⟩ = (#[.int .i64 X, .int .i64 Y, .int .i64 Z] : Array Value)[o]?) := HX.out _ Bwb.out
                     have zb : wr.heap.size < wb.heap.size := Nat.lt_of_lt_of_le za bb.size
                     have qa0 : wb.cell? ⟨wr.heap.size, 0, none⟩ = some (.int .i64 ((k : Int) + 1)) := Awb.out 0; have qa1 : wb.cell? ⟨wr.heap.size, 1, none⟩ = some (.int .i64 0) := Awb.out 1; have qa2 : wb.cell? ⟨wr.heap.size, 2, none⟩ = some (.int .i64 0) := Awb.out 2; have qx0 : wb.cell? ⟨w.heap.size, 0, none⟩ = some (.int .i64 X) := Xwb.out 0; have qx1 : wb.cell? ⟨w.heap.size, 1, none⟩ = some (.int .i64 Y) := Xwb.out 1; have qx2 : wb.cell? ⟨w.heap.size, 2, none⟩ = some (.int .i64 Z) := Xwb.out 2
                     clear bb)
                  | (go_at_call_of 21 (Value.pointer (some ⟨pp, 0, none⟩)); refine (HA2.out _ Bwb.out).mono ?_; rintro e wc ⟨rfl, bc⟩
                     have Bwc : Hid (Below w0.heap.size w0 wc) := B.next Bwb.out bc Bwb.out.size
                     have Awc : Hid (∀ o, wc.cell? ⟨wr.heap.size, o, none⟩ = (#[.int .i64 ((k : Int) + 1), .int .i64 0, .int .i64 0] : Array Value)[o]?) := B.row bc Awb.out zb
                     have Xwc : Hid (∀ o, wc.cell? ⟨w.heap.size, o, none⟩ = (#[.int .i64 X, .int .i64 Y, .int .i64 Z] : Array Value)[o]?) := HX.out _ Bwc.out
                     have ra0 : wc.cell? ⟨wr.heap.size, 0, none⟩ = some (.int .i64 ((k : Int) + 1)) := Awc.out 0; have ra1 : wc.cell? ⟨wr.heap.size, 1, none⟩ = some (.int .i64 0) := Awc.out 1; have ra2 : wc.cell? ⟨wr.heap.size, 2, none⟩ = some (.int .i64 0) := Awc.out 2; have rx0 : wc.cell? ⟨w.heap.size, 0, none⟩ = some (.int .i64 X) := Xwc.out 0; have rx1 : wc.cell? ⟨w.heap.size, 1, none⟩ = some (.int .i64 Y) := Xwc.out 1; have rx2 : wc.cell? ⟨w.heap.size, 2, none⟩ = some (.int .i64 Z) := Xwc.out 2
                     clear bc))
              all_goals go_wp2_with fail
              all_goals go_roundg (gk - 1)
              all_goals first
                | (have := HJ.out; omega)
                | exact ⟨0 + 1, by have := HJ.out; omega, by go_num, Bwc⟩
          · have hz := PR.out.size
            obtain ⟨wa, hwa⟩ : ∃ wa, wr.alloc (.cells #[.int .i64 ((k : Int) + 1), .int .i64 0, .int .i64 1] 52) = wa := ⟨_, rfl⟩
            have Awa : Hid (∀ o, wa.cell? ⟨wr.heap.size, o, none⟩ = (#[.int .i64 ((k : Int) + 1), .int .i64 0, .int .i64 1] : Array Value)[o]?) := by rw [← hwa]; exact B.row_new wr _ _
            have Bwa : Hid (Below w0.heap.size w0 wa) := by rw [← hwa]; exact PR.out.alloc PR.out.size _
            have Xwa : Hid (∀ o, wa.cell? ⟨w.heap.size, o, none⟩ = (#[.int .i64 X, .int .i64 Y, .int .i64 Z] : Array Value)[o]?) := HX.out _ Bwa.out
            have za : wr.heap.size < wa.heap.size := by rw [← hwa]; simp
            have HWA : Hid (wr.alloc (.cells #[.int .i64 ((k : Int) + 1), .int .i64 0, .int .i64 1] 52) = wa) := hwa
            clear hwa
            have HE1 : Hid (¬ (((k : Int) + 1) = X ∧ (0 : Int) = Y ∧ (1 : Int) = Z) → carOf s1.D ((k : Int) + 1) 0 1 = carOf s2.D ((k : Int) + 1) 0 1) := HEQ.out ((k : Int) + 1) 0 1 (by omega) (by omega) (by omega)
            have HA1 : Hid (∀ w1, Below w0.heap.size w0 w1 → Calls Try.prog 21 #[.pointer (some ⟨pq, 0, none⟩), .agg #[.int .i64 ((k : Int) + 1), .int .i64 0, .int .i64 1]] w1 fun e w' => e = .returned (.int .i64 (carOf s1.D ((k : Int) + 1) 0 1)) ∧ Below w1.heap.size w1 w') := fun w1 hb => at_any pq mq n1 s1.D _ _ _ w1 (HQ1.out _ hb).c7 (HQ1.out _ hb).cars (wfI (by omega)) (wfI (by omega)) (wfI (by omega))
            have HA2 : Hid (∀ w1, Below w0.heap.size w0 w1 → Calls Try.prog 21 #[.pointer (some ⟨pp, 0, none⟩), .agg #[.int .i64 ((k : Int) + 1), .int .i64 0, .int .i64 1]] w1 fun e w' => e = .returned (.int .i64 (carOf s2.D ((k : Int) + 1) 0 1)) ∧ Below w1.heap.size w1 w') := fun w1 hb => at_any pp mp n2 s2.D _ _ _ w1 (HQ2.out _ hb).c7 (HQ2.out _ hb).cars (wfI (by omega)) (wfI (by omega)) (wfI (by omega))
            generalize carOf s1.D ((k : Int) + 1) 0 1 = r1 at *
            generalize carOf s2.D ((k : Int) + 1) 0 1 = r2 at *
            cases ex : ((k : Int) + 1 == X) <;> cases ey : ((0 : Int) == Y) <;> cases ez : ((1 : Int) == Z)
            case true.true.true =>
              go_upto_region 8 with fail
              rw [HWA.out]
              clear HWA
              have pa0 : wa.cell? ⟨wr.heap.size, 0, none⟩ = some (.int .i64 ((k : Int) + 1)) := Awa.out 0; have pa1 : wa.cell? ⟨wr.heap.size, 1, none⟩ = some (.int .i64 0) := Awa.out 1; have pa2 : wa.cell? ⟨wr.heap.size, 2, none⟩ = some (.int .i64 1) := Awa.out 2; have px0 : wa.cell? ⟨w.heap.size, 0, none⟩ = some (.int .i64 X) := Xwa.out 0; have px1 : wa.cell? ⟨w.heap.size, 1, none⟩ = some (.int .i64 Y) := Xwa.out 1; have px2 : wa.cell? ⟨w.heap.size, 2, none⟩ = some (.int .i64 Z) := Xwa.out 2
              go_region
              go_wp2_with fail
              go_roundg (gk - 1)
              case measure => have := HJ.out; omega
              case rel => exact ⟨1 + 1, by have := HJ.out; omega, by go_num, Bwa.out.drew⟩
            all_goals
              have hr12 : r1 = r2 := HE1.out (by simp at ex ey ez; omega)
              subst hr12
              go_upto_region 8 with fail
              rw [HWA.out]
              clear HWA HE1
              have pa0 : wa.cell? ⟨wr.heap.size, 0, none⟩ = some (.int .i64 ((k : Int) + 1)) := Awa.out 0; have pa1 : wa.cell? ⟨wr.heap.size, 1, none⟩ = some (.int .i64 0) := Awa.out 1; have pa2 : wa.cell? ⟨wr.heap.size, 2, none⟩ = some (.int .i64 1) := Awa.out 2; have px0 : wa.cell? ⟨w.heap.size, 0, none⟩ = some (.int .i64 X) := Xwa.out 0; have px1 : wa.cell? ⟨w.heap.size, 1, none⟩ = some (.int .i64 Y) := Xwa.out 1; have px2 : wa.cell? ⟨w.heap.size, 2, none⟩ = some (.int .i64 Z) := Xwa.out 2
              go_region_held3 (fun wx => wx.cell? ⟨wr.heap.size, 0, none⟩ = some (.int .i64 ((k : Int) + 1)) ∧ wx.cell? ⟨wr.heap.size, 1, none⟩ = some (.int .i64 0) ∧ wx.cell? ⟨wr.heap.size, 2, none⟩ = some (.int .i64 1) ∧ wx.cell? ⟨w.heap.size, 0, none⟩ = some (.int .i64 X) ∧ wx.cell? ⟨w.heap.size, 1, none⟩ = some (.int .i64 Y) ∧ wx.cell? ⟨w.heap.size, 2, none⟩ = some (.int .i64 Z)) (go_keep)
                (first
                  | (go_at_call_of 21 (Value.pointer (some ⟨pq, 0, none⟩)); refine (HA1.out _ Bwa.out.drew).mono ?_; rintro e wb ⟨rfl, bb⟩
                     have Bwb : Hid (Below w0.heap.size w0 wb) := B.next Bwa.out.drew bb Bwa.out.size
                     have Awb : Hid (∀ o, wb.cell? ⟨wr.heap.size, o, none⟩ = (#[.int .i64 ((k : Int) + 1), .int .i64 0, .int .i64 1] : Array Value)[o]?) := B.row bb Awa.out za
                     have Xwb : Hid (∀ o, wb.cell? ⟨w.heap.size, o, none⟩ = (#[.int .i64 X, .int .i64 Y, .int .i64 Z] : Array Value)[o]?) := HX.out _ Bwb.out
                     have zb : wr.heap.size < wb.heap.size := Nat.lt_of_lt_of_le za bb.size
                     have qa0 : wb.cell? ⟨wr.heap.size, 0, none⟩ = some (.int .i64 ((k : Int) + 1)) := Awb.out 0; have qa1 : wb.cell? ⟨wr.heap.size, 1, none⟩ = some (.int .i64 0) := Awb.out 1; have qa2 : wb.cell? ⟨wr.heap.size, 2, none⟩ = some (.int .i64 1) := Awb.out 2; have qx0 : wb.cell? ⟨w.heap.size, 0, none⟩ = some (.int .i64 X) := Xwb.out 0; have qx1 : wb.cell? ⟨w.heap.size, 1, none⟩ = some (.int .i64 Y) := Xwb.out 1; have qx2 : wb.cell? ⟨w.heap.size, 2, none⟩ = some (.int .i64 Z) := Xwb.out 2
                     clear bb)
                  | (go_at_call_of 21 (Value.pointer (some ⟨pp, 0, none⟩)); refine (HA2.out _ Bwb.out).mono ?_; rintro e wc ⟨rfl, bc⟩
                     have Bwc : Hid (Below w0.heap.size w0 wc) := B.next Bwb.out bc Bwb.out.size
                     have Awc : Hid (∀ o, wc.cell? ⟨wr.heap.size, o, none⟩ = (#[.int .i64 ((k : Int) + 1), .int .i64 0, .int .i64 1] : Array Value)[o]?) := B.row bc Awb.out zb
                     have Xwc : Hid (∀ o, wc.cell? ⟨w.heap.size, o, none⟩ = (#[.int .i64 X, .int .i64 Y, .int .i64 Z] : Array Value)[o]?) := HX.out _ Bwc.out
                     have ra0 : wc.cell? ⟨wr.heap.size, 0, none⟩ = some (.int .i64 ((k : Int) + 1)) := Awc.out 0; have ra1 : wc.cell? ⟨wr.heap.size, 1, none⟩ = some (.int .i64 0) := Awc.out 1; have ra2 : wc.cell? ⟨wr.heap.size, 2, none⟩ = some (.int .i64 1) := Awc.out 2; have rx0 : wc.cell? ⟨w.heap.size, 0, none⟩ = some (.int .i64 X) := Xwc.out 0; have rx1 : wc.cell? ⟨w.heap.size, 1, none⟩ = some (.int .i64 Y) := Xwc.out 1; have rx2 : wc.cell? ⟨w.heap.size, 2, none⟩ = some (.int .i64 Z) := Xwc.out 2
                     clear bc))
              all_goals go_wp2_with fail
              all_goals go_roundg (gk - 1)
              all_goals first
                | (have := HJ.out; omega)
                | exact ⟨1 + 1, by have := HJ.out; omega, by go_num, Bwc⟩
          · have hz := PR.out.size
            obtain ⟨wa, hwa⟩ : ∃ wa, wr.alloc (.cells #[.int .i64 ((k : Int) + 1), .int .i64 1, .int .i64 0] 52) = wa := ⟨_, rfl⟩
            have Awa : Hid (∀ o, wa.cell? ⟨wr.heap.size, o, none⟩ = (#[.int .i64 ((k : Int) + 1), .int .i64 1, .int .i64 0] : Array Value)[o]?) := by rw [← hwa]; exact B.row_new wr _ _
            have Bwa : Hid (Below w0.heap.size w0 wa) := by rw [← hwa]; exact PR.out.alloc PR.out.size _
            have Xwa : Hid (∀ o, wa.cell? ⟨w.heap.size, o, none⟩ = (#[.int .i64 X, .int .i64 Y, .int .i64 Z] : Array Value)[o]?) := HX.out _ Bwa.out
            have za : wr.heap.size < wa.heap.size := by rw [← hwa]; simp
            have HWA : Hid (wr.alloc (.cells #[.int .i64 ((k : Int) + 1), .int .i64 1, .int .i64 0] 52) = wa) := hwa
            clear hwa
            have HE1 : Hid (¬ (((k : Int) + 1) = X ∧ (1 : Int) = Y ∧ (0 : Int) = Z) → carOf s1.D ((k : Int) + 1) 1 0 = carOf s2.D ((k : Int) + 1) 1 0) := HEQ.out ((k : Int) + 1) 1 0 (by omega) (by omega) (by omega)
            have HA1 : Hid (∀ w1, Below w0.heap.size w0 w1 → Calls Try.prog 21 #[.pointer (some ⟨pq, 0, none⟩), .agg #[.int .i64 ((k : Int) + 1), .int .i64 1, .int .i64 0]] w1 fun e w' => e = .returned (.int .i64 (carOf s1.D ((k : Int) + 1) 1 0)) ∧ Below w1.heap.size w1 w') := fun w1 hb => at_any pq mq n1 s1.D _ _ _ w1 (HQ1.out _ hb).c7 (HQ1.out _ hb).cars (wfI (by omega)) (wfI (by omega)) (wfI (by omega))
            have HA2 : Hid (∀ w1, Below w0.heap.size w0 w1 → Calls Try.prog 21 #[.pointer (some ⟨pp, 0, none⟩), .agg #[.int .i64 ((k : Int) + 1), .int .i64 1, .int .i64 0]] w1 fun e w' => e = .returned (.int .i64 (carOf s2.D ((k : Int) + 1) 1 0)) ∧ Below w1.heap.size w1 w') := fun w1 hb => at_any pp mp n2 s2.D _ _ _ w1 (HQ2.out _ hb).c7 (HQ2.out _ hb).cars (wfI (by omega)) (wfI (by omega)) (wfI (by omega))
            generalize carOf s1.D ((k : Int) + 1) 1 0 = r1 at *
            generalize carOf s2.D ((k : Int) + 1) 1 0 = r2 at *
            cases ex : ((k : Int) + 1 == X) <;> cases ey : ((1 : Int) == Y) <;> cases ez : ((0 : Int) == Z)
            case true.true.true =>
              go_upto_region 8 with fail
              rw [HWA.out]
              clear HWA
              have pa0 : wa.cell? ⟨wr.heap.size, 0, none⟩ = some (.int .i64 ((k : Int) + 1)) := Awa.out 0; have pa1 : wa.cell? ⟨wr.heap.size, 1, none⟩ = some (.int .i64 1) := Awa.out 1; have pa2 : wa.cell? ⟨wr.heap.size, 2, none⟩ = some (.int .i64 0) := Awa.out 2; have px0 : wa.cell? ⟨w.heap.size, 0, none⟩ = some (.int .i64 X) := Xwa.out 0; have px1 : wa.cell? ⟨w.heap.size, 1, none⟩ = some (.int .i64 Y) := Xwa.out 1; have px2 : wa.cell? ⟨w.heap.size, 2, none⟩ = some (.int .i64 Z) := Xwa.out 2
              go_region
              go_wp2_with fail
              go_roundg (gk - 1)
              case measure => have := HJ.out; omega
              case rel => exact ⟨2 + 1, by have := HJ.out; omega, by go_num, Bwa.out.drew⟩
            all_goals
              have hr12 : r1 = r2 := HE1.out (by simp at ex ey ez; omega)
              subst hr12
              go_upto_region 8 with fail
              rw [HWA.out]
              clear HWA HE1
              have pa0 : wa.cell? ⟨wr.heap.size, 0, none⟩ = some (.int .i64 ((k : Int) + 1)) := Awa.out 0; have pa1 : wa.cell? ⟨wr.heap.size, 1, none⟩ = some (.int .i64 1) := Awa.out 1; have pa2 : wa.cell? ⟨wr.heap.size, 2, none⟩ = some (.int .i64 0) := Awa.out 2; have px0 : wa.cell? ⟨w.heap.size, 0, none⟩ = some (.int .i64 X) := Xwa.out 0; have px1 : wa.cell? ⟨w.heap.size, 1, none⟩ = some (.int .i64 Y) := Xwa.out 1; have px2 : wa.cell? ⟨w.heap.size, 2, none⟩ = some (.int .i64 Z) := Xwa.out 2
              go_region_held3 (fun wx => wx.cell? ⟨wr.heap.size, 0, none⟩ = some (.int .i64 ((k : Int) + 1)) ∧ wx.cell? ⟨wr.heap.size, 1, none⟩ = some (.int .i64 1) ∧ wx.cell? ⟨wr.heap.size, 2, none⟩ = some (.int .i64 0) ∧ wx.cell? ⟨w.heap.size, 0, none⟩ = some (.int .i64 X) ∧ wx.cell? ⟨w.heap.size, 1, none⟩ = some (.int .i64 Y) ∧ wx.cell? ⟨w.heap.size, 2, none⟩ = some (.int .i64 Z)) (go_keep)
                (first
                  | (go_at_call_of 21 (Value.pointer (some ⟨pq, 0, none⟩)); refine (HA1.out _ Bwa.out.drew).mono ?_; rintro e wb ⟨rfl, bb⟩
                     have Bwb : Hid (Below w0.heap.size w0 wb) := B.next Bwa.out.drew bb Bwa.out.size
                     have Awb : Hid (∀ o, wb.cell? ⟨wr.heap.size, o, none⟩ = (#[.int .i64 ((k : Int) + 1), .int .i64 1, .int .i64 0] : Array Value)[o]?) := B.row bb Awa.out za
                     have Xwb : Hid (∀ o, wb.cell? ⟨w.heap.size, o, none⟩ = (#[.int .i64 X, .int .i64 Y, .int .i64 Z] : Array Value)[o]?) := HX.out _ Bwb.out
                     have zb : wr.heap.size < wb.heap.size := Nat.lt_of_lt_of_le za bb.size
                     have qa0 : wb.cell? ⟨wr.heap.size, 0, none⟩ = some (.int .i64 ((k : Int) + 1)) := Awb.out 0; have qa1 : wb.cell? ⟨wr.heap.size, 1, none⟩ = some (.int .i64 1) := Awb.out 1; have qa2 : wb.cell? ⟨wr.heap.size, 2, none⟩ = some (.int .i64 0) := Awb.out 2; have qx0 : wb.cell? ⟨w.heap.size, 0, none⟩ = some (.int .i64 X) := Xwb.out 0; have qx1 : wb.cell? ⟨w.heap.size, 1, none⟩ = some (.int .i64 Y) := Xwb.out 1; have qx2 : wb.cell? ⟨w.heap.size, 2, none⟩ = some (.int .i64 Z) := Xwb.out 2
                     clear bb)
                  | (go_at_call_of 21 (Value.pointer (some ⟨pp, 0, none⟩)); refine (HA2.out _ Bwb.out).mono ?_; rintro e wc ⟨rfl, bc⟩
                     have Bwc : Hid (Below w0.heap.size w0 wc) := B.next Bwb.out bc Bwb.out.size
                     have Awc : Hid (∀ o, wc.cell? ⟨wr.heap.size, o, none⟩ = (#[.int .i64 ((k : Int) + 1), .int .i64 1, .int .i64 0] : Array Value)[o]?) := B.row bc Awb.out zb
                     have Xwc : Hid (∀ o, wc.cell? ⟨w.heap.size, o, none⟩ = (#[.int .i64 X, .int .i64 Y, .int .i64 Z] : Array Value)[o]?) := HX.out _ Bwc.out
                     have ra0 : wc.cell? ⟨wr.heap.size, 0, none⟩ = some (.int .i64 ((k : Int) + 1)) := Awc.out 0; have ra1 : wc.cell? ⟨wr.heap.size, 1, none⟩ = some (.int .i64 1) := Awc.out 1; have ra2 : wc.cell? ⟨wr.heap.size, 2, none⟩ = some (.int .i64 0) := Awc.out 2; have rx0 : wc.cell? ⟨w.heap.size, 0, none⟩ = some (.int .i64 X) := Xwc.out 0; have rx1 : wc.cell? ⟨w.heap.size, 1, none⟩ = some (.int .i64 Y) := Xwc.out 1; have rx2 : wc.cell? ⟨w.heap.size, 2, none⟩ = some (.int .i64 Z) := Xwc.out 2
                     clear bc))
              all_goals go_wp2_with fail
              all_goals go_roundg (gk - 1)
              all_goals first
                | (have := HJ.out; omega)
                | exact ⟨2 + 1, by have := HJ.out; omega, by go_num, Bwc⟩
          · have hz := PR.out.size
            obtain ⟨wa, hwa⟩ : ∃ wa, wr.alloc (.cells #[.int .i64 ((k : Int) + 1), .int .i64 1, .int .i64 1] 52) = wa := ⟨_, rfl⟩
            have Awa : Hid (∀ o, wa.cell? ⟨wr.heap.size, o, none⟩ = (#[.int .i64 ((k : Int) + 1), .int .i64 1, .int .i64 1] : Array Value)[o]?) := by rw [← hwa]; exact B.row_new wr _ _
            have Bwa : Hid (Below w0.heap.size w0 wa) := by rw [← hwa]; exact PR.out.alloc PR.out.size _
            have Xwa : Hid (∀ o, wa.cell? ⟨w.heap.size, o, none⟩ = (#[.int .i64 X, .int .i64 Y, .int .i64 Z] : Array Value)[o]?) := HX.out _ Bwa.out
            have za : wr.heap.size < wa.heap.size := by rw [← hwa]; simp
            have HWA : Hid (wr.alloc (.cells #[.int .i64 ((k : Int) + 1), .int .i64 1, .int .i64 1] 52) = wa) := hwa
            clear hwa
            have HE1 : Hid (¬ (((k : Int) + 1) = X ∧ (1 : Int) = Y ∧ (1 : Int) = Z) → carOf s1.D ((k : Int) + 1) 1 1 = carOf s2.D ((k : Int) + 1) 1 1) := HEQ.out ((k : Int) + 1) 1 1 (by omega) (by omega) (by omega)
            have HA1 : Hid (∀ w1, Below w0.heap.size w0 w1 → Calls Try.prog 21 #[.pointer (some ⟨pq, 0, none⟩), .agg #[.int .i64 ((k : Int) + 1), .int .i64 1, .int .i64 1]] w1 fun e w' => e = .returned (.int .i64 (carOf s1.D ((k : Int) + 1) 1 1)) ∧ Below w1.heap.size w1 w') := fun w1 hb => at_any pq mq n1 s1.D _ _ _ w1 (HQ1.out _ hb).c7 (HQ1.out _ hb).cars (wfI (by omega)) (wfI (by omega)) (wfI (by omega))
            have HA2 : Hid (∀ w1, Below w0.heap.size w0 w1 → Calls Try.prog 21 #[.pointer (some ⟨pp, 0, none⟩), .agg #[.int .i64 ((k : Int) + 1), .int .i64 1, .int .i64 1]] w1 fun e w' => e = .returned (.int .i64 (carOf s2.D ((k : Int) + 1) 1 1)) ∧ Below w1.heap.size w1 w') := fun w1 hb => at_any pp mp n2 s2.D _ _ _ w1 (HQ2.out _ hb).c7 (HQ2.out _ hb).cars (wfI (by omega)) (wfI (by omega)) (wfI (by omega))
            generalize carOf s1.D ((k : Int) + 1) 1 1 = r1 at *
            generalize carOf s2.D ((k : Int) + 1) 1 1 = r2 at *
            cases ex : ((k : Int) + 1 == X) <;> cases ey : ((1 : Int) == Y) <;> cases ez : ((1 : Int) == Z)
            case true.true.true =>
              go_upto_region 8 with fail
              rw [HWA.out]
              clear HWA
              have pa0 : wa.cell? ⟨wr.heap.size, 0, none⟩ = some (.int .i64 ((k : Int) + 1)) := Awa.out 0; have pa1 : wa.cell? ⟨wr.heap.size, 1, none⟩ = some (.int .i64 1) := Awa.out 1; have pa2 : wa.cell? ⟨wr.heap.size, 2, none⟩ = some (.int .i64 1) := Awa.out 2; have px0 : wa.cell? ⟨w.heap.size, 0, none⟩ = some (.int .i64 X) := Xwa.out 0; have px1 : wa.cell? ⟨w.heap.size, 1, none⟩ = some (.int .i64 Y) := Xwa.out 1; have px2 : wa.cell? ⟨w.heap.size, 2, none⟩ = some (.int .i64 Z) := Xwa.out 2
              go_region
              go_wp2_with fail
              go_roundg (gk - 1)
              case measure => have := HJ.out; omega
              case rel => exact ⟨3 + 1, by have := HJ.out; omega, by go_num, Bwa.out.drew⟩
            all_goals
              have hr12 : r1 = r2 := HE1.out (by simp at ex ey ez; omega)
              subst hr12
              go_upto_region 8 with fail
              rw [HWA.out]
              clear HWA HE1
              have pa0 : wa.cell? ⟨wr.heap.size, 0, none⟩ = some (.int .i64 ((k : Int) + 1)) := Awa.out 0; have pa1 : wa.cell? ⟨wr.heap.size, 1, none⟩ = some (.int .i64 1) := Awa.out 1; have pa2 : wa.cell? ⟨wr.heap.size, 2, none⟩ = some (.int .i64 1) := Awa.out 2; have px0 : wa.cell? ⟨w.heap.size, 0, none⟩ = some (.int .i64 X) := Xwa.out 0; have px1 : wa.cell? ⟨w.heap.size, 1, none⟩ = some (.int .i64 Y) := Xwa.out 1; have px2 : wa.cell? ⟨w.heap.size, 2, none⟩ = some (.int .i64 Z) := Xwa.out 2
              go_region_held3 (fun wx => wx.cell? ⟨wr.heap.size, 0, none⟩ = some (.int .i64 ((k : Int) + 1)) ∧ wx.cell? ⟨wr.heap.size, 1, none⟩ = some (.int .i64 1) ∧ wx.cell? ⟨wr.heap.size, 2, none⟩ = some (.int .i64 1) ∧ wx.cell? ⟨w.heap.size, 0, none⟩ = some (.int .i64 X) ∧ wx.cell? ⟨w.heap.size, 1, none⟩ = some (.int .i64 Y) ∧ wx.cell? ⟨w.heap.size, 2, none⟩ = some (.int .i64 Z)) (go_keep)
                (first
                  | (go_at_call_of 21 (Value.pointer (some ⟨pq, 0, none⟩)); refine (HA1.out _ Bwa.out.drew).mono ?_; rintro e wb ⟨rfl, bb⟩
                     have Bwb : Hid (Below w0.heap.size w0 wb) := B.next Bwa.out.drew bb Bwa.out.size
                     have Awb : Hid (∀ o, wb.cell? ⟨wr.heap.size, o, none⟩ = (#[.int .i64 ((k : Int) + 1), .int .i64 1, .int .i64 1] : Array Value)[o]?) := B.row bb Awa.out za
                     have Xwb : Hid (∀ o, wb.cell? ⟨w.heap.size, o, none⟩ = (#[.int .i64 X, .int .i64 Y, .int .i64 Z] : Array Value)[o]?) := HX.out _ Bwb.out
                     have zb : wr.heap.size < wb.heap.size := Nat.lt_of_lt_of_le za bb.size
                     have qa0 : wb.cell? ⟨wr.heap.size, 0, none⟩ = some (.int .i64 ((k : Int) + 1)) := Awb.out 0; have qa1 : wb.cell? ⟨wr.heap.size, 1, none⟩ = some (.int .i64 1) := Awb.out 1; have qa2 : wb.cell? ⟨wr.heap.size, 2, none⟩ = some (.int .i64 1) := Awb.out 2; have qx0 : wb.cell? ⟨w.heap.size, 0, none⟩ = some (.int .i64 X) := Xwb.out 0; have qx1 : wb.cell? ⟨w.heap.size, 1, none⟩ = some (.int .i64 Y) := Xwb.out 1; have qx2 : wb.cell? ⟨w.heap.size, 2, none⟩ = some (.int .i64 Z) := Xwb.out 2
                     clear bb)
                  | (go_at_call_of 21 (Value.pointer (some ⟨pp, 0, none⟩)); refine (HA2.out _ Bwb.out).mono ?_; rintro e wc ⟨rfl, bc⟩
                     have Bwc : Hid (Below w0.heap.size w0 wc) := B.next Bwb.out bc Bwb.out.size
                     have Awc : Hid (∀ o, wc.cell? ⟨wr.heap.size, o, none⟩ = (#[.int .i64 ((k : Int) + 1), .int .i64 1, .int .i64 1] : Array Value)[o]?) := B.row bc Awb.out zb
                     have Xwc : Hid (∀ o, wc.cell? ⟨w.heap.size, o, none⟩ = (#[.int .i64 X, .int .i64 Y, .int .i64 Z] : Array Value)[o]?) := HX.out _ Bwc.out
                     have ra0 : wc.cell? ⟨wr.heap.size, 0, none⟩ = some (.int .i64 ((k : Int) + 1)) := Awc.out 0; have ra1 : wc.cell? ⟨wr.heap.size, 1, none⟩ = some (.int .i64 1) := Awc.out 1; have ra2 : wc.cell? ⟨wr.heap.size, 2, none⟩ = some (.int .i64 1) := Awc.out 2; have rx0 : wc.cell? ⟨w.heap.size, 0, none⟩ = some (.int .i64 X) := Xwc.out 0; have rx1 : wc.cell? ⟨w.heap.size, 1, none⟩ = some (.int .i64 Y) := Xwc.out 1; have rx2 : wc.cell? ⟨w.heap.size, 2, none⟩ = some (.int .i64 Z) := Xwc.out 2
                     clear bc))
              all_goals go_wp2_with fail
              all_goals go_roundg (gk - 1)
              all_goals first
                | (have := HJ.out; omega)
                | exact ⟨3 + 1, by have := HJ.out; omega, by go_num, Bwc⟩
        · have hj4 : j = 4 := by omega
          subst hj4
          go_wp2
          go_roundg (4 - (k + 1))
          case measure => have := HK.out; omega
          case rel => exact ⟨k + 1, by omega, by go_num, PR⟩
    · have hk4 : k = 4 := by omega
      subst hk4
      go_wp2
      go_returns
      exact ⟨rfl, FIN.out _ PO.out⟩

end Pl
end Go.Proofs.Yticjjnmmedmbiab
