/- The document's machine: what is done in a tick (B3): the shuttle, and all of it; contracts for PlantSays. -/
import Derived.Test.YtihapeagjikiaaaJRefPlantG
namespace Go.Proofs.Ytihapeagjikiaaa
open Go.ChangeShapes Go.WideShapes Go.ChangeAt Go.RowKit Go.Maps
set_option maxRecDepth 100000
set_option linter.unusedSimpArgs false
set_option linter.unusedVariables false

namespace Pl
open Ac

set_option maxHeartbeats 4000000 in
theorem rstep_l (rb : Nat) (s : St) (w : World) (hr : IsR w rb s) (iv : Inv s) (hs : ¬ 0 < s.st) : RStepTo rb 108 w (slideS (-1) s) := by
  have HR : Hid (∀ w1, Below w.heap.size w w1 → IsR w1 rb s) := fun w1 hb => hr.below hb
  have HE : Hid (∀ w1 x, Below w.heap.size w w1 → -3 ≤ x ∧ x ≤ 3 → Calls Try.prog 135 #[.pointer (some ⟨rb, 0, none⟩), .int .i64 x] w1 fun e w' => e = .returned (.tuple #[.agg #[.int .i64 (endX s.lv s.h x), .int .i64 (endY s.lv s.h x), .int .i64 (endZ s.lv s.h x)], .bool (endB s.lv s.h x)]) ∧ Below w1.heap.size w1 w') := fun w1 x hb hx => rend_any rb s x w1 (hr.below hb) iv hx.1 hx.2
  have HF : Hid (∀ w1 x, Below w.heap.size w w1 → -3 ≤ x ∧ x ≤ 3 → Calls Try.prog 136 #[.pointer (some ⟨rb, 0, none⟩), .int .i64 x] w1 fun e w' => e = .returned (.bool (carAtI s.D s.lv s.h x != 0)) ∧ Below w1.heap.size w1 w') := fun w1 x hb hx => rfull_any rb s x w1 (hr.below hb) iv hx.1 hx.2
  obtain ⟨lv, h, ex, op, pe, li, ba, D, st, hu⟩ := s
  have e0 := iv.ok.e0; have e2 := iv.ok.e2; have p0 := iv.pe.1; have p9 := iv.pe.2
  simp only at e0 e2 p0 p9 hs HE HF
  have c2 : w.cell? ⟨rb, 2, none⟩ = some (.int .i64 ex) := hr.cell 2
  have c3 : w.cell? ⟨rb, 3, none⟩ = some (.bool op) := hr.cell 3
  have c4 : w.cell? ⟨rb, 4, none⟩ = some (.int .i64 pe) := hr.cell 4
  have c27 : w.cell? ⟨rb, 27, none⟩ = some (.int .i64 st) := hr.cell 27
  obtain ⟨x, HX⟩ : ∃ x : Int, Hid (x = ex - 1) := ⟨_, rfl⟩
  have m1 : IntKind.i64.wrap (ex - 1) = x := by rw [IntKind.wrap_i64, HX.out]; omega
  have P : Hid (IsR w rb ⟨lv, h, ex, op, pe, li, ba, D, st, hu⟩) := hr
  clear iv
  by_cases hx : -2 ≤ x ∧ x ≤ 2
  · obtain ⟨hx1, hx2⟩ := hx
    have K : Hid (slideS (-1) ⟨lv, h, ex, op, pe, li, ba, D, st, hu⟩ = ⟨lv, h, x, op, pe, li, ba, D, st, (hu || (x != 0 && !endB lv h x)) || (li != 0 && carAtI D lv h x != 0)⟩) := by
      show _ = _
      have hx' := HX.out
      simp only [slideS]
      rw [show ex + (-1) = x from by omega, if_pos ⟨hx1, hx2⟩]
    have HE1 : Hid (∀ w1, Below w.heap.size w w1 → Calls Try.prog 135 #[.pointer (some ⟨rb, 0, none⟩), .int .i64 x] w1 fun e w' => e = .returned (.tuple #[.agg #[.int .i64 (endX lv h x), .int .i64 (endY lv h x), .int .i64 (endZ lv h x)], .bool (endB lv h x)]) ∧ Below w1.heap.size w1 w') := fun w1 hb => HE.out w1 x hb ⟨by omega, by omega⟩
    have HF1 : Hid (∀ w1, Below w.heap.size w w1 → Calls Try.prog 136 #[.pointer (some ⟨rb, 0, none⟩), .int .i64 x] w1 fun e w' => e = .returned (.bool (carAtI D lv h x != 0)) ∧ Below w1.heap.size w1 w') := fun w1 hb => HF.out w1 x hb ⟨by omega, by omega⟩
    clear HE HF HX hr P
    generalize endX lv h x = X at *
    generalize endY lv h x = Y at *
    generalize endZ lv h x = Z at *
    generalize endB lv h x = q1 at *
    generalize (carAtI D lv h x != 0) = q2 at *
    go_enter Try.func83, Try.ntmps83
    go_wp2_with fail
    all_goals
      refine (HE1.out _ (Below.refl _ _)).mono ?_
      rintro e w1 ⟨rfl, b1⟩
      have z1 := b1.size
      have B1 : Hid (∀ o, Below w.heap.size w (w1.alloc o)) := fun o => b1.alloc z1 o
      clear b1
      go_wp2_with fail
      refine (HF1.out _ (B1.out _)).mono ?_
      rintro e w2 ⟨rfl, b2⟩
      have B2 : Hid (Below w.heap.size w w2) := B.next (B1.out _) b2 (by simp; omega)
      have R2 : Hid (IsR w2 rb ⟨lv, h, ex, op, pe, li, ba, D, st, hu⟩) := HR.out _ B2.out
      have d5 : w2.cell? ⟨rb, 5, none⟩ = some (.int .i64 li) := R2.out.cell 5
      have d2 : w2.cell? ⟨rb, 2, none⟩ = some (.int .i64 ex) := R2.out.cell 2
      have d28 : w2.cell? ⟨rb, 28, none⟩ = some (.bool hu) := R2.out.cell 28
      have g2 := R2.out.free 2; have g28 := R2.out.free 28
      clear b2 c2 c3 c4 c27 HR HE1 HF1
      cases q1 <;> cases q2
      all_goals go_wp2
      all_goals go_returns
      all_goals first
        | (refine ⟨rfl, ((R2.out.shu true).sex _).cast ?_, (((Turn.of_below B2.out).thenSet _ _).thenSet _ _)⟩; rw [K.out]; simp [*]; done)
        | (refine ⟨rfl, (R2.out.sex _).cast ?_, ((Turn.of_below B2.out).thenSet _ _)⟩; rw [K.out]; simp [*]; done)
  · have HN : Hid (¬ (-2 ≤ x ∧ x ≤ 2)) := hx
    have K : Hid (slideS (-1) ⟨lv, h, ex, op, pe, li, ba, D, st, hu⟩ = ⟨lv, h, ex, op, pe, li, ba, D, st, hu⟩) := by
      show _ = _
      have hx' := HX.out
      simp only [slideS]
      rw [show ex + (-1) = x from by omega, if_neg hx]
    generalize slideS (-1) ⟨lv, h, ex, op, pe, li, ba, D, st, hu⟩ = s2 at *
    clear hx HE HF HR hr
    go_enter Try.func83, Try.ntmps83
    go_wp2_with fail
    all_goals first
      | (exfalso; go_light; have := HN.out; omega)
      | (go_returns; exact ⟨rfl, P.out.cast K.out.symm, Turn.refl _ _ _⟩)

set_option maxHeartbeats 4000000 in
theorem rstep_r (rb : Nat) (s : St) (w : World) (hr : IsR w rb s) (iv : Inv s) (hs : ¬ 0 < s.st) : RStepTo rb 114 w (slideS 1 s) := by
  have HR : Hid (∀ w1, Below w.heap.size w w1 → IsR w1 rb s) := fun w1 hb => hr.below hb
  have HE : Hid (∀ w1 x, Below w.heap.size w w1 → -3 ≤ x ∧ x ≤ 3 → Calls Try.prog 135 #[.pointer (some ⟨rb, 0, none⟩), .int .i64 x] w1 fun e w' => e = .returned (.tuple #[.agg #[.int .i64 (endX s.lv s.h x), .int .i64 (endY s.lv s.h x), .int .i64 (endZ s.lv s.h x)], .bool (endB s.lv s.h x)]) ∧ Below w1.heap.size w1 w') := fun w1 x hb hx => rend_any rb s x w1 (hr.below hb) iv hx.1 hx.2
  have HF : Hid (∀ w1 x, Below w.heap.size w w1 → -3 ≤ x ∧ x ≤ 3 → Calls Try.prog 136 #[.pointer (some ⟨rb, 0, none⟩), .int .i64 x] w1 fun e w' => e = .returned (.bool (carAtI s.D s.lv s.h x != 0)) ∧ Below w1.heap.size w1 w') := fun w1 x hb hx => rfull_any rb s x w1 (hr.below hb) iv hx.1 hx.2
  obtain ⟨lv, h, ex, op, pe, li, ba, D, st, hu⟩ := s
  have e0 := iv.ok.e0; have e2 := iv.ok.e2; have p0 := iv.pe.1; have p9 := iv.pe.2
  simp only at e0 e2 p0 p9 hs HE HF
  have c2 : w.cell? ⟨rb, 2, none⟩ = some (.int .i64 ex) := hr.cell 2
  have c3 : w.cell? ⟨rb, 3, none⟩ = some (.bool op) := hr.cell 3
  have c4 : w.cell? ⟨rb, 4, none⟩ = some (.int .i64 pe) := hr.cell 4
  have c27 : w.cell? ⟨rb, 27, none⟩ = some (.int .i64 st) := hr.cell 27
  obtain ⟨x, HX⟩ : ∃ x : Int, Hid (x = ex + 1) := ⟨_, rfl⟩
  have m1 : IntKind.i64.wrap (ex + 1) = x := by rw [IntKind.wrap_i64, HX.out]; omega
  have m0 : IntKind.i64.wrap (ex - 1) = ex - 1 := by rw [IntKind.wrap_i64]; omega
  have P : Hid (IsR w rb ⟨lv, h, ex, op, pe, li, ba, D, st, hu⟩) := hr
  clear iv
  by_cases hx : -2 ≤ x ∧ x ≤ 2
  · obtain ⟨hx1, hx2⟩ := hx
    have K : Hid (slideS 1 ⟨lv, h, ex, op, pe, li, ba, D, st, hu⟩ = ⟨lv, h, x, op, pe, li, ba, D, st, (hu || (x != 0 && !endB lv h x)) || (li != 0 && carAtI D lv h x != 0)⟩) := by
      show _ = _
      have hx' := HX.out
      simp only [slideS]
      rw [show ex + 1 = x from by omega, if_pos ⟨hx1, hx2⟩]
    have HE1 : Hid (∀ w1, Below w.heap.size w w1 → Calls Try.prog 135 #[.pointer (some ⟨rb, 0, none⟩), .int .i64 x] w1 fun e w' => e = .returned (.tuple #[.agg #[.int .i64 (endX lv h x), .int .i64 (endY lv h x), .int .i64 (endZ lv h x)], .bool (endB lv h x)]) ∧ Below w1.heap.size w1 w') := fun w1 hb => HE.out w1 x hb ⟨by omega, by omega⟩
    have HF1 : Hid (∀ w1, Below w.heap.size w w1 → Calls Try.prog 136 #[.pointer (some ⟨rb, 0, none⟩), .int .i64 x] w1 fun e w' => e = .returned (.bool (carAtI D lv h x != 0)) ∧ Below w1.heap.size w1 w') := fun w1 hb => HF.out w1 x hb ⟨by omega, by omega⟩
    clear HE HF HX hr P
    generalize endX lv h x = X at *
    generalize endY lv h x = Y at *
    generalize endZ lv h x = Z at *
    generalize endB lv h x = q1 at *
    generalize (carAtI D lv h x != 0) = q2 at *
    go_enter Try.func83, Try.ntmps83
    go_wp2_with fail
    all_goals
      refine (HE1.out _ (Below.refl _ _)).mono ?_
      rintro e w1 ⟨rfl, b1⟩
      have z1 := b1.size
      have B1 : Hid (∀ o, Below w.heap.size w (w1.alloc o)) := fun o => b1.alloc z1 o
      clear b1
      go_wp2_with fail
      refine (HF1.out _ (B1.out _)).mono ?_
      rintro e w2 ⟨rfl, b2⟩
      have B2 : Hid (Below w.heap.size w w2) := B.next (B1.out _) b2 (by simp; omega)
      have R2 : Hid (IsR w2 rb ⟨lv, h, ex, op, pe, li, ba, D, st, hu⟩) := HR.out _ B2.out
      have d5 : w2.cell? ⟨rb, 5, none⟩ = some (.int .i64 li) := R2.out.cell 5
      have d2 : w2.cell? ⟨rb, 2, none⟩ = some (.int .i64 ex) := R2.out.cell 2
      have d28 : w2.cell? ⟨rb, 28, none⟩ = some (.bool hu) := R2.out.cell 28
      have g2 := R2.out.free 2; have g28 := R2.out.free 28
      clear b2 c2 c3 c4 c27 HR HE1 HF1
      cases q1 <;> cases q2
      all_goals go_wp2
      all_goals go_returns
      all_goals first
        | (refine ⟨rfl, ((R2.out.shu true).sex _).cast ?_, (((Turn.of_below B2.out).thenSet _ _).thenSet _ _)⟩; rw [K.out]; simp [*]; done)
        | (refine ⟨rfl, (R2.out.sex _).cast ?_, ((Turn.of_below B2.out).thenSet _ _)⟩; rw [K.out]; simp [*]; done)
  · have HN : Hid (¬ (-2 ≤ x ∧ x ≤ 2)) := hx
    have K : Hid (slideS 1 ⟨lv, h, ex, op, pe, li, ba, D, st, hu⟩ = ⟨lv, h, ex, op, pe, li, ba, D, st, hu⟩) := by
      show _ = _
      have hx' := HX.out
      simp only [slideS]
      rw [show ex + 1 = x from by omega, if_neg hx]
    generalize slideS 1 ⟨lv, h, ex, op, pe, li, ba, D, st, hu⟩ = s2 at *
    clear hx HE HF HR hr
    go_enter Try.func83, Try.ntmps83
    go_wp2_with fail
    all_goals first
      | (exfalso; go_light; have := HN.out; omega)
      | (go_returns; exact ⟨rfl, P.out.cast K.out.symm, Turn.refl _ _ _⟩)

end Pl
end Go.Proofs.Ytihapeagjikiaaa
