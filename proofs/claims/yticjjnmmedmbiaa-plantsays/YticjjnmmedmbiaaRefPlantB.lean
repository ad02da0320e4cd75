/- The document's machine: what is seen (B2); contracts for PlantSays. -/
import Derived.Test.YticjjnmmedmbiaaRefPlant
namespace Go.Proofs.Yticjjnmmedmbiaa
open Go.ChangeShapes Go.WideShapes Go.ChangeAt Go.RowKit Go.Maps
set_option maxRecDepth 100000
set_option linter.unusedSimpArgs false
set_option linter.unusedVariables false

namespace Pl
open Ac
set_option maxHeartbeats 1000000 in
theorem rfull_any (rb : Nat) (s : St) (ex : Int) (w : World) (hr : IsR w rb s) (iv : Inv s) (e0 : -3 ≤ ex) (e3 : ex ≤ 3) :
    Calls Try.prog 100 #[.pointer (some ⟨rb, 0, none⟩), .int .i64 ex] w fun e w' => e = .returned (.bool (carAtI s.D s.lv s.h ex != 0)) ∧ Below w.heap.size w w' := by
  have i0 := iv.ok.h0; have i1 := iv.ok.h12; have i4 := iv.ok.lv4
  obtain ⟨wx, wy, wz⟩ := end_wf (lv := s.lv) (h := s.h) (ex := ex) i0 (by omega) e0 e3
  have HE : Hid (Calls Try.prog 99 #[.pointer (some ⟨rb, 0, none⟩), .int .i64 ex] w fun e w' => e = .returned (endV s.lv s.h ex) ∧ Below w.heap.size w w') := rend_any rb s ex w hr iv e0 e3
  have HA : Hid (∀ w1, IsR w1 rb s → Calls Try.prog 80 #[.pointer (some ⟨rb, 0, none⟩), .agg #[.int .i64 (endX s.lv s.h ex), .int .i64 (endY s.lv s.h ex), .int .i64 (endZ s.lv s.h ex)]] w1 fun e w' => e = .returned (.int .i64 (carOf s.D (endX s.lv s.h ex) (endY s.lv s.h ex) (endZ s.lv s.h ex))) ∧ Below w1.heap.size w1 w') := fun w1 h1 => rAt_any rb s _ _ _ w1 h1 iv wx wy wz
  have HR : Hid (∀ w1, Below w.heap.size w w1 → IsR w1 rb s) := fun w1 hb => hr.below hb
  have KV : Hid (endV s.lv s.h ex = .tuple #[.agg #[.int .i64 (endX s.lv s.h ex), .int .i64 (endY s.lv s.h ex), .int .i64 (endZ s.lv s.h ex)], .bool (endB s.lv s.h ex)]) := rfl
  have KR : Hid ((carAtI s.D s.lv s.h ex != 0) = (endB s.lv s.h ex && carOf s.D (endX s.lv s.h ex) (endY s.lv s.h ex) (endZ s.lv s.h ex) != 0)) := by
    show _ = _
    unfold carAtI
    cases endB s.lv s.h ex <;> simp
  rw [KR.out]
  rw [KV.out] at HE
  generalize endX s.lv s.h ex = X at *
  generalize endY s.lv s.h ex = Y at *
  generalize endZ s.lv s.h ex = Z at *
  generalize endB s.lv s.h ex = q at *
  generalize carOf s.D X Y Z = c at *
  clear hr iv KV KR wx wy wz
  go_enter Try.func100, Try.ntmps100
  go_wp2_with fail
  refine HE.out.mono ?_
  rintro e w1 ⟨rfl, b1⟩
  have z1 := b1.size
  have B1 : Hid (∀ o, Below w.heap.size w (w1.alloc o)) := fun o => b1.alloc z1 o
  clear b1 HE
  go_wp2_with fail
  refine (HA.out _ (HR.out _ (B1.out _))).mono ?_
  rintro e w2 ⟨rfl, b2⟩
  have B2 : Hid (Below w.heap.size w w2) := B.next (B1.out _) b2 (by simp; omega)
  clear b2
  cases q
  · go_wp2
    go_returns
    exact ⟨rfl, B2.out⟩
  · go_wp2
    all_goals go_returns
    all_goals exact ⟨rfl, B2.out⟩

end Pl
end Go.Proofs.Yticjjnmmedmbiaa
