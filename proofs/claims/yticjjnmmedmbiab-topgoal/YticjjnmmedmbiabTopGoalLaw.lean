/- TopGoal, proved: for every number of levels, every list of acts and every goal: for a goal that isn't so something is to be done; a height and a reach that there are come one nearer by each thing that is done. -/
import Derived.Test.YticjjnmmedmbiabTopGoal
namespace Go.Proofs.Yticjjnmmedmbiab
open Go.ChangeShapes Go.WideShapes Go.ChangeAt Go.RowKit
set_option maxRecDepth 100000
set_option linter.unusedSimpArgs false
set_option linter.unusedVariables false
open Pl Ac

/-- The statement: for every input 'TopGoal' answers true. -/
theorem topGoal_holds : Rows.TopGoalSaid :=
  OpenClaim.holds_of_wide 3 Try.f3 rfl rfl rfl rfl rfl rfl rfl ⟨rfl, rfl, rfl, rfl, rfl⟩ rfl rfl rfl rfl rfl (by kernel_rfl) Try.func3 (by kernel_rfl)
    (of_decide_eq_true (by kernel_rfl)) (by unfold Func.isWrapper; first | (rw [if_pos (by decide +kernel)]; kernel_rfl) | (rw [if_neg (by decide +kernel)]; exact ⟨rfl, rfl⟩))
    (fun os started H enc _ => law_lifted (s := Rows.topGoalSpec) os started H enc (by kernel_rfl) Try.func3
      (ChangeSpec.witness6 (enc := enc) (C := Try.checked) false ⟨#[], #[.int .i64 0, .slice none 0 0, .agg #[.int .i64 0, .int .i64 0]], []⟩ 8 (by kernel_rfl) (by kernel_rfl) (by kernel_rfl) (by kernel_rfl))
      (by kernel_rfl) (by kernel_rfl) rfl
      (fun ds h => by
        match ds, h with
        | [d1, d2, d3], _ => rfl)
      (fun W base args ds p hval hsz hA hlt => by
        rw [Try.params3] at hval hA
        obtain ⟨a, b, c, rfl⟩ := array_of_size3 (hsz.trans (by rw [Try.params3]; rfl))
        obtain ⟨lv, rfl, _⟩ := val_int Try.underlying3 (hval 0 3 a rfl rfl)
        obtain ⟨v0, v1, v2, e0, e1, e2, p0, p1, p2, hv, rfl, rfl, h0, h1, h2⟩ := trodAll_three hA
        cases hv
        obtain ⟨len, f, hs⟩ := open_acts (hval 1 22 b rfl rfl) h1 (fun x hx => hlt x (by simp [hx]))
        obtain ⟨K, N, rfl, _, wN⟩ := open_goal (hval 2 24 c rfl rfl)
        exact topGoal_run lv b K N len f W hs (B.i64_bounds wN)))

end Go.Proofs.Yticjjnmmedmbiab
