/- TopPass, proved: for every number of levels and every list of acts: a car that is taken in from the bay is on the lift; one that is given out is in the bay, which is open; all others stay. -/
import Derived.Test.YticjjnmmedmbiabTopPass
namespace Go.Proofs.Yticjjnmmedmbiab
open Go.ChangeShapes Go.WideShapes Go.ChangeAt Go.RowKit
set_option maxRecDepth 100000
set_option linter.unusedSimpArgs false
set_option linter.unusedVariables false
open Pl Ac

/-- The statement: for every input 'TopPass' answers true. -/
theorem topPass_holds : Rows.TopPassSaid :=
  OpenClaim.holds_of_wide 6 Try.f6 rfl rfl rfl rfl rfl rfl rfl ⟨rfl, rfl, rfl, rfl, rfl⟩ rfl rfl rfl rfl rfl (by kernel_rfl) Try.func6 (by kernel_rfl)
    (of_decide_eq_true (by kernel_rfl)) (by unfold Func.isWrapper; first | (rw [if_pos (by decide +kernel)]; kernel_rfl) | (rw [if_neg (by decide +kernel)]; exact ⟨rfl, rfl⟩))
    (fun os started H enc _ => law_lifted (s := Rows.topPassSpec) os started H enc (by kernel_rfl) Try.func6
      (ChangeSpec.witness6 (enc := enc) (C := Try.checked) false ⟨#[], #[.int .i64 0, .slice none 0 0, .bool false], []⟩ 8 (by kernel_rfl) (by kernel_rfl) (by kernel_rfl) (by kernel_rfl))
      (by kernel_rfl) (by kernel_rfl) rfl
      (fun ds h => by
        match ds, h with
        | [d1, d2, d3], _ => rfl)
      (fun W base args ds p hval hsz hA hlt => by
        rw [Try.params6] at hval hA
        obtain ⟨a, b, c, rfl⟩ := array_of_size3 (hsz.trans (by rw [Try.params6]; rfl))
        obtain ⟨lv, rfl, _⟩ := val_int Try.underlying3 (hval 0 3 a rfl rfl)
        obtain ⟨v0, v1, v2, e0, e1, e2, p0, p1, p2, hv, rfl, rfl, h0, h1, h2⟩ := trodAll_three hA
        cases hv
        obtain ⟨len, f, hs⟩ := open_acts (hval 1 22 b rfl rfl) h1 (fun x hx => hlt x (by simp [hx]))
        obtain ⟨inn, rfl⟩ := val_bool Try.underlying4 (hval 2 4 c rfl rfl)
        exact topPass_run lv b inn len f W hs))

end Go.Proofs.Yticjjnmmedmbiab
