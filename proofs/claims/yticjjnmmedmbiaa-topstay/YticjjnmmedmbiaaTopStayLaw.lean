/- TopStay, proved: for every number of levels and every list of acts no car is lost: the machine has all cars that came, and did not leave, each once. -/
import Derived.Test.YticjjnmmedmbiaaTopStay
namespace Go.Proofs.Yticjjnmmedmbiaa
open Go.ChangeShapes Go.WideShapes Go.ChangeAt Go.RowKit
set_option maxRecDepth 100000
set_option linter.unusedSimpArgs false
set_option linter.unusedVariables false
open Pl Ac

/-- The statement: for every input 'TopStay' answers true. -/
theorem topStay_holds : Rows.TopStaySaid :=
  OpenClaim.holds_of_wide 11 Try.f11 rfl rfl rfl rfl rfl rfl rfl ⟨rfl, rfl, rfl, rfl, rfl⟩ rfl rfl rfl rfl rfl (by kernel_rfl) Try.func11 (by kernel_rfl)
    (of_decide_eq_true (by kernel_rfl)) (by unfold Func.isWrapper; first | (rw [if_pos (by decide +kernel)]; kernel_rfl) | (rw [if_neg (by decide +kernel)]; exact ⟨rfl, rfl⟩))
    (fun os started H enc _ => law_lifted (s := Rows.topStaySpec) os started H enc (by kernel_rfl) Try.func11
      (ChangeSpec.witness6 (enc := enc) (C := Try.checked) false ⟨#[], #[.int .i64 0, .slice none 0 0], []⟩ 8 (by kernel_rfl) (by kernel_rfl) (by kernel_rfl) (by kernel_rfl))
      (by kernel_rfl) (by kernel_rfl) rfl
      (fun ds h => by
        match ds, h with
        | [d1, d2], _ => rfl)
      (fun W base args ds p hval hsz hA hlt => by
        rw [Try.params11] at hval hA
        obtain ⟨a, b, rfl⟩ := array_of_size2 (hsz.trans (by rw [Try.params11]; rfl))
        obtain ⟨lv, rfl, _⟩ := val_int Try.underlying3 (hval 0 3 a rfl rfl)
        obtain ⟨v0, v1, e0, e1, p0, p1, hv, rfl, rfl, h0, h1⟩ := trodAll_two hA
        cases hv
        obtain ⟨len, f, hs⟩ := open_acts (hval 1 49 b rfl rfl) h1 (fun x hx => hlt x (by simp [hx]))
        exact topStay_run lv b len f W hs))

end Go.Proofs.Yticjjnmmedmbiaa
