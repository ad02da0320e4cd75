/- PlantSays, proved: for every number of levels and every list of acts the machine answers, and becomes, what the document's machine does; also which cars it has, and where. -/
import Derived.Test.YticjjnmmedmbiaaPlantSays
namespace Go.Proofs.Yticjjnmmedmbiaa
open Go.ChangeShapes Go.WideShapes Go.ChangeAt Go.RowKit
set_option maxRecDepth 100000
set_option linter.unusedSimpArgs false
set_option linter.unusedVariables false
open Pl Ac

/-- The statement: for every input 'PlantSays' answers true. -/
theorem plantSays_holds : Rows.PlantSaysSaid :=
  OpenClaim.holds_of_wide 4 Try.f4 rfl rfl rfl rfl rfl rfl rfl ⟨rfl, rfl, rfl, rfl, rfl⟩ rfl rfl rfl rfl rfl (by kernel_rfl) Try.func4 (by kernel_rfl)
    (of_decide_eq_true (by kernel_rfl)) (by unfold Func.isWrapper; first | (rw [if_pos (by decide +kernel)]; kernel_rfl) | (rw [if_neg (by decide +kernel)]; exact ⟨rfl, rfl⟩))
    (fun os started H enc _ => law_lifted (s := Rows.plantSaysSpec) os started H enc (by kernel_rfl) Try.func4
      (ChangeSpec.witness6 (enc := enc) (C := Try.checked) false ⟨#[], #[.int .i64 0, .slice none 0 0], []⟩ 8 (by kernel_rfl) (by kernel_rfl) (by kernel_rfl) (by kernel_rfl))
      (by kernel_rfl) (by kernel_rfl) rfl
      (fun ds h => by
        match ds, h with
        | [d1, d2], _ => rfl)
      (fun W base args ds p hval hsz hA hlt => by
        rw [Try.params4] at hval hA
        obtain ⟨a, b, rfl⟩ := array_of_size2 (hsz.trans (by rw [Try.params4]; rfl))
        obtain ⟨lv, rfl, _⟩ := val_int Try.underlying3 (hval 0 3 a rfl rfl)
        obtain ⟨v0, v1, e0, e1, p0, p1, hv, rfl, rfl, h0, h1⟩ := trodAll_two hA
        cases hv
        obtain ⟨len, f, hs⟩ := open_acts (hval 1 49 b rfl rfl) h1 (fun x hx => hlt x (by simp [hx]))
        exact plantSays_run lv b len f W hs))

end Go.Proofs.Yticjjnmmedmbiaa
