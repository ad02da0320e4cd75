/- TurnSays, proved: for every number of levels, every list of acts and every book that may be, the program's turn has the same goals, or the same book, as the document's. -/
import Derived.Test.YtihapeagjikiaaaJTurnSays
namespace Go.Proofs.Ytihapeagjikiaaa
open Go.ChangeShapes Go.WideShapes Go.ChangeAt Go.RowKit
set_option maxRecDepth 100000
set_option linter.unusedSimpArgs false
set_option linter.unusedVariables false
open Bk Pl Ac Tn

/-- The statement: for every input 'TurnSays' answers true. -/
theorem turnSays_holds : Rows.TurnSaysSaid :=
  OpenClaim.holds_of_wide 9 Try.f9 rfl rfl rfl rfl rfl rfl rfl ⟨rfl, rfl, rfl, rfl, rfl⟩ rfl rfl rfl rfl rfl (by kernel_rfl) Try.func9 (by kernel_rfl)
    (of_decide_eq_true (by kernel_rfl)) (by unfold Func.isWrapper; first | (rw [if_pos (by decide +kernel)]; kernel_rfl) | (rw [if_neg (by decide +kernel)]; exact ⟨rfl, rfl⟩))
    (fun os started H enc _ => law_lifted (s := Rows.turnSaysSpec) os started H enc (by kernel_rfl) Try.func9
      (ChangeSpec.witness6 (enc := enc) (C := Try.checked) false ⟨#[], #[.int .i64 0, .slice none 0 0, .agg #[.int .i64 0, .slice none 0 0, .slice none 0 0]], []⟩ 8 (by kernel_rfl) (by kernel_rfl) (by kernel_rfl) (by kernel_rfl))
      (by kernel_rfl) (by kernel_rfl) rfl
      (fun ds h => by
        match ds, h with
        | [d1, d2, d3], _ => rfl)
      (fun W base args ds p hval hsz hA hlt => by
        rw [Try.params9] at hval hA
        obtain ⟨a, b, c, rfl⟩ := array_of_size3 (hsz.trans (by rw [Try.params9]; rfl))
        obtain ⟨v0, v1, v2, d0, d1, d2, p0, p1, p2, hv, rfl, rfl, h0, h1, h2⟩ := trodAll_three hA
        cases hv
        obtain ⟨lv, rfl, _⟩ := val_int Try.underlying3 (hval 0 3 a rfl rfl)
        obtain ⟨len, f, hs⟩ := open_acts (hval 1 66 b rfl rfl) h1 (fun x hx => hlt x (by simp [hx]))
        obtain ⟨bk, rfl, hb, _⟩ := open_book (hval 2 25 c rfl rfl) h2 (fun x hx => hlt x (by simp [hx]))
        exact turnSays_run lv b len f bk W hs hb))

end Go.Proofs.Ytihapeagjikiaaa
