/- TopPark, proved: for every book that may be, all levels and every car: who parks has a new ticket, above all others, and a place of its own; all others keep theirs; the book is right; where an error is told, nothing else is. -/
import Derived.Test.YtihapeagjikiaaaTopPark
namespace Go.Proofs.Ytihapeagjikiaaa
open Go.ChangeShapes Go.WideShapes Go.ChangeAt Go.RowKit
set_option maxRecDepth 100000
set_option linter.unusedSimpArgs false
set_option linter.unusedVariables false
open Bk

/-- The statement: for every input 'TopPark' answers true. -/
theorem topPark_holds : Rows.TopParkSaid :=
  OpenClaim.holds_of_wide 5 Try.f5 rfl rfl rfl rfl rfl rfl rfl ⟨rfl, rfl, rfl, rfl, rfl⟩ rfl rfl rfl rfl rfl (by kernel_rfl) Try.func5 (by kernel_rfl)
    (of_decide_eq_true (by kernel_rfl)) (by unfold Func.isWrapper; first | (rw [if_pos (by decide +kernel)]; kernel_rfl) | (rw [if_neg (by decide +kernel)]; exact ⟨rfl, rfl⟩))
    (fun os started H enc _ => law_lifted (s := Rows.topParkSpec) os started H enc (by kernel_rfl) Try.func5
      (ChangeSpec.witness6 (enc := enc) (C := Try.checked) false ⟨#[], #[.agg #[.int .i64 0, .slice none 0 0, .slice none 0 0], .slice none 0 0, .agg #[.int .i64 0, .int .i64 0, .int .i64 0, .int .i64 0]], []⟩ 8 (by kernel_rfl) (by kernel_rfl) (by kernel_rfl) (by kernel_rfl))
      (by kernel_rfl) (by kernel_rfl) rfl
      (fun ds h => by
        match ds, h with
        | [d1, d2, d3], _ => rfl)
      (fun W base args ds p hval hsz hA hlt => by
        rw [Try.params5] at hval hA
        obtain ⟨a, b, c, rfl⟩ := array_of_size3 (hsz.trans (by rw [Try.params5]; rfl))
        obtain ⟨v0, v1, v2, e0, e1, e2, p0, p1, p2, hv, rfl, rfl, h0, h1, h2⟩ := trodAll_three hA
        cases hv
        obtain ⟨bk, rfl, hb, _⟩ := open_book (hval 0 25 a rfl rfl) h0 (fun x hx => hlt x (by simp [hx]))
        obtain ⟨len, f, hs⟩ := open_sizes (hval 1 26 b rfl rfl) h1 (fun x hx => hlt x (by simp [hx]))
        obtain ⟨ci, ca, cb, cc, rfl, _⟩ := open_car (hval 2 30 c rfl rfl)
        exact topPark_run bk b len f ci ca cb cc W hb hs))

end Go.Proofs.Ytihapeagjikiaaa
