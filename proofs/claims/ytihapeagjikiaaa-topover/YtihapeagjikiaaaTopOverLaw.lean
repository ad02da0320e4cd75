/- TopOver, proved: for every book that may be, every job, gone or not: a job that is done is no more; the book is right; all other tickets keep their stays and jobs, in their order. -/
import Derived.Test.YtihapeagjikiaaaTopOver
namespace Go.Proofs.Ytihapeagjikiaaa
open Go.ChangeShapes Go.WideShapes Go.ChangeAt Go.RowKit
set_option maxRecDepth 100000
set_option linter.unusedSimpArgs false
set_option linter.unusedVariables false
open Bk

theorem open_job {w : World} {b : Nat} {v : Value} (h : Value.okWide Try.prog w .any b 32 v) : ∃ (t : Int) (f : Bool), v = .agg #[.int .i64 t, .bool f] := by
  obtain ⟨cs, rfl, hs, hh⟩ := val_struct (ts := [3, 4]) Try.underlying32 (by kernel_rfl) (by kernel_rfl) h
  obtain ⟨c0, c1, rfl⟩ := array_of_size2 hs
  obtain ⟨x, rfl, _⟩ := cell_int Try.underlying3 (hh 0 _ _ rfl rfl)
  obtain ⟨y, rfl⟩ := cell_bool Try.underlying4 (hh 1 _ _ rfl rfl)
  exact ⟨x, y, rfl⟩

/-- The statement: for every input 'TopOver' answers true. -/
theorem topOver_holds : Rows.TopOverSaid :=
  OpenClaim.holds_of_wide 6 Try.f6 rfl rfl rfl rfl rfl rfl rfl ⟨rfl, rfl, rfl, rfl, rfl⟩ rfl rfl rfl rfl rfl (by kernel_rfl) Try.func6 (by kernel_rfl)
    (of_decide_eq_true (by kernel_rfl)) (by unfold Func.isWrapper; first | (rw [if_pos (by decide +kernel)]; kernel_rfl) | (rw [if_neg (by decide +kernel)]; exact ⟨rfl, rfl⟩))
    (fun os started H enc _ => law_lifted (s := Rows.topOverSpec) os started H enc (by kernel_rfl) Try.func6
      (ChangeSpec.witness6 (enc := enc) (C := Try.checked) false ⟨#[], #[.agg #[.int .i64 0, .slice none 0 0, .slice none 0 0], .int .i64 0, .agg #[.int .i64 0, .bool false], .bool false], []⟩ 8 (by kernel_rfl) (by kernel_rfl) (by kernel_rfl) (by kernel_rfl))
      (by kernel_rfl) (by kernel_rfl) rfl
      (fun ds h => by
        match ds, h with
        | [d1, d2, d3, d4], _ => rfl)
      (fun W base args ds p hval hsz hA hlt => by
        rw [Try.params6] at hval hA
        obtain ⟨a, b, c, d, rfl⟩ := array_of_size4 (hsz.trans (by rw [Try.params6]; rfl))
        obtain ⟨v0, v1, v2, v3, d0, d1, d2, d3, p0, p1, p2, p3, hv, rfl, rfl, h0, h1, h2, h3⟩ := trodAll_four hA
        cases hv
        obtain ⟨bk, rfl, hb, _⟩ := open_book (hval 0 25 a rfl rfl) h0 (fun x hx => hlt x (by simp [hx]))
        obtain ⟨lv, rfl, _⟩ := val_int Try.underlying3 (hval 1 3 b rfl rfl)
        obtain ⟨t, f, rfl⟩ := open_job (hval 2 32 c rfl rfl)
        obtain ⟨gone, rfl⟩ := val_bool Try.underlying4 (hval 3 4 d rfl rfl)
        exact topOver_run bk lv t f gone W hb))

end Go.Proofs.Ytihapeagjikiaaa
