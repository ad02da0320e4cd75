/- DiskSays, proved: any disk, any acts on it: what is answered, and what is there, is what the document's disk answers and has. -/
import Derived.Test.YtmojjjikaaclpaaDiskSays
namespace Go.Proofs.Ytmojjjikaaclpaa
open Go.ChangeShapes Go.WideShapes Go.ChangeAt Go.RowKit
set_option maxRecDepth 100000
set_option linter.unusedSimpArgs false
set_option linter.unusedVariables false
open Bk Ac Dk

/-- The statement: for every input 'DiskSays' answers true. -/
theorem diskSays_holds : Rows.DiskSaysSaid :=
  OpenClaim.holds_of_wide 3 Try.f3 rfl rfl rfl rfl rfl rfl rfl ⟨rfl, rfl, rfl, rfl, rfl⟩ rfl rfl rfl rfl rfl (by kernel_rfl) Try.func3 (by kernel_rfl)
    (of_decide_eq_true (by kernel_rfl)) (by unfold Func.isWrapper; first | (rw [if_pos (by decide +kernel)]; kernel_rfl) | (rw [if_neg (by decide +kernel)]; exact ⟨rfl, rfl⟩))
    (fun os started H enc _ => law_lifted (s := Rows.diskSaysSpec) os started H enc (by kernel_rfl) Try.func3
      (ChangeSpec.witness6 (enc := enc) (C := Try.checked) false ⟨#[], #[.int .i64 0, .slice none 0 0], []⟩ 8 (by kernel_rfl) (by kernel_rfl) (by kernel_rfl) (by kernel_rfl))
      (by kernel_rfl) (by kernel_rfl) rfl
      (fun ds h => by
        match ds, h with
        | [d1, d2], _ => rfl)
      (fun W base args ds p hval hsz hA hlt => by
        rw [Try.params3] at hval hA
        obtain ⟨a, b, rfl⟩ := array_of_size2 (hsz.trans (by rw [Try.params3]; rfl))
        obtain ⟨v0, vs1, d0, ds1, p0, p1, hv, rfl, rfl, h0, h1⟩ := trodAll_cons hA
        cases hv
        obtain ⟨v1, vs2, d1, ds2, p2, p3, hv, rfl, rfl, h2, h3⟩ := trodAll_cons h1
        cases hv
        obtain ⟨sn, rfl, _⟩ := val_int Try.underlying3 (hval 0 3 a rfl rfl)
        obtain ⟨len, f, hs⟩ := open_acts (hval 1 22 b rfl rfl) h2 (fun x hx => hlt x (by simp [hx]))
        exact diskSays_run sn b len f W hs))

end Go.Proofs.Ytmojjjikaaclpaa
