/- TopDisk, proved: for every two lists of writes and every keep: what was flushed is kept; of what was written since, those whose bit is set; in their order. -/
import Derived.Test.YtihapeagjikiaaaTopDisk
namespace Go.Proofs.Ytihapeagjikiaaa
open Go.ChangeShapes Go.WideShapes Go.ChangeAt Go.RowKit
set_option maxRecDepth 100000
set_option linter.unusedSimpArgs false
set_option linter.unusedVariables false
open Bk Ac Dk

/-- The statement: for every input 'TopDisk' answers true. -/
theorem topDisk_holds : Rows.TopDiskSaid :=
  OpenClaim.holds_of_wide 8 Try.f8 rfl rfl rfl rfl rfl rfl rfl ⟨rfl, rfl, rfl, rfl, rfl⟩ rfl rfl rfl rfl rfl (by kernel_rfl) Try.func8 (by kernel_rfl)
    (of_decide_eq_true (by kernel_rfl)) (by unfold Func.isWrapper; first | (rw [if_pos (by decide +kernel)]; kernel_rfl) | (rw [if_neg (by decide +kernel)]; exact ⟨rfl, rfl⟩))
    (fun os started H enc _ => law_lifted (s := Rows.topDiskSpec) os started H enc (by kernel_rfl) Try.func8
      (ChangeSpec.witness6 (enc := enc) (C := Try.checked) false ⟨#[], #[.slice none 0 0, .slice none 0 0, .int .u64 0], []⟩ 8 (by kernel_rfl) (by kernel_rfl) (by kernel_rfl) (by kernel_rfl))
      (by kernel_rfl) (by kernel_rfl) rfl
      (fun ds h => by
        match ds, h with
        | [d1, d2, d3], _ => rfl)
      (fun W base args ds p hval hsz hA hlt => by
        rw [Try.params8] at hval hA
        obtain ⟨a, b, c, rfl⟩ := array_of_size3 (hsz.trans (by rw [Try.params8]; rfl))
        obtain ⟨v0, v1, v2, d0, d1, d2, p0, p1, p2, hv, rfl, rfl, h0, h1, h2⟩ := trodAll_three hA
        cases hv
        obtain ⟨len1, f1, hs1⟩ := open_acts (hval 0 66 a rfl rfl) h0 (fun x hx => hlt x (by simp [hx]))
        obtain ⟨len2, f2, hs2⟩ := open_acts (hval 1 66 b rfl rfl) h1 (fun x hx => hlt x (by simp [hx]))
        obtain ⟨K, rfl, _⟩ := val_int Try.underlying75 (hval 2 75 c rfl rfl)
        exact topDisk_run a len1 f1 b len2 f2 K W hs1 hs2))

end Go.Proofs.Ytihapeagjikiaaa
