/- Chapter 1: what the check of levels answers, the program's and the document's (A2); contracts for the laws. -/
import Derived.Test.YtkgicpialdhnhaaDoorSizes
namespace Go.Proofs.YtkgicpialdhnhaaDoor
open Go.ChangeShapes Go.WideShapes Go.ChangeAt Go.RowKit
set_option maxRecDepth 100000
set_option linter.unusedSimpArgs false
set_option linter.unusedVariables false

-- left out: this seat has not what it speaks of

-- left out: this seat has not what it speaks of

-- left out: this seat has not what it speaks of

-- left out: this seat has not what it speaks of

theorem levelN_nonneg (s l : Int × Int × Int) : 0 ≤ levelN s l := by
  unfold levelN
  split
  · split <;> omega
  · omega
theorem levelsFrom_nonneg (f : Nat → Int × Int × Int) (l : Int × Int × Int) : ∀ n i, 0 ≤ levelsFrom f l n i
  | 0, _ => Int.le_refl _
  | n + 1, i => by
    unfold levelsFrom
    split
    · exact levelsFrom_nonneg f l n (i + 1)
    · exact levelN_nonneg _ _
theorem levelsN_nonneg (len : Nat) (f : Nat → Int × Int × Int) : 0 ≤ levelsN len f := by
  unfold levelsN
  split
  · exact levelsFrom_nonneg _ _ _ _
  · omega
theorem levelsFrom_zero (f : Nat → Int × Int × Int) (l : Int × Int × Int) : ∀ n i, levelsFrom f l n i = 0 → ∀ j, i ≤ j → j < i + n → levelN (f j) l = 0
  | 0, i, _, j, h1, h2 => by omega
  | n + 1, i, h, j, h1, h2 => by
    unfold levelsFrom at h
    split at h
    · rename_i h0
      by_cases hj : j = i
      · rw [hj]; exact h0
      · exact levelsFrom_zero f l n (i + 1) h j (by omega) (by omega)
    · rename_i h0
      exact absurd h h0
/-- Where nothing is wrong there are one to four levels, and each fits the last one. -/
theorem levelsN_zero {len : Nat} {f : Nat → Int × Int × Int} (h : levelsN len f = 0) : 1 ≤ len ∧ len ≤ 4 ∧ ∀ i, i < len → fitsB (f i).1 (f i).2.1 (f i).2.2 (f (len - 1)).1 (f (len - 1)).2.1 (f (len - 1)).2.2 = true := by
  unfold levelsN at h
  split at h
  · rename_i hl
    refine ⟨hl.1, hl.2, fun i hi => ?_⟩
    have := levelsFrom_zero f _ _ _ h i (by omega) (by omega)
    unfold levelN at this
    split at this
    · split at this
      · assumption
      · omega
    · omega
  · omega

end Go.Proofs.YtkgicpialdhnhaaDoor
