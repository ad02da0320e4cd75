/- HsM. -/
import Derived.Test.YtopgllmjeliklaaGreatDoorKrHsZ
import Derived.Laws.BitsLemmas
set_option maxRecDepth 100000
set_option linter.unusedSimpArgs false
set_option linter.unusedVariables false
namespace Go.Proofs.YtopgllmjeliklaaGreatDoor
open Go.Shelf Go.Lib Go.ChangeShapes Go.WideShapes Go.ChangeAt Go.RowKit
namespace Hs
open Bk Lg Pl Dk Tx Tn Ac
theorem ownBk {w : World} {base : Nat} {last : Int} {sa ja : Option Addr} {sc jc : Nat} {S : List Stay} {J : List Job} (h : OwnBook w base (.slice sa S.length sc) (.slice ja J.length jc) S J) : Book.At ⟨last, sa, sc, ja, jc, S, J⟩ w := by
 obtain ⟨sa', sc', ja', jc', e1, e2, hat⟩ := own_at2 (last := last) h
 cases e1
 cases e2
 exact hat
theorem ownFr {w w' : World} {b base : Nat} {vs vj : Value} {S : List Stay} {J : List Job} (h : OwnBook w base vs vj S J) (f : HFr b w w') : OwnBook w' base vs vj S J :=
 ⟨OwnAt.far2 h.s fun g arr hk => f.far g arr _ (by decide) (by decide) (by decide) (by decide) (by decide) (by decide) hk, OwnAt.far2 h.j fun g arr hk => f.far g arr _ (by decide) (by decide) (by decide) (by decide) (by decide) (by decide) hk, h.ne⟩
end Hs
end Go.Proofs.YtopgllmjeliklaaGreatDoor
