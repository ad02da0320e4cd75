/- what this law wants besides. -/
import Derived.Test.YtopgllmjeliklaaGreatDoorKBookCheckB
import Derived.Test.YtopgllmjeliklaaGreatDoorKHsZ
namespace Go.Proofs.YtopgllmjeliklaaGreatDoor
open Go.Shelf Go.Lib Go.ChangeShapes Go.WideShapes Go.ChangeAt Go.RowKit
set_option maxRecDepth 100000
set_option linter.unusedSimpArgs false
set_option linter.unusedVariables false
namespace Bk
open Bk Pl
theorem findI_at (b : Book) (i : Nat) (hi : i < b.stays.length) (hp : b.stays.Pairwise (fun a s => a.t < s.t ∧ clash s a = false)) : findI b b.stays[i].t = i := by
 have := idxByFrom_spec (fun (_ y : Stay) => y.t == b.stays[i].t) default b.stays 0
 unfold findI stayIdx Lib.idxBy
 rcases this with ⟨_, h⟩ | ⟨k, hk, e, h1, _⟩
 ·have := h i hi
  rw [getElem!_pos b.stays i hi] at this
  simp at this
 ·rw [e]
  rw [getElem!_pos b.stays k hk] at h1
  have hk2 : k = i := by
   have hp' := List.pairwise_iff_getElem.1 hp; have h1' : b.stays[k].t = b.stays[i].t := by simpa using h1
   rcases Nat.lt_trichotomy k i with h | h | h
   ·have := (hp' k i hk hi h).1; omega
   ·exact h
   ·have := (hp' i k hi hk h).1; omega
  subst hk2
  simp
end Bk
end Go.Proofs.YtopgllmjeliklaaGreatDoor
