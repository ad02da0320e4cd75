/- HsZ. -/
import Derived.Test.YtopgllmjeliklaaGreatDoorKhHsX
set_option maxRecDepth 100000
set_option linter.unusedSimpArgs false
set_option linter.unusedVariables false
namespace Go.Proofs.YtopgllmjeliklaaGreatDoor
open Go.Shelf Go.Lib Go.ChangeShapes Go.WideShapes Go.ChangeAt Go.RowKit
namespace Hs
open Bk Lg Pl Dk Tx Tn Ac
structure Good7 (lv : List (Int × Int × Int)) (σ : Sg) : Prop where
 wf : Wf lv.length σ
 og : Og lv.length σ.gs
theorem Good7.start (f : Nat → Int × Int × Int) {len : Nat} (h1 : 1 ≤ len) (h4 : len ≤ 4) : Good7 (rowsOf f len) ⟨newS len, ⟨0, [], []⟩, []⟩ := by
 have e := rowsOf_len f len; refine ⟨by rw [e]; exact Wf.start h1 h4, Og.nil _⟩
theorem Good7.play {lv : List (Int × Int × Int)} {x : ActC} {σ σ' : Sg} (h : Good7 lv σ) (ok : BookOK σ'.b.last lv.length σ'.b.stays σ'.b.jobs) (hp : PlayR lv x σ σ') : Good7 lv σ' :=
 ⟨h.wf.play ok hp, Og.play h.wf h.og hp⟩
theorem Good7.tick {lv : List (Int × Int × Int)} {σ σ' : Sg} (h : Good7 lv σ) (t : TickR lv.length σ σ') : Good7 lv σ' :=
 ⟨h.wf.tick t, Og.tick h.wf h.og t⟩
theorem Good7.anew {lv : List (Int × Int × Int)} {σ : Sg} (h : Good7 lv σ) : Good7 lv ⟨σ.s, σ.b, []⟩ := ⟨h.wf.anew, Og.nil _⟩
end Hs
end Go.Proofs.YtopgllmjeliklaaGreatDoor
