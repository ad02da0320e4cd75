/- Cars Alike CarsPure HsZ. -/
import Derived.Test.YtopgllmjeliklaaGreatDoorKgHsX
set_option maxRecDepth 100000
set_option linter.unusedSimpArgs false
set_option linter.unusedVariables false
namespace Go.Proofs.YtopgllmjeliklaaGreatDoor
open Go.ChangeShapes Go.WideShapes Go.ChangeAt Go.RowKit Go.Maps
namespace Pl
open Ac
def ints (l : List Int) : List Value := l.map (Value.int .i64)
def carN (s : St) (m : Nat) : Int := carOf s.D (((m / 4 : Nat) : Int) + 1) ((m % 4 / 2 : Nat) : Int) ((m % 2 : Nat) : Int)
def headL (s : St) : List Int := (if s.li = 0 then [] else [s.li]) ++ (if s.ba = 0 then [] else [s.ba])
def carsTo (s : St) : Nat → List Int
 | 0 => headL s
 | m + 1 => if carN s m = 0 then carsTo s m else carsTo s m ++ [carN s m]
def carsL (s : St) : List Int := carsTo s 16
def IntsOwn (w w' : World) (v : Value) (l : List Int) : Prop := w'.ownsRow w.heap.size 3 1 v l.length (ints l) ∧ Below w.heap.size w w'
end Pl
namespace Pl
open Ac
def IntsAt (w : World) (v : Value) (l : List Int) : Prop :=
 ∃ (ad : Option Addr) (cap : Nat), v = .slice ad l.length cap ∧ l.length ≤ cap ∧ cap ≤ maxLen ∧
  (0 < l.length → ∃ b off, ad = some ⟨b, off, none⟩ ∧ b < w.heap.size ∧ ∀ i, i < l.length → w.cell? ⟨b, off + i, none⟩ = some (.int .i64 (l.getD i 0)))
def more (a b : List Int) (x : Int) (j : Nat) : Int := ((a.take j).count x : Int) - ((b.take j).count x : Int)
end Pl
namespace Pl
open Ac
def one (a x : Int) : Nat := if a = x then 1 else 0
def countN (g : Nat → Int) (x : Int) : Nat → Nat
 | 0 => 0
 | m + 1 => countN g x m + one (g m) x
def cnt (s : St) (x : Int) : Nat := one s.li x + one s.ba x + countN (carN s) x 16
def Uniq (s : St) : Prop := ∀ x, x ≠ 0 → cnt s x ≤ 1
end Pl
end Go.Proofs.YtopgllmjeliklaaGreatDoor
namespace Go.Proofs.YtopgllmjeliklaaGreatDoor
open Go.Shelf Go.Lib Go.ChangeShapes Go.WideShapes Go.ChangeAt Go.RowKit
namespace Hs
open Bk Lg Pl Dk Tx Tn Ac
structure Good7 (lv : List (Int × Int × Int)) (σ : Sg) : Prop where
 wf : Wf lv.length σ
 og : Og lv.length σ.gs
theorem Good7.start (f : Nat → Int × Int × Int) {len : Nat} (h1 : 1 ≤ len) (h4 : len ≤ 4) : Good7 (rowsOf f len) ⟨newS len, ⟨0, [], []⟩, []⟩ := by
 have e := rowsOf_len f len; refine ⟨by rw [e]; exact Wf.start h1 h4, Og.nil _⟩
theorem Good7.play {lv : List (Int × Int × Int)} {x : ActC} {σ σ' : Sg} (h : Good7 lv σ) (ok : BookOK σ'.b.last lv.length σ'.b.stays σ'.b.jobs) (hp : PlayR lv x σ σ') : Good7 lv σ' :=
 ⟨h.wf.play ok hp, Og.play h.wf h.og hp⟩
theorem Good7.tick {lv : List (Int × Int × Int)} {σ σ' : Sg} (h : Good7 lv σ) (t : TickR lv.length σ σ') : Good7 lv σ' :=
 ⟨h.wf.tick t, Og.tick h.wf h.og t⟩
theorem Good7.anew {lv : List (Int × Int × Int)} {σ : Sg} (h : Good7 lv σ) : Good7 lv ⟨σ.s, σ.b, []⟩ := ⟨h.wf.anew, Og.nil _⟩
end Hs
end Go.Proofs.YtopgllmjeliklaaGreatDoor
