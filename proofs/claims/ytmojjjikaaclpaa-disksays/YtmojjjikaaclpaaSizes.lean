/- Chapter 1: a list of sizes that came in: how it lies in memory; what the check of levels answers (A2); contracts for the laws. -/
import Derived.Test.YtmojjjikaaclpaaTower
import Derived.Deep.Slices
import Derived.Deep.Strs
namespace Go.Proofs.Ytmojjjikaaclpaa
open Go.ChangeShapes Go.WideShapes Go.ChangeAt Go.RowKit
set_option maxRecDepth 100000
set_option linter.unusedSimpArgs false
set_option linter.unusedVariables false

/-- A list of sizes lies in memory: its length, and each size by its number. -/
def SizesAt (W : World) (v : Value) (len : Nat) (f : Nat → Int × Int × Int) : Prop :=
  ∃ (a : Option Addr) (cap : Nat), v = .slice a len cap ∧ len ≤ cap ∧ cap ≤ maxLen ∧
    (0 < len → ∃ b off, a = some ⟨b, off, none⟩ ∧ b < W.heap.size ∧ ∀ i, i < len →
      W.cell? ⟨b, off + i * 3, none⟩ = some (.int .i64 (f i).1) ∧ W.cell? ⟨b, off + i * 3 + 1, none⟩ = some (.int .i64 (f i).2.1) ∧ W.cell? ⟨b, off + i * 3 + 2, none⟩ = some (.int .i64 (f i).2.2))

theorem SizesAt.below {W W' : World} {v : Value} {len : Nat} {f : Nat → Int × Int × Int} (h : SizesAt W v len f) (hb : Below W.heap.size W W') : SizesAt W' v len f := by
  obtain ⟨a, cap, hv, hl, hm, hc⟩ := h
  refine ⟨a, cap, hv, hl, hm, fun h0 => ?_⟩
  obtain ⟨b, off, ha, hlt, hcell⟩ := hc h0
  refine ⟨b, off, ha, Nat.lt_of_lt_of_le hlt hb.size, fun i hi => ?_⟩
  obtain ⟨c0, c1, c2⟩ := hcell i hi
  exact ⟨(hb.cell (p := ⟨b, _, none⟩) hlt).trans c0, (hb.cell (p := ⟨b, _, none⟩) hlt).trans c1, (hb.cell (p := ⟨b, _, none⟩) hlt).trans c2⟩

theorem cell_spot {w : World} {a : Addr} {v : Value} (h : w.cell? a = some v) : a.spot = none := by
  unfold World.cell? at h
  cases hs : a.spot with
  | none => rfl
  | some s =>
    simp [hs] at h
    split at h <;> cases h

theorem size_elem {H : Type} {enc : TypeId × Value → H} {w : World} {base : Nat} {spare : Nat → Bool} {held : Bool} {n : Nat} {cs : List Value} {y : DataW H × List MemPlace}
    (h : DataW.trod enc Try.prog w base spare held n 36 cs = some y) (hl : cs.length = 3) : ∃ x y z, cs = [.int .i64 x, .int .i64 y, .int .i64 z] := by
  obtain ⟨y0, y1, y2, k, _, _, h0, h1, h2⟩ := Deep.trod_struct3 Try.underlying36 h
  match cs, hl with
  | [c0, c1, c2], _ =>
    have k3 : Try.prog.cellsOf 3 = 1 := by kernel_rfl
    obtain ⟨x, e0, _, _⟩ := DataW.trod_int Try.underlying3 h0
    obtain ⟨y, e1, _, _⟩ := DataW.trod_int Try.underlying3 h1
    obtain ⟨z, e2, _, _⟩ := DataW.trod_int Try.underlying3 h2
    simp [k3] at e0 e1 e2
    exact ⟨x, y, z, by rw [e0, e1, e2]⟩

-- left out: this seat has not what it speaks of

/-- What is wrong with one level, beside the last one: 0, 1, 3. -/
def levelN (s l : Int × Int × Int) : Int := if sizeB s.1 s.2.1 s.2.2 = true then (if fitsB s.1 s.2.1 s.2.2 l.1 l.2.1 l.2.2 = true then 0 else 3) else 1
/-- The first fault of so many levels from i on. -/
def levelsFrom (f : Nat → Int × Int × Int) (l : Int × Int × Int) : Nat → Nat → Int
  | 0, _ => 0
  | n + 1, i => if levelN (f i) l = 0 then levelsFrom f l n (i + 1) else levelN (f i) l
def levelsN (len : Nat) (f : Nat → Int × Int × Int) : Int := if 1 ≤ len ∧ len ≤ 4 then levelsFrom f (f (len - 1)) len 0 else 2

-- left out: this seat has not what it speaks of

-- left out: this seat has not what it speaks of

-- left out: this seat has not what it speaks of

end Go.Proofs.Ytmojjjikaaclpaa
