/- Chapter 1: a list of sizes that came in: how it lies in memory; what the check of levels answers (A2); contracts for the laws. -/
import Derived.Test.YticjjnmmedmbiacTower
import Derived.Deep.Slices
import Derived.Deep.Strs
namespace Go.Proofs.Yticjjnmmedmbiac
open Go.ChangeShapes Go.WideShapes Go.ChangeAt Go.RowKit
set_option maxRecDepth 100000
set_option linter.unusedSimpArgs false
set_option linter.unusedVariables false

/-- A list of sizes lies in memory: its length, and each size by its number. -/
def SizesAt (W : World) (v : Value) (len : Nat) (f : Nat → Int × Int × Int) : Prop :=
  ∃ (a : Option Addr) (cap : Nat), v = .slice a len cap ∧ len ≤ cap ∧ cap ≤ maxLen ∧
    (0 < len → ∃ b off, a = some ⟨b, off, none⟩ ∧ b < W.heap.size ∧ ∀ i, i < len →
      W.cell? ⟨b, off + i * 3, none⟩ = some (.int .i64 (f i).1) ∧ W.cell? ⟨b, off + i * 3 + 1, none⟩ = some (.int .i64 (f i).2.1) ∧ W.cell? ⟨b, off + i * 3 + 2, none⟩ = some (.int .i64 (f i).2.2))

theorem SizesAt.below {W W' : World} {v : Value} {len : Nat} {f : Nat → Int × Int × Int} (h : SizesAt W v len f) (hb : Below W.heap.size W W') : SizesAt W' v len f := by
  obtain ⟨a, cap, hv, hl, hm, hc⟩ := h
  refine ⟨a, cap, hv, hl, hm, fun h0 => ?_⟩
  obtain ⟨b, off, ha, hlt, hcell⟩ := hc h0
  refine ⟨b, off, ha, Nat.lt_of_lt_of_le hlt hb.size, fun i hi => ?_⟩
  obtain ⟨c0, c1, c2⟩ := hcell i hi
  exact ⟨(hb.cell (p := ⟨b, _, none⟩) hlt).trans c0, (hb.cell (p := ⟨b, _, none⟩) hlt).trans c1, (hb.cell (p := ⟨b, _, none⟩) hlt).trans c2⟩

theorem cell_spot {w : World} {a : Addr} {v : Value} (h : w.cell? a = some v) : a.spot = none := by
  unfold World.cell? at h
  cases hs : a.spot with
  | none => rfl
  | some s =>
    simp [hs] at h
    split at h <;> cases h

theorem size_elem {H : Type} {enc : TypeId × Value → H} {w : World} {base : Nat} {spare : Nat → Bool} {held : Bool} {n : Nat} {cs : List Value} {y : DataW H × List MemPlace}
    (h : DataW.trod enc Try.prog w base spare held n 34 cs = some y) (hl : cs.length = 3) : ∃ x y z, cs = [.int .i64 x, .int .i64 y, .int .i64 z] := by
  obtain ⟨y0, y1, y2, k, _, _, h0, h1, h2⟩ := Deep.trod_struct3 Try.underlying34 h
  match cs, hl with
  | [c0, c1, c2], _ =>
    have k3 : Try.prog.cellsOf 3 = 1 := by kernel_rfl
    obtain ⟨x, e0, _, _⟩ := DataW.trod_int Try.underlying3 h0
    obtain ⟨y, e1, _, _⟩ := DataW.trod_int Try.underlying3 h1
    obtain ⟨z, e2, _, _⟩ := DataW.trod_int Try.underlying3 h2
    simp [k3] at e0 e1 e2
    exact ⟨x, y, z, by rw [e0, e1, e2]⟩

theorem open_sizes {H : Type} {enc : TypeId × Value → H} {W : World} {b0 : Nat} {v : Value} {d : DataW H} {p : List MemPlace} (hv : Value.okWide Try.prog W .any b0 62 v)
    (h : DataW.Trod enc Try.prog W 0 (fun _ => true) true 62 v d p) (hlt : ∀ x ∈ p, x.block < W.heap.size) : ∃ len f, SizesAt W v len f := by
  obtain ⟨a0, len0, cap0, rfl⟩ := okWide_slice Try.underlying62 hv
  obtain ⟨fuel, hf⟩ := h
  have ce : Try.prog.cellsOf 34 = 3 := by kernel_rfl
  rcases Deep.open_slice Try.underlying62 (by simpa [Value.cells] using hf) with ⟨hcs, _⟩ | ⟨a, len, cap, m, n, D, Pl, hcs, _, hl, hm, hmm, hx, hel⟩
  · simp at hcs
    obtain ⟨rfl, rfl, rfl⟩ := hcs
    exact ⟨0, fun _ => (0, 0, 0), none, 0, rfl, Nat.le_refl _, Nat.zero_le _, fun h => absurd h (Nat.lt_irrefl _)⟩
  · simp at hcs hmm
    obtain ⟨rfl, rfl, rfl⟩ := hcs
    have each : ∀ i, i < len0 → ∃ q : Int × Int × Int, W.cell? (a.add (i * 3)) = some (.int .i64 q.1) ∧ W.cell? (a.add (i * 3 + 1)) = some (.int .i64 q.2.1) ∧ W.cell? (a.add (i * 3 + 2)) = some (.int .i64 q.2.2) := by
      intro i hi
      obtain ⟨cs', h1, h2⟩ := hel i (by omega)
      rw [ce] at h1
      obtain ⟨_, hlen, hcell⟩ := World.cells?_some h1
      obtain ⟨x, y, z, rfl⟩ := size_elem h2 hlen
      have e0 := hcell 0 (by omega)
      have e1 := hcell 1 (by omega)
      have e2 := hcell 2 (by omega)
      rw [Deep.add_add] at e0 e1 e2
      exact ⟨(x, y, z), by simpa using e0, by simpa using e1, by simpa using e2⟩
    obtain ⟨f, hq⟩ := Deep.choose_lt each
    refine ⟨len0, f, some a, cap0, rfl, hl, hm, fun h0 => ?_⟩
    have hs : a.spot = none := by
      have := cell_spot (hq 0 h0).1
      simpa [Addr.add] using this
    obtain ⟨b, off, sp⟩ := a
    simp only at hs
    subst hs
    have hmem : MemPlace.cell b off ∈ p := by
      simp only [Prod.mk.injEq] at hx
      rw [hx.2]
      refine List.mem_append_left _ ?_
      simp only [MemPlace.row, List.mem_map, List.mem_range]
      exact ⟨0, by rw [ce]; omega, by simp⟩
    refine ⟨b, off, rfl, hlt _ hmem, fun i hi => ?_⟩
    obtain ⟨c0, c1, c2⟩ := hq i hi
    have ad : ∀ k, (Addr.add ⟨b, off, none⟩ k) = ⟨b, off + k, none⟩ := by
      intro k
      unfold Addr.add
      split
      · rename_i h; subst h; rfl
      · rfl
    rw [ad] at c0 c1 c2
    exact ⟨c0, by rw [Nat.add_assoc]; exact c1, by rw [Nat.add_assoc]; exact c2⟩

/-- What is wrong with one level, beside the last one: 0, 1, 3. -/
def levelN (s l : Int × Int × Int) : Int := if sizeB s.1 s.2.1 s.2.2 = true then (if fitsB s.1 s.2.1 s.2.2 l.1 l.2.1 l.2.2 = true then 0 else 3) else 1
/-- The first fault of so many levels from i on. -/
def levelsFrom (f : Nat → Int × Int × Int) (l : Int × Int × Int) : Nat → Nat → Int
  | 0, _ => 0
  | n + 1, i => if levelN (f i) l = 0 then levelsFrom f l n (i + 1) else levelN (f i) l
def levelsN (len : Nat) (f : Nat → Int × Int × Int) : Int := if 1 ≤ len ∧ len ≤ 4 then levelsFrom f (f (len - 1)) len 0 else 2

theorem within_any' (n l m : Int) (w : World) : Calls Try.prog 111 #[.int .i64 n, .int .i64 l, .int .i64 m] w fun e w' => e = .returned (.bool (decide (l ≤ n ∧ n ≤ m))) ∧ w = w' :=
  (within_any n l m w).mono fun e w' h => ⟨h.1, h.2.symm⟩

-- left out: this seat has not what it speaks of

-- left out: this seat has not what it speaks of

end Go.Proofs.Yticjjnmmedmbiac
