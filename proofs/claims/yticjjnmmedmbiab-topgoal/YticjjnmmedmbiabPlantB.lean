/- Chapter 2: the machine's state as one fact of the world; what is seen (B2). -/
import Derived.Test.YticjjnmmedmbiabPlantA
namespace Go.Proofs.Yticjjnmmedmbiab
open Go.ChangeShapes Go.WideShapes Go.ChangeAt Go.RowKit Go.Maps
set_option maxRecDepth 100000
set_option linter.unusedSimpArgs false
set_option linter.unusedVariables false

namespace Pl
/-- The machine, as it is: its numbers, and its cars as the map reads. -/
structure St where
  lv : Int
  h : Int
  ex : Int
  op : Bool
  pe : Int
  li : Int
  ba : Int
  D : DataW Unit
  st : Int
  hu : Bool

def arr (s : St) (mb : Nat) : Array Value := #[.int .i64 s.lv, .int .i64 s.h, .int .i64 s.ex, .bool s.op, .int .i64 s.pe, .int .i64 s.li, .int .i64 s.ba, .map (some mb), .int .i64 s.st, .bool s.hu]

/-- Block pb is the machine s, its cars in the map of block mb. -/
structure IsP (w : World) (pb mb n : Nat) (s : St) : Prop where
  row : w.heap[pb]? = some (.cells (arr s mb) 120 (0, 0))
  cars : Cars w mb n s.D

theorem IsP.lt {w : World} {pb mb n : Nat} {s : St} (h : IsP w pb mb n s) : pb < w.heap.size := (Array.getElem?_eq_some_iff.1 h.row).1
theorem IsP.ltm {w : World} {pb mb n : Nat} {s : St} (h : IsP w pb mb n s) : mb < w.heap.size := by
  obtain ⟨es, clock, hm, r⟩ := h.cars
  exact (Array.getElem?_eq_some_iff.1 hm).1
theorem IsP.ne {w : World} {pb mb n : Nat} {s : St} (h : IsP w pb mb n s) : pb ≠ mb := by
  intro e
  obtain ⟨es, clock, hm, r⟩ := h.cars
  have := h.row
  rw [e, hm] at this
  cases this
theorem IsP.cell {w : World} {pb mb n : Nat} {s : St} (h : IsP w pb mb n s) (o : Nat) : w.cell? ⟨pb, o, none⟩ = (arr s mb)[o]? := by simp [World.cell?, h.row]
theorem IsP.free {w : World} {pb mb n : Nat} {s : St} (h : IsP w pb mb n s) (o : Nat) : w.frozen? ⟨pb, o, none⟩ = false := by simp [World.frozen?, h.row]
theorem IsP.below {w w' : World} {pb mb n : Nat} {s : St} (h : IsP w pb mb n s) (hb : Below w.heap.size w w') : IsP w' pb mb n s := ⟨(hb.block pb h.lt).trans h.row, cars_below h.cars hb⟩

/-- The cells, by their numbers. -/
theorem IsP.c0 {w : World} {pb mb n : Nat} {s : St} (h : IsP w pb mb n s) : w.cell? ⟨pb, 0, none⟩ = some (.int .i64 s.lv) := h.cell 0
theorem IsP.c1 {w : World} {pb mb n : Nat} {s : St} (h : IsP w pb mb n s) : w.cell? ⟨pb, 1, none⟩ = some (.int .i64 s.h) := h.cell 1
theorem IsP.c2 {w : World} {pb mb n : Nat} {s : St} (h : IsP w pb mb n s) : w.cell? ⟨pb, 2, none⟩ = some (.int .i64 s.ex) := h.cell 2
theorem IsP.c3 {w : World} {pb mb n : Nat} {s : St} (h : IsP w pb mb n s) : w.cell? ⟨pb, 3, none⟩ = some (.bool s.op) := h.cell 3
theorem IsP.c4 {w : World} {pb mb n : Nat} {s : St} (h : IsP w pb mb n s) : w.cell? ⟨pb, 4, none⟩ = some (.int .i64 s.pe) := h.cell 4
theorem IsP.c5 {w : World} {pb mb n : Nat} {s : St} (h : IsP w pb mb n s) : w.cell? ⟨pb, 5, none⟩ = some (.int .i64 s.li) := h.cell 5
theorem IsP.c6 {w : World} {pb mb n : Nat} {s : St} (h : IsP w pb mb n s) : w.cell? ⟨pb, 6, none⟩ = some (.int .i64 s.ba) := h.cell 6
theorem IsP.c7 {w : World} {pb mb n : Nat} {s : St} (h : IsP w pb mb n s) : w.cell? ⟨pb, 7, none⟩ = some (.map (some mb)) := h.cell 7
theorem IsP.c8 {w : World} {pb mb n : Nat} {s : St} (h : IsP w pb mb n s) : w.cell? ⟨pb, 8, none⟩ = some (.int .i64 s.st) := h.cell 8
theorem IsP.c9 {w : World} {pb mb n : Nat} {s : St} (h : IsP w pb mb n s) : w.cell? ⟨pb, 9, none⟩ = some (.bool s.hu) := h.cell 9

/-- A machine that is within its bounds. -/
structure Ok (s : St) : Prop where
  lv1 : 1 ≤ s.lv
  lv4 : s.lv ≤ 4
  h0 : 0 ≤ s.h
  h12 : s.h ≤ s.lv * 3
  e0 : -2 ≤ s.ex
  e2 : s.ex ≤ 2

/-- One cell of the machine is written. -/
theorem IsP.set {w : World} {pb mb n : Nat} {s s' : St} (h : IsP w pb mb n s) (o : Nat) (v : Value) (hs : (arr s mb).setIfInBounds o v = arr s' mb) (hD : s'.D = s.D) : IsP (w.setCell ⟨pb, o, none⟩ v) pb mb n s' := by
  refine ⟨?_, ?_⟩
  · have := h.row
    simp [World.setCell, Array.getElem?_modify, this, hs]
  · rw [hD]
    obtain ⟨es, clock, hm, r⟩ := h.cars
    exact ⟨es, clock, (Below.heap_setCell w _ v mb (by simpa using h.ne.symm)).trans hm, r⟩

/-- What is seen. -/
def senseV (s : St) : Value := .agg #[.int .i64 s.h, .int .i64 s.ex, .bool s.op, .int .i64 s.pe, .int .i64 s.li, .int .i64 s.ba, .bool (carAtI s.D s.lv s.h s.ex != 0), .bool (carAtI s.D s.lv s.h (s.ex - 1) != 0), .bool (carAtI s.D s.lv s.h (s.ex + 1) != 0)]

end Pl
end Go.Proofs.Yticjjnmmedmbiab
