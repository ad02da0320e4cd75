/- slices.DeleteFunc at jobs and stays, in memory of the call's own: what is kept, in its order; contracts for the laws of stage 2. -/
import Derived.Test.YtmojjjikaaclpaaCopy
namespace Go.Proofs.Ytmojjjikaaclpaa
open Go.Shelf Go.Lib Go.ChangeShapes Go.WideShapes Go.ChangeAt Go.RowKit
set_option maxRecDepth 100000
set_option linter.unusedSimpArgs false
set_option linter.unusedVariables false

-- left out: this seat has not what it speaks of

namespace Bk
/-! ### cells written one behind the other -/
def setRow (cur : Array Value) : Nat → List Value → Array Value
  | _, [] => cur
  | o, v :: r => setRow (cur.setIfInBounds o v) (o + 1) r
theorem setRow_size : ∀ (l : List Value) (cur : Array Value) (o : Nat), (setRow cur o l).size = cur.size
  | [], _, _ => rfl
  | v :: r, cur, o => by rw [setRow, setRow_size r]; simp
theorem setRow_out : ∀ (l : List Value) (cur : Array Value) (o q : Nat), (q < o ∨ o + l.length ≤ q) → (setRow cur o l)[q]? = cur[q]?
  | [], _, _, _, _ => rfl
  | v :: r, cur, o, q, h => by
    rw [setRow, setRow_out r _ _ _ (by simp at h; omega), Array.getElem?_setIfInBounds, if_neg (by simp at h; omega)]
theorem setRow_in : ∀ (l : List Value) (cur : Array Value) (o c : Nat), c < l.length → o + l.length ≤ cur.size → (setRow cur o l)[o + c]? = l[c]?
  | [], _, _, _, h, _ => absurd h (Nat.not_lt_zero _)
  | v :: r, cur, o, 0, _, hs => by
    rw [setRow, setRow_out r _ _ _ (by omega), Array.getElem?_setIfInBounds, Nat.add_zero, if_pos rfl, if_pos (by simp at hs; omega)]
    rfl
  | v :: r, cur, o, c + 1, h, hs => by
    rw [setRow, show o + (c + 1) = (o + 1) + c from by omega, setRow_in r _ _ c (by simpa using h) (by simp at hs ⊢; omega)]
    rfl
theorem blk_setCells {w : World} {g : Nat} {T : TypeId} : ∀ (l : List Value) (cur : Array Value) (o : Nat), Blk w g cur T → Blk (w.setCells g o l) g (setRow cur o l) T := by
  intro l
  induction l generalizing w with
  | nil => intro cur o h; exact h
  | cons v r ih => intro cur o h; exact ih _ _ (h.set o v)
theorem grown_refl (w : World) (row : Option Nat) : w.grownBy w row := ⟨rfl, rfl, rfl, Nat.le_refl _, fun _ _ _ => rfl⟩
theorem grown_trans {a b c : World} {row : Option Nat} (h : a.grownBy b row) (k : b.grownBy c row) : a.grownBy c row :=
  ⟨k.os.trans h.os, k.tape.trans h.tape, k.output.trans h.output, Nat.le_trans h.size k.size, fun i hi hn => (k.block i (Nat.lt_of_lt_of_le hi h.size) hn).trans (h.block i hi hn)⟩
theorem grown_of_below {a b : World} {row : Option Nat} (h : Below a.heap.size a b) : a.grownBy b row := ⟨h.os, h.tape, h.output, h.size, fun k hk _ => h.block k hk⟩
theorem grown_set (w : World) (g o : Nat) (v : Value) : w.grownBy (w.setCell ⟨g, o, none⟩ v) (some g) := ⟨rfl, rfl, rfl, by rw [size_setCell]; exact Nat.le_refl _, fun k hk hn => Below.heap_setCell _ _ _ _ (by intro e; exact hn (by rw [e]))⟩
theorem grown_setCells (g : Nat) : ∀ (l : List Value) (w : World) (o : Nat), w.grownBy (w.setCells g o l) (some g)
  | [], w, _ => grown_refl w _
  | v :: r, w, o => grown_trans (grown_set w g o v) (grown_setCells g r _ _)
theorem below_of_grown {N : Nat} {a b c : World} {g : Nat} (h : Below N a b) (k : b.grownBy c (some g)) (hg : N ≤ g) (hN : N ≤ b.heap.size) : Below N a c :=
  ⟨k.os.trans h.os, k.tape.trans h.tape, k.output.trans h.output, Nat.le_trans h.size k.size, fun i hi => (k.block i (by omega) (by intro e; injection e with e; omega)).trans (h.block i hi)⟩

/-- The built-in clear at rows of whatever cells. -/
theorem run_clear_rows {P : Program} (w : World) (t e ty : TypeId) (z : Value) (ht : P.underlying t = some (.slice e)) (hv : ∀ w, (zeroValue e).run P w = .ok z w) (b o n c : Nat) (hn : 0 < n) (l : List Value) (hl : (Builtin.zeroCells z.cells n).toList = l)
    (hc : ∀ j, j < l.length → (w.cell? ⟨b, o + j, none⟩).isSome = true) (hf : ∀ j, j < l.length → w.frozen? ⟨b, o + j, none⟩ = false) (h1 : ∀ v ∈ l, v.oneCell' = true) :
    (Builtin.clear_ #[t] ty #[.slice (some ⟨b, o, none⟩) n c]).run P w = .ok (.tuple #[]) (w.setCells b o l) := by
  have hst := run_storeCells_cells (P := P) b o l 0 w (by simpa using hc) (by simpa using hf) h1
  simp only [Nat.add_zero] at hst
  obtain ⟨m, rfl⟩ : ∃ m, n = m + 1 := ⟨n - 1, by omega⟩
  simp [Builtin.clear_, run_underlying ht, hv, hl, hst]

section
variable {α : Type} [Inhabited α]
/-- What the loop of DeleteFunc holds: those of the first j that are kept, at the head; those from j on where they were. -/
structure DelI (w wr : World) (g cap k : Nat) (T : TypeId) (enc : α → List Value) (p : α → Bool) (l : List α) (j i : Nat) : Prop where
  grown : w.grownBy wr (some g)
  len : ((l.take j).filter (fun x => !p x)).length = i
  cur : ∃ cur, Blk wr g cur T ∧ cur.size = cap * k ∧ InRows cur k enc ((l.take j).filter (fun x => !p x)) ∧ ∀ a, j ≤ a → a < l.length → ∀ c u, (enc l[a]!)[c]? = some u → cur[a * k + c]? = some u
theorem DelI.lt {w wr : World} {g cap k : Nat} {T : TypeId} {enc : α → List Value} {p : α → Bool} {l : List α} {j i : Nat} (h : DelI w wr g cap k T enc p l j i) : i ≤ j := by
  have := h.len
  have h2 := List.length_filter_le (fun x => !p x) (l.take j)
  simp only [List.length_take] at h2
  omega
omit [Inhabited α] in
theorem take_filter (p : α → Bool) [Inhabited α] (l : List α) (j : Nat) (hj : j < l.length) : (l.take (j + 1)).filter (fun x => !p x) = (l.take j).filter (fun x => !p x) ++ (if p l[j]! = true then [] else [l[j]!]) := by
  rw [List.take_succ_eq_append_getElem hj, List.filter_append]
  have e : l[j]! = l[j] := getElem!_pos l j hj
  rw [e]
  cases h : p l[j] <;> simp [h]
theorem DelI.skip {w wr wx : World} {g cap k : Nat} {T : TypeId} {enc : α → List Value} {p : α → Bool} {l : List α} {j i : Nat} (h : DelI w wr g cap k T enc p l j i) (hj : j < l.length) (hp : p l[j]! = true) (hb : Below wr.heap.size wr wx) : DelI w wx g cap k T enc p l (j + 1) i := by
  obtain ⟨cur, hk, hs, h1, h2⟩ := h.cur
  have e := take_filter p l j hj
  rw [if_pos hp, List.append_nil] at e
  exact ⟨grown_trans h.grown (grown_of_below hb), by rw [e]; exact h.len, cur, hk.below hb, hs, by rw [e]; exact h1, fun a ha => h2 a (by omega)⟩
theorem DelI.keep {w wr wx : World} {g cap k : Nat} {T : TypeId} {enc : α → List Value} {p : α → Bool} {l : List α} {j i : Nat} (hk0 : ∀ x, (enc x).length = k) (h : DelI w wr g cap k T enc p l j i) (hj : j < l.length) (hc : l.length ≤ cap) (hp : p l[j]! = false) (hb : Below wr.heap.size wr wx) :
    DelI w (wx.setCells g (i * k) (enc l[j]!)) g cap k T enc p l (j + 1) (i + 1) := by
  have hij := h.lt
  obtain ⟨cur, hk, hs, h1, h2⟩ := h.cur
  have e := take_filter p l j hj
  rw [if_neg (by rw [hp]; decide)] at e
  have hik : i * k + k ≤ cap * k := by have : (i + 1) * k ≤ cap * k := Nat.mul_le_mul_right k (by omega); rw [Nat.succ_mul] at this; exact this
  refine ⟨grown_trans (grown_trans h.grown (grown_of_below hb)) (grown_setCells g _ _ _), by rw [e, List.length_append, h.len]; rfl, setRow cur (i * k) (enc l[j]!), blk_setCells _ _ _ (hk.below hb), by rw [setRow_size]; exact hs, ?_, ?_⟩
  · intro a ha c u hu
    rw [e] at ha hu
    rw [List.length_append, h.len] at ha
    simp only [List.length_cons, List.length_nil, Nat.zero_add] at ha
    by_cases ea : a = i
    · subst ea
      have el : ((l.take j).filter (fun x => !p x) ++ [l[j]!])[a]! = l[j]! := by
        rw [getElem!_pos ((l.take j).filter (fun x => !p x) ++ [l[j]!]) a (by rw [List.length_append, h.len]; simp), List.getElem_append_right (by rw [h.len]; exact Nat.le_refl _)]
        simp [h.len]
      rw [el] at hu
      have hc' : c < (enc l[j]!).length := (List.getElem?_eq_some_iff.1 hu).1
      rw [setRow_in _ _ _ _ hc' (by rw [hk0, hs]; exact hik)]
      exact hu
    · have ha' : a < i := by omega
      have el : ((l.take j).filter (fun x => !p x) ++ [l[j]!])[a]! = ((l.take j).filter (fun x => !p x))[a]! := by
        rw [getElem!_pos ((l.take j).filter (fun x => !p x) ++ [l[j]!]) a (by rw [List.length_append, h.len]; omega), getElem!_pos ((l.take j).filter (fun x => !p x)) a (by rw [h.len]; exact ha'), List.getElem_append_left (by rw [h.len]; exact ha')]
      rw [el] at hu
      have hc' : c < k := by rw [← hk0 ((l.take j).filter (fun x => !p x))[a]!]; exact (List.getElem?_eq_some_iff.1 hu).1
      rw [setRow_out _ _ _ _ (Or.inl (by have : (a + 1) * k ≤ i * k := Nat.mul_le_mul_right k ha'; rw [Nat.succ_mul] at this; omega))]
      exact h1 a (by rw [h.len]; exact ha') c u hu
  · intro a ha hal c u hu
    rw [setRow_out _ _ _ _ (Or.inr (by rw [hk0]; have : (i + 1) * k ≤ a * k := Nat.mul_le_mul_right k (by omega); rw [Nat.succ_mul] at this; omega))]
    exact h2 a (by omega) hal c u hu
end

end Bk
end Go.Proofs.Ytmojjjikaaclpaa
