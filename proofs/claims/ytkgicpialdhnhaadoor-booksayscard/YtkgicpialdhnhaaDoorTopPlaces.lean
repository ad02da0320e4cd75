/- Chapter 1, the statement 'TopPlaces': for every number of levels, places are as many as there are, less two, each once, none of them spare nor behind that, each behind ahead of the one in front of it (A3); no condition. -/
import Derived.Test.YtkgicpialdhnhaaDoorPlaces
import Derived.Deep.RegionHeld3
import Derived.Deep.DeepCutAuto
import Derived.Deep.LoopGhost
namespace Go.Proofs.YtkgicpialdhnhaaDoor
open Go.ChangeShapes Go.WideShapes Go.ChangeAt Go.RowKit
set_option maxRecDepth 100000
set_option linter.unusedSimpArgs false
set_option linter.unusedVariables false

theorem flatP_0 : ∀ (l : List (Int × Int × Int)) (k : Nat) (h : k < l.length), (flatP l)[k * 3]? = some (.int .i64 l[k].1)
  | g :: l, 0, _ => rfl
  | g :: l, k + 1, h => by
    rw [show (k + 1) * 3 = k * 3 + 1 + 1 + 1 from by omega]
    simpa [flatP] using flatP_0 l k (by simpa using h)
theorem flatP_1 : ∀ (l : List (Int × Int × Int)) (k : Nat) (h : k < l.length), (flatP l)[k * 3 + 1]? = some (.int .i64 l[k].2.1)
  | g :: l, 0, _ => rfl
  | g :: l, k + 1, h => by
    rw [show (k + 1) * 3 + 1 = k * 3 + 1 + 1 + 1 + 1 from by omega]
    simpa [flatP] using flatP_1 l k (by simpa using h)
theorem flatP_2 : ∀ (l : List (Int × Int × Int)) (k : Nat) (h : k < l.length), (flatP l)[k * 3 + 2]? = some (.int .i64 l[k].2.2)
  | g :: l, 0, _ => rfl
  | g :: l, k + 1, h => by
    rw [show (k + 1) * 3 + 2 = k * 3 + 2 + 1 + 1 + 1 from by omega]
    simpa [flatP] using flatP_2 l k (by simpa using h)

/-- A list of places lies there, by its numbers. -/
def PlacesAt (w : World) (g m : Nat) (f : Nat → Int × Int × Int) : Prop :=
  g < w.heap.size ∧ ∀ k, k < m → w.cell? ⟨g, k * 3, none⟩ = some (.int .i64 (f k).1) ∧ w.cell? ⟨g, k * 3 + 1, none⟩ = some (.int .i64 (f k).2.1) ∧ w.cell? ⟨g, k * 3 + 2, none⟩ = some (.int .i64 (f k).2.2)
theorem PlacesOwn.at {w w' : World} {v : Value} {l : List (Int × Int × Int)} (h : PlacesOwn w w' v l) (h0 : 0 < l.length) : ∃ g cap, v = .slice (some ⟨g, 0, none⟩) l.length cap ∧ PlacesAt w' g l.length (fun k => l.getD k (0, 0, 0)) := by
  obtain ⟨ho, hb⟩ := h
  have ho' := ho
  rcases ho.2 with ⟨_, hn⟩ | ⟨g, cap, cur, rfl, hg, hblk, _⟩
  · omega
  · have e : ∀ k (h : k < l.length), l.getD k (0, 0, 0) = l[k] := fun k h => by simp [List.getD, h]
    refine ⟨g, cap, rfl, ?_, fun k hk => ⟨?_, ?_, ?_⟩⟩
    · rcases Nat.lt_or_ge g w'.heap.size with h | h
      · exact h
      · rw [Array.getElem?_eq_none h] at hblk; cases hblk
    · rw [ho'.cellAt _ (by omega), flatP_0 l k hk, ← e k hk]
    · rw [ho'.cellAt _ (by omega), flatP_1 l k hk, ← e k hk]
    · rw [ho'.cellAt _ (by omega), flatP_2 l k hk, ← e k hk]
theorem PlacesAt.below {w w' : World} {g m : Nat} {f : Nat → Int × Int × Int} (h : PlacesAt w g m f) (hb : Below w.heap.size w w') : PlacesAt w' g m f := by
  obtain ⟨hg, hc⟩ := h
  refine ⟨Nat.lt_of_lt_of_le hg hb.size, fun k hk => ?_⟩
  exact ⟨(hb.cell (p := ⟨g, _, none⟩) hg).trans (hc k hk).1, (hb.cell (p := ⟨g, _, none⟩) hg).trans (hc k hk).2.1, (hb.cell (p := ⟨g, _, none⟩) hg).trans (hc k hk).2.2⟩

theorem places_one_len : (placesTo 1 (2 * 1)).length = 2 := by decide
/-- The list of places, as it is to be: how many; each a place; none spare, nor behind it; behind ahead of in front; each once. -/
theorem places_len (n : Nat) (h1 : 1 ≤ n) (h4 : n ≤ 4) : (placesTo n (2 * n)).length = 4 * n - 2 := by
  rcases (show n = 1 ∨ n = 2 ∨ n = 3 ∨ n = 4 from by omega) with rfl | rfl | rfl | rfl <;> decide
def goodAt (n i : Nat) (f : Nat → Int × Int × Int) : Prop :=
  placeB (f i).1 (f i).2.1 (f i).2.2 n = true ∧ ¬ ((f i).1 = n ∧ (f i).2.1 = 1) ∧ (f i).2.2 = 1 - ((i % 2 : Nat) : Int) ∧ ∀ k, k < i → ¬ ((f k).1 = (f i).1 ∧ (f k).2.1 = (f i).2.1 ∧ (f k).2.2 = (f i).2.2)
theorem places_good (n : Nat) (h1 : 1 ≤ n) (h4 : n ≤ 4) : ∀ i, i < 4 * n - 2 → goodAt n i (fun k => (placesTo n (2 * n)).getD k (0, 0, 0)) := by
  rcases (show n = 1 ∨ n = 2 ∨ n = 3 ∨ n = 4 from by omega) with rfl | rfl | rfl | rfl <;> (unfold goodAt; decide)

theorem depth_ok (d : Int) (k : Nat) (h : d = 1 - ((k % 2 : Nat) : Int)) : (d != IntKind.i64.wrap (1 - (k : Int).tmod 2)) = false := by
  have e : (k : Int).tmod 2 = ((k % 2 : Nat) : Int) := by rw [Int.tmod_eq_emod_of_nonneg (by omega)]; omega
  rw [e, IntKind.wrap_i64, h]
  simp only [bne_eq_false_iff_eq]
  omega

-- left out: this seat has not what it speaks of

/-- What the loops hold: the list, the spare place, and what lies below. -/
def TP (w wx : World) (g m N n : Nat) (f : Nat → Int × Int × Int) : Prop :=
  PlacesAt wx g m f ∧ Below w.heap.size w wx ∧ w.heap.size ≤ N ∧ N + 1 ≤ wx.heap.size ∧ ∀ o, wx.cell? ⟨N, o, none⟩ = (#[.int .i64 n, .int .i64 1, .int .i64 0] : Array Value)[o]?
theorem TP.below {w wx W : World} {g m N n : Nat} {f : Nat → Int × Int × Int} (h : TP w wx g m N n f) (hb : Below wx.heap.size wx W) : TP w W g m N n f := by
  obtain ⟨h0, h1, h2, h3, h4⟩ := h
  have hz := hb.size
  exact ⟨h0.below hb, B.next h1 hb (by omega), h2, by omega, B.row hb h4 (by omega)⟩
theorem TP.drew {w wx : World} {g m N n : Nat} {f : Nat → Int × Int × Int} (h : TP w wx g m N n f) : TP w wx.drew g m N n f := by
  refine h.below ⟨rfl, rfl, rfl, Nat.le_refl _, fun _ _ => rfl⟩
theorem TP.drewN {w wx : World} {g m N n : Nat} {f : Nat → Int × Int × Int} (h : TP w wx g m N n f) (q : Nat) : TP w (wx.drewN q) g m N n f := by
  refine h.below ⟨rfl, rfl, rfl, Nat.le_refl _, fun _ _ => rfl⟩

-- left out: this seat has not what it speaks of

-- left out: this seat has not what it speaks of

-- left out: this seat has not what it speaks of

end Go.Proofs.YtkgicpialdhnhaaDoor
