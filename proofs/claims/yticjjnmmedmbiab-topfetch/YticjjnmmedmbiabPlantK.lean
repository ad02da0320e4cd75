/- Chapter 2: the cars' places: the map as a table of places (B2); pure facts, and what a key is. -/
import Derived.Test.YticjjnmmedmbiabPlantJ
import Derived.ChangeKeys
import Derived.Maps.Views
import Derived.Maps.RangeWalk
namespace Go.Proofs.Yticjjnmmedmbiab
open Go.ChangeShapes Go.WideShapes Go.ChangeAt Go.RowKit Go.Maps
set_option maxRecDepth 100000
set_option linter.unusedSimpArgs false
set_option linter.unusedVariables false

namespace Pl
/-- What reads as a place's key is three numbers. -/
theorem key_inv {v : Value} {kl : Lit} (h : keyOf Try.prog 52 v = some kl) :
    ∃ x y z : Int, v = .agg #[.int .i64 x, .int .i64 y, .int .i64 z] ∧ kl = pk x y z ∧ (Lit.int .i64 x).wf = true ∧ (Lit.int .i64 y).wf = true ∧ (Lit.int .i64 z).wf = true := by
  have hn : ∃ m, Try.prog.types.size + 1 = m + 2 := ⟨Try.prog.types.size - 1, by have h1 : (52 : Nat) < Try.prog.types.size := rowP; omega⟩
  obtain ⟨m, hm⟩ := hn
  have hk : Try.prog.keyType 52 = true := deepP
  have one : ∀ a l, Try.prog.keyLits (m + 1) 3 [a] = some l → ∃ x : Int, a = .int .i64 x ∧ l = [.int .i64 x] ∧ (Lit.int .i64 x).wf = true := by
    intro a l hl
    cases a <;> simp [Program.keyLits, Try.underlying3] at hl
    obtain ⟨⟨rfl, hw⟩, rfl⟩ := hl
    exact ⟨_, rfl, rfl, hw⟩
  cases v with
  | agg cs =>
    by_cases hs : cs.size = 3
    · obtain ⟨a, b, c, rfl⟩ := array_of_size3 hs
      have hf : (Value.agg #[a, b, c]).formed Try.prog 52 = true := by simp [Value.formed, Try.underlying52, cellsP]
      unfold keyOf at h
      rw [Try.underlying52] at h
      simp only [hk, hf, Bool.and_self, if_true, hm] at h
      rw [Option.map_eq_some_iff] at h
      obtain ⟨ls, hls, rfl⟩ := h
      unfold Program.keyLits at hls
      simp only [Try.underlying52] at hls
      simp [cellsP, Value.cells, cellsI] at hls
      cases ha : Try.prog.keyLits (m + 1) 3 [a] with
      | none => simp [ha] at hls
      | some la =>
        cases hb : Try.prog.keyLits (m + 1) 3 [b] with
        | none => simp [ha, hb] at hls
        | some lb =>
          cases hc : Try.prog.keyLits (m + 1) 3 [c] with
          | none => simp [ha, hb, hc] at hls
          | some lc =>
            obtain ⟨x, rfl, rfl, wx⟩ := one _ _ ha
            obtain ⟨y, rfl, rfl, wy⟩ := one _ _ hb
            obtain ⟨z, rfl, rfl, wz⟩ := one _ _ hc
            simp [ha, hb, hc] at hls
            exact ⟨x, y, z, rfl, by rw [← hls]; rfl, wx, wy, wz⟩
    · unfold keyOf at h
      rw [Try.underlying52] at h
      simp [Value.formed, Try.underlying52, cellsP, hs] at h
  | _ =>
    unfold keyOf at h
    rw [Try.underlying52] at h
    simp [Value.formed, Try.underlying52] at h

/-- Two places with one key are one. -/
theorem pk_inj {x y z x' y' z' : Int} (hx : (Lit.int .i64 x).wf = true) (hy : (Lit.int .i64 y).wf = true) (hz : (Lit.int .i64 z).wf = true) (hx' : (Lit.int .i64 x').wf = true) (hy' : (Lit.int .i64 y').wf = true) (hz' : (Lit.int .i64 z').wf = true)
    (h : pk x y z = pk x' y' z') : x = x' ∧ y = y' ∧ z = z' := by
  have h' : keyBytes [.int .i64 x, .int .i64 y, .int .i64 z] = keyBytes [.int .i64 x', .int .i64 y', .int .i64 z'] := by simpa [pk] using h
  have := keyBytes_inj (l := [.int .i64 x, .int .i64 y, .int .i64 z]) (l' := [.int .i64 x', .int .i64 y', .int .i64 z']) ⟨rfl, rfl, rfl, trivial⟩ (by simp [Lit.keyWf, hx, hy, hz]) (by simp [Lit.keyWf, hx', hy', hz']) h'
  simpa using this

theorem pk_key (x y z : Int) : WideAt.IsKeyLit (pk x y z) := trivial

/-- The cars: each key is a place of the levels, each car a number from 1 on. -/
structure DOk (lv : Int) (D : DataW Unit) : Prop where
  isMap : IsMap D
  keys : ∀ k, has D k = true → ∃ x y z : Int, k = pk x y z ∧ (1 ≤ x ∧ x ≤ lv) ∧ (0 ≤ y ∧ y ≤ 1) ∧ (0 ≤ z ∧ z ≤ 1) ∧ ∃ c : Int, (∀ zd, D.atKey k zd = .lit (.int .i64 c)) ∧ 1 ≤ c ∧ c ≤ 999

theorem DOk.empty (lv : Int) : DOk lv (.map []) := ⟨isMap_empty, fun k h => by simp [has] at h⟩

theorem carOf_put {D : DataW Unit} (hD : IsMap D) {X Y Z x y z c : Int} (hX : (Lit.int .i64 X).wf = true) (hY : (Lit.int .i64 Y).wf = true) (hZ : (Lit.int .i64 Z).wf = true) (hx : (Lit.int .i64 x).wf = true) (hy : (Lit.int .i64 y).wf = true) (hz : (Lit.int .i64 z).wf = true) :
    carOf (D.put (pk X Y Z) (.lit (.int .i64 c))) x y z = if x = X ∧ y = Y ∧ z = Z then c else carOf D x y z := by
  by_cases h : x = X ∧ y = Y ∧ z = Z
  · obtain ⟨rfl, rfl, rfl⟩ := h
    rw [if_pos ⟨rfl, rfl, rfl⟩]
    exact carOf_of (atKey_put_same hD (pk_key _ _ _) _ _)
  · rw [if_neg h]
    have hne : pk x y z ≠ pk X Y Z := fun e => h (pk_inj hx hy hz hX hY hZ e)
    simp only [carOf, atKey_put_other hne]

theorem carOf_del {D : DataW Unit} {X Y Z x y z : Int} (hX : (Lit.int .i64 X).wf = true) (hY : (Lit.int .i64 Y).wf = true) (hZ : (Lit.int .i64 Z).wf = true) (hx : (Lit.int .i64 x).wf = true) (hy : (Lit.int .i64 y).wf = true) (hz : (Lit.int .i64 z).wf = true) :
    carOf (D.del (pk X Y Z)) x y z = if x = X ∧ y = Y ∧ z = Z then 0 else carOf D x y z := by
  by_cases h : x = X ∧ y = Y ∧ z = Z
  · obtain ⟨rfl, rfl, rfl⟩ := h
    rw [if_pos ⟨rfl, rfl, rfl⟩]
    exact carOf_of (atKey_del_same _)
  · rw [if_neg h]
    have hne : pk x y z ≠ pk X Y Z := fun e => h (pk_inj hx hy hz hX hY hZ e)
    simp only [carOf, atKey_del_other hne]

theorem DOk.put {lv : Int} {D : DataW Unit} (h : DOk lv D) {X Y Z c : Int} (hX : 1 ≤ X ∧ X ≤ lv) (hY : 0 ≤ Y ∧ Y ≤ 1) (hZ : 0 ≤ Z ∧ Z ≤ 1) (hc : 1 ≤ c ∧ c ≤ 999) : DOk lv (D.put (pk X Y Z) (.lit (.int .i64 c))) := by
  refine ⟨h.isMap.put _ _, fun k hk => ?_⟩
  by_cases e : k = pk X Y Z
  · subst e
    exact ⟨X, Y, Z, rfl, hX, hY, hZ, c, fun zd => atKey_put_same h.isMap (pk_key _ _ _) _ _, hc⟩
  · rw [has_put_other e] at hk
    obtain ⟨x, y, z, rfl, h1, h2, h3, c', h4, h5⟩ := h.keys k hk
    exact ⟨x, y, z, rfl, h1, h2, h3, c', fun zd => by rw [atKey_put_other e]; exact h4 zd, h5⟩

theorem DOk.del {lv : Int} {D : DataW Unit} (h : DOk lv D) (k0 : Lit) : DOk lv (D.del k0) := by
  refine ⟨h.isMap.del _, fun k hk => ?_⟩
  by_cases e : k = k0
  · subst e
    rw [has_del_same] at hk
    cases hk
  · rw [has_del_other e] at hk
    obtain ⟨x, y, z, rfl, h1, h2, h3, c', h4, h5⟩ := h.keys k hk
    exact ⟨x, y, z, rfl, h1, h2, h3, c', fun zd => by rw [atKey_del_other e]; exact h4 zd, h5⟩

/-- Which cars there may be at a place. -/
theorem DOk.car {lv : Int} {D : DataW Unit} (h : DOk lv D) (x y z : Int) : 0 ≤ carOf D x y z ∧ carOf D x y z ≤ 999 := by
  cases k : has D (pk x y z) with
  | true =>
    obtain ⟨_, _, _, _, _, _, _, c, hc, h1, h2⟩ := h.keys _ k
    rw [carOf_of (hc _)]
    omega
  | false =>
    rw [carOf_of (c := 0) (atKey_of_not_has k _)]
    omega
/-- A car is where the map has its key. -/
theorem DOk.has_iff {lv : Int} {D : DataW Unit} (h : DOk lv D) (x y z : Int) : has D (pk x y z) = true ↔ carOf D x y z ≠ 0 := by
  cases k : has D (pk x y z) with
  | true =>
    obtain ⟨_, _, _, _, _, _, _, c, hc, h1, h2⟩ := h.keys _ k
    rw [carOf_of (hc _)]
    simp; omega
  | false =>
    rw [carOf_of (c := 0) (atKey_of_not_has k _)]
    simp
/-- Where there is a car, there is a place. -/
theorem DOk.place {lv : Int} {D : DataW Unit} (h : DOk lv D) (h4 : lv ≤ 4) {x y z : Int} (hx : (Lit.int .i64 x).wf = true) (hy : (Lit.int .i64 y).wf = true) (hz : (Lit.int .i64 z).wf = true) (hc : carOf D x y z ≠ 0) : (1 ≤ x ∧ x ≤ lv) ∧ (0 ≤ y ∧ y ≤ 1) ∧ (0 ≤ z ∧ z ≤ 1) := by
  obtain ⟨x', y', z', e, h1, h2, h3, _⟩ := h.keys _ ((h.has_iff x y z).2 hc)
  obtain ⟨rfl, rfl, rfl⟩ := pk_inj hx hy hz (wfI (by omega)) (wfI (by omega)) (wfI (by omega)) e
  exact ⟨h1, h2, h3⟩

end Pl
end Go.Proofs.Yticjjnmmedmbiab
