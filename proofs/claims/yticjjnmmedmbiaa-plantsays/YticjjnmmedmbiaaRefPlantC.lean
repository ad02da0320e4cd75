/- The document's machine: what comes from outside (B4); contracts for PlantSays. -/
import Derived.Test.YticjjnmmedmbiaaRefPlantB
namespace Go.Proofs.Yticjjnmmedmbiaa
open Go.ChangeShapes Go.WideShapes Go.ChangeAt Go.RowKit Go.Maps
set_option maxRecDepth 100000
set_option linter.unusedSimpArgs false
set_option linter.unusedVariables false

namespace Pl
open Ac
/-- One cell of the document's machine is written. -/
theorem IsR.set {w : World} {rb : Nat} {s s' : St} (h : IsR w rb s) (o : Nat) (v : Value) (hs : (rarr s).setIfInBounds o v = rarr s') : IsR (w.setCell ⟨rb, o, none⟩ v) rb s' := by
  have := (show w.heap[rb]? = _ from h)
  show (w.setCell ⟨rb, o, none⟩ v).heap[rb]? = _
  simp [World.setCell, Array.getElem?_modify, this, hs]

set_option maxHeartbeats 1000000 in
theorem rstall_any (rb : Nat) (s : St) (k : Int) (w : World) (hr : IsR w rb s) :
    Calls Try.prog 77 #[.pointer (some ⟨rb, 0, none⟩), .int .i64 k] w fun e w' => e = .returned (.int .i64 (if 0 ≤ k ∧ k ≤ 5 then 0 else 1)) ∧ IsR w' rb (stallS k s) ∧ Turn rb rb w w' := by
  have c := hr.cell 27
  have f := hr.free 27
  have P : Hid (IsR w rb s) := hr
  have HS : Hid (IsR (w.setCell ⟨rb, 27, none⟩ (.int .i64 k)) rb { s with st := k }) := hr.set 27 _ rfl
  have c27 : w.cell? ⟨rb, 27, none⟩ = some (.int .i64 s.st) := c
  clear hr c
  by_cases hk : 0 ≤ k ∧ k ≤ 5
  · have K : Hid (stallS k s = { s with st := k }) := by show _ = _; simp [stallS, hk]
    rw [K.out, if_pos hk]
    obtain ⟨k1, k2⟩ := hk
    go_enter Try.func77, Try.ntmps77
    go_wp2
    all_goals first
      | (go_returns; exact ⟨rfl, HS.out, Turn.set _ _ _⟩)
      | (exfalso; go_light; omega)
  · have K : Hid (stallS k s = s) := by show _ = _; simp [stallS, hk]
    rw [K.out, if_neg hk]
    have HK : Hid (¬(0 ≤ k ∧ k ≤ 5)) := hk
    clear hk
    go_enter Try.func77, Try.ntmps77
    go_wp2
    all_goals first
      | (exfalso; go_light; have := HK.out; omega)
      | (go_returns; exact ⟨rfl, P.out, Turn.refl _ _ _⟩)

set_option maxHeartbeats 1000000 in
theorem rleave_any (rb : Nat) (s : St) (w : World) (hr : IsR w rb s) :
    Calls Try.prog 75 #[.pointer (some ⟨rb, 0, none⟩)] w fun e w' => e = .returned (.tuple #[.int .i64 (if leaveB s = true then s.ba else 0), .int .i64 (if leaveB s = true then 0 else 7)]) ∧ IsR w' rb (leaveS s) ∧ Turn rb rb w w' := by
  have c3 : w.cell? ⟨rb, 3, none⟩ = some (.bool s.op) := hr.cell 3
  have c6 : w.cell? ⟨rb, 6, none⟩ = some (.int .i64 s.ba) := hr.cell 6
  have f6 := hr.free 6
  have P : Hid (IsR w rb s) := hr
  have HS : Hid (IsR (w.setCell ⟨rb, 6, none⟩ (.int .i64 0)) rb { s with ba := 0 }) := hr.set 6 _ rfl
  cases hl : leaveB s with
  | false =>
    have K : Hid (leaveS s = s) := by show _ = _; simp [leaveS, hl]
    rw [K.out]
    simp only [Bool.false_eq_true, if_false]
    have HL : Hid (¬ (s.op = true ∧ s.ba ≠ 0)) := by intro h; simp [leaveB, h.1, h.2] at hl
    generalize s.op = op at *
    generalize s.ba = ba at *
    clear hr hl K HS
    cases op
    · go_enter Try.func75, Try.ntmps75
      go_wp2
      all_goals (go_returns; exact ⟨rfl, P.out, Turn.refl _ _ _⟩)
    · have hb : ba = 0 := by have := HL.out; simp at this; exact this
      subst hb
      go_enter Try.func75, Try.ntmps75
      go_wp2
      all_goals (go_returns; exact ⟨rfl, P.out, Turn.refl _ _ _⟩)
  | true =>
    have K : Hid (leaveS s = { s with ba := 0 }) := by show _ = _; simp [leaveS, hl]
    rw [K.out]
    simp only [if_true]
    simp only [leaveB, Bool.and_eq_true, bne_iff_ne, ne_eq] at hl
    obtain ⟨h1, h2⟩ := hl
    rw [h1] at c3
    have h2' : (s.ba == 0) = false := by simpa using h2
    generalize s.ba = ba at *
    clear hr K P
    go_enter Try.func75, Try.ntmps75
    go_wp2
    all_goals (go_returns; exact ⟨rfl, HS.out, Turn.set _ _ _⟩)

end Pl
end Go.Proofs.Yticjjnmmedmbiaa
