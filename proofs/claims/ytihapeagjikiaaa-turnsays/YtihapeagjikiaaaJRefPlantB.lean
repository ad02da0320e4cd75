/- The document's machine: what is seen (B2); contracts for PlantSays. -/
import Derived.Test.YtihapeagjikiaaaJRefPlant
namespace Go.Proofs.Ytihapeagjikiaaa
open Go.ChangeShapes Go.WideShapes Go.ChangeAt Go.RowKit Go.Maps
set_option maxRecDepth 100000
set_option linter.unusedSimpArgs false
set_option linter.unusedVariables false

namespace Pl
open Ac
set_option maxHeartbeats 1000000 in
theorem rfull_any (rb : Nat) (s : St) (ex : Int) (w : World) (hr : IsR w rb s) (iv : Inv s) (e0 : -3 ≤ ex) (e3 : ex ≤ 3) :
    Calls Try.prog 136 #[.pointer (some ⟨rb, 0, none⟩), .int .i64 ex] w fun e w' => e = .returned (.bool (carAtI s.D s.lv s.h ex != 0)) ∧ Below w.heap.size w w' := by
  have i0 := iv.ok.h0; have i1 := iv.ok.h12; have i4 := iv.ok.lv4
  obtain ⟨wx, wy, wz⟩ := end_wf (lv := s.lv) (h := s.h) (ex := ex) i0 (by omega) e0 e3
  have HE : Hid (Calls Try.prog 135 #[.pointer (some ⟨rb, 0, none⟩), .int .i64 ex] w fun e w' => e = .returned (endV s.lv s.h ex) ∧ Below w.heap.size w w') := rend_any rb s ex w hr iv e0 e3
  have HA : Hid (∀ w1, IsR w1 rb s → Calls Try.prog 107 #[.pointer (some ⟨rb, 0, none⟩), .agg #[.int .i64 (endX s.lv s.h ex), .int .i64 (endY s.lv s.h ex), .int .i64 (endZ s.lv s.h ex)]] w1 fun e w' => e = .returned (.int .i64 (carOf s.D (endX s.lv s.h ex) (endY s.lv s.h ex) (endZ s.lv s.h ex))) ∧ Below w1.heap.size w1 w') := fun w1 h1 => rAt_any rb s _ _ _ w1 h1 iv wx wy wz
  have HR : Hid (∀ w1, Below w.heap.size w w1 → IsR w1 rb s) := fun w1 hb => hr.below hb
  have KV : Hid (endV s.lv s.h ex = .tuple #[.agg #[.int .i64 (endX s.lv s.h ex), .int .i64 (endY s.lv s.h ex), .int .i64 (endZ s.lv s.h ex)], .bool (endB s.lv s.h ex)]) := rfl
  have KR : Hid ((carAtI s.D s.lv s.h ex != 0) = (endB s.lv s.h ex && carOf s.D (endX s.lv s.h ex) (endY s.lv s.h ex) (endZ s.lv s.h ex) != 0)) := by
    show _ = _
    unfold carAtI
    cases endB s.lv s.h ex <;> simp
  rw [KR.out]
  rw [KV.out] at HE
  generalize endX s.lv s.h ex = X at *
  generalize endY s.lv s.h ex = Y at *
  generalize endZ s.lv s.h ex = Z at *
  generalize endB s.lv s.h ex = q at *
  generalize carOf s.D X Y Z = c at *
  clear hr iv KV KR wx wy wz
  go_enter Try.func136, Try.ntmps136
  go_wp2_with fail
  refine HE.out.mono ?_
  rintro e w1 ⟨rfl, b1⟩
  have z1 := b1.size
  have B1 : Hid (∀ o, Below w.heap.size w (w1.alloc o)) := fun o => b1.alloc z1 o
  clear b1 HE
  go_wp2_with fail
  refine (HA.out _ (HR.out _ (B1.out _))).mono ?_
  rintro e w2 ⟨rfl, b2⟩
  have B2 : Hid (Below w.heap.size w w2) := B.next (B1.out _) b2 (by simp; omega)
  clear b2
  cases q
  · go_wp2
    go_returns
    exact ⟨rfl, B2.out⟩
  · go_wp2
    all_goals go_returns
    all_goals exact ⟨rfl, B2.out⟩

end Pl
end Go.Proofs.Ytihapeagjikiaaa

namespace Go.Proofs.Ytihapeagjikiaaa
open Go.ChangeShapes Go.WideShapes Go.ChangeAt Go.RowKit Go.Maps
set_option maxRecDepth 100000
set_option linter.unusedSimpArgs false
set_option linter.unusedVariables false

namespace Pl
open Ac
/-- One cell of the document's machine is written. -/
theorem IsR.set {w : World} {rb : Nat} {s s' : St} (h : IsR w rb s) (o : Nat) (v : Value) (hs : (rarr s).setIfInBounds o v = rarr s') : IsR (w.setCell ⟨rb, o, none⟩ v) rb s' := by
  have := (show w.heap[rb]? = _ from h)
  show (w.setCell ⟨rb, o, none⟩ v).heap[rb]? = _
  simp [World.setCell, Array.getElem?_modify, this, hs]

set_option maxHeartbeats 1000000 in
theorem rstall_any (rb : Nat) (s : St) (k : Int) (w : World) (hr : IsR w rb s) :
    Calls Try.prog 91 #[.pointer (some ⟨rb, 0, none⟩), .int .i64 k] w fun e w' => e = .returned (.int .i64 (if 0 ≤ k ∧ k ≤ 5 then 0 else 1)) ∧ IsR w' rb (stallS k s) ∧ Turn rb rb w w' := by
  have c := hr.cell 27
  have f := hr.free 27
  have P : Hid (IsR w rb s) := hr
  have HS : Hid (IsR (w.setCell ⟨rb, 27, none⟩ (.int .i64 k)) rb { s with st := k }) := hr.set 27 _ rfl
  have c27 : w.cell? ⟨rb, 27, none⟩ = some (.int .i64 s.st) := c
  clear hr c
  by_cases hk : 0 ≤ k ∧ k ≤ 5
  · have K : Hid (stallS k s = { s with st := k }) := by show _ = _; simp [stallS, hk]
    rw [K.out, if_pos hk]
    obtain ⟨k1, k2⟩ := hk
    go_enter Try.func91, Try.ntmps91
    go_wp2
    all_goals first
      | (go_returns; exact ⟨rfl, HS.out, Turn.set _ _ _⟩)
      | (exfalso; go_light; omega)
  · have K : Hid (stallS k s = s) := by show _ = _; simp [stallS, hk]
    rw [K.out, if_neg hk]
    have HK : Hid (¬(0 ≤ k ∧ k ≤ 5)) := hk
    clear hk
    go_enter Try.func91, Try.ntmps91
    go_wp2
    all_goals first
      | (exfalso; go_light; have := HK.out; omega)
      | (go_returns; exact ⟨rfl, P.out, Turn.refl _ _ _⟩)

set_option maxHeartbeats 1000000 in
theorem rleave_any (rb : Nat) (s : St) (w : World) (hr : IsR w rb s) :
    Calls Try.prog 89 #[.pointer (some ⟨rb, 0, none⟩)] w fun e w' => e = .returned (.tuple #[.int .i64 (if leaveB s = true then s.ba else 0), .int .i64 (if leaveB s = true then 0 else 7)]) ∧ IsR w' rb (leaveS s) ∧ Turn rb rb w w' := by
  have c3 : w.cell? ⟨rb, 3, none⟩ = some (.bool s.op) := hr.cell 3
  have c6 : w.cell? ⟨rb, 6, none⟩ = some (.int .i64 s.ba) := hr.cell 6
  have f6 := hr.free 6
  have P : Hid (IsR w rb s) := hr
  have HS : Hid (IsR (w.setCell ⟨rb, 6, none⟩ (.int .i64 0)) rb { s with ba := 0 }) := hr.set 6 _ rfl
  cases hl : leaveB s with
  | false =>
    have K : Hid (leaveS s = s) := by show _ = _; simp [leaveS, hl]
    rw [K.out]
    simp only [Bool.false_eq_true, if_false]
    have HL : Hid (¬ (s.op = true ∧ s.ba ≠ 0)) := by intro h; simp [leaveB, h.1, h.2] at hl
    generalize s.op = op at *
    generalize s.ba = ba at *
    clear hr hl K HS
    cases op
    · go_enter Try.func89, Try.ntmps89
      go_wp2
      all_goals (go_returns; exact ⟨rfl, P.out, Turn.refl _ _ _⟩)
    · have hb : ba = 0 := by have := HL.out; simp at this; exact this
      subst hb
      go_enter Try.func89, Try.ntmps89
      go_wp2
      all_goals (go_returns; exact ⟨rfl, P.out, Turn.refl _ _ _⟩)
  | true =>
    have K : Hid (leaveS s = { s with ba := 0 }) := by show _ = _; simp [leaveS, hl]
    rw [K.out]
    simp only [if_true]
    simp only [leaveB, Bool.and_eq_true, bne_iff_ne, ne_eq] at hl
    obtain ⟨h1, h2⟩ := hl
    rw [h1] at c3
    have h2' : (s.ba == 0) = false := by simpa using h2
    generalize s.ba = ba at *
    clear hr K P
    go_enter Try.func89, Try.ntmps89
    go_wp2
    all_goals (go_returns; exact ⟨rfl, HS.out, Turn.set _ _ _⟩)

end Pl
end Go.Proofs.Ytihapeagjikiaaa

namespace Go.Proofs.Ytihapeagjikiaaa
open Go.ChangeShapes Go.WideShapes Go.ChangeAt Go.RowKit Go.Maps
set_option maxRecDepth 100000
set_option linter.unusedSimpArgs false
set_option linter.unusedVariables false

namespace Pl
open Ac
def walkN (k : Int) (s : St) : Int := if -9 ≤ k ∧ k ≤ 9 then (if s.op = true then 0 else 7) else 1
set_option maxHeartbeats 2000000 in
theorem rwalk_any (rb : Nat) (s : St) (k : Int) (w : World) (hr : IsR w rb s) (p0 : 0 ≤ s.pe) (p9 : s.pe ≤ 9) :
    Calls Try.prog 85 #[.pointer (some ⟨rb, 0, none⟩), .int .i64 k] w fun e w' => e = .returned (.int .i64 (walkN k s)) ∧ IsR w' rb (walkS k s) ∧ Turn rb rb w w' := by
  have c3 : w.cell? ⟨rb, 3, none⟩ = some (.bool s.op) := hr.cell 3
  have c4 : w.cell? ⟨rb, 4, none⟩ = some (.int .i64 s.pe) := hr.cell 4
  have f4 := hr.free 4
  have P : Hid (IsR w rb s) := hr
  by_cases hk : -9 ≤ k ∧ k ≤ 9
  · cases ho : s.op with
    | false =>
      have K : Hid (walkS k s = s) := by show _ = _; simp [walkS, ho]
      have K2 : Hid (walkN k s = 7) := by show _ = _; simp [walkN, ho, hk]
      rw [K.out, K2.out]
      rw [ho] at c3
      obtain ⟨k1, k2⟩ := hk
      generalize s.pe = pe at *
      clear hr ho K K2
      go_enter Try.func85, Try.ntmps85
      go_wp2
      all_goals first
        | (exfalso; go_light; omega)
        | (go_returns; exact ⟨rfl, P.out, Turn.refl _ _ _⟩)
    | true =>
      have HA : Hid (∀ w1 v, IsR w1 rb { s with pe := v } → ∀ v2, IsR (w1.setCell ⟨rb, 4, none⟩ (.int .i64 v2)) rb { s with pe := v2 }) := fun w1 v h v2 => h.set 4 _ rfl
      have K : Hid (walkS k s = { s with pe := min (max (s.pe + k) 0) 9 }) := by show _ = _; simp [walkS, ho, hk]
      have K2 : Hid (walkN k s = 0) := by show _ = _; simp [walkN, ho, hk]
      rw [K.out, K2.out]
      rw [ho] at c3
      obtain ⟨k1, k2⟩ := hk
      have P1 : Hid (IsR (w.setCell ⟨rb, 4, none⟩ (.int .i64 (s.pe + k))) rb { s with pe := s.pe + k }) := hr.set 4 _ rfl
      have m1 : IntKind.i64.wrap (s.pe + k) = s.pe + k := by rw [IntKind.wrap_i64]; omega
      generalize s.pe = pe at *
      clear hr ho K K2
      by_cases hneg : pe + k < 0
      · have P2 : Hid (IsR ((w.setCell ⟨rb, 4, none⟩ (.int .i64 (pe + k))).setCell ⟨rb, 4, none⟩ (.int .i64 0)) rb { s with pe := min (max (pe + k) 0) 9 }) := by
          rw [show min (max (pe + k) 0) 9 = 0 from by omega]
          exact HA.out _ _ P1.out 0
        generalize ({ s with pe := min (max (pe + k) 0) 9 } : St) = s2 at *
        clear HA P1
        go_enter Try.func85, Try.ntmps85
        go_wp2
        all_goals first
          | (exfalso; go_light; omega)
          | (go_returns; exact ⟨rfl, P2.out, (Turn.set _ _ _).trans (Turn.set _ _ _)⟩)
      · by_cases hbig : 9 < pe + k
        · have P2 : Hid (IsR ((w.setCell ⟨rb, 4, none⟩ (.int .i64 (pe + k))).setCell ⟨rb, 4, none⟩ (.int .i64 9)) rb { s with pe := min (max (pe + k) 0) 9 }) := by
            rw [show min (max (pe + k) 0) 9 = 9 from by omega]
            exact HA.out _ _ P1.out 9
          generalize ({ s with pe := min (max (pe + k) 0) 9 } : St) = s2 at *
          clear HA P1
          go_enter Try.func85, Try.ntmps85
          go_wp2
          all_goals first
            | (exfalso; go_light; omega)
            | (go_returns; exact ⟨rfl, P2.out, (Turn.set _ _ _).trans (Turn.set _ _ _)⟩)
        · have P2 : Hid (IsR (w.setCell ⟨rb, 4, none⟩ (.int .i64 (pe + k))) rb { s with pe := min (max (pe + k) 0) 9 }) := by
            rw [show min (max (pe + k) 0) 9 = pe + k from by omega]
            exact P1.out
          generalize ({ s with pe := min (max (pe + k) 0) 9 } : St) = s2 at *
          clear HA P1
          go_enter Try.func85, Try.ntmps85
          go_wp2
          all_goals first
            | (exfalso; go_light; omega)
            | (go_returns; exact ⟨rfl, P2.out, Turn.set _ _ _⟩)
  · have K : Hid (walkS k s = s) := by show _ = _; simp [walkS, hk]
    have K2 : Hid (walkN k s = 1) := by show _ = _; simp [walkN, hk]
    rw [K.out, K2.out]
    have HK : Hid (¬(-9 ≤ k ∧ k ≤ 9)) := hk
    clear hr hk K K2 c3 c4
    go_enter Try.func85, Try.ntmps85
    go_wp2
    all_goals first
      | (exfalso; go_light; have := HK.out; omega)
      | (go_returns; exact ⟨rfl, P.out, Turn.refl _ _ _⟩)

end Pl
end Go.Proofs.Ytihapeagjikiaaa

namespace Go.Proofs.Ytihapeagjikiaaa
open Go.ChangeShapes Go.WideShapes Go.ChangeAt Go.RowKit Go.Maps
set_option maxRecDepth 100000
set_option linter.unusedSimpArgs false
set_option linter.unusedVariables false

namespace Pl
open Ac
theorem slot_new (lv : Int) (m : Nat) : slotN (newS lv) m = 0 := by
  unfold slotN
  split
  · rfl
  · exact carOf_of rfl

set_option maxHeartbeats 1000000 in
theorem rnew_any (lv : Int) (w : World) (h1 : 1 ≤ lv) (h4 : lv ≤ 4) :
    Calls Try.prog 48 #[.int .i64 lv] w fun e w' => e = .returned (.tuple #[.pointer (some ⟨w.heap.size, 0, none⟩), .int .i64 0]) ∧ IsR w' w.heap.size (newS lv) ∧ Below w.heap.size w w' := by
  have HR : Hid (rarr (newS lv) = #[.int .i64 lv, .int .i64 0, .int .i64 0, .bool true, .int .i64 0, .int .i64 0, .int .i64 0, .int .i64 0, .int .i64 0, .int .i64 0, .int .i64 0, .int .i64 0, .int .i64 0, .int .i64 0, .int .i64 0, .int .i64 0, .int .i64 0, .int .i64 0, .int .i64 0, .int .i64 0, .int .i64 0, .int .i64 0, .int .i64 0, .int .i64 0, .int .i64 0, .int .i64 0, .int .i64 0, .int .i64 0, .bool false]) := by
    show _ = _
    simp only [rarr, slot_new]
    rfl
  go_enter Try.func48, Try.ntmps48
  go_wp2
  all_goals first
    | (exfalso; go_light; omega)
    | skip
  go_returns
  refine ⟨rfl, ?_, by go_grown⟩
  show _ = _
  rw [HR.out]
  exact (MapKept.heap_alloc _ _).1

set_option maxHeartbeats 1000000 in
theorem rnew_bad (lv : Int) (w : World) (h : ¬(1 ≤ lv ∧ lv ≤ 4)) :
    Calls Try.prog 48 #[.int .i64 lv] w fun e w' => e = .returned (.tuple #[.pointer none, .int .i64 1]) ∧ w' = w := by
  have HK : Hid (¬(1 ≤ lv ∧ lv ≤ 4)) := h
  clear h
  go_enter Try.func48, Try.ntmps48
  go_wp2
  all_goals first
    | (exfalso; go_light; have := HK.out; omega)
    | (go_returns; exact ⟨rfl, rfl⟩)

end Pl
end Go.Proofs.Ytihapeagjikiaaa
