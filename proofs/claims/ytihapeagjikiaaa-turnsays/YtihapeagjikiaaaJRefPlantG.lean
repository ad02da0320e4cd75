/- The document's machine: what is done in a tick (B3), but for the shuttle; contracts for PlantSays. -/
import Derived.Test.YtihapeagjikiaaaJRefPlantB
namespace Go.Proofs.Ytihapeagjikiaaa
open Go.ChangeShapes Go.WideShapes Go.ChangeAt Go.RowKit Go.Maps
set_option maxRecDepth 100000
set_option linter.unusedSimpArgs false
set_option linter.unusedVariables false

namespace Pl
open Ac
theorem IsR.cast {w : World} {rb : Nat} {s s' : St} (h : IsR w rb s) (e : s = s') : IsR w rb s' := e ▸ h
theorem IsR.drew {w : World} {rb : Nat} {s : St} (h : IsR w rb s) : IsR w.drew rb s := h.below (Below.refl _ _).drew
theorem IsR.sh {w : World} {rb : Nat} {s : St} (h : IsR w rb s) (k : Int) : IsR (w.setCell ⟨rb, 1, none⟩ (.int .i64 k)) rb { s with h := k } := h.set 1 _ rfl
theorem IsR.sex {w : World} {rb : Nat} {s : St} (h : IsR w rb s) (k : Int) : IsR (w.setCell ⟨rb, 2, none⟩ (.int .i64 k)) rb { s with ex := k } := h.set 2 _ rfl
theorem IsR.sop {w : World} {rb : Nat} {s : St} (h : IsR w rb s) (k : Bool) : IsR (w.setCell ⟨rb, 3, none⟩ (.bool k)) rb { s with op := k } := h.set 3 _ rfl
theorem IsR.sli {w : World} {rb : Nat} {s : St} (h : IsR w rb s) (k : Int) : IsR (w.setCell ⟨rb, 5, none⟩ (.int .i64 k)) rb { s with li := k } := h.set 5 _ rfl
theorem IsR.sba {w : World} {rb : Nat} {s : St} (h : IsR w rb s) (k : Int) : IsR (w.setCell ⟨rb, 6, none⟩ (.int .i64 k)) rb { s with ba := k } := h.set 6 _ rfl
theorem IsR.sst {w : World} {rb : Nat} {s : St} (h : IsR w rb s) (k : Int) : IsR (w.setCell ⟨rb, 27, none⟩ (.int .i64 k)) rb { s with st := k } := h.set 27 _ rfl
theorem IsR.shu {w : World} {rb : Nat} {s : St} (h : IsR w rb s) (k : Bool) : IsR (w.setCell ⟨rb, 28, none⟩ (.bool k)) rb { s with hu := k } := h.set 28 _ rfl
theorem Turn.thenSet {rb : Nat} {w w1 : World} (h : Turn rb rb w w1) (o : Nat) (v : Value) : Turn rb rb w (w1.setCell ⟨rb, o, none⟩ v) := h.trans (Turn.set _ _ _)
abbrev RStepTo (rb : Nat) (c : Int) (w : World) (s' : St) : Prop :=
  Calls Try.prog 83 #[.pointer (some ⟨rb, 0, none⟩), .int .u8 c] w fun e w' => e = .returned (.tuple #[]) ∧ IsR w' rb s' ∧ Turn rb rb w w'

set_option maxHeartbeats 4000000 in
theorem rstep_u (rb : Nat) (s : St) (w : World) (hr : IsR w rb s) (iv : Inv s) (hs : ¬ 0 < s.st) : RStepTo rb 117 w (raiseS 1 s) := by
  obtain ⟨lv, h, ex, op, pe, li, ba, D, st, hu⟩ := s
  have lv1 := iv.ok.lv1; have lv4 := iv.ok.lv4; have h0 := iv.ok.h0; have h12 := iv.ok.h12; have p0 := iv.pe.1; have p9 := iv.pe.2
  simp only at lv1 lv4 h0 h12 p0 p9 hs
  have c0 : w.cell? ⟨rb, 0, none⟩ = some (.int .i64 lv) := hr.cell 0
  have c1 : w.cell? ⟨rb, 1, none⟩ = some (.int .i64 h) := hr.cell 1
  have c2 : w.cell? ⟨rb, 2, none⟩ = some (.int .i64 ex) := hr.cell 2
  have c3 : w.cell? ⟨rb, 3, none⟩ = some (.bool op) := hr.cell 3
  have c4 : w.cell? ⟨rb, 4, none⟩ = some (.int .i64 pe) := hr.cell 4
  have c5 : w.cell? ⟨rb, 5, none⟩ = some (.int .i64 li) := hr.cell 5
  have c6 : w.cell? ⟨rb, 6, none⟩ = some (.int .i64 ba) := hr.cell 6
  have c27 : w.cell? ⟨rb, 27, none⟩ = some (.int .i64 st) := hr.cell 27
  have c28 : w.cell? ⟨rb, 28, none⟩ = some (.bool hu) := hr.cell 28
  have f1 := hr.free 1; have f2 := hr.free 2; have f3 := hr.free 3; have f5 := hr.free 5; have f6 := hr.free 6; have f28 := hr.free 28
  have P : Hid (IsR w rb ⟨lv, h, ex, op, pe, li, ba, D, st, hu⟩) := hr
  clear hr iv
  have m1 : IntKind.i64.wrap (h + 1) = h + 1 := by rw [IntKind.wrap_i64]; omega
  by_cases hlt : h < 3 * lv
  · cases op with
    | true =>
      have K : Hid (raiseS 1 ⟨lv, h, ex, true, pe, li, ba, D, st, hu⟩ = ⟨lv, h + 1, ex, true, pe, li, ba, D, st, true⟩) := by show _ = _; simp only [raiseS, St.mk.injEq, true_and, and_true]; refine ⟨?_, ?_⟩ <;> first | omega | (simp; done) | (simp; omega) | (cases hu <;> simp <;> omega)
      go_enter Try.func83, Try.ntmps83
      go_wp2_with fail
      all_goals go_region
      all_goals go_wp2
      all_goals go_returns
      all_goals exact ⟨rfl, (((P.out.shu true).sh _).drew).cast K.out.symm, (((Turn.refl _ _ _).thenSet _ _).thenSet _ _).trans (Turn.drew _)⟩
    | false =>
      by_cases hp : 0 < pe
      · have K : Hid (raiseS 1 ⟨lv, h, ex, false, pe, li, ba, D, st, hu⟩ = ⟨lv, h + 1, ex, false, pe, li, ba, D, st, true⟩) := by show _ = _; simp only [raiseS, St.mk.injEq, true_and, and_true]; refine ⟨?_, ?_⟩ <;> first | omega | (simp; done) | (simp; omega) | (cases hu <;> simp <;> omega)
        go_enter Try.func83, Try.ntmps83
        go_wp2_with fail
        all_goals go_region
        all_goals go_wp2
        all_goals go_returns
        all_goals exact ⟨rfl, (((P.out.shu true).sh _).drew).cast K.out.symm, (((Turn.refl _ _ _).thenSet _ _).thenSet _ _).trans (Turn.drew _)⟩
      · have hp0 : pe = 0 := by omega
        subst hp0
        by_cases hx : ex = 0
        · subst hx
          have K : Hid (raiseS 1 ⟨lv, h, 0, false, 0, li, ba, D, st, hu⟩ = ⟨lv, h + 1, 0, false, 0, li, ba, D, st, hu⟩) := by show _ = _; simp only [raiseS, St.mk.injEq, true_and, and_true]; refine ⟨?_, ?_⟩ <;> first | omega | (simp; done) | (simp; omega) | (cases hu <;> simp <;> omega)
          go_enter Try.func83, Try.ntmps83
          go_wp2_with fail
          all_goals go_region
          all_goals go_wp2
          all_goals go_returns
          all_goals exact ⟨rfl, ((P.out.sh _).drew).cast K.out.symm, ((Turn.refl _ _ _).thenSet _ _).trans (Turn.drew _)⟩
        · have hx' : (ex == 0) = false := by simpa using hx
          have HX : Hid (¬ ex = 0) := hx
          have K : Hid (raiseS 1 ⟨lv, h, ex, false, 0, li, ba, D, st, hu⟩ = ⟨lv, h + 1, ex, false, 0, li, ba, D, st, true⟩) := by show _ = _; simp only [raiseS, St.mk.injEq, true_and, and_true]; have := HX.out; refine ⟨?_, ?_⟩ <;> first | omega | (simp; done) | (simp; omega) | (cases hu <;> simp <;> omega)
          clear hx
          go_enter Try.func83, Try.ntmps83
          go_wp2_with fail
          all_goals go_region
          all_goals go_wp2
          all_goals go_returns
          all_goals exact ⟨rfl, (((P.out.shu true).sh _).drew).cast K.out.symm, (((Turn.refl _ _ _).thenSet _ _).thenSet _ _).trans (Turn.drew _)⟩
  · cases op with
    | true =>
      have K : Hid (raiseS 1 ⟨lv, h, ex, true, pe, li, ba, D, st, hu⟩ = ⟨lv, h, ex, true, pe, li, ba, D, st, true⟩) := by show _ = _; simp only [raiseS, St.mk.injEq, true_and, and_true]; refine ⟨?_, ?_⟩ <;> first | omega | (simp; done) | (simp; omega) | (cases hu <;> simp <;> omega)
      go_enter Try.func83, Try.ntmps83
      go_wp2_with fail
      all_goals go_region
      all_goals go_wp2
      all_goals go_returns
      all_goals exact ⟨rfl, ((P.out.shu true).drew).cast K.out.symm, ((Turn.refl _ _ _).thenSet _ _).trans (Turn.drew _)⟩
    | false =>
      by_cases hp : 0 < pe
      · have K : Hid (raiseS 1 ⟨lv, h, ex, false, pe, li, ba, D, st, hu⟩ = ⟨lv, h, ex, false, pe, li, ba, D, st, true⟩) := by show _ = _; simp only [raiseS, St.mk.injEq, true_and, and_true]; refine ⟨?_, ?_⟩ <;> first | omega | (simp; done) | (simp; omega) | (cases hu <;> simp <;> omega)
        go_enter Try.func83, Try.ntmps83
        go_wp2_with fail
        all_goals go_region
        all_goals go_wp2
        all_goals go_returns
        all_goals exact ⟨rfl, ((P.out.shu true).drew).cast K.out.symm, ((Turn.refl _ _ _).thenSet _ _).trans (Turn.drew _)⟩
      · have hp0 : pe = 0 := by omega
        subst hp0
        by_cases hx : ex = 0
        · subst hx
          have K : Hid (raiseS 1 ⟨lv, h, 0, false, 0, li, ba, D, st, hu⟩ = ⟨lv, h, 0, false, 0, li, ba, D, st, hu⟩) := by show _ = _; simp only [raiseS, St.mk.injEq, true_and, and_true]; refine ⟨?_, ?_⟩ <;> first | omega | (simp; done) | (simp; omega) | (cases hu <;> simp <;> omega)
          go_enter Try.func83, Try.ntmps83
          go_wp2_with fail
          all_goals go_region
          all_goals go_wp2
          all_goals go_returns
          all_goals exact ⟨rfl, (P.out.drew).cast K.out.symm, (Turn.refl _ _ _).trans (Turn.drew _)⟩
        · have hx' : (ex == 0) = false := by simpa using hx
          have HX : Hid (¬ ex = 0) := hx
          have K : Hid (raiseS 1 ⟨lv, h, ex, false, 0, li, ba, D, st, hu⟩ = ⟨lv, h, ex, false, 0, li, ba, D, st, true⟩) := by show _ = _; simp only [raiseS, St.mk.injEq, true_and, and_true]; have := HX.out; refine ⟨?_, ?_⟩ <;> first | omega | (simp; done) | (simp; omega) | (cases hu <;> simp <;> omega)
          clear hx
          go_enter Try.func83, Try.ntmps83
          go_wp2_with fail
          all_goals go_region
          all_goals go_wp2
          all_goals go_returns
          all_goals exact ⟨rfl, ((P.out.shu true).drew).cast K.out.symm, ((Turn.refl _ _ _).thenSet _ _).trans (Turn.drew _)⟩

set_option maxHeartbeats 4000000 in
theorem rstep_d (rb : Nat) (s : St) (w : World) (hr : IsR w rb s) (iv : Inv s) (hs : ¬ 0 < s.st) : RStepTo rb 100 w (raiseS (-1) s) := by
  obtain ⟨lv, h, ex, op, pe, li, ba, D, st, hu⟩ := s
  have lv1 := iv.ok.lv1; have lv4 := iv.ok.lv4; have h0 := iv.ok.h0; have h12 := iv.ok.h12; have p0 := iv.pe.1; have p9 := iv.pe.2
  simp only at lv1 lv4 h0 h12 p0 p9 hs
  have c0 : w.cell? ⟨rb, 0, none⟩ = some (.int .i64 lv) := hr.cell 0
  have c1 : w.cell? ⟨rb, 1, none⟩ = some (.int .i64 h) := hr.cell 1
  have c2 : w.cell? ⟨rb, 2, none⟩ = some (.int .i64 ex) := hr.cell 2
  have c3 : w.cell? ⟨rb, 3, none⟩ = some (.bool op) := hr.cell 3
  have c4 : w.cell? ⟨rb, 4, none⟩ = some (.int .i64 pe) := hr.cell 4
  have c5 : w.cell? ⟨rb, 5, none⟩ = some (.int .i64 li) := hr.cell 5
  have c6 : w.cell? ⟨rb, 6, none⟩ = some (.int .i64 ba) := hr.cell 6
  have c27 : w.cell? ⟨rb, 27, none⟩ = some (.int .i64 st) := hr.cell 27
  have c28 : w.cell? ⟨rb, 28, none⟩ = some (.bool hu) := hr.cell 28
  have f1 := hr.free 1; have f2 := hr.free 2; have f3 := hr.free 3; have f5 := hr.free 5; have f6 := hr.free 6; have f28 := hr.free 28
  have P : Hid (IsR w rb ⟨lv, h, ex, op, pe, li, ba, D, st, hu⟩) := hr
  clear hr iv
  have m1 : IntKind.i64.wrap (h - 1) = h - 1 := by rw [IntKind.wrap_i64]; omega
  by_cases hlt : 0 < h
  · cases op with
    | true =>
      have K : Hid (raiseS (-1) ⟨lv, h, ex, true, pe, li, ba, D, st, hu⟩ = ⟨lv, h - 1, ex, true, pe, li, ba, D, st, true⟩) := by show _ = _; simp only [raiseS, St.mk.injEq, true_and, and_true]; refine ⟨?_, ?_⟩ <;> first | omega | (simp; done) | (simp; omega) | (cases hu <;> simp <;> omega)
      go_enter Try.func83, Try.ntmps83
      go_wp2_with fail
      all_goals go_region
      all_goals go_wp2
      all_goals go_returns
      all_goals exact ⟨rfl, (((P.out.shu true).sh _).drew).cast K.out.symm, (((Turn.refl _ _ _).thenSet _ _).thenSet _ _).trans (Turn.drew _)⟩
    | false =>
      by_cases hp : 0 < pe
      · have K : Hid (raiseS (-1) ⟨lv, h, ex, false, pe, li, ba, D, st, hu⟩ = ⟨lv, h - 1, ex, false, pe, li, ba, D, st, true⟩) := by show _ = _; simp only [raiseS, St.mk.injEq, true_and, and_true]; refine ⟨?_, ?_⟩ <;> first | omega | (simp; done) | (simp; omega) | (cases hu <;> simp <;> omega)
        go_enter Try.func83, Try.ntmps83
        go_wp2_with fail
        all_goals go_region
        all_goals go_wp2
        all_goals go_returns
        all_goals exact ⟨rfl, (((P.out.shu true).sh _).drew).cast K.out.symm, (((Turn.refl _ _ _).thenSet _ _).thenSet _ _).trans (Turn.drew _)⟩
      · have hp0 : pe = 0 := by omega
        subst hp0
        by_cases hx : ex = 0
        · subst hx
          have K : Hid (raiseS (-1) ⟨lv, h, 0, false, 0, li, ba, D, st, hu⟩ = ⟨lv, h - 1, 0, false, 0, li, ba, D, st, hu⟩) := by show _ = _; simp only [raiseS, St.mk.injEq, true_and, and_true]; refine ⟨?_, ?_⟩ <;> first | omega | (simp; done) | (simp; omega) | (cases hu <;> simp <;> omega)
          go_enter Try.func83, Try.ntmps83
          go_wp2_with fail
          all_goals go_region
          all_goals go_wp2
          all_goals go_returns
          all_goals exact ⟨rfl, ((P.out.sh _).drew).cast K.out.symm, ((Turn.refl _ _ _).thenSet _ _).trans (Turn.drew _)⟩
        · have hx' : (ex == 0) = false := by simpa using hx
          have HX : Hid (¬ ex = 0) := hx
          have K : Hid (raiseS (-1) ⟨lv, h, ex, false, 0, li, ba, D, st, hu⟩ = ⟨lv, h - 1, ex, false, 0, li, ba, D, st, true⟩) := by show _ = _; simp only [raiseS, St.mk.injEq, true_and, and_true]; have := HX.out; refine ⟨?_, ?_⟩ <;> first | omega | (simp; done) | (simp; omega) | (cases hu <;> simp <;> omega)
          clear hx
          go_enter Try.func83, Try.ntmps83
          go_wp2_with fail
          all_goals go_region
          all_goals go_wp2
          all_goals go_returns
          all_goals exact ⟨rfl, (((P.out.shu true).sh _).drew).cast K.out.symm, (((Turn.refl _ _ _).thenSet _ _).thenSet _ _).trans (Turn.drew _)⟩
  · cases op with
    | true =>
      have K : Hid (raiseS (-1) ⟨lv, h, ex, true, pe, li, ba, D, st, hu⟩ = ⟨lv, h, ex, true, pe, li, ba, D, st, true⟩) := by show _ = _; simp only [raiseS, St.mk.injEq, true_and, and_true]; refine ⟨?_, ?_⟩ <;> first | omega | (simp; done) | (simp; omega) | (cases hu <;> simp <;> omega)
      go_enter Try.func83, Try.ntmps83
      go_wp2_with fail
      all_goals go_region
      all_goals go_wp2
      all_goals go_returns
      all_goals exact ⟨rfl, ((P.out.shu true).drew).cast K.out.symm, ((Turn.refl _ _ _).thenSet _ _).trans (Turn.drew _)⟩
    | false =>
      by_cases hp : 0 < pe
      · have K : Hid (raiseS (-1) ⟨lv, h, ex, false, pe, li, ba, D, st, hu⟩ = ⟨lv, h, ex, false, pe, li, ba, D, st, true⟩) := by show _ = _; simp only [raiseS, St.mk.injEq, true_and, and_true]; refine ⟨?_, ?_⟩ <;> first | omega | (simp; done) | (simp; omega) | (cases hu <;> simp <;> omega)
        go_enter Try.func83, Try.ntmps83
        go_wp2_with fail
        all_goals go_region
        all_goals go_wp2
        all_goals go_returns
        all_goals exact ⟨rfl, ((P.out.shu true).drew).cast K.out.symm, ((Turn.refl _ _ _).thenSet _ _).trans (Turn.drew _)⟩
      · have hp0 : pe = 0 := by omega
        subst hp0
        by_cases hx : ex = 0
        · subst hx
          have K : Hid (raiseS (-1) ⟨lv, h, 0, false, 0, li, ba, D, st, hu⟩ = ⟨lv, h, 0, false, 0, li, ba, D, st, hu⟩) := by show _ = _; simp only [raiseS, St.mk.injEq, true_and, and_true]; refine ⟨?_, ?_⟩ <;> first | omega | (simp; done) | (simp; omega) | (cases hu <;> simp <;> omega)
          go_enter Try.func83, Try.ntmps83
          go_wp2_with fail
          all_goals go_region
          all_goals go_wp2
          all_goals go_returns
          all_goals exact ⟨rfl, (P.out.drew).cast K.out.symm, (Turn.refl _ _ _).trans (Turn.drew _)⟩
        · have hx' : (ex == 0) = false := by simpa using hx
          have HX : Hid (¬ ex = 0) := hx
          have K : Hid (raiseS (-1) ⟨lv, h, ex, false, 0, li, ba, D, st, hu⟩ = ⟨lv, h, ex, false, 0, li, ba, D, st, true⟩) := by show _ = _; simp only [raiseS, St.mk.injEq, true_and, and_true]; have := HX.out; refine ⟨?_, ?_⟩ <;> first | omega | (simp; done) | (simp; omega) | (cases hu <;> simp <;> omega)
          clear hx
          go_enter Try.func83, Try.ntmps83
          go_wp2_with fail
          all_goals go_region
          all_goals go_wp2
          all_goals go_returns
          all_goals exact ⟨rfl, ((P.out.shu true).drew).cast K.out.symm, ((Turn.refl _ _ _).thenSet _ _).trans (Turn.drew _)⟩

set_option maxHeartbeats 4000000 in
theorem rstep_o (rb : Nat) (s : St) (w : World) (hr : IsR w rb s) (iv : Inv s) (hs : ¬ 0 < s.st) : RStepTo rb 111 w (openS s) := by
  obtain ⟨lv, h, ex, op, pe, li, ba, D, st, hu⟩ := s
  have lv1 := iv.ok.lv1; have lv4 := iv.ok.lv4; have h0 := iv.ok.h0; have h12 := iv.ok.h12; have p0 := iv.pe.1; have p9 := iv.pe.2
  simp only at lv1 lv4 h0 h12 p0 p9 hs
  have c0 : w.cell? ⟨rb, 0, none⟩ = some (.int .i64 lv) := hr.cell 0
  have c1 : w.cell? ⟨rb, 1, none⟩ = some (.int .i64 h) := hr.cell 1
  have c2 : w.cell? ⟨rb, 2, none⟩ = some (.int .i64 ex) := hr.cell 2
  have c3 : w.cell? ⟨rb, 3, none⟩ = some (.bool op) := hr.cell 3
  have c4 : w.cell? ⟨rb, 4, none⟩ = some (.int .i64 pe) := hr.cell 4
  have c5 : w.cell? ⟨rb, 5, none⟩ = some (.int .i64 li) := hr.cell 5
  have c6 : w.cell? ⟨rb, 6, none⟩ = some (.int .i64 ba) := hr.cell 6
  have c27 : w.cell? ⟨rb, 27, none⟩ = some (.int .i64 st) := hr.cell 27
  have c28 : w.cell? ⟨rb, 28, none⟩ = some (.bool hu) := hr.cell 28
  have f1 := hr.free 1; have f2 := hr.free 2; have f3 := hr.free 3; have f5 := hr.free 5; have f6 := hr.free 6; have f28 := hr.free 28
  have P : Hid (IsR w rb ⟨lv, h, ex, op, pe, li, ba, D, st, hu⟩) := hr
  clear hr iv
  by_cases hh : h = 0
  · subst hh
    by_cases hx : ex = 0
    · subst hx
      have K : Hid (openS ⟨lv, 0, 0, op, pe, li, ba, D, st, hu⟩ = ⟨lv, 0, 0, true, pe, li, ba, D, st, hu⟩) := by show _ = _; simp [openS, *]
      go_enter Try.func83, Try.ntmps83
      go_wp2
      all_goals go_returns
      all_goals exact ⟨rfl, ((P.out.sop true)).cast K.out.symm, (Turn.refl _ _ _).thenSet _ _⟩
    · have hx' : (ex == 0) = false := by simpa using hx
      have HX : Hid (¬ ex = 0) := hx
      have K : Hid (openS ⟨lv, 0, ex, op, pe, li, ba, D, st, hu⟩ = ⟨lv, 0, ex, true, pe, li, ba, D, st, true⟩) := by show _ = _; have := HX.out; simp [openS, *]
      clear hx
      go_enter Try.func83, Try.ntmps83
      go_wp2
      all_goals go_returns
      all_goals exact ⟨rfl, (((P.out.shu true).sop true)).cast K.out.symm, ((Turn.refl _ _ _).thenSet _ _).thenSet _ _⟩
  · have hh' : (h == 0) = false := by simpa using hh
    have HX : Hid (¬ h = 0) := hh
    have K : Hid (openS ⟨lv, h, ex, op, pe, li, ba, D, st, hu⟩ = ⟨lv, h, ex, true, pe, li, ba, D, st, true⟩) := by show _ = _; have := HX.out; simp [openS, *]
    clear hh
    go_enter Try.func83, Try.ntmps83
    go_wp2
    all_goals go_returns
    all_goals exact ⟨rfl, (((P.out.shu true).sop true)).cast K.out.symm, ((Turn.refl _ _ _).thenSet _ _).thenSet _ _⟩

set_option maxHeartbeats 4000000 in
theorem rstep_c (rb : Nat) (s : St) (w : World) (hr : IsR w rb s) (iv : Inv s) (hs : ¬ 0 < s.st) : RStepTo rb 99 w (shutS s) := by
  obtain ⟨lv, h, ex, op, pe, li, ba, D, st, hu⟩ := s
  have lv1 := iv.ok.lv1; have lv4 := iv.ok.lv4; have h0 := iv.ok.h0; have h12 := iv.ok.h12; have p0 := iv.pe.1; have p9 := iv.pe.2
  simp only at lv1 lv4 h0 h12 p0 p9 hs
  have c0 : w.cell? ⟨rb, 0, none⟩ = some (.int .i64 lv) := hr.cell 0
  have c1 : w.cell? ⟨rb, 1, none⟩ = some (.int .i64 h) := hr.cell 1
  have c2 : w.cell? ⟨rb, 2, none⟩ = some (.int .i64 ex) := hr.cell 2
  have c3 : w.cell? ⟨rb, 3, none⟩ = some (.bool op) := hr.cell 3
  have c4 : w.cell? ⟨rb, 4, none⟩ = some (.int .i64 pe) := hr.cell 4
  have c5 : w.cell? ⟨rb, 5, none⟩ = some (.int .i64 li) := hr.cell 5
  have c6 : w.cell? ⟨rb, 6, none⟩ = some (.int .i64 ba) := hr.cell 6
  have c27 : w.cell? ⟨rb, 27, none⟩ = some (.int .i64 st) := hr.cell 27
  have c28 : w.cell? ⟨rb, 28, none⟩ = some (.bool hu) := hr.cell 28
  have f1 := hr.free 1; have f2 := hr.free 2; have f3 := hr.free 3; have f5 := hr.free 5; have f6 := hr.free 6; have f28 := hr.free 28
  have P : Hid (IsR w rb ⟨lv, h, ex, op, pe, li, ba, D, st, hu⟩) := hr
  clear hr iv
  by_cases hp : 0 < pe
  · have HX : Hid (¬ pe = 0) := by show ¬ _; omega
    have K : Hid (shutS ⟨lv, h, ex, op, pe, li, ba, D, st, hu⟩ = ⟨lv, h, ex, false, pe, li, ba, D, st, true⟩) := by show _ = _; have := HX.out; simp [shutS, *]
    go_enter Try.func83, Try.ntmps83
    go_wp2
    all_goals go_returns
    all_goals exact ⟨rfl, (((P.out.shu true).sop false)).cast K.out.symm, ((Turn.refl _ _ _).thenSet _ _).thenSet _ _⟩
  · have hp0 : pe = 0 := by omega
    subst hp0
    have K : Hid (shutS ⟨lv, h, ex, op, 0, li, ba, D, st, hu⟩ = ⟨lv, h, ex, false, 0, li, ba, D, st, hu⟩) := by show _ = _; simp [shutS, *]
    go_enter Try.func83, Try.ntmps83
    go_wp2
    all_goals go_returns
    all_goals exact ⟨rfl, ((P.out.sop false)).cast K.out.symm, (Turn.refl _ _ _).thenSet _ _⟩

set_option maxHeartbeats 4000000 in
theorem rstep_n (rb : Nat) (s : St) (w : World) (hr : IsR w rb s) (iv : Inv s) (hs : ¬ 0 < s.st) : RStepTo rb 110 w (takeInS s) := by
  obtain ⟨lv, h, ex, op, pe, li, ba, D, st, hu⟩ := s
  have lv1 := iv.ok.lv1; have lv4 := iv.ok.lv4; have h0 := iv.ok.h0; have h12 := iv.ok.h12; have p0 := iv.pe.1; have p9 := iv.pe.2
  simp only at lv1 lv4 h0 h12 p0 p9 hs
  have c0 : w.cell? ⟨rb, 0, none⟩ = some (.int .i64 lv) := hr.cell 0
  have c1 : w.cell? ⟨rb, 1, none⟩ = some (.int .i64 h) := hr.cell 1
  have c2 : w.cell? ⟨rb, 2, none⟩ = some (.int .i64 ex) := hr.cell 2
  have c3 : w.cell? ⟨rb, 3, none⟩ = some (.bool op) := hr.cell 3
  have c4 : w.cell? ⟨rb, 4, none⟩ = some (.int .i64 pe) := hr.cell 4
  have c5 : w.cell? ⟨rb, 5, none⟩ = some (.int .i64 li) := hr.cell 5
  have c6 : w.cell? ⟨rb, 6, none⟩ = some (.int .i64 ba) := hr.cell 6
  have c27 : w.cell? ⟨rb, 27, none⟩ = some (.int .i64 st) := hr.cell 27
  have c28 : w.cell? ⟨rb, 28, none⟩ = some (.bool hu) := hr.cell 28
  have f1 := hr.free 1; have f2 := hr.free 2; have f3 := hr.free 3; have f5 := hr.free 5; have f6 := hr.free 6; have f28 := hr.free 28
  have P : Hid (IsR w rb ⟨lv, h, ex, op, pe, li, ba, D, st, hu⟩) := hr
  clear hr iv
  have HQ : (op = true ∨ (op = false ∧ 0 < pe)) ∨ (op = false ∧ pe = 0) := by cases op <;> simp <;> omega
  rcases HQ with (rfl | ⟨rfl, hp⟩) | ⟨rfl, rfl⟩
  · by_cases hh : h = 0
    · subst hh
      by_cases hx : ex = 0
      · subst hx
        by_cases hl : li = 0
        · subst hl
          have K : Hid (takeInS ⟨lv, 0, 0, true, pe, 0, ba, D, st, hu⟩ = ⟨lv, 0, 0, true, pe, ba, 0, D, st, true⟩) := by show _ = _; simp [takeInS, *]
          go_enter Try.func83, Try.ntmps83
          go_wp2
          all_goals go_returns
          all_goals exact ⟨rfl, ((((P.out.shu true).sli _).sba _)).cast K.out.symm, (((Turn.refl _ _ _).thenSet _ _).thenSet _ _).thenSet _ _⟩
        · have hl' : (li == 0) = false := by simpa using hl
          have HX : Hid (¬ li = 0) := hl
          have K : Hid (takeInS ⟨lv, 0, 0, true, pe, li, ba, D, st, hu⟩ = ⟨lv, 0, 0, true, pe, li, ba, D, st, true⟩) := by show _ = _; have := HX.out; simp [takeInS, *]
          clear hl
          go_enter Try.func83, Try.ntmps83
          go_wp2
          all_goals go_returns
          all_goals exact ⟨rfl, ((P.out.shu true)).cast K.out.symm, (Turn.refl _ _ _).thenSet _ _⟩
      · have hx' : (ex == 0) = false := by simpa using hx
        have HX : Hid (¬ ex = 0) := hx
        have K : Hid (takeInS ⟨lv, 0, ex, true, pe, li, ba, D, st, hu⟩ = ⟨lv, 0, ex, true, pe, li, ba, D, st, true⟩) := by show _ = _; have := HX.out; simp [takeInS, *]
        clear hx
        go_enter Try.func83, Try.ntmps83
        go_wp2
        all_goals go_returns
        all_goals exact ⟨rfl, ((P.out.shu true)).cast K.out.symm, (Turn.refl _ _ _).thenSet _ _⟩
    · have hh' : (h == 0) = false := by simpa using hh
      have HX : Hid (¬ h = 0) := hh
      have K : Hid (takeInS ⟨lv, h, ex, true, pe, li, ba, D, st, hu⟩ = ⟨lv, h, ex, true, pe, li, ba, D, st, true⟩) := by show _ = _; have := HX.out; simp [takeInS, *]
      clear hh
      go_enter Try.func83, Try.ntmps83
      go_wp2
      all_goals go_returns
      all_goals exact ⟨rfl, ((P.out.shu true)).cast K.out.symm, (Turn.refl _ _ _).thenSet _ _⟩
  · have HP : Hid (¬ pe = 0) := by show ¬ _; omega
    by_cases hh : h = 0
    · subst hh
      by_cases hx : ex = 0
      · subst hx
        by_cases hl : li = 0
        · subst hl
          have K : Hid (takeInS ⟨lv, 0, 0, false, pe, 0, ba, D, st, hu⟩ = ⟨lv, 0, 0, false, pe, ba, 0, D, st, true⟩) := by show _ = _; have := HP.out; simp [takeInS, *]
          go_enter Try.func83, Try.ntmps83
          go_wp2
          all_goals go_returns
          all_goals exact ⟨rfl, ((((P.out.shu true).sli _).sba _)).cast K.out.symm, (((Turn.refl _ _ _).thenSet _ _).thenSet _ _).thenSet _ _⟩
        · have hl' : (li == 0) = false := by simpa using hl
          have HX : Hid (¬ li = 0) := hl
          have K : Hid (takeInS ⟨lv, 0, 0, false, pe, li, ba, D, st, hu⟩ = ⟨lv, 0, 0, false, pe, li, ba, D, st, true⟩) := by show _ = _; have := HP.out; have := HX.out; simp [takeInS, *]
          clear hl
          go_enter Try.func83, Try.ntmps83
          go_wp2
          all_goals go_returns
          all_goals exact ⟨rfl, ((P.out.shu true)).cast K.out.symm, (Turn.refl _ _ _).thenSet _ _⟩
      · have hx' : (ex == 0) = false := by simpa using hx
        have HX : Hid (¬ ex = 0) := hx
        have K : Hid (takeInS ⟨lv, 0, ex, false, pe, li, ba, D, st, hu⟩ = ⟨lv, 0, ex, false, pe, li, ba, D, st, true⟩) := by show _ = _; have := HP.out; have := HX.out; simp [takeInS, *]
        clear hx
        go_enter Try.func83, Try.ntmps83
        go_wp2
        all_goals go_returns
        all_goals exact ⟨rfl, ((P.out.shu true)).cast K.out.symm, (Turn.refl _ _ _).thenSet _ _⟩
    · have hh' : (h == 0) = false := by simpa using hh
      have HX : Hid (¬ h = 0) := hh
      have K : Hid (takeInS ⟨lv, h, ex, false, pe, li, ba, D, st, hu⟩ = ⟨lv, h, ex, false, pe, li, ba, D, st, true⟩) := by show _ = _; have := HP.out; have := HX.out; simp [takeInS, *]
      clear hh
      go_enter Try.func83, Try.ntmps83
      go_wp2
      all_goals go_returns
      all_goals exact ⟨rfl, ((P.out.shu true)).cast K.out.symm, (Turn.refl _ _ _).thenSet _ _⟩
  · by_cases hh : h = 0
    · subst hh
      by_cases hx : ex = 0
      · subst hx
        by_cases hl : li = 0
        · subst hl
          have K : Hid (takeInS ⟨lv, 0, 0, false, 0, 0, ba, D, st, hu⟩ = ⟨lv, 0, 0, false, 0, ba, 0, D, st, hu⟩) := by show _ = _; simp [takeInS, *]
          go_enter Try.func83, Try.ntmps83
          go_wp2
          all_goals go_returns
          all_goals exact ⟨rfl, (((P.out.sli _).sba _)).cast K.out.symm, ((Turn.refl _ _ _).thenSet _ _).thenSet _ _⟩
        · have hl' : (li == 0) = false := by simpa using hl
          have HX : Hid (¬ li = 0) := hl
          have K : Hid (takeInS ⟨lv, 0, 0, false, 0, li, ba, D, st, hu⟩ = ⟨lv, 0, 0, false, 0, li, ba, D, st, hu⟩) := by show _ = _; have := HX.out; simp [takeInS, *]
          clear hl
          go_enter Try.func83, Try.ntmps83
          go_wp2
          all_goals go_returns
          all_goals exact ⟨rfl, (P.out).cast K.out.symm, Turn.refl _ _ _⟩
      · have hx' : (ex == 0) = false := by simpa using hx
        have HX : Hid (¬ ex = 0) := hx
        have K : Hid (takeInS ⟨lv, 0, ex, false, 0, li, ba, D, st, hu⟩ = ⟨lv, 0, ex, false, 0, li, ba, D, st, hu⟩) := by show _ = _; have := HX.out; simp [takeInS, *]
        clear hx
        go_enter Try.func83, Try.ntmps83
        go_wp2
        all_goals go_returns
        all_goals exact ⟨rfl, (P.out).cast K.out.symm, Turn.refl _ _ _⟩
    · have hh' : (h == 0) = false := by simpa using hh
      have HX : Hid (¬ h = 0) := hh
      have K : Hid (takeInS ⟨lv, h, ex, false, 0, li, ba, D, st, hu⟩ = ⟨lv, h, ex, false, 0, li, ba, D, st, hu⟩) := by show _ = _; have := HX.out; simp [takeInS, *]
      clear hh
      go_enter Try.func83, Try.ntmps83
      go_wp2
      all_goals go_returns
      all_goals exact ⟨rfl, (P.out).cast K.out.symm, Turn.refl _ _ _⟩

set_option maxHeartbeats 4000000 in
theorem rstep_x (rb : Nat) (s : St) (w : World) (hr : IsR w rb s) (iv : Inv s) (hs : ¬ 0 < s.st) : RStepTo rb 120 w (giveOutS s) := by
  obtain ⟨lv, h, ex, op, pe, li, ba, D, st, hu⟩ := s
  have lv1 := iv.ok.lv1; have lv4 := iv.ok.lv4; have h0 := iv.ok.h0; have h12 := iv.ok.h12; have p0 := iv.pe.1; have p9 := iv.pe.2
  simp only at lv1 lv4 h0 h12 p0 p9 hs
  have c0 : w.cell? ⟨rb, 0, none⟩ = some (.int .i64 lv) := hr.cell 0
  have c1 : w.cell? ⟨rb, 1, none⟩ = some (.int .i64 h) := hr.cell 1
  have c2 : w.cell? ⟨rb, 2, none⟩ = some (.int .i64 ex) := hr.cell 2
  have c3 : w.cell? ⟨rb, 3, none⟩ = some (.bool op) := hr.cell 3
  have c4 : w.cell? ⟨rb, 4, none⟩ = some (.int .i64 pe) := hr.cell 4
  have c5 : w.cell? ⟨rb, 5, none⟩ = some (.int .i64 li) := hr.cell 5
  have c6 : w.cell? ⟨rb, 6, none⟩ = some (.int .i64 ba) := hr.cell 6
  have c27 : w.cell? ⟨rb, 27, none⟩ = some (.int .i64 st) := hr.cell 27
  have c28 : w.cell? ⟨rb, 28, none⟩ = some (.bool hu) := hr.cell 28
  have f1 := hr.free 1; have f2 := hr.free 2; have f3 := hr.free 3; have f5 := hr.free 5; have f6 := hr.free 6; have f28 := hr.free 28
  have P : Hid (IsR w rb ⟨lv, h, ex, op, pe, li, ba, D, st, hu⟩) := hr
  clear hr iv
  have HQ : (op = true ∨ (op = false ∧ 0 < pe)) ∨ (op = false ∧ pe = 0) := by cases op <;> simp <;> omega
  rcases HQ with (rfl | ⟨rfl, hp⟩) | ⟨rfl, rfl⟩
  · by_cases hh : h = 0
    · subst hh
      by_cases hx : ex = 0
      · subst hx
        by_cases hl : ba = 0
        · subst hl
          have K : Hid (giveOutS ⟨lv, 0, 0, true, pe, li, 0, D, st, hu⟩ = ⟨lv, 0, 0, true, pe, 0, li, D, st, true⟩) := by show _ = _; simp [giveOutS, *]
          go_enter Try.func83, Try.ntmps83
          go_wp2
          all_goals go_returns
          all_goals exact ⟨rfl, ((((P.out.shu true).sba _).sli _)).cast K.out.symm, (((Turn.refl _ _ _).thenSet _ _).thenSet _ _).thenSet _ _⟩
        · have hl' : (ba == 0) = false := by simpa using hl
          have HX : Hid (¬ ba = 0) := hl
          have K : Hid (giveOutS ⟨lv, 0, 0, true, pe, li, ba, D, st, hu⟩ = ⟨lv, 0, 0, true, pe, li, ba, D, st, true⟩) := by show _ = _; have := HX.out; simp [giveOutS, *]
          clear hl
          go_enter Try.func83, Try.ntmps83
          go_wp2
          all_goals go_returns
          all_goals exact ⟨rfl, ((P.out.shu true)).cast K.out.symm, (Turn.refl _ _ _).thenSet _ _⟩
      · have hx' : (ex == 0) = false := by simpa using hx
        have HX : Hid (¬ ex = 0) := hx
        have K : Hid (giveOutS ⟨lv, 0, ex, true, pe, li, ba, D, st, hu⟩ = ⟨lv, 0, ex, true, pe, li, ba, D, st, true⟩) := by show _ = _; have := HX.out; simp [giveOutS, *]
        clear hx
        go_enter Try.func83, Try.ntmps83
        go_wp2
        all_goals go_returns
        all_goals exact ⟨rfl, ((P.out.shu true)).cast K.out.symm, (Turn.refl _ _ _).thenSet _ _⟩
    · have hh' : (h == 0) = false := by simpa using hh
      have HX : Hid (¬ h = 0) := hh
      have K : Hid (giveOutS ⟨lv, h, ex, true, pe, li, ba, D, st, hu⟩ = ⟨lv, h, ex, true, pe, li, ba, D, st, true⟩) := by show _ = _; have := HX.out; simp [giveOutS, *]
      clear hh
      go_enter Try.func83, Try.ntmps83
      go_wp2
      all_goals go_returns
      all_goals exact ⟨rfl, ((P.out.shu true)).cast K.out.symm, (Turn.refl _ _ _).thenSet _ _⟩
  · have HP : Hid (¬ pe = 0) := by show ¬ _; omega
    by_cases hh : h = 0
    · subst hh
      by_cases hx : ex = 0
      · subst hx
        by_cases hl : ba = 0
        · subst hl
          have K : Hid (giveOutS ⟨lv, 0, 0, false, pe, li, 0, D, st, hu⟩ = ⟨lv, 0, 0, false, pe, 0, li, D, st, true⟩) := by show _ = _; have := HP.out; simp [giveOutS, *]
          go_enter Try.func83, Try.ntmps83
          go_wp2
          all_goals go_returns
          all_goals exact ⟨rfl, ((((P.out.shu true).sba _).sli _)).cast K.out.symm, (((Turn.refl _ _ _).thenSet _ _).thenSet _ _).thenSet _ _⟩
        · have hl' : (ba == 0) = false := by simpa using hl
          have HX : Hid (¬ ba = 0) := hl
          have K : Hid (giveOutS ⟨lv, 0, 0, false, pe, li, ba, D, st, hu⟩ = ⟨lv, 0, 0, false, pe, li, ba, D, st, true⟩) := by show _ = _; have := HP.out; have := HX.out; simp [giveOutS, *]
          clear hl
          go_enter Try.func83, Try.ntmps83
          go_wp2
          all_goals go_returns
          all_goals exact ⟨rfl, ((P.out.shu true)).cast K.out.symm, (Turn.refl _ _ _).thenSet _ _⟩
      · have hx' : (ex == 0) = false := by simpa using hx
        have HX : Hid (¬ ex = 0) := hx
        have K : Hid (giveOutS ⟨lv, 0, ex, false, pe, li, ba, D, st, hu⟩ = ⟨lv, 0, ex, false, pe, li, ba, D, st, true⟩) := by show _ = _; have := HP.out; have := HX.out; simp [giveOutS, *]
        clear hx
        go_enter Try.func83, Try.ntmps83
        go_wp2
        all_goals go_returns
        all_goals exact ⟨rfl, ((P.out.shu true)).cast K.out.symm, (Turn.refl _ _ _).thenSet _ _⟩
    · have hh' : (h == 0) = false := by simpa using hh
      have HX : Hid (¬ h = 0) := hh
      have K : Hid (giveOutS ⟨lv, h, ex, false, pe, li, ba, D, st, hu⟩ = ⟨lv, h, ex, false, pe, li, ba, D, st, true⟩) := by show _ = _; have := HP.out; have := HX.out; simp [giveOutS, *]
      clear hh
      go_enter Try.func83, Try.ntmps83
      go_wp2
      all_goals go_returns
      all_goals exact ⟨rfl, ((P.out.shu true)).cast K.out.symm, (Turn.refl _ _ _).thenSet _ _⟩
  · by_cases hh : h = 0
    · subst hh
      by_cases hx : ex = 0
      · subst hx
        by_cases hl : ba = 0
        · subst hl
          have K : Hid (giveOutS ⟨lv, 0, 0, false, 0, li, 0, D, st, hu⟩ = ⟨lv, 0, 0, false, 0, 0, li, D, st, hu⟩) := by show _ = _; simp [giveOutS, *]
          go_enter Try.func83, Try.ntmps83
          go_wp2
          all_goals go_returns
          all_goals exact ⟨rfl, (((P.out.sba _).sli _)).cast K.out.symm, ((Turn.refl _ _ _).thenSet _ _).thenSet _ _⟩
        · have hl' : (ba == 0) = false := by simpa using hl
          have HX : Hid (¬ ba = 0) := hl
          have K : Hid (giveOutS ⟨lv, 0, 0, false, 0, li, ba, D, st, hu⟩ = ⟨lv, 0, 0, false, 0, li, ba, D, st, hu⟩) := by show _ = _; have := HX.out; simp [giveOutS, *]
          clear hl
          go_enter Try.func83, Try.ntmps83
          go_wp2
          all_goals go_returns
          all_goals exact ⟨rfl, (P.out).cast K.out.symm, Turn.refl _ _ _⟩
      · have hx' : (ex == 0) = false := by simpa using hx
        have HX : Hid (¬ ex = 0) := hx
        have K : Hid (giveOutS ⟨lv, 0, ex, false, 0, li, ba, D, st, hu⟩ = ⟨lv, 0, ex, false, 0, li, ba, D, st, hu⟩) := by show _ = _; have := HX.out; simp [giveOutS, *]
        clear hx
        go_enter Try.func83, Try.ntmps83
        go_wp2
        all_goals go_returns
        all_goals exact ⟨rfl, (P.out).cast K.out.symm, Turn.refl _ _ _⟩
    · have hh' : (h == 0) = false := by simpa using hh
      have HX : Hid (¬ h = 0) := hh
      have K : Hid (giveOutS ⟨lv, h, ex, false, 0, li, ba, D, st, hu⟩ = ⟨lv, h, ex, false, 0, li, ba, D, st, hu⟩) := by show _ = _; have := HX.out; simp [giveOutS, *]
      clear hh
      go_enter Try.func83, Try.ntmps83
      go_wp2
      all_goals go_returns
      all_goals exact ⟨rfl, (P.out).cast K.out.symm, Turn.refl _ _ _⟩

set_option maxHeartbeats 1000000 in
theorem rstep_stall (rb : Nat) (s : St) (c : Int) (w : World) (hr : IsR w rb s) (hs : 0 < s.st) (h5 : s.st ≤ 5) (hc : ¬ c = 45) : RStepTo rb c w { s with st := s.st - 1 } := by
  have c27 : w.cell? ⟨rb, 27, none⟩ = some (.int .i64 s.st) := hr.cell 27
  have f27 := hr.free 27
  have HD : Hid (∀ v, v = s.st - 1 → IsR (w.setCell ⟨rb, 27, none⟩ (.int .i64 v)) rb { s with st := s.st - 1 }) := fun v hv => by rw [← hv]; exact hr.sst v
  generalize hst : s.st = st at c27 hs h5 HD
  generalize hs2 : ({ s with st := st - 1 } : St) = s2 at HD ⊢
  have m1 : IntKind.i64.wrap (st - 1) = st - 1 := by rw [IntKind.wrap_i64]; omega
  clear hr hst hs2
  go_enter Try.func83, Try.ntmps83
  go_wp2
  go_returns
  exact ⟨rfl, HD.out _ rfl, Turn.set _ _ _⟩

set_option maxHeartbeats 1000000 in
theorem rstep_none (rb : Nat) (s : St) (c : Int) (w : World) (hr : IsR w rb s) (hs : ¬ (0 < s.st ∧ c ≠ 45)) (k1 : ¬ c = 117) (k2 : ¬ c = 100) (k3 : ¬ c = 108) (k4 : ¬ c = 114) (k5 : ¬ c = 103) (k6 : ¬ c = 112) (k7 : ¬ c = 111) (k8 : ¬ c = 99) (k9 : ¬ c = 110) (k10 : ¬ c = 120) : RStepTo rb c w s := by
  have c27 : w.cell? ⟨rb, 27, none⟩ = some (.int .i64 s.st) := hr.cell 27
  have c3 : w.cell? ⟨rb, 3, none⟩ = some (.bool s.op) := hr.cell 3
  have c4 : w.cell? ⟨rb, 4, none⟩ = some (.int .i64 s.pe) := hr.cell 4
  have P : Hid (IsR w rb s) := hr
  generalize s.op = op at *
  generalize s.pe = pe at *
  by_cases hc : c = 45
  · subst hc
    generalize hst : s.st = st at c27
    clear hr hst hs
    go_enter Try.func83, Try.ntmps83
    go_wp2
    all_goals (go_returns; exact ⟨rfl, P.out, Turn.refl _ _ _⟩)
  · have hs' : ¬ 0 < s.st := fun h => hs ⟨h, hc⟩
    generalize hst : s.st = st at c27 hs'
    clear hr hst hs
    go_enter Try.func83, Try.ntmps83
    go_wp2
    all_goals (go_returns; exact ⟨rfl, P.out, Turn.refl _ _ _⟩)

end Pl
end Go.Proofs.Ytihapeagjikiaaa
