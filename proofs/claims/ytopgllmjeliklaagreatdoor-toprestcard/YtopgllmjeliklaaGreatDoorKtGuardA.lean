/- GuardA TopSafe Goal Run. -/
import Derived.Test.YtopgllmjeliklaaGreatDoorKtActs
set_option maxRecDepth 100000
set_option linter.unusedSimpArgs false
set_option linter.unusedVariables false
namespace Go.Proofs.YtopgllmjeliklaaGreatDoor
open Go.ChangeShapes Go.WideShapes Go.ChangeAt Go.RowKit
set_option maxHeartbeats 4000000 in
theorem may_45 (h ex : Int) (dr : Bool) (pe li ba : Int) (he tl tr : Bool) (w : World) (hh : -9223372036854775808 ≤ h ∧ h ≤ 9223372036854775807) (hx : -9223372036854775808 ≤ ex ∧ ex ≤ 9223372036854775807) :
  Calls Tryz.prog 90 #[.int .u8 45, .agg #[.int .i64 h, .int .i64 ex, .bool dr, .int .i64 pe, .int .i64 li, .int .i64 ba, .bool he, .bool tl, .bool tr]] w fun e w' => e = .returned (.bool (mayB 45 h ex dr pe li ba he tl tr)) ∧ Below w.heap.size w w' := by
 go_enter Tryz.func90, Tryz.ntmps90
 go_wp2
 all_goals
  go_returns; refine ⟨ret_bool ?_, by go_grown⟩
  go_light
  first
   | (simp [mayB, levelB, closedB, belowB, reachB, *]; done)
   | (simp [mayB, levelB, closedB, belowB, reachB, *]; omega)
set_option maxHeartbeats 4000000 in
theorem may_117 (h ex : Int) (dr : Bool) (pe li ba : Int) (he tl tr : Bool) (w : World) (hh : -9223372036854775808 ≤ h ∧ h ≤ 9223372036854775807) (hx : -9223372036854775808 ≤ ex ∧ ex ≤ 9223372036854775807) :
  Calls Tryz.prog 90 #[.int .u8 117, .agg #[.int .i64 h, .int .i64 ex, .bool dr, .int .i64 pe, .int .i64 li, .int .i64 ba, .bool he, .bool tl, .bool tr]] w fun e w' => e = .returned (.bool (mayB 117 h ex dr pe li ba he tl tr)) ∧ Below w.heap.size w w' := by
 go_enter Tryz.func90, Tryz.ntmps90
 go_wp2
 all_goals
  go_returns; refine ⟨ret_bool ?_, by go_grown⟩
  go_light
  first
   | (simp [mayB, levelB, closedB, belowB, reachB, *]; done)
   | (simp [mayB, levelB, closedB, belowB, reachB, *]; omega)
set_option maxHeartbeats 4000000 in
theorem may_100 (h ex : Int) (dr : Bool) (pe li ba : Int) (he tl tr : Bool) (w : World) (hh : -9223372036854775808 ≤ h ∧ h ≤ 9223372036854775807) (hx : -9223372036854775808 ≤ ex ∧ ex ≤ 9223372036854775807) :
  Calls Tryz.prog 90 #[.int .u8 100, .agg #[.int .i64 h, .int .i64 ex, .bool dr, .int .i64 pe, .int .i64 li, .int .i64 ba, .bool he, .bool tl, .bool tr]] w fun e w' => e = .returned (.bool (mayB 100 h ex dr pe li ba he tl tr)) ∧ Below w.heap.size w w' := by
 go_enter Tryz.func90, Tryz.ntmps90
 go_wp2
 all_goals
  go_returns; refine ⟨ret_bool ?_, by go_grown⟩
  go_light
  first
   | (simp [mayB, levelB, closedB, belowB, reachB, *]; done)
   | (simp [mayB, levelB, closedB, belowB, reachB, *]; omega)
set_option maxHeartbeats 4000000 in
theorem may_108 (h ex : Int) (dr : Bool) (pe li ba : Int) (he tl tr : Bool) (w : World) (hh : -9223372036854775808 ≤ h ∧ h ≤ 9223372036854775807) (hx : -9223372036854775808 ≤ ex ∧ ex ≤ 9223372036854775807) :
  Calls Tryz.prog 90 #[.int .u8 108, .agg #[.int .i64 h, .int .i64 ex, .bool dr, .int .i64 pe, .int .i64 li, .int .i64 ba, .bool he, .bool tl, .bool tr]] w fun e w' => e = .returned (.bool (mayB 108 h ex dr pe li ba he tl tr)) ∧ Below w.heap.size w w' := by
 go_enter Tryz.func90, Tryz.ntmps90
 go_wp2
 all_goals
  go_returns; refine ⟨ret_bool ?_, by go_grown⟩
  go_light
  first
   | (simp [mayB, levelB, closedB, belowB, reachB, *]; done)
   | (simp [mayB, levelB, closedB, belowB, reachB, *]; omega)
   | (cases tl <;> (rw [Bool.eq_iff_iff]; simp [mayB, levelB, reachB]; omega))
   | (simp only [wrap64] at *; cases tl <;> (rw [Bool.eq_iff_iff]; simp [mayB, levelB, reachB]; omega))
set_option maxHeartbeats 4000000 in
theorem may_114 (h ex : Int) (dr : Bool) (pe li ba : Int) (he tl tr : Bool) (w : World) (hh : -9223372036854775808 ≤ h ∧ h ≤ 9223372036854775807) (hx : -9223372036854775808 ≤ ex ∧ ex ≤ 9223372036854775807) :
  Calls Tryz.prog 90 #[.int .u8 114, .agg #[.int .i64 h, .int .i64 ex, .bool dr, .int .i64 pe, .int .i64 li, .int .i64 ba, .bool he, .bool tl, .bool tr]] w fun e w' => e = .returned (.bool (mayB 114 h ex dr pe li ba he tl tr)) ∧ Below w.heap.size w w' := by
 go_enter Tryz.func90, Tryz.ntmps90
 go_wp2
 all_goals
  go_returns; refine ⟨ret_bool ?_, by go_grown⟩
  go_light
  first
   | (simp [mayB, levelB, closedB, belowB, reachB, *]; done)
   | (simp [mayB, levelB, closedB, belowB, reachB, *]; omega)
   | (cases tr <;> (rw [Bool.eq_iff_iff]; simp [mayB, levelB, reachB]; omega))
   | (simp only [wrap64] at *; cases tr <;> (rw [Bool.eq_iff_iff]; simp [mayB, levelB, reachB]; omega))
set_option maxHeartbeats 4000000 in
theorem may_103 (h ex : Int) (dr : Bool) (pe li ba : Int) (he tl tr : Bool) (w : World) (hh : -9223372036854775808 ≤ h ∧ h ≤ 9223372036854775807) (hx : -9223372036854775808 ≤ ex ∧ ex ≤ 9223372036854775807) :
  Calls Tryz.prog 90 #[.int .u8 103, .agg #[.int .i64 h, .int .i64 ex, .bool dr, .int .i64 pe, .int .i64 li, .int .i64 ba, .bool he, .bool tl, .bool tr]] w fun e w' => e = .returned (.bool (mayB 103 h ex dr pe li ba he tl tr)) ∧ Below w.heap.size w w' := by
 go_enter Tryz.func90, Tryz.ntmps90
 go_wp2
 all_goals
  go_returns; refine ⟨ret_bool ?_, by go_grown⟩
  go_light
  first
   | (simp [mayB, levelB, closedB, belowB, reachB, *]; done)
   | (simp [mayB, levelB, closedB, belowB, reachB, *]; omega)
set_option maxHeartbeats 4000000 in
theorem may_112 (h ex : Int) (dr : Bool) (pe li ba : Int) (he tl tr : Bool) (w : World) (hh : -9223372036854775808 ≤ h ∧ h ≤ 9223372036854775807) (hx : -9223372036854775808 ≤ ex ∧ ex ≤ 9223372036854775807) :
  Calls Tryz.prog 90 #[.int .u8 112, .agg #[.int .i64 h, .int .i64 ex, .bool dr, .int .i64 pe, .int .i64 li, .int .i64 ba, .bool he, .bool tl, .bool tr]] w fun e w' => e = .returned (.bool (mayB 112 h ex dr pe li ba he tl tr)) ∧ Below w.heap.size w w' := by
 go_enter Tryz.func90, Tryz.ntmps90
 go_wp2
 all_goals
  go_returns; refine ⟨ret_bool ?_, by go_grown⟩
  go_light
  first
   | (simp [mayB, levelB, closedB, belowB, reachB, *]; done)
   | (simp [mayB, levelB, closedB, belowB, reachB, *]; omega)
set_option maxHeartbeats 4000000 in
theorem may_111 (h ex : Int) (dr : Bool) (pe li ba : Int) (he tl tr : Bool) (w : World) (hh : -9223372036854775808 ≤ h ∧ h ≤ 9223372036854775807) (hx : -9223372036854775808 ≤ ex ∧ ex ≤ 9223372036854775807) :
  Calls Tryz.prog 90 #[.int .u8 111, .agg #[.int .i64 h, .int .i64 ex, .bool dr, .int .i64 pe, .int .i64 li, .int .i64 ba, .bool he, .bool tl, .bool tr]] w fun e w' => e = .returned (.bool (mayB 111 h ex dr pe li ba he tl tr)) ∧ Below w.heap.size w w' := by
 go_enter Tryz.func90, Tryz.ntmps90
 go_wp2
 all_goals
  go_returns; refine ⟨ret_bool ?_, by go_grown⟩
  go_light
  first
   | (simp [mayB, levelB, closedB, belowB, reachB, *]; done)
   | (simp [mayB, levelB, closedB, belowB, reachB, *]; omega)
set_option maxHeartbeats 4000000 in
theorem may_99 (h ex : Int) (dr : Bool) (pe li ba : Int) (he tl tr : Bool) (w : World) (hh : -9223372036854775808 ≤ h ∧ h ≤ 9223372036854775807) (hx : -9223372036854775808 ≤ ex ∧ ex ≤ 9223372036854775807) :
  Calls Tryz.prog 90 #[.int .u8 99, .agg #[.int .i64 h, .int .i64 ex, .bool dr, .int .i64 pe, .int .i64 li, .int .i64 ba, .bool he, .bool tl, .bool tr]] w fun e w' => e = .returned (.bool (mayB 99 h ex dr pe li ba he tl tr)) ∧ Below w.heap.size w w' := by
 go_enter Tryz.func90, Tryz.ntmps90
 go_wp2
 all_goals
  go_returns; refine ⟨ret_bool ?_, by go_grown⟩
  go_light
  first
   | (simp [mayB, levelB, closedB, belowB, reachB, *]; done)
   | (simp [mayB, levelB, closedB, belowB, reachB, *]; omega)
set_option maxHeartbeats 4000000 in
theorem may_110 (h ex : Int) (dr : Bool) (pe li ba : Int) (he tl tr : Bool) (w : World) (hh : -9223372036854775808 ≤ h ∧ h ≤ 9223372036854775807) (hx : -9223372036854775808 ≤ ex ∧ ex ≤ 9223372036854775807) :
  Calls Tryz.prog 90 #[.int .u8 110, .agg #[.int .i64 h, .int .i64 ex, .bool dr, .int .i64 pe, .int .i64 li, .int .i64 ba, .bool he, .bool tl, .bool tr]] w fun e w' => e = .returned (.bool (mayB 110 h ex dr pe li ba he tl tr)) ∧ Below w.heap.size w w' := by
 go_enter Tryz.func90, Tryz.ntmps90
 go_wp2
 all_goals
  go_returns; refine ⟨ret_bool ?_, by go_grown⟩
  go_light
  first
   | (simp [mayB, levelB, closedB, belowB, reachB, *]; done)
   | (simp [mayB, levelB, closedB, belowB, reachB, *]; omega)
set_option maxHeartbeats 4000000 in
theorem may_120 (h ex : Int) (dr : Bool) (pe li ba : Int) (he tl tr : Bool) (w : World) (hh : -9223372036854775808 ≤ h ∧ h ≤ 9223372036854775807) (hx : -9223372036854775808 ≤ ex ∧ ex ≤ 9223372036854775807) :
  Calls Tryz.prog 90 #[.int .u8 120, .agg #[.int .i64 h, .int .i64 ex, .bool dr, .int .i64 pe, .int .i64 li, .int .i64 ba, .bool he, .bool tl, .bool tr]] w fun e w' => e = .returned (.bool (mayB 120 h ex dr pe li ba he tl tr)) ∧ Below w.heap.size w w' := by
 go_enter Tryz.func90, Tryz.ntmps90
 go_wp2
 all_goals
  go_returns; refine ⟨ret_bool ?_, by go_grown⟩
  go_light
  first
   | (simp [mayB, levelB, closedB, belowB, reachB, *]; done)
   | (simp [mayB, levelB, closedB, belowB, reachB, *]; omega)
set_option maxHeartbeats 4000000 in
theorem may_other (c h ex : Int) (dr : Bool) (pe li ba : Int) (he tl tr : Bool) (w : World) (hh : -9223372036854775808 ≤ h ∧ h ≤ 9223372036854775807)
  (n45 : (c == 45) = false) (n117 : (c == 117) = false) (n100 : (c == 100) = false) (n108 : (c == 108) = false) (n114 : (c == 114) = false) (n103 : (c == 103) = false) (n112 : (c == 112) = false) (n111 : (c == 111) = false) (n99 : (c == 99) = false) (n110 : (c == 110) = false) (n120 : (c == 120) = false) :
  Calls Tryz.prog 90 #[.int .u8 c, .agg #[.int .i64 h, .int .i64 ex, .bool dr, .int .i64 pe, .int .i64 li, .int .i64 ba, .bool he, .bool tl, .bool tr]] w fun e w' => e = .returned (.bool (mayB c h ex dr pe li ba he tl tr)) ∧ Below w.heap.size w w' := by
 have K : Hid (∀ h dr, mayB c h ex dr pe li ba he tl tr = false) := by
  intro h dr
  simp only [beq_eq_false_iff_ne, ne_eq] at *
  simp [mayB, n45, n117, n100, n108, n114, n103, n112, n111, n99, n110, n120]
 go_enter Tryz.func90, Tryz.ntmps90
 go_wp2
 all_goals
  go_returns; exact ⟨ret_bool (K.out _ _).symm, by go_grown⟩
theorem may_any (c h ex : Int) (dr : Bool) (pe li ba : Int) (he tl tr : Bool) (w : World) (hh : IntKind.i64.has h) (hx : IntKind.i64.has ex) :
  Calls Tryz.prog 90 #[.int .u8 c, .agg #[.int .i64 h, .int .i64 ex, .bool dr, .int .i64 pe, .int .i64 li, .int .i64 ba, .bool he, .bool tl, .bool tr]] w fun e w' => e = .returned (.bool (mayB c h ex dr pe li ba he tl tr)) ∧ Below w.heap.size w w' := by
 have hh := i64_bounds hh; have hx := i64_bounds hx
 by_cases n45 : c = 45
 ·subst n45; exact may_45 h ex dr pe li ba he tl tr w hh hx
 by_cases n117 : c = 117
 ·subst n117; exact may_117 h ex dr pe li ba he tl tr w hh hx
 by_cases n100 : c = 100
 ·subst n100; exact may_100 h ex dr pe li ba he tl tr w hh hx
 by_cases n108 : c = 108
 ·subst n108; exact may_108 h ex dr pe li ba he tl tr w hh hx
 by_cases n114 : c = 114
 ·subst n114; exact may_114 h ex dr pe li ba he tl tr w hh hx
 by_cases n103 : c = 103
 ·subst n103; exact may_103 h ex dr pe li ba he tl tr w hh hx
 by_cases n112 : c = 112
 ·subst n112; exact may_112 h ex dr pe li ba he tl tr w hh hx
 by_cases n111 : c = 111
 ·subst n111; exact may_111 h ex dr pe li ba he tl tr w hh hx
 by_cases n99 : c = 99
 ·subst n99; exact may_99 h ex dr pe li ba he tl tr w hh hx
 by_cases n110 : c = 110
 ·subst n110; exact may_110 h ex dr pe li ba he tl tr w hh hx
 by_cases n120 : c = 120
 ·subst n120; exact may_120 h ex dr pe li ba he tl tr w hh hx
 exact may_other c h ex dr pe li ba he tl tr w hh (by simpa using n45) (by simpa using n117) (by simpa using n100) (by simpa using n108) (by simpa using n114) (by simpa using n103) (by simpa using n112) (by simpa using n111) (by simpa using n99) (by simpa using n110) (by simpa using n120)
end Go.Proofs.YtopgllmjeliklaaGreatDoor
namespace Go.Proofs.YtopgllmjeliklaaGreatDoor
open Go.ChangeShapes Go.WideShapes Go.ChangeAt Go.RowKit Go.Maps
namespace Pl
open Ac
def mayS (c : Int) (s : St) : Bool := mayB c s.h s.ex s.op s.pe s.li s.ba (carAtI s.D s.lv s.h s.ex != 0) (carAtI s.D s.lv s.h (s.ex - 1) != 0) (carAtI s.D s.lv s.h (s.ex + 1) != 0)
def guardS (c : Int) (s : St) : St := if mayS c s = true then stepS c s else s
theorem may_sense (c : Int) (s : St) (iv : Inv s) (w : World) : Calls Tryz.prog 90 #[.int .u8 c, senseV s] w fun e w' => e = .returned (.bool (mayS c s)) ∧ Below w.heap.size w w' :=
 may_any c s.h s.ex s.op s.pe s.li s.ba _ _ _ w (B.has_of (by have := iv.ok.h0; have := iv.ok.h12; have := iv.ok.lv4; omega)) (B.has_of (by have := iv.ok.e0; have := iv.ok.e2; omega))
theorem endB_level {lv h ex : Int} (h0 : 0 ≤ h) (h12 : h ≤ lv * 3) (hl : levelB h = true) (e0 : -2 ≤ ex) (e2 : ex ≤ 2) (hne : ex ≠ 0) : endB lv h ex = true := by
 simp only [levelB, Bool.and_eq_true, decide_eq_true_eq, beq_iff_eq] at hl; simp only [endB, placeB, Bool.and_eq_true, decide_eq_true_eq]; refine ⟨⟨hl.1, hl.2, hne⟩, ?_⟩
 by_cases hn : ex < 0 <;> simp only [hn, if_true, if_false] <;> omega
theorem slide_safe {s : St} (iv : Inv s) (b : Int) (hu : s.hu = false) (hr : reachB (s.ex + b) s.h s.li (carAtI s.D s.lv s.h (s.ex + b) != 0) = true) : (slideS b s).hu = false := by
 have i0 := iv.ok.h0; have i1 := iv.ok.h12; simp only [reachB, Bool.and_eq_true, decide_eq_true_eq, Bool.or_eq_true, beq_iff_eq, Bool.not_eq_true'] at hr; obtain ⟨⟨r1, r2⟩, r3⟩ := hr; unfold slideS; rw [if_pos ⟨r1, r2⟩]; simp only [hu, Bool.false_or]
 by_cases hx : s.ex + b = 0
 ·have he : endB s.lv s.h 0 = false := by simp [endB]
  simp [hx, carAtI, he]
 ·rcases r3 with r3 | ⟨r3, r4⟩
  ·exact absurd r3 hx
  ·have he := endB_level i0 i1 r3 r1 r2 hx
   rw [he]
   rcases r4 with r4 | r4
   ·simp [r4]
   ·rw [r4]; simp
theorem may_safe {s : St} (iv : Inv s) (c : Int) (hu : s.hu = false) (hm : mayS c s = true) : (doS c s).hu = false := by
 unfold mayS mayB at hm; unfold doS
 by_cases k0 : c = 45
 ·subst k0; simpa using hu
 rw [if_neg k0] at hm
 by_cases k1 : c = 117
 ·subst k1
  simp only [true_or, if_true, closedB, Bool.and_eq_true, beq_iff_eq, Bool.not_eq_true'] at hm ⊢
  simp [raiseS, hu, hm.1, hm.2.1, hm.2.2]
 by_cases k2 : c = 100
 ·subst k2
  simp only [or_true, if_true, closedB, Bool.and_eq_true, beq_iff_eq, Bool.not_eq_true'] at hm ⊢
  simp [raiseS, hu, hm.1, hm.2.1, hm.2.2]
 rw [if_neg (by omega)] at hm; rw [if_neg k1, if_neg k2]
 by_cases k3 : c = 108
 ·subst k3
  simp only [if_true] at hm ⊢; exact slide_safe iv (-1) hu hm
 rw [if_neg k3] at hm; rw [if_neg k3]
 by_cases k4 : c = 114
 ·subst k4
  simp only [if_true] at hm ⊢; exact slide_safe iv 1 hu hm
 rw [if_neg k4] at hm; rw [if_neg k4]
 by_cases k5 : c = 103
 ·subst k5; simp only [if_true]; unfold grabS; split <;> exact hu
 rw [if_neg k5] at hm; rw [if_neg k5]
 by_cases k6 : c = 112
 ·subst k6; simp only [if_true]; unfold putS; split <;> exact hu
 rw [if_neg k6] at hm; rw [if_neg k6]
 by_cases k7 : c = 111
 ·subst k7
  simp only [if_true, belowB, Bool.and_eq_true, beq_iff_eq] at hm ⊢
  simp [openS, hu, hm.1, hm.2]
 rw [if_neg k7] at hm; rw [if_neg k7]
 by_cases k8 : c = 99
 ·subst k8
  simp only [if_true, beq_iff_eq] at hm ⊢
  simp [shutS, hu, hm]
 rw [if_neg k8] at hm; rw [if_neg k8]
 by_cases k9 : c = 110
 ·subst k9
  simp only [if_true, closedB, Bool.and_eq_true, beq_iff_eq, Bool.not_eq_true'] at hm ⊢; unfold takeInS
  split <;> simp [hu, hm.1.1.2.1, hm.1.1.2.2]
 rw [if_neg k9] at hm; rw [if_neg k9]
 by_cases k10 : c = 120
 ·subst k10
  simp only [if_true, closedB, Bool.and_eq_true, beq_iff_eq, Bool.not_eq_true'] at hm ⊢; unfold giveOutS
  split <;> simp [hu, hm.1.1.2.1, hm.1.1.2.2]
 rw [if_neg k10] at hm
 cases hm
theorem out_safe {s : St} (x : ActC) (hu : s.hu = false) (hk : (x.kind.toList == [115, 116, 101, 112]) = false) : (outS x s).hu = false := by
 unfold outS; rw [if_neg (by simp [hk])]
 split; · unfold walkS; split <;> exact hu
 split; · unfold arriveS; split <;> exact hu
 split; · unfold leaveS; split <;> exact hu
 split; · unfold stallS; split <;> exact hu
 exact hu
-- left out: this seat has not what it speaks of
end Pl
end Go.Proofs.YtopgllmjeliklaaGreatDoor
namespace Go.Proofs.YtopgllmjeliklaaGreatDoor
open Go.ChangeShapes Go.WideShapes Go.ChangeAt Go.RowKit
def nextC (k n h ex : Int) (dr : Bool) (li : Int) : Int :=
 if k = 1 then (if h < n then 117 else if n < h then 100 else 45)
 else if k = 2 then (if ex < n then 114 else if n < ex then 108 else 45)
 else if k = 3 then (if li = 0 then 103 else 45)
 else if k = 4 then (if li = 0 then 45 else 112)
 else if k = 5 then (if dr = true then 99 else 45)
 else if k = 6 then (if dr = true then 45 else 111)
 else if k = 7 then (if li = 0 then 110 else 45)
 else if k = 8 then (if li = 0 then 45 else 120)
 else 45
set_option maxHeartbeats 1000000 in
theorem next_1 (n h ex : Int) (dr : Bool) (pe li ba : Int) (he tl tr : Bool) (w : World) :
  Calls Tryz.prog 89 #[.agg #[.int .i64 1, .int .i64 n], .agg #[.int .i64 h, .int .i64 ex, .bool dr, .int .i64 pe, .int .i64 li, .int .i64 ba, .bool he, .bool tl, .bool tr]] w fun e w' =>
   e = .returned (.tuple #[.int .u8 (nextC 1 n h ex dr li), .bool (nextC 1 n h ex dr li == 45)]) ∧ Below w.heap.size w w' := by
 go_enter Tryz.func89, Tryz.ntmps89
 go_wp2
 all_goals
  go_returns; refine ⟨B.ret_pair ?_ ?_, by go_grown⟩
  all_goals
   go_light
   first
    | (simp [nextC, *]; done)
    | (simp [nextC, *]; omega)
    | (simp [nextC]; (repeat' split) <;> first | omega | (simp_all; done) | (simp_all; omega))
set_option maxHeartbeats 1000000 in
theorem next_2 (n h ex : Int) (dr : Bool) (pe li ba : Int) (he tl tr : Bool) (w : World) :
  Calls Tryz.prog 89 #[.agg #[.int .i64 2, .int .i64 n], .agg #[.int .i64 h, .int .i64 ex, .bool dr, .int .i64 pe, .int .i64 li, .int .i64 ba, .bool he, .bool tl, .bool tr]] w fun e w' =>
   e = .returned (.tuple #[.int .u8 (nextC 2 n h ex dr li), .bool (nextC 2 n h ex dr li == 45)]) ∧ Below w.heap.size w w' := by
 go_enter Tryz.func89, Tryz.ntmps89
 go_wp2
 all_goals
  go_returns; refine ⟨B.ret_pair ?_ ?_, by go_grown⟩
  all_goals
   go_light
   first
    | (simp [nextC, *]; done)
    | (simp [nextC, *]; omega)
    | (simp [nextC]; (repeat' split) <;> first | omega | (simp_all; done) | (simp_all; omega))
set_option maxHeartbeats 1000000 in
theorem next_3 (n h ex : Int) (dr : Bool) (pe li ba : Int) (he tl tr : Bool) (w : World) :
  Calls Tryz.prog 89 #[.agg #[.int .i64 3, .int .i64 n], .agg #[.int .i64 h, .int .i64 ex, .bool dr, .int .i64 pe, .int .i64 li, .int .i64 ba, .bool he, .bool tl, .bool tr]] w fun e w' =>
   e = .returned (.tuple #[.int .u8 (nextC 3 n h ex dr li), .bool (nextC 3 n h ex dr li == 45)]) ∧ Below w.heap.size w w' := by
 go_enter Tryz.func89, Tryz.ntmps89
 go_wp2
 all_goals
  go_returns; refine ⟨B.ret_pair ?_ ?_, by go_grown⟩
  all_goals
   go_light
   first
    | (simp [nextC, *]; done)
    | (simp [nextC, *]; omega)
    | (simp [nextC]; (repeat' split) <;> first | omega | (simp_all; done) | (simp_all; omega))
set_option maxHeartbeats 1000000 in
theorem next_4 (n h ex : Int) (dr : Bool) (pe li ba : Int) (he tl tr : Bool) (w : World) :
  Calls Tryz.prog 89 #[.agg #[.int .i64 4, .int .i64 n], .agg #[.int .i64 h, .int .i64 ex, .bool dr, .int .i64 pe, .int .i64 li, .int .i64 ba, .bool he, .bool tl, .bool tr]] w fun e w' =>
   e = .returned (.tuple #[.int .u8 (nextC 4 n h ex dr li), .bool (nextC 4 n h ex dr li == 45)]) ∧ Below w.heap.size w w' := by
 go_enter Tryz.func89, Tryz.ntmps89
 go_wp2
 all_goals
  go_returns; refine ⟨B.ret_pair ?_ ?_, by go_grown⟩
  all_goals
   go_light
   first
    | (simp [nextC, *]; done)
    | (simp [nextC, *]; omega)
    | (simp [nextC]; (repeat' split) <;> first | omega | (simp_all; done) | (simp_all; omega))
set_option maxHeartbeats 1000000 in
theorem next_5 (n h ex : Int) (dr : Bool) (pe li ba : Int) (he tl tr : Bool) (w : World) :
  Calls Tryz.prog 89 #[.agg #[.int .i64 5, .int .i64 n], .agg #[.int .i64 h, .int .i64 ex, .bool dr, .int .i64 pe, .int .i64 li, .int .i64 ba, .bool he, .bool tl, .bool tr]] w fun e w' =>
   e = .returned (.tuple #[.int .u8 (nextC 5 n h ex dr li), .bool (nextC 5 n h ex dr li == 45)]) ∧ Below w.heap.size w w' := by
 go_enter Tryz.func89, Tryz.ntmps89
 go_wp2
 all_goals
  go_returns; refine ⟨B.ret_pair ?_ ?_, by go_grown⟩
  all_goals
   go_light
   first
    | (simp [nextC, *]; done)
    | (simp [nextC, *]; omega)
    | (simp [nextC]; (repeat' split) <;> first | omega | (simp_all; done) | (simp_all; omega))
set_option maxHeartbeats 1000000 in
theorem next_6 (n h ex : Int) (dr : Bool) (pe li ba : Int) (he tl tr : Bool) (w : World) :
  Calls Tryz.prog 89 #[.agg #[.int .i64 6, .int .i64 n], .agg #[.int .i64 h, .int .i64 ex, .bool dr, .int .i64 pe, .int .i64 li, .int .i64 ba, .bool he, .bool tl, .bool tr]] w fun e w' =>
   e = .returned (.tuple #[.int .u8 (nextC 6 n h ex dr li), .bool (nextC 6 n h ex dr li == 45)]) ∧ Below w.heap.size w w' := by
 go_enter Tryz.func89, Tryz.ntmps89
 go_wp2
 all_goals
  go_returns; refine ⟨B.ret_pair ?_ ?_, by go_grown⟩
  all_goals
   go_light
   first
    | (simp [nextC, *]; done)
    | (simp [nextC, *]; omega)
    | (simp [nextC]; (repeat' split) <;> first | omega | (simp_all; done) | (simp_all; omega))
set_option maxHeartbeats 1000000 in
theorem next_7 (n h ex : Int) (dr : Bool) (pe li ba : Int) (he tl tr : Bool) (w : World) :
  Calls Tryz.prog 89 #[.agg #[.int .i64 7, .int .i64 n], .agg #[.int .i64 h, .int .i64 ex, .bool dr, .int .i64 pe, .int .i64 li, .int .i64 ba, .bool he, .bool tl, .bool tr]] w fun e w' =>
   e = .returned (.tuple #[.int .u8 (nextC 7 n h ex dr li), .bool (nextC 7 n h ex dr li == 45)]) ∧ Below w.heap.size w w' := by
 go_enter Tryz.func89, Tryz.ntmps89
 go_wp2
 all_goals
  go_returns; refine ⟨B.ret_pair ?_ ?_, by go_grown⟩
  all_goals
   go_light
   first
    | (simp [nextC, *]; done)
    | (simp [nextC, *]; omega)
    | (simp [nextC]; (repeat' split) <;> first | omega | (simp_all; done) | (simp_all; omega))
set_option maxHeartbeats 1000000 in
theorem next_8 (n h ex : Int) (dr : Bool) (pe li ba : Int) (he tl tr : Bool) (w : World) :
  Calls Tryz.prog 89 #[.agg #[.int .i64 8, .int .i64 n], .agg #[.int .i64 h, .int .i64 ex, .bool dr, .int .i64 pe, .int .i64 li, .int .i64 ba, .bool he, .bool tl, .bool tr]] w fun e w' =>
   e = .returned (.tuple #[.int .u8 (nextC 8 n h ex dr li), .bool (nextC 8 n h ex dr li == 45)]) ∧ Below w.heap.size w w' := by
 go_enter Tryz.func89, Tryz.ntmps89
 go_wp2
 all_goals
  go_returns; refine ⟨B.ret_pair ?_ ?_, by go_grown⟩
  all_goals
   go_light
   first
    | (simp [nextC, *]; done)
    | (simp [nextC, *]; omega)
    | (simp [nextC]; (repeat' split) <;> first | omega | (simp_all; done) | (simp_all; omega))
set_option maxHeartbeats 1000000 in
theorem next_other (k n h ex : Int) (dr : Bool) (pe li ba : Int) (he tl tr : Bool) (w : World) (n1 : (k == 1) = false) (n2 : (k == 2) = false) (n3 : (k == 3) = false) (n4 : (k == 4) = false) (n5 : (k == 5) = false) (n6 : (k == 6) = false) (n7 : (k == 7) = false) (n8 : (k == 8) = false) :
  Calls Tryz.prog 89 #[.agg #[.int .i64 k, .int .i64 n], .agg #[.int .i64 h, .int .i64 ex, .bool dr, .int .i64 pe, .int .i64 li, .int .i64 ba, .bool he, .bool tl, .bool tr]] w fun e w' =>
   e = .returned (.tuple #[.int .u8 (nextC k n h ex dr li), .bool (nextC k n h ex dr li == 45)]) ∧ Below w.heap.size w w' := by
 have K : Hid (nextC k n h ex dr li = 45) := by
  show _ = _
  simp only [beq_eq_false_iff_ne, ne_eq] at *
  simp [nextC, n1, n2, n3, n4, n5, n6, n7, n8]
 go_enter Tryz.func89, Tryz.ntmps89
 go_wp2
 all_goals
  go_returns; exact ⟨B.ret_pair K.out.symm (by rw [K.out]; rfl), by go_grown⟩
theorem next_any (k n h ex : Int) (dr : Bool) (pe li ba : Int) (he tl tr : Bool) (w : World) :
  Calls Tryz.prog 89 #[.agg #[.int .i64 k, .int .i64 n], .agg #[.int .i64 h, .int .i64 ex, .bool dr, .int .i64 pe, .int .i64 li, .int .i64 ba, .bool he, .bool tl, .bool tr]] w fun e w' =>
   e = .returned (.tuple #[.int .u8 (nextC k n h ex dr li), .bool (nextC k n h ex dr li == 45)]) ∧ Below w.heap.size w w' := by
 by_cases n1 : k = 1
 ·subst n1; exact next_1 n h ex dr pe li ba he tl tr w
 by_cases n2 : k = 2
 ·subst n2; exact next_2 n h ex dr pe li ba he tl tr w
 by_cases n3 : k = 3
 ·subst n3; exact next_3 n h ex dr pe li ba he tl tr w
 by_cases n4 : k = 4
 ·subst n4; exact next_4 n h ex dr pe li ba he tl tr w
 by_cases n5 : k = 5
 ·subst n5; exact next_5 n h ex dr pe li ba he tl tr w
 by_cases n6 : k = 6
 ·subst n6; exact next_6 n h ex dr pe li ba he tl tr w
 by_cases n7 : k = 7
 ·subst n7; exact next_7 n h ex dr pe li ba he tl tr w
 by_cases n8 : k = 8
 ·subst n8; exact next_8 n h ex dr pe li ba he tl tr w
 exact next_other k n h ex dr pe li ba he tl tr w (by simpa using n1) (by simpa using n2) (by simpa using n3) (by simpa using n4) (by simpa using n5) (by simpa using n6) (by simpa using n7) (by simpa using n8)
end Go.Proofs.YtopgllmjeliklaaGreatDoor
namespace Go.Proofs.YtopgllmjeliklaaGreatDoor
open Go.ChangeShapes Go.WideShapes Go.ChangeAt Go.RowKit Go.Maps
namespace Pl
open Ac
def GoalsAt (pb mb : Nat) (w : World) (v : Value) (l : List (Int × Int)) : Prop :=
 ∃ (ad : Option Addr) (cap : Nat), v = .slice ad l.length cap ∧ l.length ≤ cap ∧ cap ≤ maxLen ∧
  (0 < l.length → ∃ b off, ad = some ⟨b, off, none⟩ ∧ b < w.heap.size ∧ b ≠ pb ∧ b ≠ mb ∧ ∀ i, i < l.length → w.cell? ⟨b, off + i * 2, none⟩ = some (.int .i64 (l.getD i (0, 0)).1) ∧ w.cell? ⟨b, off + i * 2 + 1, none⟩ = some (.int .i64 (l.getD i (0, 0)).2))
theorem IsP.le {w : World} {pb mb n n' : Nat} {s : St} (h : IsP w pb mb n s) (hn : n ≤ n') : IsP w pb mb n' s := ⟨h.row, World.ownsMap.mono h.cars hn⟩
def nextS (g : Int × Int) (s : St) : Int := nextC g.1 g.2 s.h s.ex s.op s.li
def runS : Nat → List (Int × Int) → St → List (Int × Int) × St
 | 0, l, s => (l, s)
 | _ + 1, [], s => ([], s)
 | t + 1, g :: l, s => if nextS g s = 45 then runS t l s else runS t (g :: l) (guardS (nextS g s) s)
end Pl
end Go.Proofs.YtopgllmjeliklaaGreatDoor
