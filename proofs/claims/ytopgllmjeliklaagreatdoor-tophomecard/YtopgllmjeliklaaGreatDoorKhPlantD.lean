/- PlantD PlantE PlantF PlantG PlantH. -/
import Derived.Test.YtopgllmjeliklaaGreatDoorKhPlantA
set_option maxRecDepth 100000
set_option linter.unusedSimpArgs false
set_option linter.unusedVariables false
namespace Go.Proofs.YtopgllmjeliklaaGreatDoor
open Go.ChangeShapes Go.WideShapes Go.ChangeAt Go.RowKit Go.Maps
namespace Pl
structure Turn (pb mb : Nat) (w w' : World) : Prop where
 os : w'.os = w.os
 tape : w'.tape = w.tape
 output : w'.output = w.output
 size : w.heap.size ≤ w'.heap.size
 block : ∀ k, k < w.heap.size → k ≠ pb → k ≠ mb → w'.heap[k]? = w.heap[k]?
theorem Turn.of_below {pb mb : Nat} {w w' : World} (h : Below w.heap.size w w') : Turn pb mb w w' := ⟨h.os, h.tape, h.output, h.size, fun k hk _ _ => h.block k hk⟩
theorem Turn.refl (pb mb : Nat) (w : World) : Turn pb mb w w := Turn.of_below (Below.refl _ _)
theorem Turn.trans {pb mb : Nat} {a b c : World} (h : Turn pb mb a b) (k : Turn pb mb b c) : Turn pb mb a c :=
 ⟨k.os.trans h.os, k.tape.trans h.tape, k.output.trans h.output, Nat.le_trans h.size k.size, fun i hi h1 h2 => (k.block i (Nat.lt_of_lt_of_le hi h.size) h1 h2).trans (h.block i hi h1 h2)⟩
theorem Turn.set {pb mb : Nat} (w : World) (o : Nat) (v : Value) : Turn pb mb w (w.setCell ⟨pb, o, none⟩ v) :=
 ⟨rfl, rfl, rfl, by simp [World.setCell], fun k hk h1 _ => Below.heap_setCell _ _ _ _ (by simpa using h1)⟩
theorem Turn.drew {pb mb : Nat} (w : World) : Turn pb mb w w.drew := Turn.of_below (Below.refl _ _).drew
theorem IsP.drew {w : World} {pb mb n : Nat} {s : St} (h : IsP w pb mb n s) : IsP w.drew pb mb n s := h.below (Below.refl _ _).drew
theorem hurtP (pb mb n : Nat) (s : St) (b b' : Bool) (w : World) (hp : IsP w pb mb n s) (hb : b = b') :
  Calls Tryz.prog 108 #[.pointer (some ⟨pb, 0, none⟩), .bool b] w fun e w' => e = .returned (.tuple #[]) ∧ IsP w' pb mb n { s with hu := s.hu || b' } ∧ Turn pb mb w w' := by
 subst hb; refine (hurtIf_any pb s.hu b w hp.c9 (hp.free 9)).mono ?_; rintro e w1 ⟨rfl, rfl⟩; exact ⟨rfl, hp.set 9 _ rfl rfl, Turn.set _ _ _⟩
def stallE (k : Int) : Value := errV (faultN (decide (0 ≤ k ∧ k ≤ 5)))
def stallS (k : Int) (s : St) : St := if 0 ≤ k ∧ k ≤ 5 then { s with st := k } else s
set_option maxHeartbeats 1000000 in
theorem stall_any (pb mb n : Nat) (s : St) (k : Int) (w : World) (hp : IsP w pb mb n s) :
  Calls Tryz.prog 75 #[.pointer (some ⟨pb, 0, none⟩), .int .i64 k] w fun e w' =>
   e = .returned (stallE k) ∧ IsP w' pb mb n (stallS k s) ∧ Turn pb mb w w' := by
 have c8 := hp.c8; have f8 := hp.free 8; have P : Hid (IsP w pb mb n s) := hp; clear hp
 by_cases hk : 0 ≤ k ∧ k ≤ 5
 ·have K : Hid (stallS k s = { s with st := k }) := by show _ = _; simp [stallS, hk]
  have K2 : Hid (stallE k = .nilIface) := by show _ = _; simp [stallE, hk, faultN, errV]
  obtain ⟨k1, k2⟩ := hk
  go_enter Tryz.func75, Tryz.ntmps75
  go_wp2
  all_goals first
   | (go_returns; rw [K.out, K2.out]; exact ⟨rfl, P.out.set 8 _ rfl rfl, Turn.set _ _ _⟩)
   | (exfalso; go_light; omega)
 ·have K : Hid (stallS k s = s) := by show _ = _; simp [stallS, hk]
  have K2 : Hid (stallE k = .iface 103 (.int .i64 1)) := by show _ = _; simp only [stallE, hk, decide_false, faultN_f]; exact errV_ne (by decide)
  have HK : Hid (¬(0 ≤ k ∧ k ≤ 5)) := hk; clear hk
  go_enter Tryz.func75, Tryz.ntmps75
  go_wp2
  all_goals first
   | (exfalso; go_light; have := HK.out; omega)
   | (go_returns; rw [K.out, K2.out]; exact ⟨rfl, P.out, Turn.refl _ _ _⟩)
def raiseS (b : Int) (s : St) : St := { s with hu := s.hu || (s.ex != 0 || s.op || s.pe != 0), h := min (max (s.h + b) 0) (s.lv * 3) }
set_option maxHeartbeats 1000000 in
theorem raise_any (pb mb n : Nat) (s : St) (b : Int) (w : World) (hp : IsP w pb mb n s) (ok : Ok s) (b1 : -1 ≤ b) (b2 : b ≤ 1) :
  Calls Tryz.prog 104 #[.pointer (some ⟨pb, 0, none⟩), .int .i64 b] w fun e w' =>
   e = .returned (.tuple #[]) ∧ IsP w' pb mb n (raiseS b s) ∧ Turn pb mb w w' := by
 obtain ⟨lv, h, ex, op, pe, li, ba, D, st, hu⟩ := s; obtain ⟨lv1, lv4, h0, h12, e0, e2⟩ := ok; simp only at lv1 lv4 h0 h12 e0 e2; have c0 := hp.c0; have c1 := hp.c1; have c2 := hp.c2; have c3 := hp.c3; have c4 := hp.c4; have c9 := hp.c9; simp only at c0 c1 c2 c3 c4 c9; have P : Hid (IsP w pb mb n ⟨lv, h, ex, op, pe, li, ba, D, st, hu⟩) := hp; clear hp
 have HA : Hid (∀ v, v = min (max (h + b) 0) (lv * 3) → (arr ⟨lv, h, ex, op, pe, li, ba, D, st, hu || (ex != 0 || op || pe != 0)⟩ mb).setIfInBounds 1 (.int .i64 v) = arr (raiseS b ⟨lv, h, ex, op, pe, li, ba, D, st, hu⟩) mb) := by
  intro v hv
  rw [hv]
  rfl
 have HD : Hid ((raiseS b ⟨lv, h, ex, op, pe, li, ba, D, st, hu⟩).D = D) := rfl; generalize raiseS b ⟨lv, h, ex, op, pe, li, ba, D, st, hu⟩ = s' at HA HD ⊢; have m1 : IntKind.i64.wrap (h + b) = h + b := by rw [IntKind.wrap_i64]; omega
 have m2 : IntKind.i64.wrap (lv * 3) = lv * 3 := by rw [IntKind.wrap_i64]; omega
 go_enter Tryz.func104, Tryz.ntmps104
 go_wp2_with fail
 all_goals
  refine (hurtP pb mb n ⟨lv, h, ex, op, pe, li, ba, D, st, hu⟩ _ (ex != 0 || op || pe != 0) w P.out (by simp [*])).mono ?_
  rintro e w1 ⟨rfl, p1, t1⟩; have d0 := p1.c0; have d1 := p1.c1; have f1 := p1.free 1; simp only at d0 d1; have T1 : Hid (Turn pb mb w w1) := t1; have P1 : Hid (IsP w1 pb mb n _) := p1; clear p1 t1 P c0 c1 c2 c3 c4 c9; go_wp2_with fail
  go_region
  all_goals go_wp2
  all_goals go_returns
  all_goals go_light
  all_goals exact ⟨rfl, (P1.out.set 1 _ (HA.out _ (by omega)) HD.out).drew, (T1.out.trans (Turn.set _ _ _)).trans (Turn.drew _)⟩
end Pl
namespace Pl
def takeInS (s : St) : St := if s.h = 0 ∧ s.ex = 0 ∧ s.li = 0 then { s with hu := s.hu || (s.op || s.pe != 0), li := s.ba, ba := 0 } else { s with hu := s.hu || (s.op || s.pe != 0) }
set_option maxHeartbeats 1000000 in
theorem takeIn_any (pb mb n : Nat) (s : St) (w : World) (hp : IsP w pb mb n s) :
  Calls Tryz.prog 110 #[.pointer (some ⟨pb, 0, none⟩)] w fun e w' => e = .returned (.tuple #[]) ∧ IsP w' pb mb n (takeInS s) ∧ Turn pb mb w w' := by
 obtain ⟨lv, h, ex, op, pe, li, ba, D, st, hu⟩ := s; have c3 := hp.c3; have c4 := hp.c4; simp only at c3 c4; have P : Hid (IsP w pb mb n ⟨lv, h, ex, op, pe, li, ba, D, st, hu⟩) := hp; clear hp
 have HY : Hid (h = 0 → ex = 0 → li = 0 → takeInS ⟨lv, h, ex, op, pe, li, ba, D, st, hu⟩ = { (⟨lv, h, ex, op, pe, li, ba, D, st, hu || (op || pe != 0)⟩ : St) with li := ba, ba := 0 }) := by
  intro h1 h2 h3
  simp [takeInS, h1, h2, h3]
 have HN : Hid (¬(h = 0 ∧ ex = 0 ∧ li = 0) → takeInS ⟨lv, h, ex, op, pe, li, ba, D, st, hu⟩ = ⟨lv, h, ex, op, pe, li, ba, D, st, hu || (op || pe != 0)⟩) := by
  intro h1
  simp only [takeInS, h1, if_false]
 generalize takeInS ⟨lv, h, ex, op, pe, li, ba, D, st, hu⟩ = s' at HY HN ⊢
 go_enter Tryz.func110, Tryz.ntmps110
 go_wp2_with fail
 all_goals
  refine (hurtP pb mb n ⟨lv, h, ex, op, pe, li, ba, D, st, hu⟩ _ (op || pe != 0) w P.out (by simp [*])).mono ?_
  rintro e w1 ⟨rfl, p1, t1⟩; have T1 : Hid (Turn pb mb w w1) := t1; have P1 : Hid (IsP w1 pb mb n ⟨lv, h, ex, op, pe, li, ba, D, st, hu || (op || pe != 0)⟩) := p1
  have d5 := p1.c5; have d6 := p1.c6; have f5 := p1.free 5; have f6 := p1.free 6; simp only at d5 d6; clear p1 t1 P c3 c4; go_wp2_with fail; refine (below_any pb h ex w1 P1.out.c1 P1.out.c2).mono ?_; rintro e wx ⟨rfl, hwx⟩; subst hwx
  by_cases k : h = 0 ∧ ex = 0
  ·have K : Hid (h = 0 ∧ ex = 0) := k
   rw [decide_eq_true k]; clear k
   by_cases kl : li = 0
   ·have KL : Hid (li = 0) := kl
    have kl' : (li == 0) = true := by simpa using kl
    clear kl; go_wp2; go_returns; refine ⟨rfl, ?_, ?_⟩
    ·rw [HY.out K.out.1 K.out.2 KL.out]
     exact (P1.out.set 5 (.int .i64 ba) (s' := { (⟨lv, h, ex, op, pe, li, ba, D, st, hu || (op || pe != 0)⟩ : St) with li := ba }) rfl rfl).set 6 _ rfl rfl
    ·exact (T1.out.trans (Turn.set _ _ _)).trans (Turn.set _ _ _)
   ·have KL : Hid (¬ li = 0) := kl
    have kl' : (li == 0) = false := by simpa using kl
    clear kl; go_wp2; go_returns; refine ⟨rfl, ?_, T1.out⟩; rw [HN.out (fun q => KL.out q.2.2)]
    exact P1.out
  ·have K : Hid (¬(h = 0 ∧ ex = 0)) := k
   rw [decide_eq_false k]; clear k; go_wp2; go_returns; refine ⟨rfl, ?_, T1.out⟩; rw [HN.out (fun q => K.out ⟨q.1, q.2.1⟩)]
   exact P1.out
def giveOutS (s : St) : St := if s.h = 0 ∧ s.ex = 0 ∧ s.ba = 0 then { s with hu := s.hu || (s.op || s.pe != 0), ba := s.li, li := 0 } else { s with hu := s.hu || (s.op || s.pe != 0) }
set_option maxHeartbeats 1000000 in
theorem giveOut_any (pb mb n : Nat) (s : St) (w : World) (hp : IsP w pb mb n s) :
  Calls Tryz.prog 111 #[.pointer (some ⟨pb, 0, none⟩)] w fun e w' => e = .returned (.tuple #[]) ∧ IsP w' pb mb n (giveOutS s) ∧ Turn pb mb w w' := by
 obtain ⟨lv, h, ex, op, pe, li, ba, D, st, hu⟩ := s; have c3 := hp.c3; have c4 := hp.c4; simp only at c3 c4; have P : Hid (IsP w pb mb n ⟨lv, h, ex, op, pe, li, ba, D, st, hu⟩) := hp; clear hp
 have HY : Hid (h = 0 → ex = 0 → ba = 0 → giveOutS ⟨lv, h, ex, op, pe, li, ba, D, st, hu⟩ = { (⟨lv, h, ex, op, pe, li, ba, D, st, hu || (op || pe != 0)⟩ : St) with ba := li, li := 0 }) := by
  intro h1 h2 h3
  simp [giveOutS, h1, h2, h3]
 have HN : Hid (¬(h = 0 ∧ ex = 0 ∧ ba = 0) → giveOutS ⟨lv, h, ex, op, pe, li, ba, D, st, hu⟩ = ⟨lv, h, ex, op, pe, li, ba, D, st, hu || (op || pe != 0)⟩) := by
  intro h1
  simp only [giveOutS, h1, if_false]
 generalize giveOutS ⟨lv, h, ex, op, pe, li, ba, D, st, hu⟩ = s' at HY HN ⊢
 go_enter Tryz.func111, Tryz.ntmps111
 go_wp2_with fail
 all_goals
  refine (hurtP pb mb n ⟨lv, h, ex, op, pe, li, ba, D, st, hu⟩ _ (op || pe != 0) w P.out (by simp [*])).mono ?_
  rintro e w1 ⟨rfl, p1, t1⟩; have T1 : Hid (Turn pb mb w w1) := t1; have P1 : Hid (IsP w1 pb mb n ⟨lv, h, ex, op, pe, li, ba, D, st, hu || (op || pe != 0)⟩) := p1
  have d5 := p1.c5; have d6 := p1.c6; have f5 := p1.free 5; have f6 := p1.free 6; simp only at d5 d6; clear p1 t1 P c3 c4; go_wp2_with fail; refine (below_any pb h ex w1 P1.out.c1 P1.out.c2).mono ?_; rintro e wx ⟨rfl, hwx⟩; subst hwx
  by_cases k : h = 0 ∧ ex = 0
  ·have K : Hid (h = 0 ∧ ex = 0) := k
   rw [decide_eq_true k]; clear k
   by_cases kl : ba = 0
   ·have KL : Hid (ba = 0) := kl
    have kl' : (ba == 0) = true := by simpa using kl
    clear kl; go_wp2; go_returns; refine ⟨rfl, ?_, ?_⟩
    ·rw [HY.out K.out.1 K.out.2 KL.out]
     exact (P1.out.set 6 (.int .i64 li) (s' := { (⟨lv, h, ex, op, pe, li, ba, D, st, hu || (op || pe != 0)⟩ : St) with ba := li }) rfl rfl).set 5 _ rfl rfl
    ·exact (T1.out.trans (Turn.set _ _ _)).trans (Turn.set _ _ _)
   ·have KL : Hid (¬ ba = 0) := kl
    have kl' : (ba == 0) = false := by simpa using kl
    clear kl; go_wp2; go_returns; refine ⟨rfl, ?_, T1.out⟩; rw [HN.out (fun q => KL.out q.2.2)]
    exact P1.out
  ·have K : Hid (¬(h = 0 ∧ ex = 0)) := k
   rw [decide_eq_false k]; clear k; go_wp2; go_returns; refine ⟨rfl, ?_, T1.out⟩; rw [HN.out (fun q => K.out ⟨q.1, q.2.1⟩)]
   exact P1.out
end Pl
namespace Pl
def leaveB (s : St) : Bool := s.op && s.ba != 0
def leaveV (s : St) : Value := .tuple #[.int .i64 (if leaveB s = true then s.ba else 0), if leaveB s = true then .nilIface else errV 7]
def leaveS (s : St) : St := if leaveB s = true then { s with ba := 0 } else s
set_option maxHeartbeats 1000000 in
theorem leave_any (pb mb n : Nat) (s : St) (w : World) (hp : IsP w pb mb n s) :
  Calls Tryz.prog 26 #[.pointer (some ⟨pb, 0, none⟩)] w fun e w' => e = .returned (leaveV s) ∧ IsP w' pb mb n (leaveS s) ∧ Turn pb mb w w' := by
 have P : Hid (IsP w pb mb n s) := hp; have c3 := hp.c3; have c6 := hp.c6; have f6 := hp.free 6; clear hp
 cases ko : s.op with
 | false =>
   have KB : leaveB s = false := by simp [leaveB, ko]
   have K1 : Hid (leaveV s = .tuple #[.int .i64 0, errV 7]) := by show _ = _; simp [leaveV, KB]
   have K2 : Hid (leaveS s = s) := by show _ = _; simp [leaveS, KB]
   rw [ko] at c3; clear KB ko; rw [K1.out, K2.out, errV_ne (by decide)]
   go_enter Tryz.func26, Tryz.ntmps26
   go_wp2; go_returns; exact ⟨rfl, P.out, Turn.refl _ _ _⟩
 | true =>
   rw [ko] at c3
   by_cases kb : s.ba = 0
   ·have KB : leaveB s = false := by simp [leaveB, kb]
    have K1 : Hid (leaveV s = .tuple #[.int .i64 0, errV 7]) := by show _ = _; simp [leaveV, KB]
    have K2 : Hid (leaveS s = s) := by show _ = _; simp [leaveS, KB]
    have kb' : (s.ba == 0) = true := by simpa using kb
    clear KB ko kb; rw [K1.out, K2.out, errV_ne (by decide)]
    go_enter Tryz.func26, Tryz.ntmps26
    go_wp2; go_returns; exact ⟨rfl, P.out, Turn.refl _ _ _⟩
   ·have KB : leaveB s = true := by simp [leaveB, ko, kb]
    have K1 : Hid (leaveV s = .tuple #[.int .i64 s.ba, .nilIface]) := by show _ = _; simp [leaveV, KB]
    have K2 : Hid (leaveS s = { s with ba := 0 }) := by show _ = _; simp [leaveS, KB]
    have kb' : (s.ba == 0) = false := by simpa using kb
    clear KB ko kb; rw [K1.out, K2.out]
    go_enter Tryz.func26, Tryz.ntmps26
    go_wp2; go_returns; exact ⟨rfl, P.out.set 6 _ rfl rfl, Turn.set _ _ _⟩
def newS (lv : Int) : St := ⟨lv, 0, 0, true, 0, 0, 0, .map [], 0, false⟩
set_option maxHeartbeats 1000000 in
theorem new_any (lv : Int) (w : World) (h1 : 1 ≤ lv) (h4 : lv ≤ 4) :
  Calls Tryz.prog 71 #[.int .i64 lv] w fun e w' => e = .returned (.tuple #[.pointer (some ⟨w.heap.size + 1, 0, none⟩), .nilIface]) ∧ IsP w' (w.heap.size + 1) w.heap.size 0 (newS lv) ∧ Below w.heap.size w w' := by
 have hmm := @run_makeMap Tryz.prog
 go_enter Tryz.func71, Tryz.ntmps71
 go_wp2
 all_goals first
  | (exfalso; go_light; omega)
  | skip
 go_returns; refine ⟨rfl, ⟨?_, ?_⟩, by go_grown⟩
 ·rw [show w.heap.size + 1 = (w.alloc (.map #[] 0)).heap.size from by simp]
  exact (MapKept.heap_alloc _ _).1
 ·exact (World.ownsMap_made w _ _ _).alloc _
def walkE (k : Int) (s : St) : Value := if -9 ≤ k ∧ k ≤ 9 then (if s.op = true then .nilIface else errV 7) else errV 1
def walkS (k : Int) (s : St) : St := if (-9 ≤ k ∧ k ≤ 9) ∧ s.op = true then { s with pe := min (max (s.pe + k) 0) 9 } else s
set_option maxHeartbeats 1000000 in
theorem walk_any (pb mb n : Nat) (s : St) (k : Int) (w : World) (hp : IsP w pb mb n s) (p0 : 0 ≤ s.pe) (p9 : s.pe ≤ 9) :
  Calls Tryz.prog 48 #[.pointer (some ⟨pb, 0, none⟩), .int .i64 k] w fun e w' => e = .returned (walkE k s) ∧ IsP w' pb mb n (walkS k s) ∧ Turn pb mb w w' := by
 have P : Hid (IsP w pb mb n s) := hp; have c3 := hp.c3; have c4 := hp.c4; have f4 := hp.free 4; clear hp
 by_cases hk : -9 ≤ k ∧ k ≤ 9
 ·cases ko : s.op with
  | false =>
    have K1 : Hid (walkE k s = errV 7) := by show _ = _; simp [walkE, hk, ko]
    have K2 : Hid (walkS k s = s) := by show _ = _; simp [walkS, ko]
    obtain ⟨k1, k2⟩ := hk; rw [ko] at c3; rw [K1.out, K2.out, errV_ne (by decide)]; clear ko
    go_enter Tryz.func48, Tryz.ntmps48
    go_wp2
    all_goals first
     | (exfalso; go_light; omega)
     | (go_returns; exact ⟨rfl, P.out, Turn.refl _ _ _⟩)
  | true =>
    have K1 : Hid (walkE k s = .nilIface) := by show _ = _; simp [walkE, hk, ko]
    have HA : Hid (∀ v, v = min (max (s.pe + k) 0) 9 → (arr s mb).setIfInBounds 4 (.int .i64 v) = arr (walkS k s) mb) := by
     intro v hv
     rw [hv]; simp only [walkS, hk, ko, and_self, if_true]
     simp [arr, ko]
    have HD : Hid ((walkS k s).D = s.D) := by show _ = _; simp only [walkS]; split <;> rfl
    obtain ⟨k1, k2⟩ := hk; rw [ko] at c3; rw [K1.out]; generalize walkS k s = s' at HA HD ⊢; clear ko
    go_enter Tryz.func48, Tryz.ntmps48
    go_wp2
    all_goals first
     | (exfalso; go_light; omega)
     | (go_returns; go_light; exact ⟨rfl, P.out.set 4 _ (HA.out _ (by omega)) HD.out, Turn.set _ _ _⟩)
 ·have K1 : Hid (walkE k s = errV 1) := by show _ = _; simp only [walkE, hk, if_false]
  have K2 : Hid (walkS k s = s) := by show _ = _; simp only [walkS, hk, false_and, if_false]
  have HK : Hid (¬(-9 ≤ k ∧ k ≤ 9)) := hk; clear hk; rw [K1.out, K2.out, errV_ne (by decide)]
  go_enter Tryz.func48, Tryz.ntmps48
  go_wp2
  all_goals first
   | (exfalso; go_light; have := HK.out; omega)
   | (go_returns; exact ⟨rfl, P.out, Turn.refl _ _ _⟩)
end Pl
namespace Pl
theorem Turn.below {pb mb : Nat} {w w1 w2 : World} (h : Turn pb mb w w1) (k : Below w1.heap.size w1 w2) : Turn pb mb w w2 := h.trans (Turn.of_below k)
theorem Turn.map {pb mb : Nat} {w w' : World} (h : w.mapTurned w' mb) : Turn pb mb w w' :=
 ⟨h.grown.os, h.grown.tape, h.grown.output, h.grown.size, fun k hk _ h2 => h.grown.block k hk (by simpa using h2)⟩
theorem IsP.map {w w' : World} {pb mb n n' : Nat} {s : St} {D' : DataW Unit} (h : IsP w pb mb n s) (ht : w.mapTurned w' mb) (hc : Cars w' mb n' D') : IsP w' pb mb n' { s with D := D' } :=
 ⟨(ht.grown.block pb h.lt (by simpa using h.ne)).trans h.row, hc⟩
def grabB (s : St) : Bool := endB s.lv s.h s.ex && s.li == 0
def grabS (s : St) : St := if grabB s = true then { s with li := carOf s.D (endX s.lv s.h s.ex) (endY s.lv s.h s.ex) (endZ s.lv s.h s.ex), D := s.D.del (pk (endX s.lv s.h s.ex) (endY s.lv s.h s.ex) (endZ s.lv s.h s.ex)) } else s
set_option maxHeartbeats 2000000 in
theorem grab_any (pb mb n : Nat) (s : St) (w : World) (hp : IsP w pb mb n s) (ok : Ok s) :
  Calls Tryz.prog 106 #[.pointer (some ⟨pb, 0, none⟩)] w fun e w' => e = .returned (.tuple #[]) ∧ IsP w' pb mb n (grabS s) ∧ Turn pb mb w w' := by
 obtain ⟨lv, h, ex, op, pe, li, ba, D, st, hu⟩ := s; obtain ⟨lv1, lv4, h0, h12, e0, e2⟩ := ok; simp only at lv1 lv4 h0 h12 e0 e2; obtain ⟨wx, wy, wz⟩ := end_wf (lv := lv) (h := h) (ex := ex) h0 (by omega) (by omega) (by omega); have P : Hid (IsP w pb mb n ⟨lv, h, ex, op, pe, li, ba, D, st, hu⟩) := hp; have c2 := hp.c2; simp only at c2; have HE : Hid (∀ w, IsP w pb mb n ⟨lv, h, ex, op, pe, li, ba, D, st, hu⟩ → Calls Tryz.prog 76 #[.pointer (some ⟨pb, 0, none⟩), .int .i64 ex] w fun e w' => e = .returned (endV lv h ex) ∧ Below w.heap.size w w') := fun w hp => end_any pb lv h ex w hp.c0 hp.c1 h0 (by omega) (by omega) (by omega)
 clear hp
 cases k : endB lv h ex with
 | false =>
   have K : Hid (grabS ⟨lv, h, ex, op, pe, li, ba, D, st, hu⟩ = ⟨lv, h, ex, op, pe, li, ba, D, st, hu⟩) := by show _ = _; simp [grabS, grabB, k]
   have KV : Hid (endV lv h ex = _) := endV_f k; rw [K.out]; clear k
   go_enter Tryz.func106, Tryz.ntmps106
   go_wp2_with fail; refine (HE.out _ P.out).mono ?_; rw [KV.out]; rintro e w1 ⟨rfl, hb1⟩; have B1 : Hid (Below w.heap.size w w1) := hb1; have z1 := hb1.size; clear hb1; go_wp2; go_returns; exact ⟨rfl, (P.out.below (B1.out.alloc z1 _)), Turn.of_below (B1.out.alloc z1 _)⟩
 | true =>
   generalize hX : endX lv h ex = X at wx; generalize hY : endY lv h ex = Y at wy; generalize hZ : endZ lv h ex = Z at wz; have KV : Hid (endV lv h ex = .tuple #[.agg #[.int .i64 X, .int .i64 Y, .int .i64 Z], .bool true]) := by show _ = _; simp only [endV, hX, hY, hZ, k]
   by_cases kl : li = 0
   ·have K : Hid (grabS ⟨lv, h, ex, op, pe, li, ba, D, st, hu⟩ = ⟨lv, h, ex, op, pe, carOf D X Y Z, ba, D.del (pk X Y Z), st, hu⟩) := by show _ = _; simp [grabS, grabB, k, kl, hX, hY, hZ]
    obtain ⟨c, HCc⟩ : ∃ c, Hid (carOf D X Y Z = c) := ⟨_, rfl⟩
    rw [K.out, HCc.out]; have kl' : (li == 0) = true := by simpa using kl
    clear k hX hY hZ kl K
    go_enter Tryz.func106, Tryz.ntmps106
    go_wp2_with fail; refine (HE.out _ P.out).mono ?_; rw [KV.out]; rintro e w1 ⟨rfl, hb1⟩; have Z1 : Hid (Below w.heap.size w w1) := hb1; have z1 := hb1.size; have P1 : Hid (IsP (w1.alloc (.cells #[.int .i64 X, .int .i64 Y, .int .i64 Z] 65)) pb mb n ⟨lv, h, ex, op, pe, li, ba, D, st, hu⟩) := P.out.below (hb1.alloc z1 _); have d5 := P1.out.c5; simp only at d5; clear hb1 c2 HE; go_wp2_with fail; refine (at_any pb mb n D X Y Z _ P1.out.c7 P1.out.cars wx wy wz).mono ?_; rw [HCc.out]; rintro e w2 ⟨rfl, hb2⟩; have P2 : Hid (IsP w2 pb mb n ⟨lv, h, ex, op, pe, li, ba, D, st, hu⟩) := P1.out.below hb2; have Z2 : Hid (Below w.heap.size w w2) := B.next (Z1.out.alloc z1 _) hb2 (by simp; omega); have s2 := B.row hb2 (B.row_new w1 _ _) (by simp); have f5 := P2.out.free 5; have c5 := P2.out.c5; simp only at c5; have P3 : Hid (IsP (w2.setCell ⟨pb, 5, none⟩ (.int .i64 c)).drew pb mb n ⟨lv, h, ex, op, pe, c, ba, D, st, hu⟩) := (IsP.set (s' := ⟨lv, h, ex, op, pe, c, ba, D, st, hu⟩) P2.out 5 (.int .i64 c) rfl rfl).drew; have c7 := P3.out.c7; have hw1 : pb < w1.heap.size := Nat.lt_of_lt_of_le P.out.lt z1; have s3 : ∀ o, (w2.setCell ⟨pb, 5, none⟩ (.int .i64 c)).drew.cell? ⟨w1.heap.size, o, none⟩ = (#[.int .i64 X, .int .i64 Y, .int .i64 Z] : Array Value)[o]? := fun o => (World.cell?_setCell_far w2 ⟨pb, 5, none⟩ ⟨w1.heap.size, o, none⟩ _ (by simp; omega)).trans (s2 o)
    obtain ⟨w3, hrun, hown3, hturn⟩ := P3.out.cars.drop law Tryz.underlying90 (key_place wx wy wz) 0; have Q3 : Hid (IsP w3 pb mb n ⟨lv, h, ex, op, pe, c, ba, D.del (pk X Y Z), st, hu⟩) := P3.out.map hturn hown3; have T3 : Hid (Turn pb mb w w3) := (((Turn.of_below Z2.out).trans (Turn.set _ _ _)).trans (Turn.drew _)).trans (Turn.map hturn); clear hb2 hown3 hturn d5; go_wp2_with fail
    go_region
    go_wp2; go_returns; exact ⟨rfl, Q3.out, T3.out⟩
   ·have K : Hid (grabS ⟨lv, h, ex, op, pe, li, ba, D, st, hu⟩ = ⟨lv, h, ex, op, pe, li, ba, D, st, hu⟩) := by show _ = _; simp [grabS, grabB, kl]
    have kl' : (li == 0) = false := by simpa using kl
    rw [K.out]; clear k hX hY hZ kl K
    go_enter Tryz.func106, Tryz.ntmps106
    go_wp2_with fail; refine (HE.out _ P.out).mono ?_; rw [KV.out]; rintro e w1 ⟨rfl, hb1⟩; have Z1 : Hid (Below w.heap.size w w1) := hb1; have z1 := hb1.size; have d5 := (P.out.below (hb1.alloc z1 (.cells #[.int .i64 X, .int .i64 Y, .int .i64 Z] 65))).c5; simp only at d5; clear hb1; go_wp2; go_returns; exact ⟨rfl, (P.out.below (Z1.out.alloc z1 _)), Turn.of_below (Z1.out.alloc z1 _)⟩
end Pl
namespace Pl
theorem IsP.mono {w : World} {pb mb n : Nat} {s : St} (h : IsP w pb mb n s) : IsP w pb mb (n + 1) s := ⟨h.row, World.ownsMap.mono h.cars (Nat.le_succ n)⟩
def putB (s : St) : Bool := endB s.lv s.h s.ex && s.li != 0 && carAtI s.D s.lv s.h s.ex == 0
def putS (s : St) : St := if putB s = true then { s with li := 0, D := s.D.put (pk (endX s.lv s.h s.ex) (endY s.lv s.h s.ex) (endZ s.lv s.h s.ex)) (.lit (.int .i64 s.li)) } else s
set_option maxHeartbeats 2000000 in
theorem put_any (pb mb n : Nat) (s : St) (w : World) (hp : IsP w pb mb n s) (ok : Ok s) (hn : n < maxLen) (hl : (Lit.int .i64 s.li).wf = true) :
  Calls Tryz.prog 107 #[.pointer (some ⟨pb, 0, none⟩)] w fun e w' => e = .returned (.tuple #[]) ∧ IsP w' pb mb (n + 1) (putS s) ∧ Turn pb mb w w' := by
 obtain ⟨lv, h, ex, op, pe, li, ba, D, st, hu⟩ := s; obtain ⟨lv1, lv4, h0, h12, e0, e2⟩ := ok; simp only at lv1 lv4 h0 h12 e0 e2 hl; obtain ⟨wx, wy, wz⟩ := end_wf (lv := lv) (h := h) (ex := ex) h0 (by omega) (by omega) (by omega); have P : Hid (IsP w pb mb n ⟨lv, h, ex, op, pe, li, ba, D, st, hu⟩) := hp; have c2 := hp.c2; simp only at c2; have HE : Hid (∀ w, IsP w pb mb n ⟨lv, h, ex, op, pe, li, ba, D, st, hu⟩ → Calls Tryz.prog 76 #[.pointer (some ⟨pb, 0, none⟩), .int .i64 ex] w fun e w' => e = .returned (endV lv h ex) ∧ Below w.heap.size w w') := fun w hp => end_any pb lv h ex w hp.c0 hp.c1 h0 (by omega) (by omega) (by omega)
 clear hp
 cases k : endB lv h ex with
 | false =>
   have K : Hid (putS ⟨lv, h, ex, op, pe, li, ba, D, st, hu⟩ = ⟨lv, h, ex, op, pe, li, ba, D, st, hu⟩) := by show _ = _; simp [putS, putB, k]
   have KV : Hid (endV lv h ex = _) := endV_f k; rw [K.out]; clear k
   go_enter Tryz.func107, Tryz.ntmps107
   go_wp2_with fail; refine (HE.out _ P.out).mono ?_; rw [KV.out]; rintro e w1 ⟨rfl, hb1⟩; have B1 : Hid (Below w.heap.size w w1) := hb1; have z1 := hb1.size; clear hb1; go_wp2; go_returns; exact ⟨rfl, (P.out.below (B1.out.alloc z1 _)).mono, Turn.of_below (B1.out.alloc z1 _)⟩
 | true =>
   generalize hX : endX lv h ex = X at wx; generalize hY : endY lv h ex = Y at wy; generalize hZ : endZ lv h ex = Z at wz; have KV : Hid (endV lv h ex = .tuple #[.agg #[.int .i64 X, .int .i64 Y, .int .i64 Z], .bool true]) := by show _ = _; simp only [endV, hX, hY, hZ, k]
   have KA : carAtI D lv h ex = carOf D X Y Z := by simp [carAtI, k, hX, hY, hZ]
   obtain ⟨c, HCc⟩ : ∃ c, Hid (carOf D X Y Z = c) := ⟨_, rfl⟩
   rw [HCc.out] at KA
   by_cases kl : li = 0
   ·have K : Hid (putS ⟨lv, h, ex, op, pe, li, ba, D, st, hu⟩ = ⟨lv, h, ex, op, pe, li, ba, D, st, hu⟩) := by show _ = _; simp [putS, putB, kl]
    have kl' : (li == 0) = true := by simpa using kl
    rw [K.out]; clear k hX hY hZ kl K KA
    go_enter Tryz.func107, Tryz.ntmps107
    go_wp2_with fail; refine (HE.out _ P.out).mono ?_; rw [KV.out]; rintro e w1 ⟨rfl, hb1⟩; have Z1 : Hid (Below w.heap.size w w1) := hb1; have z1 := hb1.size; have P1 : Hid (IsP (w1.alloc (.cells #[.int .i64 X, .int .i64 Y, .int .i64 Z] 65)) pb mb n ⟨lv, h, ex, op, pe, li, ba, D, st, hu⟩) := P.out.below (hb1.alloc z1 _); have d5 := P1.out.c5; simp only at d5; clear hb1 c2 HE; go_wp2; go_returns; exact ⟨rfl, (P.out.below (Z1.out.alloc z1 _)).mono, Turn.of_below (Z1.out.alloc z1 _)⟩
   ·have kl' : (li == 0) = false := by simpa using kl
    by_cases kc : c = 0
    ·have K : Hid (putS ⟨lv, h, ex, op, pe, li, ba, D, st, hu⟩ = ⟨lv, h, ex, op, pe, 0, ba, D.put (pk X Y Z) (.lit (.int .i64 li)), st, hu⟩) := by show _ = _; simp [putS, putB, k, kl, KA, kc, hX, hY, hZ]
     have kc' : (c == 0) = true := by simpa using kc
     rw [K.out]; clear k hX hY hZ kl K KA kc
     go_enter Tryz.func107, Tryz.ntmps107
     go_wp2_with fail; refine (HE.out _ P.out).mono ?_; rw [KV.out]; rintro e w1 ⟨rfl, hb1⟩; have Z1 : Hid (Below w.heap.size w w1) := hb1; have z1 := hb1.size; have P1 : Hid (IsP (w1.alloc (.cells #[.int .i64 X, .int .i64 Y, .int .i64 Z] 65)) pb mb n ⟨lv, h, ex, op, pe, li, ba, D, st, hu⟩) := P.out.below (hb1.alloc z1 _); have d5 := P1.out.c5; simp only at d5; clear hb1 c2 HE; go_wp2_with fail; refine (at_any pb mb n D X Y Z _ P1.out.c7 P1.out.cars wx wy wz).mono ?_; rw [HCc.out]; rintro e w2 ⟨rfl, hb2⟩; have P2 : Hid (IsP w2.drew pb mb n ⟨lv, h, ex, op, pe, li, ba, D, st, hu⟩) := (P1.out.below hb2).drew; have Z2 : Hid (Below w.heap.size w w2) := B.next (Z1.out.alloc z1 _) hb2 (by simp; omega); have s2 := B.row hb2 (B.row_new w1 _ _) (by simp); have f5 := P2.out.free 5; have c5 := P2.out.c5; have c7 := P2.out.c7; have c5' : w2.cell? ⟨pb, 5, none⟩ = _ := c5; have c7' : w2.cell? ⟨pb, 7, none⟩ = _ := c7; simp only at c5 c5' c7 c7'; obtain ⟨w3, hrun, hown3, hturn⟩ := P2.out.cars.store law Tryz.underlying90 hn (key_place wx wy wz) (plainElem_int (H := Unit) Tryz.underlying3 hl); have Q3 : Hid (IsP w3 pb mb (n + 1) ⟨lv, h, ex, op, pe, li, ba, D.put (pk X Y Z) (.lit (.int .i64 li)), st, hu⟩) := P2.out.map hturn hown3; have T3 : Hid (Turn pb mb w w3) := ((Turn.of_below Z2.out).trans (Turn.drew _)).trans (Turn.map hturn); have g5 := Q3.out.c5; have h5 := Q3.out.free 5; simp only at g5; clear hb2 hown3 hturn d5; go_wp2_with fail
     go_region
     go_wp2; go_returns; exact ⟨rfl, Q3.out.set 5 _ rfl rfl, T3.out.trans (Turn.set _ _ _)⟩
    ·have K : Hid (putS ⟨lv, h, ex, op, pe, li, ba, D, st, hu⟩ = ⟨lv, h, ex, op, pe, li, ba, D, st, hu⟩) := by show _ = _; simp [putS, putB, KA, kc]
     have kc' : (c == 0) = false := by simpa using kc
     rw [K.out]; clear k hX hY hZ kl K KA kc
     go_enter Tryz.func107, Tryz.ntmps107
     go_wp2_with fail; refine (HE.out _ P.out).mono ?_; rw [KV.out]; rintro e w1 ⟨rfl, hb1⟩; have Z1 : Hid (Below w.heap.size w w1) := hb1; have z1 := hb1.size; have P1 : Hid (IsP (w1.alloc (.cells #[.int .i64 X, .int .i64 Y, .int .i64 Z] 65)) pb mb n ⟨lv, h, ex, op, pe, li, ba, D, st, hu⟩) := P.out.below (hb1.alloc z1 _); have d5 := P1.out.c5; simp only at d5; clear hb1 c2 HE; go_wp2_with fail; refine (at_any pb mb n D X Y Z _ P1.out.c7 P1.out.cars wx wy wz).mono ?_; rw [HCc.out]; rintro e w2 ⟨rfl, hb2⟩; have P2 : Hid (IsP w2 pb mb n ⟨lv, h, ex, op, pe, li, ba, D, st, hu⟩) := P1.out.below hb2; have Z2 : Hid (Below w.heap.size w w2) := B.next (Z1.out.alloc z1 _) hb2 (by simp; omega); clear hb2; go_wp2; go_returns; exact ⟨rfl, P2.out.mono, Turn.of_below Z2.out⟩
end Pl
end Go.Proofs.YtopgllmjeliklaaGreatDoor
