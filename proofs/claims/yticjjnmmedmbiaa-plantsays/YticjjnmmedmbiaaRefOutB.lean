/- One act on a machine and on the document's machine, told by the statement's own function: both answer alike, and become alike (B3, B4). -/
import Derived.Test.YticjjnmmedmbiaaRefOut
namespace Go.Proofs.Yticjjnmmedmbiaa
open Go.ChangeShapes Go.WideShapes Go.ChangeAt Go.RowKit Go.Maps
set_option maxRecDepth 100000
set_option linter.unusedSimpArgs false
set_option linter.unusedVariables false

namespace Pl
open Ac
theorem Two.drew {pb mb rb n : Nat} {w0 w : World} {sp sr : St} {N : Nat} {o : Obj} (h : Two pb mb rb n w0 w sp sr N o) : Two pb mb rb n w0 w.drew sp sr N o :=
  ⟨h.p.drew, h.r.drew, h.t.trans (.of_below (Below.refl _ _).drew), (((Below.refl w.heap.size w).drew).block N (Array.getElem?_eq_some_iff.1 h.b).1).trans h.b⟩

set_option maxHeartbeats 4000000 in
theorem lout_any (pb mb rb n : Nat) (s : St) (x : ActC) (w : World) (hp : IsP w pb mb n s) (hr : IsR w rb s) (iv : Inv s) (hn : n < maxLen) :
    Calls Try.prog 38 #[.pointer (some ⟨pb, 0, none⟩), .pointer (some ⟨rb, 0, none⟩), .agg x.vals] w fun e w' => e = .returned (.bool true) ∧ IsP w' pb mb (n + 1) (outS x s) ∧ IsR w' rb (outS x s) ∧ Turn3 pb mb rb w w' := by
  unfold ActC.vals
  have hN : w.heap.size ≠ pb ∧ w.heap.size ≠ mb ∧ w.heap.size ≠ rb := ⟨by have := hp.lt; omega, by have := hp.ltm; omega, by have := hr.lt; omega⟩
  obtain ⟨w0, hw0⟩ : ∃ w0, w.alloc (.cells #[.string x.kind, .int .i64 x.a, .int .i64 x.b, .int .i64 x.c0, .int .i64 x.c1, .int .i64 x.c2, .int .i64 x.c3, .string x.s, .int .u64 x.k, .int .i64 x.last, .slice x.sa x.sl x.sc, .slice x.ja x.jl x.jc] 64 (0, 0)) = w0 := ⟨_, rfl⟩
  have T0 : Hid (Two pb mb rb n w w0 s s w.heap.size (.cells #[.string x.kind, .int .i64 x.a, .int .i64 x.b, .int .i64 x.c0, .int .i64 x.c1, .int .i64 x.c2, .int .i64 x.c3, .string x.s, .int .u64 x.k, .int .i64 x.last, .slice x.sa x.sl x.sc, .slice x.ja x.jl x.jc] 64 (0, 0))) := by
    show Two _ _ _ _ _ _ _ _ _ _
    rw [← hw0]
    exact ⟨hp.below (B.new1 _ _), hr.below (B.new1 _ _), .of_below (B.new1 _ _), Array.getElem?_push_size⟩
  have WP : Hid (∀ wx sr, Two pb mb rb n w wx s sr w.heap.size (.cells #[.string x.kind, .int .i64 x.a, .int .i64 x.b, .int .i64 x.c0, .int .i64 x.c1, .int .i64 x.c2, .int .i64 x.c3, .string x.s, .int .u64 x.k, .int .i64 x.last, .slice x.sa x.sl x.sc, .slice x.ja x.jl x.jc] 64 (0, 0)) → Calls Try.prog 72 #[.pointer (some ⟨pb, 0, none⟩), .int .i64 x.a] wx fun e w' => e = .returned (errV (walkN x.a s)) ∧ Two pb mb rb n w w' (walkS x.a s) sr w.heap.size (.cells #[.string x.kind, .int .i64 x.a, .int .i64 x.b, .int .i64 x.c0, .int .i64 x.c1, .int .i64 x.c2, .int .i64 x.c3, .string x.s, .int .u64 x.k, .int .i64 x.last, .slice x.sa x.sl x.sc, .slice x.ja x.jl x.jc] 64 (0, 0))) := fun wx sr h => by
    refine (walk_any pb mb n s x.a wx h.p iv.pe.1 iv.pe.2).mono ?_
    rintro e w1 ⟨rfl, p1, t1⟩
    exact ⟨by rw [walkE_N], h.turn_p hN p1 t1⟩
  have WR : Hid (∀ wx sp, Two pb mb rb n w wx sp s w.heap.size (.cells #[.string x.kind, .int .i64 x.a, .int .i64 x.b, .int .i64 x.c0, .int .i64 x.c1, .int .i64 x.c2, .int .i64 x.c3, .string x.s, .int .u64 x.k, .int .i64 x.last, .slice x.sa x.sl x.sc, .slice x.ja x.jl x.jc] 64 (0, 0)) → Calls Try.prog 73 #[.pointer (some ⟨rb, 0, none⟩), .int .i64 x.a] wx fun e w' => e = .returned (.int .i64 (walkN x.a s)) ∧ Two pb mb rb n w w' sp (walkS x.a s) w.heap.size (.cells #[.string x.kind, .int .i64 x.a, .int .i64 x.b, .int .i64 x.c0, .int .i64 x.c1, .int .i64 x.c2, .int .i64 x.c3, .string x.s, .int .u64 x.k, .int .i64 x.last, .slice x.sa x.sl x.sc, .slice x.ja x.jl x.jc] 64 (0, 0))) := fun wx sp h => by
    refine (rwalk_any rb s x.a wx h.r iv.pe.1 iv.pe.2).mono ?_
    rintro e w1 ⟨rfl, r1, t1⟩
    exact ⟨rfl, h.turn_r hN r1 t1⟩
  have AP : Hid (∀ wx sr, Two pb mb rb n w wx s sr w.heap.size (.cells #[.string x.kind, .int .i64 x.a, .int .i64 x.b, .int .i64 x.c0, .int .i64 x.c1, .int .i64 x.c2, .int .i64 x.c3, .string x.s, .int .u64 x.k, .int .i64 x.last, .slice x.sa x.sl x.sc, .slice x.ja x.jl x.jc] 64 (0, 0)) → Calls Try.prog 62 #[.pointer (some ⟨pb, 0, none⟩), .int .i64 x.a] wx fun e w' => e = .returned (errV (arriveN x.a s)) ∧ Two pb mb rb n w w' (arriveS x.a s) sr w.heap.size (.cells #[.string x.kind, .int .i64 x.a, .int .i64 x.b, .int .i64 x.c0, .int .i64 x.c1, .int .i64 x.c2, .int .i64 x.c3, .string x.s, .int .u64 x.k, .int .i64 x.last, .slice x.sa x.sl x.sc, .slice x.ja x.jl x.jc] 64 (0, 0))) := fun wx sr h => by
    refine (arrive_any pb mb n s x.a wx h.p iv).mono ?_
    rintro e w1 ⟨rfl, p1, t1⟩
    exact ⟨by rw [arriveE_N], h.turn_p hN p1 t1⟩
  have AR : Hid (∀ wx sp, Two pb mb rb n w wx sp s w.heap.size (.cells #[.string x.kind, .int .i64 x.a, .int .i64 x.b, .int .i64 x.c0, .int .i64 x.c1, .int .i64 x.c2, .int .i64 x.c3, .string x.s, .int .u64 x.k, .int .i64 x.last, .slice x.sa x.sl x.sc, .slice x.ja x.jl x.jc] 64 (0, 0)) → Calls Try.prog 74 #[.pointer (some ⟨rb, 0, none⟩), .int .i64 x.a] wx fun e w' => e = .returned (.int .i64 (arriveN x.a s)) ∧ Two pb mb rb n w w' sp (arriveS x.a s) w.heap.size (.cells #[.string x.kind, .int .i64 x.a, .int .i64 x.b, .int .i64 x.c0, .int .i64 x.c1, .int .i64 x.c2, .int .i64 x.c3, .string x.s, .int .u64 x.k, .int .i64 x.last, .slice x.sa x.sl x.sc, .slice x.ja x.jl x.jc] 64 (0, 0))) := fun wx sp h => by
    refine (rarrive_any rb s x.a wx h.r iv).mono ?_
    rintro e w1 ⟨rfl, r1, t1⟩
    exact ⟨rfl, h.turn_r hN r1 t1⟩
  have SP : Hid (∀ wx sr, Two pb mb rb n w wx s sr w.heap.size (.cells #[.string x.kind, .int .i64 x.a, .int .i64 x.b, .int .i64 x.c0, .int .i64 x.c1, .int .i64 x.c2, .int .i64 x.c3, .string x.s, .int .u64 x.k, .int .i64 x.last, .slice x.sa x.sl x.sc, .slice x.ja x.jl x.jc] 64 (0, 0)) → Calls Try.prog 76 #[.pointer (some ⟨pb, 0, none⟩), .int .i64 x.a] wx fun e w' => e = .returned (errV (if 0 ≤ x.a ∧ x.a ≤ 5 then 0 else 1)) ∧ Two pb mb rb n w w' (stallS x.a s) sr w.heap.size (.cells #[.string x.kind, .int .i64 x.a, .int .i64 x.b, .int .i64 x.c0, .int .i64 x.c1, .int .i64 x.c2, .int .i64 x.c3, .string x.s, .int .u64 x.k, .int .i64 x.last, .slice x.sa x.sl x.sc, .slice x.ja x.jl x.jc] 64 (0, 0))) := fun wx sr h => by
    refine (stall_any pb mb n s x.a wx h.p).mono ?_
    rintro e w1 ⟨rfl, p1, t1⟩
    exact ⟨by rw [stallE_N], h.turn_p hN p1 t1⟩
  have SR : Hid (∀ wx sp, Two pb mb rb n w wx sp s w.heap.size (.cells #[.string x.kind, .int .i64 x.a, .int .i64 x.b, .int .i64 x.c0, .int .i64 x.c1, .int .i64 x.c2, .int .i64 x.c3, .string x.s, .int .u64 x.k, .int .i64 x.last, .slice x.sa x.sl x.sc, .slice x.ja x.jl x.jc] 64 (0, 0)) → Calls Try.prog 77 #[.pointer (some ⟨rb, 0, none⟩), .int .i64 x.a] wx fun e w' => e = .returned (.int .i64 (if 0 ≤ x.a ∧ x.a ≤ 5 then 0 else 1)) ∧ Two pb mb rb n w w' sp (stallS x.a s) w.heap.size (.cells #[.string x.kind, .int .i64 x.a, .int .i64 x.b, .int .i64 x.c0, .int .i64 x.c1, .int .i64 x.c2, .int .i64 x.c3, .string x.s, .int .u64 x.k, .int .i64 x.last, .slice x.sa x.sl x.sc, .slice x.ja x.jl x.jc] 64 (0, 0))) := fun wx sp h => by
    refine (rstall_any rb s x.a wx h.r).mono ?_
    rintro e w1 ⟨rfl, r1, t1⟩
    exact ⟨rfl, h.turn_r hN r1 t1⟩
  have LP : Hid (∀ wx sr, Two pb mb rb n w wx s sr w.heap.size (.cells #[.string x.kind, .int .i64 x.a, .int .i64 x.b, .int .i64 x.c0, .int .i64 x.c1, .int .i64 x.c2, .int .i64 x.c3, .string x.s, .int .u64 x.k, .int .i64 x.last, .slice x.sa x.sl x.sc, .slice x.ja x.jl x.jc] 64 (0, 0)) → Calls Try.prog 63 #[.pointer (some ⟨pb, 0, none⟩)] wx fun e w' => e = .returned (.tuple #[.int .i64 (if leaveB s = true then s.ba else 0), errV (if leaveB s = true then 0 else 7)]) ∧ Two pb mb rb n w w' (leaveS s) sr w.heap.size (.cells #[.string x.kind, .int .i64 x.a, .int .i64 x.b, .int .i64 x.c0, .int .i64 x.c1, .int .i64 x.c2, .int .i64 x.c3, .string x.s, .int .u64 x.k, .int .i64 x.last, .slice x.sa x.sl x.sc, .slice x.ja x.jl x.jc] 64 (0, 0))) := fun wx sr h => by
    refine (leave_any pb mb n s wx h.p).mono ?_
    rintro e w1 ⟨rfl, p1, t1⟩
    exact ⟨by unfold leaveV; split <;> rfl, h.turn_p hN p1 t1⟩
  have LR : Hid (∀ wx sp, Two pb mb rb n w wx sp s w.heap.size (.cells #[.string x.kind, .int .i64 x.a, .int .i64 x.b, .int .i64 x.c0, .int .i64 x.c1, .int .i64 x.c2, .int .i64 x.c3, .string x.s, .int .u64 x.k, .int .i64 x.last, .slice x.sa x.sl x.sc, .slice x.ja x.jl x.jc] 64 (0, 0)) → Calls Try.prog 75 #[.pointer (some ⟨rb, 0, none⟩)] wx fun e w' => e = .returned (.tuple #[.int .i64 (if leaveB s = true then s.ba else 0), .int .i64 (if leaveB s = true then 0 else 7)]) ∧ Two pb mb rb n w w' sp (leaveS s) w.heap.size (.cells #[.string x.kind, .int .i64 x.a, .int .i64 x.b, .int .i64 x.c0, .int .i64 x.c1, .int .i64 x.c2, .int .i64 x.c3, .string x.s, .int .u64 x.k, .int .i64 x.last, .slice x.sa x.sl x.sc, .slice x.ja x.jl x.jc] 64 (0, 0))) := fun wx sp h => by
    refine (rleave_any rb s wx h.r).mono ?_
    rintro e w1 ⟨rfl, r1, t1⟩
    exact ⟨rfl, h.turn_r hN r1 t1⟩
  have PP : Hid (∀ wx sr c, Two pb mb rb n w wx s sr w.heap.size (.cells #[.string x.kind, .int .i64 x.a, .int .i64 x.b, .int .i64 x.c0, .int .i64 x.c1, .int .i64 x.c2, .int .i64 x.c3, .string x.s, .int .u64 x.k, .int .i64 x.last, .slice x.sa x.sl x.sc, .slice x.ja x.jl x.jc] 64 (0, 0)) → Calls Try.prog 68 #[.pointer (some ⟨pb, 0, none⟩), .int .u8 c] wx fun e w' => e = .returned (.tuple #[]) ∧ Two pb mb rb (n + 1) w w' (stepS c s) sr w.heap.size (.cells #[.string x.kind, .int .i64 x.a, .int .i64 x.b, .int .i64 x.c0, .int .i64 x.c1, .int .i64 x.c2, .int .i64 x.c3, .string x.s, .int .u64 x.k, .int .i64 x.last, .slice x.sa x.sl x.sc, .slice x.ja x.jl x.jc] 64 (0, 0))) := fun wx sr c h => by
    refine (step_any pb mb n s c wx h.p iv.ok hn iv.wf iv.st.2).mono ?_
    rintro e w1 ⟨rfl, p1, t1⟩
    exact ⟨rfl, h.turn_p hN p1 t1⟩
  have PR : Hid (∀ wx sp c, Two pb mb rb (n + 1) w wx sp s w.heap.size (.cells #[.string x.kind, .int .i64 x.a, .int .i64 x.b, .int .i64 x.c0, .int .i64 x.c1, .int .i64 x.c2, .int .i64 x.c3, .string x.s, .int .u64 x.k, .int .i64 x.last, .slice x.sa x.sl x.sc, .slice x.ja x.jl x.jc] 64 (0, 0)) → Calls Try.prog 71 #[.pointer (some ⟨rb, 0, none⟩), .int .u8 c] wx fun e w' => e = .returned (.tuple #[]) ∧ Two pb mb rb (n + 1) w w' sp (stepS c s) w.heap.size (.cells #[.string x.kind, .int .i64 x.a, .int .i64 x.b, .int .i64 x.c0, .int .i64 x.c1, .int .i64 x.c2, .int .i64 x.c3, .string x.s, .int .u64 x.k, .int .i64 x.last, .slice x.sa x.sl x.sc, .slice x.ja x.jl x.jc] 64 (0, 0))) := fun wx sp c h => by
    refine (rstep_any rb s c wx h.r iv).mono ?_
    rintro e w1 ⟨rfl, r1, t1⟩
    exact ⟨rfl, h.turn_r hN r1 t1⟩
  have SW : Hid (∀ wx, Calls Try.prog 15 #[errV (walkN x.a s), .int .i64 (walkN x.a s)] wx fun e w' => e = .returned (.bool true) ∧ w' = wx) := fun wx => same_any _ wx (walkN_0 _ _)
  have SA : Hid (∀ wx, Calls Try.prog 15 #[errV (arriveN x.a s), .int .i64 (arriveN x.a s)] wx fun e w' => e = .returned (.bool true) ∧ w' = wx) := fun wx => same_any _ wx (arriveN_0 _ _)
  have SS : Hid (∀ wx, Calls Try.prog 15 #[errV (if 0 ≤ x.a ∧ x.a ≤ 5 then 0 else 1), .int .i64 (if 0 ≤ x.a ∧ x.a ≤ 5 then 0 else 1)] wx fun e w' => e = .returned (.bool true) ∧ w' = wx) := fun wx => same_any _ wx (by split <;> omega)
  have SL : Hid (∀ wx, Calls Try.prog 15 #[errV (if leaveB s = true then 0 else 7), .int .i64 (if leaveB s = true then 0 else 7)] wx fun e w' => e = .returned (.bool true) ∧ w' = wx) := fun wx => same_any _ wx (by split <;> omega)
  generalize errV (walkN x.a s) = e1 at *
  generalize walkN x.a s = k1 at *
  generalize errV (arriveN x.a s) = e2 at *
  generalize arriveN x.a s = k2 at *
  generalize errV (if 0 ≤ x.a ∧ x.a ≤ 5 then 0 else 1) = e3 at *
  generalize (if 0 ≤ x.a ∧ x.a ≤ 5 then (0 : Int) else 1) = k3 at *
  generalize errV (if leaveB s = true then 0 else 7) = e4 at *
  generalize (if leaveB s = true then (0 : Int) else 7) = k4 at *
  generalize (if leaveB s = true then s.ba else 0) = k5 at *
  have bx := T0.out.cell
  clear hp hr iv hn
  go_enter Try.func38, Try.ntmps38
  go_wp2_with fail
  · rw [byte0_of]
    refine (PP.out _ _ _ T0.out).mono ?_
    rintro e w1 ⟨rfl, t1⟩
    have T1 : Hid (Two _ _ _ _ _ w1 _ _ _ _) := t1
    clear t1
    go_wp2_with fail
    refine (PR.out _ _ _ T1.out).mono ?_
    rintro e w2 ⟨rfl, t2⟩
    have T2 : Hid (Two _ _ _ _ _ w2 _ _ _ _) := t2
    clear t2
    go_wp2
    go_returns
    exact ⟨rfl, by rw [outS_step ‹_›]; exact T2.out.p, by rw [outS_step ‹_›]; exact T2.out.r, T2.out.t⟩
  · refine (PP.out _ _ _ T0.out).mono ?_
    rintro e w1 ⟨rfl, t1⟩
    have T1 : Hid (Two _ _ _ _ _ w1 _ _ _ _) := t1
    clear t1
    go_wp2_with fail
    refine (PR.out _ _ _ T1.out).mono ?_
    rintro e w2 ⟨rfl, t2⟩
    have T2 : Hid (Two _ _ _ _ _ w2 _ _ _ _) := t2
    clear t2
    go_wp2
    go_returns
    exact ⟨rfl, by rw [outS_step ‹_›, byte0_none ‹_›]; exact T2.out.p, by rw [outS_step ‹_›, byte0_none ‹_›]; exact T2.out.r, T2.out.t⟩
  · go_region_with (first
      | (go_at_call 72; refine (WP.out _ _ (by first | exact T1.out | exact T0.out.drew)).mono ?_; rintro e w1 ⟨rfl, t1⟩; have T1 : Hid (Two _ _ _ _ _ w1 _ _ _ _) := t1; have bx1 := t1.cell; clear t1)
      | (go_at_call 73; refine (WR.out _ _ (by first | exact T1.out | exact T0.out.drew)).mono ?_; rintro e w1 ⟨rfl, t1⟩; have T1 : Hid (Two _ _ _ _ _ w1 _ _ _ _) := t1; have bx1 := t1.cell; clear t1)
      | (go_at_call 15; refine ((SW.out _).mono ?_); rintro e w1 ⟨rfl, rfl⟩))
    all_goals go_wp2
    all_goals go_returns
    all_goals exact ⟨rfl, by rw [outS_walk ‹_› ‹_›]; exact T1.out.p.mono, by rw [outS_walk ‹_› ‹_›]; exact T1.out.r, T1.out.t⟩
  · go_region_with (first
      | (go_at_call 62; refine (AP.out _ _ (by first | exact T1.out | exact T0.out.drew)).mono ?_; rintro e w1 ⟨rfl, t1⟩; have T1 : Hid (Two _ _ _ _ _ w1 _ _ _ _) := t1; have bx1 := t1.cell; clear t1)
      | (go_at_call 74; refine (AR.out _ _ (by first | exact T1.out | exact T0.out.drew)).mono ?_; rintro e w1 ⟨rfl, t1⟩; have T1 : Hid (Two _ _ _ _ _ w1 _ _ _ _) := t1; have bx1 := t1.cell; clear t1)
      | (go_at_call 15; refine ((SA.out _).mono ?_); rintro e w1 ⟨rfl, rfl⟩))
    all_goals go_wp2
    all_goals go_returns
    all_goals exact ⟨rfl, by rw [outS_arrive ‹_› ‹_› ‹_›]; exact T1.out.p.mono, by rw [outS_arrive ‹_› ‹_› ‹_›]; exact T1.out.r, T1.out.t⟩
  · refine (LP.out _ _ T0.out).mono ?_
    rintro e w1 ⟨rfl, t1⟩
    have T1 : Hid (Two _ _ _ _ _ w1 _ _ _ _) := t1
    clear t1
    go_wp2_with fail
    refine (LR.out _ _ T1.out).mono ?_
    rintro e w2 ⟨rfl, t2⟩
    have T2 : Hid (Two _ _ _ _ _ w2 _ _ _ _) := t2
    clear t2
    go_wp2_with fail
    refine (SL.out _).mono ?_
    rintro e w3 ⟨rfl, rfl⟩
    go_wp2
    go_returns
    exact ⟨rfl, by rw [outS_leave ‹_› ‹_› ‹_› ‹_›]; exact T2.out.p.mono, by rw [outS_leave ‹_› ‹_› ‹_› ‹_›]; exact T2.out.r, T2.out.t⟩
  · go_region_with (first
      | (go_at_call 76; refine (SP.out _ _ (by first | exact T1.out | exact T0.out.drew)).mono ?_; rintro e w1 ⟨rfl, t1⟩; have T1 : Hid (Two _ _ _ _ _ w1 _ _ _ _) := t1; have bx1 := t1.cell; clear t1)
      | (go_at_call 77; refine (SR.out _ _ (by first | exact T1.out | exact T0.out.drew)).mono ?_; rintro e w1 ⟨rfl, t1⟩; have T1 : Hid (Two _ _ _ _ _ w1 _ _ _ _) := t1; have bx1 := t1.cell; clear t1)
      | (go_at_call 15; refine ((SS.out _).mono ?_); rintro e w1 ⟨rfl, rfl⟩))
    all_goals go_wp2
    all_goals go_returns
    all_goals exact ⟨rfl, by rw [outS_stall ‹_› ‹_› ‹_› ‹_› ‹_›]; exact T1.out.p.mono, by rw [outS_stall ‹_› ‹_› ‹_› ‹_› ‹_›]; exact T1.out.r, T1.out.t⟩
  · go_returns
    exact ⟨rfl, by rw [outS_else ‹_› ‹_› ‹_› ‹_› ‹_›]; exact T0.out.p.mono, by rw [outS_else ‹_› ‹_› ‹_› ‹_› ‹_›]; exact T0.out.r, T0.out.t⟩

end Pl
end Go.Proofs.Yticjjnmmedmbiaa
