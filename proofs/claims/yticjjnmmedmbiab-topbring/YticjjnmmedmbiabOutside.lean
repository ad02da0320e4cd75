/- What comes from outside, or is done: one act on a machine; contract of the laws' own function. -/
import Derived.Test.YticjjnmmedmbiabPlantN
import Derived.Test.YticjjnmmedmbiabActs
namespace Go.Proofs.Yticjjnmmedmbiab
open Go.ChangeShapes Go.WideShapes Go.ChangeAt Go.RowKit Go.Maps
set_option maxRecDepth 100000
set_option linter.unusedSimpArgs false
set_option linter.unusedVariables false

namespace Pl
open Ac
/-- The first byte of a text; that of Rest, if there is none. -/
def byte0 (s : ByteArray) : Int := if h : 0 < s.size then ((s[0]'h).toNat : Int) else 45
theorem byte0_of {s : ByteArray} (h : 0 < s.size) : ((s[0]'h).toNat : Int) = byte0 s := by simp [byte0, h]
theorem byte0_none {s : ByteArray} (h : ¬ 0 < s.size) : byte0 s = 45 := by simp [byte0, h]
theorem step_rest (s : St) : stepS 45 s = s := by simp [stepS, doS]

def outS (x : ActC) (s : St) : St := if (x.kind.toList == [115, 116, 101, 112]) = true then stepS (byte0 x.s) s else if (x.kind.toList == [119, 97, 108, 107]) = true then walkS x.a s else if (x.kind.toList == [97, 114, 114, 105, 118, 101]) = true then arriveS x.a s else if (x.kind.toList == [108, 101, 97, 118, 101]) = true then leaveS s else if (x.kind.toList == [115, 116, 97, 108, 108]) = true then stallS x.a s else s
theorem outS_step {x : ActC} {s : St} (h : (x.kind.toList == [115, 116, 101, 112]) = true) : outS x s = stepS (byte0 x.s) s := by simp only [outS, h, if_true, Bool.false_eq_true, if_false]
theorem outS_walk {x : ActC} {s : St} (h0 : (x.kind.toList == [115, 116, 101, 112]) = false) (h : (x.kind.toList == [119, 97, 108, 107]) = true) : outS x s = walkS x.a s := by simp only [outS, h, h0, if_true, Bool.false_eq_true, if_false]
theorem outS_arrive {x : ActC} {s : St} (h0 : (x.kind.toList == [115, 116, 101, 112]) = false) (h1 : (x.kind.toList == [119, 97, 108, 107]) = false) (h : (x.kind.toList == [97, 114, 114, 105, 118, 101]) = true) : outS x s = arriveS x.a s := by simp only [outS, h, h0, h1, if_true, Bool.false_eq_true, if_false]
theorem outS_leave {x : ActC} {s : St} (h0 : (x.kind.toList == [115, 116, 101, 112]) = false) (h1 : (x.kind.toList == [119, 97, 108, 107]) = false) (h2 : (x.kind.toList == [97, 114, 114, 105, 118, 101]) = false) (h : (x.kind.toList == [108, 101, 97, 118, 101]) = true) : outS x s = leaveS s := by simp only [outS, h, h0, h1, h2, if_true, Bool.false_eq_true, if_false]
theorem outS_stall {x : ActC} {s : St} (h0 : (x.kind.toList == [115, 116, 101, 112]) = false) (h1 : (x.kind.toList == [119, 97, 108, 107]) = false) (h2 : (x.kind.toList == [97, 114, 114, 105, 118, 101]) = false) (h3 : (x.kind.toList == [108, 101, 97, 118, 101]) = false) (h : (x.kind.toList == [115, 116, 97, 108, 108]) = true) : outS x s = stallS x.a s := by simp only [outS, h, h0, h1, h2, h3, if_true, Bool.false_eq_true, if_false]
theorem outS_else {x : ActC} {s : St} (h0 : (x.kind.toList == [115, 116, 101, 112]) = false) (h1 : (x.kind.toList == [119, 97, 108, 107]) = false) (h2 : (x.kind.toList == [97, 114, 114, 105, 118, 101]) = false) (h3 : (x.kind.toList == [108, 101, 97, 118, 101]) = false) (h4 : (x.kind.toList == [115, 116, 97, 108, 108]) = false) : outS x s = s := by simp only [outS, h0, h1, h2, h3, h4, Bool.false_eq_true, if_false]

theorem Inv.out {s : St} (h : Inv s) (x : ActC) : Inv (outS x s) := by
  unfold outS
  split; · exact h.step _
  split; · exact h.walk _
  split; · exact h.arrive _
  split; · exact h.leave
  split; · exact h.stall _
  exact h

set_option maxHeartbeats 2000000 in
theorem out_any (pb mb n : Nat) (s : St) (x : ActC) (w : World) (hp : IsP w pb mb n s) (iv : Inv s) (hn : n < maxLen) :
    Calls Try.prog 15 #[.pointer (some ⟨pb, 0, none⟩), .agg x.vals] w fun e w' => e = .returned (.tuple #[]) ∧ IsP w' pb mb (n + 1) (outS x s) ∧ Turn pb mb w w' := by
  unfold ActC.vals
  have P : Hid (∀ o, IsP (w.alloc o) pb mb n s) := fun o => hp.below (B.new1 w o)
  have IV : Hid (Inv s) := iv
  have KS : Hid (∀ o, StepTo pb mb n (byte0 x.s) (w.alloc o) (stepS (byte0 x.s) s)) := fun o => step_any pb mb n s _ _ (P.out o) iv.ok hn iv.wf iv.st.2
  have KW : Hid (∀ o, Calls Try.prog 65 #[.pointer (some ⟨pb, 0, none⟩), .int .i64 x.a] (w.alloc o) fun e w' => e = .returned (walkE x.a s) ∧ IsP w' pb mb n (walkS x.a s) ∧ Turn pb mb (w.alloc o) w') := fun o => walk_any pb mb n s x.a _ (P.out o) iv.pe.1 iv.pe.2
  have KA : Hid (∀ o, Calls Try.prog 64 #[.pointer (some ⟨pb, 0, none⟩), .int .i64 x.a] (w.alloc o) fun e w' => e = .returned (arriveE x.a s) ∧ IsP w' pb mb n (arriveS x.a s) ∧ Turn pb mb (w.alloc o) w') := fun o => arrive_any pb mb n s x.a _ (P.out o) iv
  have KL : Hid (∀ o, Calls Try.prog 66 #[.pointer (some ⟨pb, 0, none⟩)] (w.alloc o) fun e w' => e = .returned (leaveV s) ∧ IsP w' pb mb n (leaveS s) ∧ Turn pb mb (w.alloc o) w') := fun o => leave_any pb mb n s _ (P.out o)
  have KT : Hid (∀ o, Calls Try.prog 67 #[.pointer (some ⟨pb, 0, none⟩), .int .i64 x.a] (w.alloc o) fun e w' => e = .returned (stallE x.a) ∧ IsP w' pb mb n (stallS x.a s) ∧ Turn pb mb (w.alloc o) w') := fun o => stall_any pb mb n s x.a _ (P.out o)
  have KV : Hid (leaveV s = .tuple #[.int .i64 (if leaveB s = true then s.ba else 0), if leaveB s = true then .nilIface else errV 7]) := rfl
  clear hp iv hn
  go_enter Try.func15, Try.ntmps15
  go_wp2_with fail
  · rw [byte0_of]
    refine (KS.out _).mono ?_
    rintro e w1 ⟨rfl, p1, t1⟩
    have P1 : Hid (IsP w1 pb mb _ _) := p1
    have T1 : Hid (Turn pb mb _ w1) := t1
    clear p1 t1
    go_wp2
    go_returns
    exact ⟨rfl, by rw [outS_step ‹_›]; exact P1.out, (Turn.of_below (B.new1 w _)).trans T1.out⟩
  · go_returns
    exact ⟨rfl, by rw [outS_step ‹_›, byte0_none ‹_›, step_rest]; exact (P.out _).mono, Turn.of_below (B.new1 w _)⟩
  · refine (KW.out _).mono ?_
    rintro e w1 ⟨rfl, p1, t1⟩
    have P1 : Hid (IsP w1 pb mb _ _) := p1
    have T1 : Hid (Turn pb mb _ w1) := t1
    clear p1 t1
    generalize walkE x.a s = ev
    go_wp2
    go_returns
    exact ⟨rfl, by rw [outS_walk ‹_› ‹_›]; exact P1.out.mono, (Turn.of_below (B.new1 w _)).trans T1.out⟩
  · refine (KA.out _).mono ?_
    rintro e w1 ⟨rfl, p1, t1⟩
    have P1 : Hid (IsP w1 pb mb _ _) := p1
    have T1 : Hid (Turn pb mb _ w1) := t1
    clear p1 t1
    generalize arriveE x.a s = ev
    go_wp2
    go_returns
    exact ⟨rfl, by rw [outS_arrive ‹_› ‹_› ‹_›]; exact P1.out.mono, (Turn.of_below (B.new1 w _)).trans T1.out⟩
  · refine (KL.out _).mono ?_
    rw [KV.out]
    rintro e w1 ⟨rfl, p1, t1⟩
    have P1 : Hid (IsP w1 pb mb _ _) := p1
    have T1 : Hid (Turn pb mb _ w1) := t1
    clear p1 t1 KV KL
    generalize (if leaveB s = true then s.ba else 0) = ev
    generalize (if leaveB s = true then Value.nilIface else errV 7) = ev2
    go_wp2
    go_returns
    exact ⟨rfl, by rw [outS_leave ‹_› ‹_› ‹_› ‹_›]; exact P1.out.mono, (Turn.of_below (B.new1 w _)).trans T1.out⟩
  · refine (KT.out _).mono ?_
    rintro e w1 ⟨rfl, p1, t1⟩
    have P1 : Hid (IsP w1 pb mb _ _) := p1
    have T1 : Hid (Turn pb mb _ w1) := t1
    clear p1 t1
    generalize stallE x.a = ev
    go_wp2
    go_returns
    exact ⟨rfl, by rw [outS_stall ‹_› ‹_› ‹_› ‹_› ‹_›]; exact P1.out.mono, (Turn.of_below (B.new1 w _)).trans T1.out⟩
  · go_returns
    exact ⟨rfl, by rw [outS_else ‹_› ‹_› ‹_› ‹_› ‹_›]; exact (P.out _).mono, Turn.of_below (B.new1 w _)⟩

end Pl
end Go.Proofs.Yticjjnmmedmbiab
