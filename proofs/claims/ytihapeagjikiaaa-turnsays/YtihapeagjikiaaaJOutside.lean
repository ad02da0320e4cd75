/- What comes from outside, or is done: one act on a machine; contract of the laws' own function. -/
import Derived.Test.YtihapeagjikiaaaJPlantK
import Derived.Test.YtihapeagjikiaaaJActs
namespace Go.Proofs.Ytihapeagjikiaaa
open Go.ChangeShapes Go.WideShapes Go.ChangeAt Go.RowKit Go.Maps
set_option maxRecDepth 100000
set_option linter.unusedSimpArgs false
set_option linter.unusedVariables false

namespace Pl
open Ac
/-- The first byte of a text; that of Rest, if there is none. -/
def byte0 (s : ByteArray) : Int := if h : 0 < s.size then ((s[0]'h).toNat : Int) else 45
theorem byte0_of {s : ByteArray} (h : 0 < s.size) : ((s[0]'h).toNat : Int) = byte0 s := by simp [byte0, h]
theorem byte0_none {s : ByteArray} (h : ¬ 0 < s.size) : byte0 s = 45 := by simp [byte0, h]
theorem step_rest (s : St) : stepS 45 s = s := by simp [stepS, doS]

def outS (x : ActC) (s : St) : St := if (x.kind.toList == [115, 116, 101, 112]) = true then stepS (byte0 x.s) s else if (x.kind.toList == [119, 97, 108, 107]) = true then walkS x.a s else if (x.kind.toList == [97, 114, 114, 105, 118, 101]) = true then arriveS x.a s else if (x.kind.toList == [108, 101, 97, 118, 101]) = true then leaveS s else if (x.kind.toList == [115, 116, 97, 108, 108]) = true then stallS x.a s else s
theorem outS_step {x : ActC} {s : St} (h : (x.kind.toList == [115, 116, 101, 112]) = true) : outS x s = stepS (byte0 x.s) s := by simp only [outS, h, if_true, Bool.false_eq_true, if_false]
theorem outS_walk {x : ActC} {s : St} (h0 : (x.kind.toList == [115, 116, 101, 112]) = false) (h : (x.kind.toList == [119, 97, 108, 107]) = true) : outS x s = walkS x.a s := by simp only [outS, h, h0, if_true, Bool.false_eq_true, if_false]
theorem outS_arrive {x : ActC} {s : St} (h0 : (x.kind.toList == [115, 116, 101, 112]) = false) (h1 : (x.kind.toList == [119, 97, 108, 107]) = false) (h : (x.kind.toList == [97, 114, 114, 105, 118, 101]) = true) : outS x s = arriveS x.a s := by simp only [outS, h, h0, h1, if_true, Bool.false_eq_true, if_false]
theorem outS_leave {x : ActC} {s : St} (h0 : (x.kind.toList == [115, 116, 101, 112]) = false) (h1 : (x.kind.toList == [119, 97, 108, 107]) = false) (h2 : (x.kind.toList == [97, 114, 114, 105, 118, 101]) = false) (h : (x.kind.toList == [108, 101, 97, 118, 101]) = true) : outS x s = leaveS s := by simp only [outS, h, h0, h1, h2, if_true, Bool.false_eq_true, if_false]
theorem outS_stall {x : ActC} {s : St} (h0 : (x.kind.toList == [115, 116, 101, 112]) = false) (h1 : (x.kind.toList == [119, 97, 108, 107]) = false) (h2 : (x.kind.toList == [97, 114, 114, 105, 118, 101]) = false) (h3 : (x.kind.toList == [108, 101, 97, 118, 101]) = false) (h : (x.kind.toList == [115, 116, 97, 108, 108]) = true) : outS x s = stallS x.a s := by simp only [outS, h, h0, h1, h2, h3, if_true, Bool.false_eq_true, if_false]
theorem outS_else {x : ActC} {s : St} (h0 : (x.kind.toList == [115, 116, 101, 112]) = false) (h1 : (x.kind.toList == [119, 97, 108, 107]) = false) (h2 : (x.kind.toList == [97, 114, 114, 105, 118, 101]) = false) (h3 : (x.kind.toList == [108, 101, 97, 118, 101]) = false) (h4 : (x.kind.toList == [115, 116, 97, 108, 108]) = false) : outS x s = s := by simp only [outS, h0, h1, h2, h3, h4, Bool.false_eq_true, if_false]

theorem Inv.out {s : St} (h : Inv s) (x : ActC) : Inv (outS x s) := by
  unfold outS
  split; · exact h.step _
  split; · exact h.walk _
  split; · exact h.arrive _
  split; · exact h.leave
  split; · exact h.stall _
  exact h

-- left out: this seat has not what it speaks of

end Pl
end Go.Proofs.Ytihapeagjikiaaa

namespace Go.Proofs.Ytihapeagjikiaaa
open Go.ChangeShapes Go.WideShapes Go.ChangeAt Go.RowKit Go.Maps
set_option maxRecDepth 100000
set_option linter.unusedSimpArgs false
set_option linter.unusedVariables false

namespace Pl
/-- A machine that was made in new memory: nothing old has turned. -/
theorem turn_new {N pb mb : Nat} {w w1 w2 : World} (h : Below N w w1) (t : Turn pb mb w1 w2) (h1 : N ≤ pb) (h2 : N ≤ mb) (hN : N ≤ w1.heap.size) : Below N w w2 :=
  ⟨t.os.trans h.os, t.tape.trans h.tape, t.output.trans h.output, Nat.le_trans h.size t.size, fun k hk => (t.block k (by omega) (by omega) (by omega)).trans (h.block k hk)⟩

theorem carAt_empty (lv h ex : Int) : carAtI (.map []) lv h ex = 0 := by
  unfold carAtI
  split
  · exact carOf_of rfl
  · rfl
theorem has_empty (id : Int) (lv : Int) (h0 : id ≠ 0) : hasB (newS lv) id = false := by
  have : atB (.map [] : DataW Unit) id = false := by
    cases k : atB (.map [] : DataW Unit) id with
    | false => rfl
    | true =>
      obtain ⟨x, y, z, _, hc⟩ := atB_iff.1 k
      rw [carOf_of (c := 0) rfl] at hc
      omega
  have h1 : ((0 : Int) == id) = false := by simp; omega
  simp [hasB, newS, this, h1]

def m1 : St := ⟨1, 0, 0, true, 0, 0, 3, .map [], 0, false⟩
def m2 : St := ⟨1, 0, 0, false, 0, 0, 3, .map [], 0, false⟩
def m3 : St := ⟨1, 0, 0, false, 0, 3, 0, .map [], 0, false⟩
theorem moved_1 : arriveS 3 (newS 1) = m1 ∧ arriveE 3 (newS 1) = .nilIface := by
  have h := has_empty 3 1 (by decide)
  simp [arriveS, arriveE, arriveB, h]
  simp [newS, m1]
theorem moved_2 : stepS 99 m1 = m2 := by simp [stepS, doS, shutS, m1, m2]
theorem moved_3 : stepS 110 m2 = m3 := by simp [stepS, doS, takeInS, m2, m3]
theorem inv_m1 : Inv m1 := by rw [← moved_1.1]; exact (Inv.new (by decide) (by decide)).arrive 3
theorem inv_m2 : Inv m2 := by rw [← moved_2]; exact inv_m1.step 99
theorem inv_m3 : Inv m3 := by rw [← moved_3]; exact inv_m2.step 110
theorem sense_m3 : senseV m3 = .agg #[.int .i64 0, .int .i64 0, .bool false, .int .i64 0, .int .i64 3, .int .i64 0, .bool false, .bool false, .bool false] := by
  simp [senseV, m3, carAt_empty]

-- left out: this seat has not what it speaks of

end Pl
end Go.Proofs.Ytihapeagjikiaaa
