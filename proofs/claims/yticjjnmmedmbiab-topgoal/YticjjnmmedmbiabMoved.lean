/- A closed fact: a machine that moves (coachhousetop.moved). -/
import Derived.Test.YticjjnmmedmbiabOutside
namespace Go.Proofs.Yticjjnmmedmbiab
open Go.ChangeShapes Go.WideShapes Go.ChangeAt Go.RowKit Go.Maps
set_option maxRecDepth 100000
set_option linter.unusedSimpArgs false
set_option linter.unusedVariables false

namespace Pl
/-- A machine that was made in new memory: nothing old has turned. -/
theorem turn_new {N pb mb : Nat} {w w1 w2 : World} (h : Below N w w1) (t : Turn pb mb w1 w2) (h1 : N ≤ pb) (h2 : N ≤ mb) (hN : N ≤ w1.heap.size) : Below N w w2 :=
  ⟨t.os.trans h.os, t.tape.trans h.tape, t.output.trans h.output, Nat.le_trans h.size t.size, fun k hk => (t.block k (by omega) (by omega) (by omega)).trans (h.block k hk)⟩

theorem carAt_empty (lv h ex : Int) : carAtI (.map []) lv h ex = 0 := by
  unfold carAtI
  split
  · exact carOf_of rfl
  · rfl
theorem has_empty (id : Int) (lv : Int) (h0 : id ≠ 0) : hasB (newS lv) id = false := by
  have : atB (.map [] : DataW Unit) id = false := by
    cases k : atB (.map [] : DataW Unit) id with
    | false => rfl
    | true =>
      obtain ⟨x, y, z, _, hc⟩ := atB_iff.1 k
      rw [carOf_of (c := 0) rfl] at hc
      omega
  have h1 : ((0 : Int) == id) = false := by simp; omega
  simp [hasB, newS, this, h1]

def m1 : St := ⟨1, 0, 0, true, 0, 0, 3, .map [], 0, false⟩
def m2 : St := ⟨1, 0, 0, false, 0, 0, 3, .map [], 0, false⟩
def m3 : St := ⟨1, 0, 0, false, 0, 3, 0, .map [], 0, false⟩
theorem moved_1 : arriveS 3 (newS 1) = m1 ∧ arriveE 3 (newS 1) = .nilIface := by
  have h := has_empty 3 1 (by decide)
  simp [arriveS, arriveE, arriveB, h]
  simp [newS, m1]
theorem moved_2 : stepS 99 m1 = m2 := by simp [stepS, doS, shutS, m1, m2]
theorem moved_3 : stepS 110 m2 = m3 := by simp [stepS, doS, takeInS, m2, m3]
theorem inv_m1 : Inv m1 := by rw [← moved_1.1]; exact (Inv.new (by decide) (by decide)).arrive 3
theorem inv_m2 : Inv m2 := by rw [← moved_2]; exact inv_m1.step 99
theorem inv_m3 : Inv m3 := by rw [← moved_3]; exact inv_m2.step 110
theorem sense_m3 : senseV m3 = .agg #[.int .i64 0, .int .i64 0, .bool false, .int .i64 0, .int .i64 3, .int .i64 0, .bool false, .bool false, .bool false] := by
  simp [senseV, m3, carAt_empty]

set_option maxHeartbeats 1000000 in
theorem moved_any (w : World) : Calls Try.prog 12 #[] w fun e w' => e = .returned (.bool true) ∧ Below w.heap.size w w' := by
  have KA : Hid (∀ w1 pb mb, IsP w1 pb mb 0 (newS 1) → Calls Try.prog 64 #[.pointer (some ⟨pb, 0, none⟩), .int .i64 3] w1 fun e w' => e = .returned .nilIface ∧ IsP w' pb mb 0 m1 ∧ Turn pb mb w1 w') := fun w1 pb mb hp => by
    have := arrive_any pb mb 0 (newS 1) 3 w1 hp (Inv.new (by decide) (by decide))
    rwa [moved_1.1, moved_1.2] at this
  have K1 : Hid (∀ w1 pb mb, IsP w1 pb mb 0 m1 → StepTo pb mb 0 99 w1 m2) := fun w1 pb mb hp => by
    have := step_any pb mb 0 m1 99 w1 hp inv_m1.ok (by decide) inv_m1.wf inv_m1.st.2
    rwa [moved_2] at this
  have K2 : Hid (∀ w1 pb mb, IsP w1 pb mb 1 m2 → StepTo pb mb 1 110 w1 m3) := fun w1 pb mb hp => by
    have := step_any pb mb 1 m2 110 w1 hp inv_m2.ok (by decide) inv_m2.wf inv_m2.st.2
    rwa [moved_3] at this
  have K3 : Hid (∀ w1 pb mb, IsP w1 pb mb 2 m3 → Calls Try.prog 16 #[.pointer (some ⟨pb, 0, none⟩)] w1 fun e w' => e = .returned (.agg #[.int .i64 0, .int .i64 0, .bool false, .int .i64 0, .int .i64 3, .int .i64 0, .bool false, .bool false, .bool false]) ∧ Below w1.heap.size w1 w') := fun w1 pb mb hp => by
    have := sense_any pb mb 2 m3 w1 hp inv_m3.ok
    rwa [sense_m3] at this
  go_enter Try.func12, Try.ntmps12
  go_wp2_with fail
  refine (new_any 1 w (by omega) (by omega)).mono ?_
  rintro e w1 ⟨rfl, p1, b1⟩
  have B1 : Hid (Below w.heap.size w w1) := b1
  have P1 : Hid (IsP w1 (w.heap.size + 1) w.heap.size 0 (newS 1)) := p1
  have z1 : w.heap.size + 2 ≤ w1.heap.size := by have := p1.lt; omega
  clear p1 b1
  go_wp2_with fail
  refine (KA.out _ _ _ P1.out).mono ?_
  rintro e w2 ⟨rfl, p2, t2⟩
  have B2 : Hid (Below w.heap.size w w2) := turn_new B1.out t2 (by omega) (by omega) (by omega)
  have P2 : Hid (IsP w2 (w.heap.size + 1) w.heap.size 0 m1) := p2
  have z2 : w.heap.size + 2 ≤ w2.heap.size := by have := p2.lt; omega
  clear p2 t2
  go_wp2_with fail
  refine (K1.out _ _ _ P2.out).mono ?_
  rintro e w3 ⟨rfl, p3, t3⟩
  have B3 : Hid (Below w.heap.size w w3) := turn_new B2.out t3 (by omega) (by omega) (by omega)
  have P3 : Hid (IsP w3 (w.heap.size + 1) w.heap.size 1 m2) := p3
  have z3 : w.heap.size + 2 ≤ w3.heap.size := by have := p3.lt; omega
  clear p3 t3
  go_wp2_with fail
  refine (K2.out _ _ _ P3.out).mono ?_
  rintro e w4 ⟨rfl, p4, t4⟩
  have B4 : Hid (Below w.heap.size w w4) := turn_new B3.out t4 (by omega) (by omega) (by omega)
  have P4 : Hid (IsP w4 (w.heap.size + 1) w.heap.size 2 m3) := p4
  have z4 : w.heap.size + 2 ≤ w4.heap.size := by have := p4.lt; omega
  clear p4 t4
  go_wp2_with fail
  refine (K3.out _ _ _ P4.out).mono ?_
  rintro e w5 ⟨rfl, b5⟩
  have B5 : Hid (Below w.heap.size w w5) := B.next B4.out b5 (by omega)
  have P5 : Hid (∀ o, IsP (w5.alloc o) (w.heap.size + 1) w.heap.size 2 m3) := fun o => (P4.out.below b5).below (B.new1 w5 o)
  have z5 : w.heap.size + 2 ≤ w5.heap.size := by have := b5.size; omega
  have d9 : ∀ o, (w5.alloc o).cell? ⟨w.heap.size + 1, 9, none⟩ = some (.bool false) := fun o => (P5.out o).c9
  clear b5
  go_wp2
  go_returns
  exact ⟨rfl, B5.out.alloc (by omega) _⟩

end Pl
end Go.Proofs.Yticjjnmmedmbiab
