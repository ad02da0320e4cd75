/- Where a car is: the machine and the document's machine tell the same place (B2); what the statement 'PlantSays' asks besides; pure, and its closed fact. -/
import Derived.Test.YticjjnmmedmbiaaRefAs
import Derived.Test.YticjjnmmedmbiaaCarsPure
namespace Go.Proofs.Yticjjnmmedmbiaa
open Go.ChangeShapes Go.WideShapes Go.ChangeAt Go.RowKit Go.Maps
set_option maxRecDepth 100000
set_option linter.unusedSimpArgs false
set_option linter.unusedVariables false

namespace Pl
open Ac
theorem countN_two {g : Nat → Int} {x : Int} : ∀ M i j, i < j → j < M → g i = x → g j = x → 2 ≤ countN g x M
  | 0, i, j, _, h, _, _ => absurd h (Nat.not_lt_zero _)
  | M + 1, i, j, hij, hj, hi, hgj => by
    unfold countN one
    by_cases e : j = M
    · subst e
      have := (countN_pos (g := g) (x := x) j).2 ⟨i, hij, hi⟩
      rw [if_pos hgj]
      omega
    · have := countN_two M i j hij (by omega) hi hgj
      omega

theorem Uniq.out {s : St} (h : Uniq s) (iv : Inv s) (x : ActC) : Uniq (outS x s) := by
  cases h1 : (x.kind.toList == [97, 114, 114, 105, 118, 101]) with
  | false =>
    cases h2 : (x.kind.toList == [108, 101, 97, 118, 101]) with
    | false => exact h.of (fun y hy => cnt_out iv x y hy h1 h2)
    | true =>
      have h0 : (x.kind.toList == [115, 116, 101, 112]) = false := by rw [beq_iff_eq] at h2; rw [h2]; decide
      have h3 : (x.kind.toList == [119, 97, 108, 107]) = false := by rw [beq_iff_eq] at h2; rw [h2]; decide
      rw [outS_leave h0 h3 h1 h2]
      cases hl : leaveB s with
      | false => rw [show leaveS s = s from by simp [leaveS, hl]]; exact h
      | true => exact fun y hy => by have := cnt_leave y hy hl; have := h y hy; omega
  | true =>
    have h0 : (x.kind.toList == [115, 116, 101, 112]) = false := by rw [beq_iff_eq] at h1; rw [h1]; decide
    have h3 : (x.kind.toList == [119, 97, 108, 107]) = false := by rw [beq_iff_eq] at h1; rw [h1]; decide
    rw [outS_arrive h0 h3 h1]
    cases ha : arriveB x.a s with
    | false => rw [show arriveS x.a s = s from by simp [arriveS, ha]]; exact h
    | true => exact h.arrive x.a ha

theorem slot_carN (s : St) (m : Nat) (h : 4 ≤ m) : slotN s m = carN s (m - 4) := by
  unfold slotN carN
  rw [if_neg (by omega), show ((m - 4) / 4 : Nat) = m / 4 - 1 from by omega, show ((m - 4) % 4 / 2 : Nat) = m % 4 / 2 from by omega, show ((m - 4) % 2 : Nat) = m % 2 from by omega,
    show (((m / 4 - 1 : Nat) : Int) + 1) = ((m / 4 : Nat) : Int) from by omega]

theorem where_same {s : St} (hu : Uniq s) (iv : Inv s) {id x y z x' y' z' : Int} {b b' : Bool} (h0 : id ≠ 0) (h : WhereP s.D id x y z b) (h' : RWhereP s id x' y' z' b') : x = x' ∧ y = y' ∧ z = z' ∧ b = b' := by
  have hb := h.iff
  rw [whereB_iff iv.D iv.ok.lv4 h0, atB_pos, countN_pos] at hb
  rcases h' with ⟨rfl, _, m, m4, m20, hm, rfl, rfl, rfl⟩ | ⟨rfl, rfl, rfl, rfl, hn⟩
  · have hbt : b = true := hb.2 ⟨m - 4, by omega, by rw [← slot_carN s m m4]; exact hm⟩
    subst hbt
    rcases h with ⟨_, h1, h2, wx, wy, wz⟩ | ⟨h, _⟩
    · have hc : carOf s.D x y z = id := carOf_of (h2 _)
      obtain ⟨px, py, pz⟩ := iv.D.place iv.ok.lv4 wx wy wz (by rw [hc]; exact h0)
      have h4 := iv.ok.lv4
      obtain ⟨m0, hm0, ⟨e1, e2, e3⟩, _⟩ := spot_idx (X := x) (Y := y) (Z := z) (by omega) py pz
      have hg : carN s m0 = id := by unfold carN; rw [e1, e2, e3]; exact hc
      have hg' : carN s (m - 4) = id := by rw [← slot_carN s m m4]; exact hm
      have hcnt : countN (carN s) id 16 ≤ 1 := by have := hu id h0; unfold cnt at this; omega
      have he : m0 = m - 4 := by
        rcases Nat.lt_trichotomy m0 (m - 4) with h | h | h
        · have := countN_two 16 m0 (m - 4) h (by omega) hg hg'; omega
        · exact h
        · have := countN_two 16 (m - 4) m0 h (by omega) hg' hg; omega
      subst he
      refine ⟨?_, ?_, ?_, rfl⟩ <;> omega
    · cases h
  · have hbf : b = false := by
      cases b with
      | false => rfl
      | true =>
        obtain ⟨j, hj, e⟩ := hb.1 rfl
        rcases hn with hn | hn
        · exact absurd hn h0
        · exact absurd (by rw [slot_carN s (j + 4) (by omega)]; simpa using e) (hn (j + 4) (by omega) (by omega))
    subst hbf
    rcases h with ⟨h, _⟩ | ⟨_, rfl, rfl, rfl, _⟩
    · cases h
    · exact ⟨rfl, rfl, rfl, rfl⟩

/-! ### the closed fact -/
def u1 : St := ⟨2, 0, 0, true, 0, 0, 7, .map [], 0, false⟩
def u2 : St := ⟨2, 0, 0, false, 0, 0, 7, .map [], 0, false⟩
def u3 : St := ⟨2, 0, 0, false, 0, 7, 0, .map [], 0, false⟩
def u4 : St := ⟨2, 1, 0, false, 0, 7, 0, .map [], 0, false⟩
theorem mach_1 : arriveS 7 (newS 2) = u1 ∧ arriveE 7 (newS 2) = .nilIface := by
  have h := has_empty 7 2 (by decide)
  simp [arriveS, arriveE, arriveB, h]
  simp [newS, u1]
theorem mach_2 : stepS 99 u1 = u2 := by simp [stepS, doS, shutS, u1, u2]
theorem mach_3 : stepS 110 u2 = u3 := by simp [stepS, doS, takeInS, u2, u3]
theorem mach_4 : stepS 117 u3 = u4 := by simp [stepS, doS, raiseS, u3, u4]; decide
theorem inv_u1 : Inv u1 := by rw [← mach_1.1]; exact (Inv.new (by decide) (by decide)).arrive 7
theorem inv_u2 : Inv u2 := by rw [← mach_2]; exact inv_u1.step 99
theorem inv_u3 : Inv u3 := by rw [← mach_3]; exact inv_u2.step 110
theorem inv_u4 : Inv u4 := by rw [← mach_4]; exact inv_u3.step 117
theorem sense_u4 : senseV u4 = .agg #[.int .i64 1, .int .i64 0, .bool false, .int .i64 0, .int .i64 7, .int .i64 0, .bool false, .bool false, .bool false] := by
  simp [senseV, u4, carAt_empty]

set_option maxHeartbeats 1000000 in
theorem machines_any (w : World) : Calls Try.prog 34 #[] w fun e w' => e = .returned (.bool true) ∧ Below w.heap.size w w' := by
  have KA : Hid (∀ w1 pb mb, IsP w1 pb mb 0 (newS 2) → Calls Try.prog 62 #[.pointer (some ⟨pb, 0, none⟩), .int .i64 7] w1 fun e w' => e = .returned .nilIface ∧ IsP w' pb mb 0 u1 ∧ Turn pb mb w1 w') := fun w1 pb mb hp => by
    have := arrive_any pb mb 0 (newS 2) 7 w1 hp (Inv.new (by decide) (by decide))
    rwa [mach_1.1, mach_1.2] at this
  have K1 : Hid (∀ w1 pb mb, IsP w1 pb mb 0 u1 → StepTo pb mb 0 99 w1 u2) := fun w1 pb mb hp => by
    have := step_any pb mb 0 u1 99 w1 hp inv_u1.ok (by decide) inv_u1.wf inv_u1.st.2
    rwa [mach_2] at this
  have K2 : Hid (∀ w1 pb mb, IsP w1 pb mb 1 u2 → StepTo pb mb 1 110 w1 u3) := fun w1 pb mb hp => by
    have := step_any pb mb 1 u2 110 w1 hp inv_u2.ok (by decide) inv_u2.wf inv_u2.st.2
    rwa [mach_3] at this
  have K2b : Hid (∀ w1 pb mb, IsP w1 pb mb 2 u3 → StepTo pb mb 2 117 w1 u4) := fun w1 pb mb hp => by
    have := step_any pb mb 2 u3 117 w1 hp inv_u3.ok (by decide) inv_u3.wf inv_u3.st.2
    rwa [mach_4] at this
  have K3 : Hid (∀ w1 pb mb, IsP w1 pb mb 3 u4 → Calls Try.prog 67 #[.pointer (some ⟨pb, 0, none⟩)] w1 fun e w' => e = .returned (.agg #[.int .i64 1, .int .i64 0, .bool false, .int .i64 0, .int .i64 7, .int .i64 0, .bool false, .bool false, .bool false]) ∧ Below w1.heap.size w1 w') := fun w1 pb mb hp => by
    have := sense_any pb mb 3 u4 w1 hp inv_u4.ok
    rwa [sense_u4] at this
  go_enter Try.func34, Try.ntmps34
  go_wp2_with fail
  refine (new_any 2 w (by omega) (by omega)).mono ?_
  rintro e w1 ⟨rfl, p1, b1⟩
  have B1 : Hid (Below w.heap.size w w1) := b1
  have P1 : Hid (IsP w1 (w.heap.size + 1) w.heap.size 0 (newS 2)) := p1
  have z1 : w.heap.size + 2 ≤ w1.heap.size := by have := p1.lt; omega
  clear p1 b1
  go_wp2_with fail
  refine (KA.out _ _ _ P1.out).mono ?_
  rintro e w2 ⟨rfl, p2, t2⟩
  have B2 : Hid (Below w.heap.size w w2) := turn_new B1.out t2 (by omega) (by omega) (by omega)
  have P2 : Hid (IsP w2 (w.heap.size + 1) w.heap.size 0 u1) := p2
  have z2 : w.heap.size + 2 ≤ w2.heap.size := by have := p2.lt; omega
  clear p2 t2
  go_wp2_with fail
  refine (K1.out _ _ _ P2.out).mono ?_
  rintro e w3 ⟨rfl, p3, t3⟩
  have B3 : Hid (Below w.heap.size w w3) := turn_new B2.out t3 (by omega) (by omega) (by omega)
  have P3 : Hid (IsP w3 (w.heap.size + 1) w.heap.size 1 u2) := p3
  have z3 : w.heap.size + 2 ≤ w3.heap.size := by have := p3.lt; omega
  clear p3 t3
  go_wp2_with fail
  refine (K2.out _ _ _ P3.out).mono ?_
  rintro e w4 ⟨rfl, p4, t4⟩
  have B4 : Hid (Below w.heap.size w w4) := turn_new B3.out t4 (by omega) (by omega) (by omega)
  have P4 : Hid (IsP w4 (w.heap.size + 1) w.heap.size 2 u3) := p4
  have z4 : w.heap.size + 2 ≤ w4.heap.size := by have := p4.lt; omega
  clear p4 t4
  go_wp2_with fail
  refine (K2b.out _ _ _ P4.out).mono ?_
  rintro e w5 ⟨rfl, p5, t5⟩
  have B5 : Hid (Below w.heap.size w w5) := turn_new B4.out t5 (by omega) (by omega) (by omega)
  have P5 : Hid (IsP w5 (w.heap.size + 1) w.heap.size 3 u4) := p5
  have z5 : w.heap.size + 2 ≤ w5.heap.size := by have := p5.lt; omega
  clear p5 t5
  go_wp2_with fail
  refine (K3.out _ _ _ P5.out).mono ?_
  rintro e w6 ⟨rfl, b6⟩
  have B6 : Hid (Below w.heap.size w w6) := B.next B5.out b6 (by omega)
  have z6 : w.heap.size + 2 ≤ w6.heap.size := by have := b6.size; omega
  have d9 : ∀ o, (w6.alloc o).cell? ⟨w.heap.size + 1, 9, none⟩ = some (.bool false) := fun o => ((P5.out.below b6).below (B.new1 w6 o)).c9
  clear b6
  go_wp2_with fail
  refine (same_nil 0 _).mono ?_
  rintro e w7 ⟨rfl, rfl⟩
  go_wp2
  go_returns
  exact ⟨rfl, B6.out.alloc (by omega) _⟩

end Pl
end Go.Proofs.Yticjjnmmedmbiaa
