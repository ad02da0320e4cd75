/- Has a machine what the document's machine has (B2): the statement's own function; and its closed fact. -/
import Derived.Test.YtihapeagjikiaaaJQuiet
import Derived.Test.YtihapeagjikiaaaJCars
import Derived.Test.YtihapeagjikiaaaJRefOut
import Derived.Laws.StructEq
namespace Go.Proofs.Ytihapeagjikiaaa
open Go.ChangeShapes Go.WideShapes Go.ChangeAt Go.RowKit Go.Maps
set_option maxRecDepth 100000
set_option linter.unusedSimpArgs false
set_option linter.unusedVariables false

namespace Pl
open Ac
theorem neqS_run (h ex : Int) (op : Bool) (pe li ba : Int) (q1 q2 q3 : Bool) (w : World) : Sem.run Try.prog (binOp .neq 164 (.agg #[.int .i64 h, .int .i64 ex, .bool op, .int .i64 pe, .int .i64 li, .int .i64 ba, .bool q1, .bool q2, .bool q3]) (.agg #[.int .i64 h, .int .i64 ex, .bool op, .int .i64 pe, .int .i64 li, .int .i64 ba, .bool q1, .bool q2, .bool q3])) w = .ok (.bool false) w := by
  have u3 := Try.underlying3
  have a3 := Try.isAgg3
  have z3 := Try.sizeOf3
  have u4 := Try.underlying4
  have a4 := Try.isAgg4
  have z4 := Try.sizeOf4
  have hS : Try.prog.underlying 164 = some (.struct (Try.prog.fieldsOf 164)) := by kernel_rfl
  have hp : Try.prog.stoodInHeld 164 = false := by kernel_rfl
  rw [run_neq_struct, show (10000 : Nat) = 9999 + 1 from rfl, run_equalIn_agg w 9999 164 _ _ hS hp]
  simp only [Program.fieldsOf, Try.underlying164]
  go_simp
theorem guardS_run (op : BinOp) (u v : Operand) (a b : Array Value) (w : World) : Sem.run Try.prog (eqGuard op 164 u v (.agg a) (.agg b)) w = .ok () w := run_eqGuard_agg w op 164 u v a b (by kernel_rfl)

theorem _root_.Go.Proofs.Ytihapeagjikiaaa.Calls.wsame {P : Program} {f : FuncId} {args : Array Value} {w : World} {p : BelowW w} {v : Value}
    (h : Calls P f args p.wd fun e w' => e = .returned v ∧ w' = p.wd) : Calls P f args p.wd fun e w'' => e = .returned v ∧ ∃ q : BelowW w, w'' = q.wd :=
  h.mono fun _ w' ⟨he, hb⟩ => ⟨he, p, hb⟩

-- left out: this seat has not what it speaks of

end Pl
end Go.Proofs.Ytihapeagjikiaaa

namespace Go.Proofs.Ytihapeagjikiaaa
open Go.ChangeShapes Go.WideShapes Go.ChangeAt Go.RowKit Go.Maps
set_option maxRecDepth 100000
set_option linter.unusedSimpArgs false
set_option linter.unusedVariables false

namespace Pl
open Ac
theorem countN_two {g : Nat → Int} {x : Int} : ∀ M i j, i < j → j < M → g i = x → g j = x → 2 ≤ countN g x M
  | 0, i, j, _, h, _, _ => absurd h (Nat.not_lt_zero _)
  | M + 1, i, j, hij, hj, hi, hgj => by
    unfold countN one
    by_cases e : j = M
    · subst e
      have := (countN_pos (g := g) (x := x) j).2 ⟨i, hij, hi⟩
      rw [if_pos hgj]
      omega
    · have := countN_two M i j hij (by omega) hi hgj
      omega

theorem Uniq.out {s : St} (h : Uniq s) (iv : Inv s) (x : ActC) : Uniq (outS x s) := by
  cases h1 : (x.kind.toList == [97, 114, 114, 105, 118, 101]) with
  | false =>
    cases h2 : (x.kind.toList == [108, 101, 97, 118, 101]) with
    | false => exact h.of (fun y hy => cnt_out iv x y hy h1 h2)
    | true =>
      have h0 : (x.kind.toList == [115, 116, 101, 112]) = false := by rw [beq_iff_eq] at h2; rw [h2]; decide
      have h3 : (x.kind.toList == [119, 97, 108, 107]) = false := by rw [beq_iff_eq] at h2; rw [h2]; decide
      rw [outS_leave h0 h3 h1 h2]
      cases hl : leaveB s with
      | false => rw [show leaveS s = s from by simp [leaveS, hl]]; exact h
      | true => exact fun y hy => by have := cnt_leave y hy hl; have := h y hy; omega
  | true =>
    have h0 : (x.kind.toList == [115, 116, 101, 112]) = false := by rw [beq_iff_eq] at h1; rw [h1]; decide
    have h3 : (x.kind.toList == [119, 97, 108, 107]) = false := by rw [beq_iff_eq] at h1; rw [h1]; decide
    rw [outS_arrive h0 h3 h1]
    cases ha : arriveB x.a s with
    | false => rw [show arriveS x.a s = s from by simp [arriveS, ha]]; exact h
    | true => exact h.arrive x.a ha

theorem slot_carN (s : St) (m : Nat) (h : 4 ≤ m) : slotN s m = carN s (m - 4) := by
  unfold slotN carN
  rw [if_neg (by omega), show ((m - 4) / 4 : Nat) = m / 4 - 1 from by omega, show ((m - 4) % 4 / 2 : Nat) = m % 4 / 2 from by omega, show ((m - 4) % 2 : Nat) = m % 2 from by omega,
    show (((m / 4 - 1 : Nat) : Int) + 1) = ((m / 4 : Nat) : Int) from by omega]

theorem where_same {s : St} (hu : Uniq s) (iv : Inv s) {id x y z x' y' z' : Int} {b b' : Bool} (h0 : id ≠ 0) (h : WhereP s.D id x y z b) (h' : RWhereP s id x' y' z' b') : x = x' ∧ y = y' ∧ z = z' ∧ b = b' := by
  have hb := h.iff
  rw [whereB_iff iv.D iv.ok.lv4 h0, atB_pos, countN_pos] at hb
  rcases h' with ⟨rfl, _, m, m4, m20, hm, rfl, rfl, rfl⟩ | ⟨rfl, rfl, rfl, rfl, hn⟩
  · have hbt : b = true := hb.2 ⟨m - 4, by omega, by rw [← slot_carN s m m4]; exact hm⟩
    subst hbt
    rcases h with ⟨_, h1, h2, wx, wy, wz⟩ | ⟨h, _⟩
    · have hc : carOf s.D x y z = id := carOf_of (h2 _)
      obtain ⟨px, py, pz⟩ := iv.D.place iv.ok.lv4 wx wy wz (by rw [hc]; exact h0)
      have h4 := iv.ok.lv4
      obtain ⟨m0, hm0, ⟨e1, e2, e3⟩, _⟩ := spot_idx (X := x) (Y := y) (Z := z) (by omega) py pz
      have hg : carN s m0 = id := by unfold carN; rw [e1, e2, e3]; exact hc
      have hg' : carN s (m - 4) = id := by rw [← slot_carN s m m4]; exact hm
      have hcnt : countN (carN s) id 16 ≤ 1 := by have := hu id h0; unfold cnt at this; omega
      have he : m0 = m - 4 := by
        rcases Nat.lt_trichotomy m0 (m - 4) with h | h | h
        · have := countN_two 16 m0 (m - 4) h (by omega) hg hg'; omega
        · exact h
        · have := countN_two 16 (m - 4) m0 h (by omega) hg' hg; omega
      subst he
      refine ⟨?_, ?_, ?_, rfl⟩ <;> omega
    · cases h
  · have hbf : b = false := by
      cases b with
      | false => rfl
      | true =>
        obtain ⟨j, hj, e⟩ := hb.1 rfl
        rcases hn with hn | hn
        · exact absurd hn h0
        · exact absurd (by rw [slot_carN s (j + 4) (by omega)]; simpa using e) (hn (j + 4) (by omega) (by omega))
    subst hbf
    rcases h with ⟨h, _⟩ | ⟨_, rfl, rfl, rfl, _⟩
    · cases h
    · exact ⟨rfl, rfl, rfl, rfl⟩

/-! ### the closed fact -/
def u1 : St := ⟨2, 0, 0, true, 0, 0, 7, .map [], 0, false⟩
def u2 : St := ⟨2, 0, 0, false, 0, 0, 7, .map [], 0, false⟩
def u3 : St := ⟨2, 0, 0, false, 0, 7, 0, .map [], 0, false⟩
def u4 : St := ⟨2, 1, 0, false, 0, 7, 0, .map [], 0, false⟩
theorem mach_1 : arriveS 7 (newS 2) = u1 ∧ arriveE 7 (newS 2) = .nilIface := by
  have h := has_empty 7 2 (by decide)
  simp [arriveS, arriveE, arriveB, h]
  simp [newS, u1]
theorem mach_2 : stepS 99 u1 = u2 := by simp [stepS, doS, shutS, u1, u2]
theorem mach_3 : stepS 110 u2 = u3 := by simp [stepS, doS, takeInS, u2, u3]
theorem mach_4 : stepS 117 u3 = u4 := by simp [stepS, doS, raiseS, u3, u4]; decide
theorem inv_u1 : Inv u1 := by rw [← mach_1.1]; exact (Inv.new (by decide) (by decide)).arrive 7
theorem inv_u2 : Inv u2 := by rw [← mach_2]; exact inv_u1.step 99
theorem inv_u3 : Inv u3 := by rw [← mach_3]; exact inv_u2.step 110
theorem inv_u4 : Inv u4 := by rw [← mach_4]; exact inv_u3.step 117
theorem sense_u4 : senseV u4 = .agg #[.int .i64 1, .int .i64 0, .bool false, .int .i64 0, .int .i64 7, .int .i64 0, .bool false, .bool false, .bool false] := by
  simp [senseV, u4, carAt_empty]

-- left out: this seat has not what it speaks of

end Pl
end Go.Proofs.Ytihapeagjikiaaa
