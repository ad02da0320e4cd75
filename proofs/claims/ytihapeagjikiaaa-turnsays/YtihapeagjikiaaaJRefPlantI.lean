/- The document's machine: where a car is (B2); contracts for PlantSays. -/
import Derived.Test.YtihapeagjikiaaaJRefPlant
namespace Go.Proofs.Ytihapeagjikiaaa
open Go.ChangeShapes Go.WideShapes Go.ChangeAt Go.RowKit Go.Maps
set_option maxRecDepth 100000
set_option linter.unusedSimpArgs false
set_option linter.unusedVariables false

namespace Pl
open Ac
def NoneTo (s : St) (id : Int) (M : Nat) : Prop := ∀ m, 4 ≤ m → m < M → slotN s m ≠ id
def RWhereP (s : St) (id x y z : Int) (b : Bool) : Prop :=
  (b = true ∧ id ≠ 0 ∧ ∃ m : Nat, 4 ≤ m ∧ m < 20 ∧ slotN s m = id ∧ x = ((m / 4 : Nat) : Int) ∧ y = ((m % 4 / 2 : Nat) : Int) ∧ z = ((m % 2 : Nat) : Int)) ∨
  (b = false ∧ x = 0 ∧ y = 0 ∧ z = 0 ∧ (id = 0 ∨ NoneTo s id 20))

def RWherePost (s : St) (id : Int) (w : World) (e : Ending) (w' : World) : Prop := ∃ x y z b, e = .returned (.tuple #[.agg #[.int .i64 x, .int .i64 y, .int .i64 z], .bool b]) ∧ RWhereP s id x y z b ∧ Below w.heap.size w w'

set_option maxHeartbeats 2000000 in
theorem rwhere_any (rb : Nat) (s : St) (id : Int) (w : World) (hr : IsR w rb s) (h0 : id ≠ 0) :
    Calls Try.prog 113 #[.pointer (some ⟨rb, 0, none⟩), .int .i64 id] w (RWherePost s id w) := by
  have hz2 : (id != 0) = true := by simpa using h0
  have hz : (id == 0) = false := by simpa using h0
  have H0 : Hid (id ≠ 0) := h0
  have HC : Hid (∀ m, m < 20 → ∀ o, (w.alloc o).cell? ⟨rb, 7 + m, none⟩ = some (.int .i64 (slotN s m))) := fun m hm o => by rw [(hr.below (B.new1 w o)).cell, rarr_slot s m hm]
  have g := B.row_new w #[.int .i64 0, .int .i64 0, .int .i64 0] 38
  have q0 := set3_0 g
  have q1 := set3_1 g
  have q2 := set3_2 g
  clear hr h0
  go_enter Try.func113, Try.ntmps113
  go_wp2
  go_loop [6] (fun n => ∃ k : Nat, 1 ≤ k ∧ k ≤ 5 ∧ n = .int .i64 k ∧ Hid (NoneTo s id (4 * k))) (fun n => 5 - (intOf n).toNat)
  case atStart => exact ⟨1, by omega, by omega, rfl, (show NoneTo _ _ _ from fun m h1 h2 => by omega)⟩
  case round =>
    obtain ⟨k, hk1, hk5, rfl, HN⟩ := hrel
    by_cases hlt : k < 5
    · have hltz : (k : Int) ≤ 4 := by omega
      go_wp2
      go_loop [7] (fun n => ∃ i : Nat, i ≤ 2 ∧ n = .int .i64 i ∧ Hid (NoneTo s id (4 * k + 2 * i))) (fun n => 2 - (intOf n).toNat)
      case atStart => exact ⟨0, by omega, rfl, HN⟩
      case round =>
        obtain ⟨i, hi, rfl, HN2⟩ := hrel
        by_cases hlt2 : i < 2
        · have hltz2 : (i : Int) < 2 := by omega
          go_wp2
          go_loop [8] (fun n => ∃ j : Nat, j ≤ 2 ∧ n = .int .i64 j ∧ Hid (NoneTo s id (4 * k + 2 * i + j))) (fun n => 2 - (intOf n).toNat)
          case atStart => exact ⟨0, by omega, rfl, HN2⟩
          case round =>
            obtain ⟨j, hj, rfl, HN3⟩ := hrel
            by_cases hlt3 : j < 2
            · have hltz3 : (j : Int) < 2 := by omega
              have hc : ∀ o, (w.alloc o).cell? ⟨rb, 7 + k * 4 + i * 2 + j, none⟩ = some (.int .i64 (slotN s (k * 4 + i * 2 + j))) := fun o => by
                have := HC.out (k * 4 + i * 2 + j) (by omega) o
                rw [show 7 + (k * 4 + i * 2 + j) = 7 + k * 4 + i * 2 + j from by omega] at this
                exact this
              by_cases he : slotN s (k * 4 + i * 2 + j) = id
              · have HE : Hid (slotN s (k * 4 + i * 2 + j) = id) := he
                have hq : (slotN s (k * 4 + i * 2 + j) == id) = true := by simpa using he
                clear he
                generalize slotN s (k * 4 + i * 2 + j) = q at hc hq
                go_wp2
                (try simp only [Exit.inBlock, Exit.then])
                refine bodyPost_ret (v := .tuple #[.agg #[.int .i64 k, .int .i64 i, .int .i64 j], .bool true]) (by simp [results, Try.results113, go_sem]) rfl ?_
                exact ⟨k, i, j, true, rfl, Or.inl ⟨rfl, H0.out, k * 4 + i * 2 + j, by omega, by omega, HE.out, by omega, by omega, by omega⟩, by go_grown⟩
              · have HE : Hid (¬ slotN s (k * 4 + i * 2 + j) = id) := he
                have hq : (slotN s (k * 4 + i * 2 + j) == id) = false := by simpa using he
                clear he
                go_wp2
                go_round
                case rel => exact ⟨j + 1, by omega, by go_num, (show NoneTo _ _ _ from fun m h1 h2 => by
                  by_cases e : m = k * 4 + i * 2 + j
                  · subst e; exact HE.out
                  · exact HN3.out m h1 (by omega))⟩
                case measure => simp [intOf]; omega
            · have hltz3 : ¬ (j : Int) < 2 := by omega
              go_wp2
              go_round
              case rel => exact ⟨i + 1, by omega, by go_num, (show NoneTo _ _ _ from fun m h1 h2 => HN3.out m h1 (by omega))⟩
              case measure => simp [intOf]; omega
        · have hltz2 : ¬ (i : Int) < 2 := by omega
          go_wp2
          go_round
          case rel => exact ⟨k + 1, by omega, by omega, by go_num, (show NoneTo _ _ _ from fun m h1 h2 => HN2.out m h1 (by omega))⟩
          case measure => simp [intOf]; omega
    · have hltz : ¬ (k : Int) ≤ 4 := by omega
      go_wp2
      (try simp only [Exit.inBlock, Exit.then])
      refine bodyPost_ret (by simp [results, Try.results113, go_sem, q0, q1, q2]; try rfl) rfl ?_
      exact ⟨0, 0, 0, false, rfl, Or.inr ⟨rfl, rfl, rfl, rfl, Or.inr (fun m h1 h2 => HN.out m h1 (by omega))⟩, by go_grown⟩

set_option maxHeartbeats 1000000 in
theorem rhas_any (rb : Nat) (s : St) (id : Int) (w : World) (hr : IsR w rb s) (h0 : id ≠ 0) :
    Calls Try.prog 111 #[.pointer (some ⟨rb, 0, none⟩), .int .i64 id] w fun e w' => e = .returned (.bool (hasB s id)) ∧ Below w.heap.size w w' := by
  have HW : Hid (Calls Try.prog 113 #[.pointer (some ⟨rb, 0, none⟩), .int .i64 id] w (RWherePost s id w)) := rwhere_any rb s id w hr h0
  have HR : Hid (∀ w1, Below w.heap.size w w1 → IsR w1 rb s) := fun w1 hb => hr.below hb
  have KA : Hid (∀ x y z b, RWhereP s id x y z b → hasB s id = (b || s.li == id || s.ba == id)) := fun x y z b h => by
    have hb : b = atB s.D id := by
      rw [Bool.eq_iff_iff, atB_iff]
      rcases h with ⟨rfl, _, m, m4, m20, hm, _⟩ | ⟨rfl, _, _, _, h⟩
      · refine ⟨fun _ => ⟨((m / 4 : Nat) : Int), ((m % 4 / 2 : Nat) : Int), ((m % 2 : Nat) : Int), by omega, ?_⟩, fun _ => rfl⟩
        rw [← hm]
        unfold slotN
        rw [if_neg (by omega)]
      · refine ⟨(fun h => by cases h), fun ⟨x, y, z, hin, hc⟩ => ?_⟩
        exfalso
        rcases h with h | h
        · exact h0 h
        · refine h (x.toNat * 4 + y.toNat * 2 + z.toNat) (by omega) (by omega) ?_
          unfold slotN
          rw [if_neg (by omega), show ((x.toNat * 4 + y.toNat * 2 + z.toNat) / 4 : Nat) = x.toNat from by omega, show ((x.toNat * 4 + y.toNat * 2 + z.toNat) % 4 / 2 : Nat) = y.toNat from by omega, show ((x.toNat * 4 + y.toNat * 2 + z.toNat) % 2 : Nat) = z.toNat from by omega,
            Int.toNat_of_nonneg (by omega), Int.toNat_of_nonneg (by omega), Int.toNat_of_nonneg (by omega)]
          exact hc
    have hz : (id != 0) = true := by simpa using h0
    rw [hb]
    simp [hasB, hz]
  clear hr h0
  go_enter Try.func111, Try.ntmps111
  go_wp2_with fail
  refine HW.out.mono ?_
  rintro e w1 ⟨x, y, z, b, rfl, hw, b1⟩
  have z1 := b1.size
  have B1 : Hid (∀ o, Below w.heap.size w (w1.alloc o)) := fun o => b1.alloc z1 o
  have d5 : ∀ o, (w1.alloc o).cell? ⟨rb, 5, none⟩ = some (.int .i64 s.li) := fun o => (HR.out _ (B1.out o)).cell 5
  have d6 : ∀ o, (w1.alloc o).cell? ⟨rb, 6, none⟩ = some (.int .i64 s.ba) := fun o => (HR.out _ (B1.out o)).cell 6
  have K : Hid (hasB s id = (b || s.li == id || s.ba == id)) := KA.out x y z b hw
  clear hw b1 KA HW HR
  generalize s.li = li at *
  generalize s.ba = ba at *
  cases b
  · cases h1 : (li == id) <;> cases h2 : (ba == id)
    all_goals go_wp2
    all_goals go_returns
    all_goals exact ⟨by rw [K.out]; simp [*], B1.out _⟩
  · go_wp2
    all_goals go_returns
    all_goals exact ⟨by rw [K.out]; simp [*], B1.out _⟩

def arriveN (id : Int) (s : St) : Int := if 1 ≤ id ∧ id ≤ 999 then (if s.op = true ∧ s.ba = 0 then (if hasB s id = true then 6 else 0) else 7) else 1

end Pl
end Go.Proofs.Ytihapeagjikiaaa
