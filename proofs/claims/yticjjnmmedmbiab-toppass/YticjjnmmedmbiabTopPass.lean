/- TopPass: a car is taken in, and given out (C1, D1, D2). -/
import Derived.Test.YticjjnmmedmbiabFetch
namespace Go.Proofs.Yticjjnmmedmbiab
open Go.ChangeShapes Go.WideShapes Go.ChangeAt Go.RowKit Go.Maps
set_option maxRecDepth 100000
set_option linter.unusedSimpArgs false
set_option linter.unusedVariables false

namespace Pl
open Ac
theorem IsP.turnC {w w' : World} {pq mq pb mb n : Nat} {s : St} (h : IsP w pq mq n s) (t : Turn pb mb w w') (h1 : pq ≠ pb) (h2 : pq ≠ mb) (h3 : mq ≠ pb) (h4 : mq ≠ mb) : IsP w' pq mq n s := by
  refine ⟨(t.block pq h.lt h1 h2).trans h.row, ?_⟩
  obtain ⟨es, clock, hm, r⟩ := h.cars
  exact ⟨es, clock, (t.block mq (Array.getElem?_eq_some_iff.1 hm).1 h3 h4).trans hm, r⟩

set_option maxHeartbeats 8000000 in
theorem topPass_run (lv : Int) (v : Value) (inn : Bool) (len : Nat) (f : Nat → ActC) (w : World) (hs : ActsAt w v len f) :
    Calls Try.prog 6 #[.int .i64 lv, v, .bool inn] w fun e w' => e = .returned (.bool true) ∧ Below w.heap.size w w' := by
  have HS : Hid (ActsAt w v len f) := hs
  clear hs
  go_enter Try.func6, Try.ntmps6
  go_wp2_with fail
  refine (moved_any w).mono ?_
  rintro e w1 ⟨rfl, b1⟩
  have B1 : Hid (Below w.heap.size w w1) := b1
  clear b1
  go_wp2_with fail
  refine (calm_any lv v len f w1 (HS.out.below B1.out)).mono ?_
  rintro e w2 (⟨rfl, b2⟩ | ⟨hlv, pb, mb, rfl, p2, hpb, hmb, b2⟩)
  · have B2 : Hid (Below w.heap.size w w2) := B.next B1.out b2 B1.out.size
    clear b2
    go_wp2_with fail
    refine (calm_any lv v len f w2 (HS.out.below B2.out)).mono ?_
    rintro e w3 (⟨rfl, b3⟩ | ⟨_, pq, mq, rfl, _, _, _, b3⟩)
    all_goals
      have B3 : Hid (Below w.heap.size w w3) := B.next B2.out b3 B2.out.size
      clear b3
      go_wp2
      go_returns
      exact ⟨rfl, B3.out⟩
  have B2 : Hid (Below w.heap.size w w2) := B.next B1.out b2 B1.out.size
  have P2 : Hid (IsP w2 pb mb 400 (calmSt lv len f)) := p2
  have zp : w.heap.size ≤ pb ∧ w.heap.size ≤ mb ∧ pb < w2.heap.size ∧ mb < w2.heap.size := ⟨Nat.le_trans B1.out.size hpb, Nat.le_trans B1.out.size hmb, p2.lt, p2.ltm⟩
  clear b2 p2 hpb hmb B1
  go_wp2_with fail
  refine (calm_any lv v len f w2 (HS.out.below B2.out)).mono ?_
  rintro e w3 (⟨rfl, b3⟩ | ⟨_, pq, mq, rfl, p3, hpq, hmq, b3⟩)
  · have B3 : Hid (Below w.heap.size w w3) := B.next B2.out b3 B2.out.size
    clear b3
    generalize calmB lv len f = cb
    cases cb
    all_goals
      go_wp2
      go_returns
      exact ⟨rfl, B3.out⟩
  have B3 : Hid (Below w.heap.size w w3) := B.next B2.out b3 B2.out.size
  have P3 : Hid (IsP w3 pb mb 400 (calmSt lv len f)) := P2.out.below b3
  have Q3 : Hid (IsP w3 pq mq 400 (calmSt lv len f)) := p3
  have zq : w2.heap.size ≤ pq ∧ w2.heap.size ≤ mq ∧ pq < w3.heap.size ∧ mq < w3.heap.size ∧ w2.heap.size ≤ w3.heap.size := ⟨hpq, hmq, p3.lt, p3.ltm, b3.size⟩
  clear b3 p3 hpq hmq P2 B2
  have CQ : Hid (calmB lv len f = true → ∃ h li ba D, calmSt lv len f = Qu (calmSt lv len f).lv h 0 li ba D ∧ Inv (calmSt lv len f)) := fun hb => calm_quiet hlv len f hb
  have CL : Hid ((calmSt lv len f).lv = lv) := calm_lv lv len f
  generalize calmB lv len f = cb at *
  generalize calmSt lv len f = S at *
  cases cb
  · go_wp2
    go_returns
    exact ⟨rfl, B3.out⟩
  obtain ⟨h, li, ba, D, hS, hI⟩ := CQ.out rfl
  rw [CL.out] at hS
  subst hS
  have I3 : Hid (Inv (Qu lv h 0 li ba D)) := hI
  clear CQ CL hI
  have HSe : Hid (∀ w1, IsP w1 pb mb 400 (Qu lv h 0 li ba D) → Calls Try.prog 16 #[.pointer (some ⟨pb, 0, none⟩)] w1 fun e w' => e = .returned (senseV (Qu lv h 0 li ba D)) ∧ Below w1.heap.size w1 w') := fun w1 hp => sense_any pb mb 400 _ w1 hp I3.out.ok
  have HV : Hid (∃ a1 a2 a3, senseV (Qu lv h 0 li ba D) = .agg #[.int .i64 h, .int .i64 0, .bool false, .int .i64 0, .int .i64 li, .int .i64 ba, .bool a1, .bool a2, .bool a3]) := ⟨_, _, _, rfl⟩
  obtain ⟨a1, a2, a3, hv⟩ := HV.out
  rw [hv] at HSe
  clear hv HV
  go_wp2_with fail
  refine (HSe.out _ P3.out).mono ?_
  rintro e w5 ⟨rfl, b5⟩
  have z5 := b5.size
  obtain ⟨w6, hw6⟩ : ∃ w6, w5.alloc (.cells #[.int .i64 h, .int .i64 0, .bool false, .int .i64 0, .int .i64 li, .int .i64 ba, .bool a1, .bool a2, .bool a3] 45) = w6 := ⟨_, rfl⟩
  have B6 : Hid (Below w.heap.size w w6) := by rw [← hw6]; exact B.next B3.out (b5.alloc z5 _) B3.out.size
  have P6 : Hid (IsP w6 pb mb 400 (Qu lv h 0 li ba D)) := by rw [← hw6]; exact P3.out.below (b5.alloc z5 _)
  have Q6 : Hid (IsP w6 pq mq 400 (Qu lv h 0 li ba D)) := by rw [← hw6]; exact Q3.out.below (b5.alloc z5 _)
  have R6 : Hid (∀ o, w6.cell? ⟨w5.heap.size, o, none⟩ = (#[.int .i64 h, .int .i64 0, .bool false, .int .i64 0, .int .i64 li, .int .i64 ba, .bool a1, .bool a2, .bool a3] : Array Value)[o]?) := by rw [← hw6]; exact B.row_new w5 _ _
  have z6 : w5.heap.size < w6.heap.size := by rw [← hw6]; simp
  have ne5 : w5.heap.size ≠ pb ∧ w5.heap.size ≠ mb := by omega
  clear b5 HSe P3 Q3 B3
  have s4 : w6.cell? ⟨w5.heap.size, 4, none⟩ = some (.int .i64 li) := R6.out 4
  have s5 : w6.cell? ⟨w5.heap.size, 5, none⟩ = some (.int .i64 ba) := R6.out 5
  cases inn
  rotate_left
  · rcases Int.decEq li 0 with ki | ki
    · have ki1 : (li != 0) = true := by simp [bne, ki]
      go_wp2
      go_returns
      exact ⟨rfl, B6.out⟩
    subst ki
    rcases Int.decEq ba 0 with kb | kb
    rotate_left
    · subst kb
      go_wp2
      go_returns
      exact ⟨rfl, B6.out⟩
    have kb1 : (ba == 0) = false := by simpa using kb
    have HBa : Hid (ba ≠ 0) := kb
    go_wp2_with fail
    refine (Go.Proofs.Yticjjnmmedmbiab.giveOut_any _).mono ?_
    rintro e w7 ⟨v7, rfl, g7⟩
    have B7 : Hid (Below w.heap.size w w7) := B.next B6.out g7.2 B6.out.size
    have P7 : Hid (IsP w7 pb mb 400 (Qu lv h 0 0 ba D)) := P6.out.below g7.2
    have Q7 : Hid (IsP w7 pq mq 400 (Qu lv h 0 0 ba D)) := Q6.out.below g7.2
    have R7 : Hid (∀ o, w7.cell? ⟨w5.heap.size, o, none⟩ = (#[.int .i64 h, .int .i64 0, .bool false, .int .i64 0, .int .i64 0, .int .i64 ba, .bool a1, .bool a2, .bool a3] : Array Value)[o]?) := B.row g7.2 R6.out z6
    have z7 : w5.heap.size < w7.heap.size := Nat.lt_of_lt_of_le z6 g7.2.size
    have zz7 := g7.2.size
    clear g7 hw6
    go_wp2_with fail
    refine (Go.Proofs.Yticjjnmmedmbiab.takeIn_any _).mono ?_
    rintro e w20 ⟨v20, rfl, g20⟩
    have G20 : Hid (GoalsAt pb mb w20 v20 [(2, 0), (5, 0), (1, 0), (7, 0)]) := goals_own g20 (by omega) (by omega)
    have B20 : Hid (Below w.heap.size w w20) := B.next B7.out g20.2 B7.out.size
    have P20 : Hid (IsP w20 pb mb 400 (Qu lv h 0 0 ba D)) := P7.out.below g20.2
    have Q20 : Hid (IsP w20 pq mq 400 (Qu lv h 0 0 ba D)) := Q7.out.below g20.2
    have R20 : Hid (∀ o, w20.cell? ⟨w5.heap.size, o, none⟩ = (#[.int .i64 h, .int .i64 0, .bool false, .int .i64 0, .int .i64 0, .int .i64 ba, .bool a1, .bool a2, .bool a3] : Array Value)[o]?) := B.row g20.2 R7.out z7
    have z20 : w5.heap.size < w20.heap.size := Nat.lt_of_lt_of_le z7 g20.2.size
    clear g20
    have HRun : Hid (runS 80 [(2, 0), (5, 0), (1, 0), (7, 0)] (Qu lv h 0 0 ba D) = ([], (Qu lv 0 0 ba 0 D))) := run_takeIn I3.out HBa.out
    have HRn : Hid (∀ w1, IsP w1 pb mb 400 (Qu lv h 0 0 ba D) → GoalsAt pb mb w1 v20 [(2, 0), (5, 0), (1, 0), (7, 0)] → Calls Try.prog 23 #[.pointer (some ⟨pb, 0, none⟩), v20, .int .i64 80] w1 fun e w' => e = .returned (.bool true) ∧ IsP w' pb mb (400 + 80) (Qu lv 0 0 ba 0 D) ∧ Turn pb mb w1 w') := fun w1 hp hg => by
      have := run_any pb mb 400 _ v20 _ 80 w1 hp I3.out hg (by omega) (by unfold maxLen; omega)
      rw [HRun.out] at this
      exact this
    have I21 : Hid (Inv (Qu lv 0 0 ba 0 D)) := by
      have := Inv.run 80 [(2, 0), (5, 0), (1, 0), (7, 0)] I3.out
      rw [HRun.out] at this
      exact this
    go_wp2_with fail
    refine (HRn.out _ P20.out G20.out).mono ?_
    rintro e w21 ⟨rfl, p21, t21⟩
    have B21 : Hid (Below w.heap.size w w21) := turn_new B20.out t21 (by omega) (by omega) B20.out.size
    have Q21 : Hid (IsP w21 pq mq 400 (Qu lv h 0 0 ba D)) := Q20.out.turnC t21 (by omega) (by omega) (by omega) (by omega)
    have R21 : Hid (∀ o, w21.cell? ⟨w5.heap.size, o, none⟩ = (#[.int .i64 h, .int .i64 0, .bool false, .int .i64 0, .int .i64 0, .int .i64 ba, .bool a1, .bool a2, .bool a3] : Array Value)[o]?) := fun o => (World.cell?_of_block (t21.block w5.heap.size z20 (by omega) (by omega))).trans (R20.out o)
    have z21 : w5.heap.size < w21.heap.size := Nat.lt_of_lt_of_le z20 t21.size
    have P21 : Hid (IsP w21 pb mb (400 + 80) (Qu lv 0 0 ba 0 D)) := p21
    have HSe2 : Hid (∀ w1, IsP w1 pb mb (400 + 80) (Qu lv 0 0 ba 0 D) → Calls Try.prog 16 #[.pointer (some ⟨pb, 0, none⟩)] w1 fun e w' => e = .returned (senseV (Qu lv 0 0 ba 0 D)) ∧ Below w1.heap.size w1 w') := fun w1 hp => sense_any pb mb (400 + 80) _ w1 hp I21.out.ok
    have HV2 : Hid (∃ c1 c2 c3, senseV (Qu lv 0 0 ba 0 D) = .agg #[.int .i64 0, .int .i64 0, .bool false, .int .i64 0, .int .i64 ba, .int .i64 0, .bool c1, .bool c2, .bool c3]) := ⟨_, _, _, rfl⟩
    obtain ⟨c1, c2, c3, hv2⟩ := HV2.out
    rw [hv2] at HSe2
    have HBt : Hid (∀ w1, IsP w1 pq mq 400 (Qu lv h 0 0 ba D) → IsP w1 pb mb (400 + 80) (Qu lv 0 0 ba 0 D) → Calls Try.prog 25 #[.pointer (some ⟨pq, 0, none⟩), .pointer (some ⟨pb, 0, none⟩), .agg #[.int .i64 0, .int .i64 0, .int .i64 0]] w1 fun e w' => e = .returned (.bool true) ∧ Below w1.heap.size w1 w') := fun w1 hq hp => but_any pq mq 400 pb mb (400 + 80) _ _ 0 0 0 w1 hq hp (by omega) (fun x y z _ _ _ _ => rfl)
    clear p21 t21 hv2 HV2 HRn P20 Q20 B20 R20 G20
    generalize hST : (Qu lv 0 0 ba 0 D) = T at *
    have HTu : Hid (T.hu = false) := by rw [← hST]; rfl
    clear hST
    go_wp2_with fail
    refine (HSe2.out _ P21.out).mono ?_
    rintro e w22 ⟨rfl, b22⟩
    obtain ⟨w23, hw23⟩ : ∃ w23, w22.alloc (.cells #[.int .i64 0, .int .i64 0, .bool false, .int .i64 0, .int .i64 ba, .int .i64 0, .bool c1, .bool c2, .bool c3] 45) = w23 := ⟨_, rfl⟩
    have zb22 := b22.size
    have B23 : Hid (Below w.heap.size w w23) := by rw [← hw23]; exact B.next B21.out (b22.alloc zb22 _) B21.out.size
    have P23 : Hid (IsP w23 pb mb (400 + 80) T) := by rw [← hw23]; exact P21.out.below (b22.alloc zb22 _)
    have Q23 : Hid (IsP w23 pq mq 400 (Qu lv h 0 0 ba D)) := by rw [← hw23]; exact Q21.out.below (b22.alloc zb22 _)
    have R23 : Hid (∀ o, w23.cell? ⟨w5.heap.size, o, none⟩ = (#[.int .i64 h, .int .i64 0, .bool false, .int .i64 0, .int .i64 0, .int .i64 ba, .bool a1, .bool a2, .bool a3] : Array Value)[o]?) := by rw [← hw23]; exact B.row (b22.alloc zb22 _) R21.out z21
    have T23 : Hid (∀ o, w23.cell? ⟨w22.heap.size, o, none⟩ = (#[.int .i64 0, .int .i64 0, .bool false, .int .i64 0, .int .i64 ba, .int .i64 0, .bool c1, .bool c2, .bool c3] : Array Value)[o]?) := by rw [← hw23]; exact B.row_new w22 _ _
    have t0 : w23.cell? ⟨w22.heap.size, 0, none⟩ = some (.int .i64 0) := T23.out 0
    have t2 : w23.cell? ⟨w22.heap.size, 2, none⟩ = some (.bool false) := T23.out 2
    have t4 : w23.cell? ⟨w22.heap.size, 4, none⟩ = some (.int .i64 ba) := T23.out 4
    have t5 : w23.cell? ⟨w22.heap.size, 5, none⟩ = some (.int .i64 0) := T23.out 5
    have u4 : w23.cell? ⟨w5.heap.size, 4, none⟩ = some (.int .i64 0) := R23.out 4
    have u5 : w23.cell? ⟨w5.heap.size, 5, none⟩ = some (.int .i64 ba) := R23.out 5
    clear b22 HSe2 P21 Q21 B21 R21
    go_wp2_with fail
    refine (HBt.out _ Q23.out P23.out).mono ?_
    rintro e w25 ⟨rfl, b25⟩
    have B25 : Hid (Below w.heap.size w w25) := B.next B23.out b25 B23.out.size
    have d9 : w25.cell? ⟨pb, 9, none⟩ = some (.bool false) := by have := (P23.out.below b25).c9; rw [HTu.out] at this; exact this
    clear b25 hw23
    go_wp2
    go_returns
    exact ⟨rfl, B25.out⟩
  · rcases Int.decEq li 0 with ki | ki
    rotate_left
    · subst ki
      go_wp2
      go_returns
      exact ⟨rfl, B6.out⟩
    have ki1 : (li == 0) = false := by simpa using ki
    have HLi : Hid (li ≠ 0) := ki
    rcases Int.decEq ba 0 with kb | kb
    · have kb1 : (ba != 0) = true := by simp [bne, kb]
      go_wp2
      go_returns
      exact ⟨rfl, B6.out⟩
    subst kb
    go_wp2_with fail
    refine (Go.Proofs.Yticjjnmmedmbiab.giveOut_any _).mono ?_
    rintro e w20 ⟨v20, rfl, g20⟩
    have G20 : Hid (GoalsAt pb mb w20 v20 [(2, 0), (5, 0), (1, 0), (8, 0), (6, 0)]) := goals_own g20 (by omega) (by omega)
    have B20 : Hid (Below w.heap.size w w20) := B.next B6.out g20.2 B6.out.size
    have P20 : Hid (IsP w20 pb mb 400 (Qu lv h 0 li 0 D)) := P6.out.below g20.2
    have Q20 : Hid (IsP w20 pq mq 400 (Qu lv h 0 li 0 D)) := Q6.out.below g20.2
    have R20 : Hid (∀ o, w20.cell? ⟨w5.heap.size, o, none⟩ = (#[.int .i64 h, .int .i64 0, .bool false, .int .i64 0, .int .i64 li, .int .i64 0, .bool a1, .bool a2, .bool a3] : Array Value)[o]?) := B.row g20.2 R6.out z6
    have z20 : w5.heap.size < w20.heap.size := Nat.lt_of_lt_of_le z6 g20.2.size
    clear g20
    clear hw6
    have HRun : Hid (runS 80 [(2, 0), (5, 0), (1, 0), (8, 0), (6, 0)] (Qu lv h 0 li 0 D) = ([], (⟨lv, 0, 0, true, 0, 0, li, D, 0, false⟩ : St))) := run_giveOut I3.out HLi.out
    have HRn : Hid (∀ w1, IsP w1 pb mb 400 (Qu lv h 0 li 0 D) → GoalsAt pb mb w1 v20 [(2, 0), (5, 0), (1, 0), (8, 0), (6, 0)] → Calls Try.prog 23 #[.pointer (some ⟨pb, 0, none⟩), v20, .int .i64 80] w1 fun e w' => e = .returned (.bool true) ∧ IsP w' pb mb (400 + 80) (⟨lv, 0, 0, true, 0, 0, li, D, 0, false⟩ : St) ∧ Turn pb mb w1 w') := fun w1 hp hg => by
      have := run_any pb mb 400 _ v20 _ 80 w1 hp I3.out hg (by omega) (by unfold maxLen; omega)
      rw [HRun.out] at this
      exact this
    have I21 : Hid (Inv (⟨lv, 0, 0, true, 0, 0, li, D, 0, false⟩ : St)) := by
      have := Inv.run 80 [(2, 0), (5, 0), (1, 0), (8, 0), (6, 0)] I3.out
      rw [HRun.out] at this
      exact this
    go_wp2_with fail
    refine (HRn.out _ P20.out G20.out).mono ?_
    rintro e w21 ⟨rfl, p21, t21⟩
    have B21 : Hid (Below w.heap.size w w21) := turn_new B20.out t21 (by omega) (by omega) B20.out.size
    have Q21 : Hid (IsP w21 pq mq 400 (Qu lv h 0 li 0 D)) := Q20.out.turnC t21 (by omega) (by omega) (by omega) (by omega)
    have R21 : Hid (∀ o, w21.cell? ⟨w5.heap.size, o, none⟩ = (#[.int .i64 h, .int .i64 0, .bool false, .int .i64 0, .int .i64 li, .int .i64 0, .bool a1, .bool a2, .bool a3] : Array Value)[o]?) := fun o => (World.cell?_of_block (t21.block w5.heap.size z20 (by omega) (by omega))).trans (R20.out o)
    have z21 : w5.heap.size < w21.heap.size := Nat.lt_of_lt_of_le z20 t21.size
    have P21 : Hid (IsP w21 pb mb (400 + 80) (⟨lv, 0, 0, true, 0, 0, li, D, 0, false⟩ : St)) := p21
    have HSe2 : Hid (∀ w1, IsP w1 pb mb (400 + 80) (⟨lv, 0, 0, true, 0, 0, li, D, 0, false⟩ : St) → Calls Try.prog 16 #[.pointer (some ⟨pb, 0, none⟩)] w1 fun e w' => e = .returned (senseV (⟨lv, 0, 0, true, 0, 0, li, D, 0, false⟩ : St)) ∧ Below w1.heap.size w1 w') := fun w1 hp => sense_any pb mb (400 + 80) _ w1 hp I21.out.ok
    have HV2 : Hid (∃ c1 c2 c3, senseV (⟨lv, 0, 0, true, 0, 0, li, D, 0, false⟩ : St) = .agg #[.int .i64 0, .int .i64 0, .bool true, .int .i64 0, .int .i64 0, .int .i64 li, .bool c1, .bool c2, .bool c3]) := ⟨_, _, _, rfl⟩
    obtain ⟨c1, c2, c3, hv2⟩ := HV2.out
    rw [hv2] at HSe2
    have HBt : Hid (∀ w1, IsP w1 pq mq 400 (Qu lv h 0 li 0 D) → IsP w1 pb mb (400 + 80) (⟨lv, 0, 0, true, 0, 0, li, D, 0, false⟩ : St) → Calls Try.prog 25 #[.pointer (some ⟨pq, 0, none⟩), .pointer (some ⟨pb, 0, none⟩), .agg #[.int .i64 0, .int .i64 0, .int .i64 0]] w1 fun e w' => e = .returned (.bool true) ∧ Below w1.heap.size w1 w') := fun w1 hq hp => but_any pq mq 400 pb mb (400 + 80) _ _ 0 0 0 w1 hq hp (by omega) (fun x y z _ _ _ _ => rfl)
    clear p21 t21 hv2 HV2 HRn P20 Q20 B20 R20 G20
    generalize hST : (⟨lv, 0, 0, true, 0, 0, li, D, 0, false⟩ : St) = T at *
    have HTu : Hid (T.hu = false) := by rw [← hST]; rfl
    clear hST
    go_wp2_with fail
    refine (HSe2.out _ P21.out).mono ?_
    rintro e w22 ⟨rfl, b22⟩
    obtain ⟨w23, hw23⟩ : ∃ w23, w22.alloc (.cells #[.int .i64 0, .int .i64 0, .bool true, .int .i64 0, .int .i64 0, .int .i64 li, .bool c1, .bool c2, .bool c3] 45) = w23 := ⟨_, rfl⟩
    have zb22 := b22.size
    have B23 : Hid (Below w.heap.size w w23) := by rw [← hw23]; exact B.next B21.out (b22.alloc zb22 _) B21.out.size
    have P23 : Hid (IsP w23 pb mb (400 + 80) T) := by rw [← hw23]; exact P21.out.below (b22.alloc zb22 _)
    have Q23 : Hid (IsP w23 pq mq 400 (Qu lv h 0 li 0 D)) := by rw [← hw23]; exact Q21.out.below (b22.alloc zb22 _)
    have R23 : Hid (∀ o, w23.cell? ⟨w5.heap.size, o, none⟩ = (#[.int .i64 h, .int .i64 0, .bool false, .int .i64 0, .int .i64 li, .int .i64 0, .bool a1, .bool a2, .bool a3] : Array Value)[o]?) := by rw [← hw23]; exact B.row (b22.alloc zb22 _) R21.out z21
    have T23 : Hid (∀ o, w23.cell? ⟨w22.heap.size, o, none⟩ = (#[.int .i64 0, .int .i64 0, .bool true, .int .i64 0, .int .i64 0, .int .i64 li, .bool c1, .bool c2, .bool c3] : Array Value)[o]?) := by rw [← hw23]; exact B.row_new w22 _ _
    have t0 : w23.cell? ⟨w22.heap.size, 0, none⟩ = some (.int .i64 0) := T23.out 0
    have t2 : w23.cell? ⟨w22.heap.size, 2, none⟩ = some (.bool true) := T23.out 2
    have t4 : w23.cell? ⟨w22.heap.size, 4, none⟩ = some (.int .i64 0) := T23.out 4
    have t5 : w23.cell? ⟨w22.heap.size, 5, none⟩ = some (.int .i64 li) := T23.out 5
    have u4 : w23.cell? ⟨w5.heap.size, 4, none⟩ = some (.int .i64 li) := R23.out 4
    have u5 : w23.cell? ⟨w5.heap.size, 5, none⟩ = some (.int .i64 0) := R23.out 5
    clear b22 HSe2 P21 Q21 B21 R21
    go_wp2_with fail
    refine (HBt.out _ Q23.out P23.out).mono ?_
    rintro e w25 ⟨rfl, b25⟩
    have B25 : Hid (Below w.heap.size w w25) := B.next B23.out b25 B23.out.size
    have d9 : w25.cell? ⟨pb, 9, none⟩ = some (.bool false) := by have := (P23.out.below b25).c9; rw [HTu.out] at this; exact this
    clear b25 hw23
    go_wp2
    go_returns
    exact ⟨rfl, B25.out⟩

end Pl
end Go.Proofs.Yticjjnmmedmbiab
