/- TopFetch: who fetches a car has it, and nothing else is moved (C1, D1, D2). -/
import Derived.Test.YticjjnmmedmbiabFetch
namespace Go.Proofs.Yticjjnmmedmbiab
open Go.ChangeShapes Go.WideShapes Go.ChangeAt Go.RowKit Go.Maps
set_option maxRecDepth 100000
set_option linter.unusedSimpArgs false
set_option linter.unusedVariables false

namespace Pl
open Ac
theorem IsP.turn {w w' : World} {pq mq pb mb n : Nat} {s : St} (h : IsP w pq mq n s) (t : Turn pb mb w w') (h1 : pq ≠ pb) (h2 : pq ≠ mb) (h3 : mq ≠ pb) (h4 : mq ≠ mb) : IsP w' pq mq n s := by
  refine ⟨(t.block pq h.lt h1 h2).trans h.row, ?_⟩
  obtain ⟨es, clock, hm, r⟩ := h.cars
  exact ⟨es, clock, (t.block mq (Array.getElem?_eq_some_iff.1 hm).1 h3 h4).trans hm, r⟩

set_option maxHeartbeats 8000000 in
theorem topFetch_run (lv : Int) (v : Value) (X Y Z : Int) (len : Nat) (f : Nat → ActC) (w : World) (hs : ActsAt w v len f) (wX : (Lit.int .i64 X).wf = true) (wY : (Lit.int .i64 Y).wf = true) (wZ : (Lit.int .i64 Z).wf = true) :
    Calls Try.prog 4 #[.int .i64 lv, v, .agg #[.int .i64 X, .int .i64 Y, .int .i64 Z]] w fun e w' => e = .returned (.bool true) ∧ Below w.heap.size w w' := by
  obtain ⟨w0, hw0⟩ : ∃ w0, w0 = w.alloc (.cells #[.int .i64 X, .int .i64 Y, .int .i64 Z] 52) := ⟨_, rfl⟩
  have HW : Hid (Below w.heap.size w w0) := by rw [hw0]; exact B.new1 _ _
  have z0 : w0.heap.size = w.heap.size + 1 := by rw [hw0]; simp
  have HX : Hid (∀ wx, Below w0.heap.size w0 wx → ∀ o, wx.cell? ⟨w.heap.size, o, none⟩ = (#[.int .i64 X, .int .i64 Y, .int .i64 Z] : Array Value)[o]?) := fun wx hb => B.row hb (by rw [hw0]; exact B.row_new _ _ _) (by omega)
  have FIN : Hid (∀ wx, Below w0.heap.size w0 wx → Below w.heap.size w wx) := fun wx hb => B.next HW.out hb (by omega)
  have HS : Hid (ActsAt w0 v len f) := hs.below HW.out
  clear hs
  go_enter Try.func4, Try.ntmps4
  go_wp2_with fail
  rw [← hw0]
  clear hw0
  refine (moved_any w0).mono ?_
  rintro e w1 ⟨rfl, b1⟩
  have B1 : Hid (Below w0.heap.size w0 w1) := b1
  clear b1
  go_wp2_with fail
  refine (calm_any lv v len f w1 (HS.out.below B1.out)).mono ?_
  rintro e w2 (⟨rfl, b2⟩ | ⟨hlv, pb, mb, rfl, p2, hpb, hmb, b2⟩)
  · have B2 : Hid (Below w0.heap.size w0 w2) := B.next B1.out b2 B1.out.size
    clear b2
    go_wp2_with fail
    refine (calm_any lv v len f w2 (HS.out.below B2.out)).mono ?_
    rintro e w3 (⟨rfl, b3⟩ | ⟨_, pq, mq, rfl, _, _, _, b3⟩)
    all_goals
      have B3 : Hid (Below w0.heap.size w0 w3) := B.next B2.out b3 B2.out.size
      clear b3
      go_wp2
      go_returns
      exact ⟨rfl, FIN.out _ B3.out⟩
  have B2 : Hid (Below w0.heap.size w0 w2) := B.next B1.out b2 B1.out.size
  have P2 : Hid (IsP w2 pb mb 400 (calmSt lv len f)) := p2
  have zp : w0.heap.size ≤ pb ∧ w0.heap.size ≤ mb ∧ pb < w2.heap.size ∧ mb < w2.heap.size := ⟨Nat.le_trans B1.out.size hpb, Nat.le_trans B1.out.size hmb, p2.lt, p2.ltm⟩
  clear b2 p2 hpb hmb B1
  go_wp2_with fail
  refine (calm_any lv v len f w2 (HS.out.below B2.out)).mono ?_
  rintro e w3 (⟨rfl, b3⟩ | ⟨_, pq, mq, rfl, p3, hpq, hmq, b3⟩)
  · have B3 : Hid (Below w0.heap.size w0 w3) := B.next B2.out b3 B2.out.size
    clear b3
    generalize calmB lv len f = cb
    cases cb
    all_goals
      go_wp2
      go_returns
      exact ⟨rfl, FIN.out _ B3.out⟩
  have B3 : Hid (Below w0.heap.size w0 w3) := B.next B2.out b3 B2.out.size
  have P3 : Hid (IsP w3 pb mb 400 (calmSt lv len f)) := P2.out.below b3
  have Q3 : Hid (IsP w3 pq mq 400 (calmSt lv len f)) := p3
  have zq : w2.heap.size ≤ pq ∧ w2.heap.size ≤ mq ∧ pq < w3.heap.size ∧ mq < w3.heap.size ∧ w2.heap.size ≤ w3.heap.size := ⟨hpq, hmq, p3.lt, p3.ltm, b3.size⟩
  clear b3 p3 hpq hmq P2 B2
  have CQ : Hid (calmB lv len f = true → ∃ h li ba D, calmSt lv len f = Qu (calmSt lv len f).lv h 0 li ba D ∧ Inv (calmSt lv len f)) := fun hb => calm_quiet hlv len f hb
  have CL : Hid ((calmSt lv len f).lv = lv) := calm_lv lv len f
  generalize calmB lv len f = cb at *
  generalize calmSt lv len f = S at *
  cases cb
  · go_wp2
    go_returns
    exact ⟨rfl, FIN.out _ B3.out⟩
  obtain ⟨h, li, ba, D, hS, hI⟩ := CQ.out rfl
  rw [CL.out] at hS
  subst hS
  have I3 : Hid (Inv (Qu lv h 0 li ba D)) := hI
  clear CQ CL hI
  obtain ⟨x0, x1, x2⟩ : w3.cell? ⟨w.heap.size, 0, none⟩ = some (.int .i64 X) ∧ w3.cell? ⟨w.heap.size, 1, none⟩ = some (.int .i64 Y) ∧ w3.cell? ⟨w.heap.size, 2, none⟩ = some (.int .i64 Z) := ⟨HX.out _ B3.out 0, HX.out _ B3.out 1, HX.out _ B3.out 2⟩
  go_wp2_with fail
  refine (checkPlace_any X Y Z lv w3).mono ?_
  rintro e w4 ⟨rfl, b4⟩
  have B4 : Hid (Below w0.heap.size w0 w4) := B.next B3.out b4 B3.out.size
  have P4 : Hid (IsP w4 pb mb 400 (Qu lv h 0 li ba D)) := P3.out.below b4
  have Q4 : Hid (IsP w4 pq mq 400 (Qu lv h 0 li ba D)) := Q3.out.below b4
  have z4 := b4.size
  clear b4 P3 Q3 B3 x0 x1 x2
  cases hpl : placeB X Y Z lv
  · rw [faultN_f, errV_ne (by decide)]
    go_wp2
    go_returns
    exact ⟨rfl, FIN.out _ B4.out⟩
  rw [faultN_t, errV0]
  simp only [placeB, decide_eq_true_eq] at hpl
  obtain ⟨p1, p2, p3, p4, p5, p6⟩ := hpl
  obtain ⟨hlv1, hlv4⟩ := hlv
  have HSe : Hid (∀ w1, IsP w1 pb mb 400 (Qu lv h 0 li ba D) → Calls Try.prog 16 #[.pointer (some ⟨pb, 0, none⟩)] w1 fun e w' => e = .returned (senseV (Qu lv h 0 li ba D)) ∧ Below w1.heap.size w1 w') := fun w1 hp => sense_any pb mb 400 _ w1 hp I3.out.ok
  have HV : Hid (∃ a1 a2 a3, senseV (Qu lv h 0 li ba D) = .agg #[.int .i64 h, .int .i64 0, .bool false, .int .i64 0, .int .i64 li, .int .i64 ba, .bool a1, .bool a2, .bool a3]) := ⟨_, _, _, rfl⟩
  obtain ⟨a1, a2, a3, hv⟩ := HV.out
  rw [hv] at HSe
  clear hv HV
  have HAt : Hid (∀ (z : Int) w1, (Lit.int .i64 z).wf = true → IsP w1 pb mb 400 (Qu lv h 0 li ba D) → Calls Try.prog 21 #[.pointer (some ⟨pb, 0, none⟩), .agg #[.int .i64 X, .int .i64 Y, .int .i64 z]] w1 fun e w' => e = .returned (.int .i64 (carOf D X Y z)) ∧ Below w1.heap.size w1 w') := fun z w1 wz hp => at_any pb mb 400 D X Y z w1 hp.c7 hp.cars wX wY wz
  go_wp2_with fail
  refine (HSe.out _ P4.out).mono ?_
  rintro e w5 ⟨rfl, b5⟩
  have z5 := b5.size
  obtain ⟨w6, hw6⟩ : ∃ w6, w5.alloc (.cells #[.int .i64 h, .int .i64 0, .bool false, .int .i64 0, .int .i64 li, .int .i64 ba, .bool a1, .bool a2, .bool a3] 45) = w6 := ⟨_, rfl⟩
  have B6 : Hid (Below w0.heap.size w0 w6) := by rw [← hw6]; exact B.next B4.out (b5.alloc z5 _) B4.out.size
  have P6 : Hid (IsP w6 pb mb 400 (Qu lv h 0 li ba D)) := by rw [← hw6]; exact P4.out.below (b5.alloc z5 _)
  have Q6 : Hid (IsP w6 pq mq 400 (Qu lv h 0 li ba D)) := by rw [← hw6]; exact Q4.out.below (b5.alloc z5 _)
  have R6 : Hid (∀ o, w6.cell? ⟨w5.heap.size, o, none⟩ = (#[.int .i64 h, .int .i64 0, .bool false, .int .i64 0, .int .i64 li, .int .i64 ba, .bool a1, .bool a2, .bool a3] : Array Value)[o]?) := by rw [← hw6]; exact B.row_new w5 _ _
  have z6 : w5.heap.size < w6.heap.size := by rw [← hw6]; simp
  have ne5 : w5.heap.size ≠ pb ∧ w5.heap.size ≠ mb ∧ w5.heap.size ≠ pq ∧ w5.heap.size ≠ mq ∧ w0.heap.size ≤ w5.heap.size := by omega
  clear b5 HSe P4 Q4 B4
  obtain ⟨x0, x1, x2⟩ : w6.cell? ⟨w.heap.size, 0, none⟩ = some (.int .i64 X) ∧ w6.cell? ⟨w.heap.size, 1, none⟩ = some (.int .i64 Y) ∧ w6.cell? ⟨w.heap.size, 2, none⟩ = some (.int .i64 Z) := ⟨HX.out _ B6.out 0, HX.out _ B6.out 1, HX.out _ B6.out 2⟩
  have s4 : w6.cell? ⟨w5.heap.size, 4, none⟩ = some (.int .i64 li) := R6.out 4
  go_wp2_with fail
  refine (HAt.out Z _ wZ P6.out).mono ?_
  rintro e w7 ⟨rfl, b7⟩
  have B7 : Hid (Below w0.heap.size w0 w7) := B.next B6.out b7 B6.out.size
  have P7 : Hid (IsP w7 pb mb 400 (Qu lv h 0 li ba D)) := P6.out.below b7
  have Q7 : Hid (IsP w7 pq mq 400 (Qu lv h 0 li ba D)) := Q6.out.below b7
  have R7 : Hid (∀ o, w7.cell? ⟨w5.heap.size, o, none⟩ = (#[.int .i64 h, .int .i64 0, .bool false, .int .i64 0, .int .i64 li, .int .i64 ba, .bool a1, .bool a2, .bool a3] : Array Value)[o]?) := B.row b7 R6.out z6
  have z7 : w5.heap.size < w7.heap.size := Nat.lt_of_lt_of_le z6 b7.size
  have zz7 : w6.heap.size ≤ w7.heap.size := b7.size
  clear b7 P6 Q6 B6 R6 x0 x1 x2 s4
  obtain ⟨x0, x1, x2⟩ : w7.cell? ⟨w.heap.size, 0, none⟩ = some (.int .i64 X) ∧ w7.cell? ⟨w.heap.size, 1, none⟩ = some (.int .i64 Y) ∧ w7.cell? ⟨w.heap.size, 2, none⟩ = some (.int .i64 Z) := ⟨HX.out _ B7.out 0, HX.out _ B7.out 1, HX.out _ B7.out 2⟩
  have s4 : w7.cell? ⟨w5.heap.size, 4, none⟩ = some (.int .i64 li) := R7.out 4
  clear hw6
  rcases Int.decEq li 0 with ki | ki
  · have ki1 : (li != 0) = true := by simp [bne, ki]
    go_wp2
    go_returns
    exact ⟨rfl, FIN.out _ B7.out⟩
  subst ki
  rcases Int.decEq (carOf D X Y Z) 0 with kc | kc
  rotate_left
  · rw [kc]
    go_wp2
    go_returns
    exact ⟨rfl, FIN.out _ B7.out⟩
  have HCne : Hid (carOf D X Y Z ≠ 0) := kc
  have kc1 : (carOf D X Y Z == 0) = false := by simpa using kc
  rcases Int.decEq Z 1 with kz | kz
  · have HFr : Hid (Z = 1 → carOf D X Y 0 = 0) := fun e => absurd e kz
    have kz1 : (Z == 1) = false := by simpa using kz
    go_wp2_with fail
    refine (fetch_any X Y Z w7 pb mb (by omega) (by omega) p1 (by omega) p5 p6).mono ?_
    rintro e w20 ⟨v20, rfl, g20, b20⟩
    have G20 : Hid (GoalsAt pb mb w20 v20 [(2, 0), (5, 0), (1, X * 3), (2, extI Y Z), (3, 0), (2, 0)]) := g20
    have B20 : Hid (Below w0.heap.size w0 w20) := B.next B7.out b20 B7.out.size
    have P20 : Hid (IsP w20 pb mb 400 (Qu lv h 0 0 ba D)) := P7.out.below b20
    have Q20 : Hid (IsP w20 pq mq 400 (Qu lv h 0 0 ba D)) := Q7.out.below b20
    have R20 : Hid (∀ o, w20.cell? ⟨w5.heap.size, o, none⟩ = (#[.int .i64 h, .int .i64 0, .bool false, .int .i64 0, .int .i64 0, .int .i64 ba, .bool a1, .bool a2, .bool a3] : Array Value)[o]?) := B.row b20 R7.out z7
    have z20 : w5.heap.size < w20.heap.size := Nat.lt_of_lt_of_le z7 b20.size
    have HRun : Hid (runS 80 [(2, 0), (5, 0), (1, X * 3), (2, extI Y Z), (3, 0), (2, 0)] (Qu lv h 0 0 ba D) = ([], Qu lv (X * 3) 0 (carOf D X Y Z) ba (D.del (pk X Y Z)))) := run_fetch I3.out ⟨p1, p2⟩ ⟨p3, p4⟩ ⟨p5, p6⟩ HCne.out (fun e => HFr.out (by first | exact e | trivial))
    have HRn : Hid (∀ w1, IsP w1 pb mb 400 (Qu lv h 0 0 ba D) → GoalsAt pb mb w1 v20 [(2, 0), (5, 0), (1, X * 3), (2, extI Y Z), (3, 0), (2, 0)] → Calls Try.prog 23 #[.pointer (some ⟨pb, 0, none⟩), v20, .int .i64 80] w1 fun e w' => e = .returned (.bool true) ∧ IsP w' pb mb (400 + 80) (Qu lv (X * 3) 0 (carOf D X Y Z) ba (D.del (pk X Y Z))) ∧ Turn pb mb w1 w') := fun w1 hp hg => by
      have := run_any pb mb 400 _ v20 _ 80 w1 hp I3.out hg (by omega) (by unfold maxLen; omega)
      rw [HRun.out] at this
      exact this
    have I21 : Hid (Inv (Qu lv (X * 3) 0 (carOf D X Y Z) ba (D.del (pk X Y Z)))) := by
      have := Inv.run 80 [(2, 0), (5, 0), (1, X * 3), (2, extI Y Z), (3, 0), (2, 0)] I3.out
      rw [HRun.out] at this
      exact this
    have HDel : Hid (carOf (D.del (pk X Y Z)) X Y Z = 0) := by
      show _ = _
      rw [carOf_del wX wY wZ wX wY wZ, if_pos ⟨rfl, rfl, rfl⟩]
    have HOth : Hid (∀ x y z : Int, 1 ≤ x ∧ x ≤ 4 → 0 ≤ y ∧ y ≤ 1 → 0 ≤ z ∧ z ≤ 1 → ¬ (x = X ∧ y = Y ∧ z = Z) → carOf (Qu lv h 0 0 ba D).D x y z = carOf (Qu lv (X * 3) 0 (carOf D X Y Z) ba (D.del (pk X Y Z))).D x y z) := fun x y z h1 h2 h3 hn => by
      show carOf D x y z = carOf (D.del (pk X Y Z)) x y z
      rw [carOf_del wX wY wZ (wfI (by omega)) (wfI (by omega)) (wfI (by omega)), if_neg hn]
    clear g20 b20 P7 Q7 B7 R7 x0 x1 x2 s4 HRun
    go_wp2_with fail
    refine (HRn.out _ P20.out G20.out).mono ?_
    rintro e w21 ⟨rfl, p21, t21⟩
    have B21 : Hid (Below w0.heap.size w0 w21) := turn_new B20.out t21 (by omega) (by omega) B20.out.size
    have Q21 : Hid (IsP w21 pq mq 400 (Qu lv h 0 0 ba D)) := Q20.out.turn t21 (by omega) (by omega) (by omega) (by omega)
    have R21 : Hid (∀ o, w21.cell? ⟨w5.heap.size, o, none⟩ = (#[.int .i64 h, .int .i64 0, .bool false, .int .i64 0, .int .i64 0, .int .i64 ba, .bool a1, .bool a2, .bool a3] : Array Value)[o]?) := fun o => (World.cell?_of_block (t21.block w5.heap.size z20 (by omega) (by omega))).trans (R20.out o)
    have z21 : w5.heap.size < w21.heap.size := Nat.lt_of_lt_of_le z20 t21.size
    have P21 : Hid (IsP w21 pb mb (400 + 80) (Qu lv (X * 3) 0 (carOf D X Y Z) ba (D.del (pk X Y Z)))) := p21
    have HSe2 : Hid (∀ w1, IsP w1 pb mb (400 + 80) (Qu lv (X * 3) 0 (carOf D X Y Z) ba (D.del (pk X Y Z))) → Calls Try.prog 16 #[.pointer (some ⟨pb, 0, none⟩)] w1 fun e w' => e = .returned (senseV (Qu lv (X * 3) 0 (carOf D X Y Z) ba (D.del (pk X Y Z)))) ∧ Below w1.heap.size w1 w') := fun w1 hp => sense_any pb mb (400 + 80) _ w1 hp I21.out.ok
    have HV2 : Hid (∃ c1 c2 c3, senseV (Qu lv (X * 3) 0 (carOf D X Y Z) ba (D.del (pk X Y Z))) = .agg #[.int .i64 (X * 3), .int .i64 0, .bool false, .int .i64 0, .int .i64 (carOf D X Y Z), .int .i64 ba, .bool c1, .bool c2, .bool c3]) := ⟨_, _, _, rfl⟩
    obtain ⟨c1, c2, c3, hv2⟩ := HV2.out
    rw [hv2] at HSe2
    have HAt2 : Hid (∀ w1, IsP w1 pb mb (400 + 80) (Qu lv (X * 3) 0 (carOf D X Y Z) ba (D.del (pk X Y Z))) → Calls Try.prog 21 #[.pointer (some ⟨pb, 0, none⟩), .agg #[.int .i64 X, .int .i64 Y, .int .i64 Z]] w1 fun e w' => e = .returned (.int .i64 0) ∧ Below w1.heap.size w1 w') := fun w1 hp => by
      have := at_any pb mb (400 + 80) (D.del (pk X Y Z)) X Y Z w1 hp.c7 hp.cars wX wY wZ
      rwa [HDel.out] at this
    have HBt : Hid (∀ w1, IsP w1 pq mq 400 (Qu lv h 0 0 ba D) → IsP w1 pb mb (400 + 80) (Qu lv (X * 3) 0 (carOf D X Y Z) ba (D.del (pk X Y Z))) → Calls Try.prog 25 #[.pointer (some ⟨pq, 0, none⟩), .pointer (some ⟨pb, 0, none⟩), .agg #[.int .i64 X, .int .i64 Y, .int .i64 Z]] w1 fun e w' => e = .returned (.bool true) ∧ Below w1.heap.size w1 w') := fun w1 hq hp => but_any pq mq 400 pb mb (400 + 80) _ _ X Y Z w1 hq hp (by omega) HOth.out
    clear p21 t21 hv2 HV2 HRn HOth HDel P20 Q20 B20 R20 G20
    generalize hST : Qu lv (X * 3) 0 (carOf D X Y Z) ba (D.del (pk X Y Z)) = T at *
    have HTu : Hid (T.hu = false) := by rw [← hST]; rfl
    clear hST
    generalize carOf D X Y Z = c at *
    go_wp2_with fail
    refine (HSe2.out _ P21.out).mono ?_
    rintro e w22 ⟨rfl, b22⟩
    obtain ⟨w23, hw23⟩ : ∃ w23, w22.alloc (.cells #[.int .i64 (X * 3), .int .i64 0, .bool false, .int .i64 0, .int .i64 c, .int .i64 ba, .bool c1, .bool c2, .bool c3] 45) = w23 := ⟨_, rfl⟩
    have zb22 := b22.size
    have B23 : Hid (Below w0.heap.size w0 w23) := by rw [← hw23]; exact B.next B21.out (b22.alloc zb22 _) B21.out.size
    have P23 : Hid (IsP w23 pb mb (400 + 80) T) := by rw [← hw23]; exact P21.out.below (b22.alloc zb22 _)
    have Q23 : Hid (IsP w23 pq mq 400 (Qu lv h 0 0 ba D)) := by rw [← hw23]; exact Q21.out.below (b22.alloc zb22 _)
    have R23 : Hid (∀ o, w23.cell? ⟨w5.heap.size, o, none⟩ = (#[.int .i64 h, .int .i64 0, .bool false, .int .i64 0, .int .i64 0, .int .i64 ba, .bool a1, .bool a2, .bool a3] : Array Value)[o]?) := by rw [← hw23]; exact B.row (b22.alloc zb22 _) R21.out z21
    have T23 : Hid (∀ o, w23.cell? ⟨w22.heap.size, o, none⟩ = (#[.int .i64 (X * 3), .int .i64 0, .bool false, .int .i64 0, .int .i64 c, .int .i64 ba, .bool c1, .bool c2, .bool c3] : Array Value)[o]?) := by rw [← hw23]; exact B.row_new w22 _ _
    have z23 : w5.heap.size < w23.heap.size ∧ w22.heap.size < w23.heap.size := by rw [← hw23]; simp; omega
    have y0 : w23.cell? ⟨w.heap.size, 0, none⟩ = some (.int .i64 X) := HX.out _ B23.out 0
    have y1 : w23.cell? ⟨w.heap.size, 1, none⟩ = some (.int .i64 Y) := HX.out _ B23.out 1
    have y2 : w23.cell? ⟨w.heap.size, 2, none⟩ = some (.int .i64 Z) := HX.out _ B23.out 2
    have t1 : w23.cell? ⟨w22.heap.size, 1, none⟩ = some (.int .i64 0) := T23.out 1
    have t2 : w23.cell? ⟨w22.heap.size, 2, none⟩ = some (.bool false) := T23.out 2
    have t4 : w23.cell? ⟨w22.heap.size, 4, none⟩ = some (.int .i64 c) := T23.out 4
    have t5 : w23.cell? ⟨w22.heap.size, 5, none⟩ = some (.int .i64 ba) := T23.out 5
    have u5 : w23.cell? ⟨w5.heap.size, 5, none⟩ = some (.int .i64 ba) := R23.out 5
    clear b22 HSe2 P21 Q21 B21 R21
    go_wp2_with fail
    refine (HAt2.out _ P23.out).mono ?_
    rintro e w24 ⟨rfl, b24⟩
    have B24 : Hid (Below w0.heap.size w0 w24) := B.next B23.out b24 B23.out.size
    have P24 : Hid (IsP w24 pb mb (400 + 80) T) := P23.out.below b24
    have Q24 : Hid (IsP w24 pq mq 400 (Qu lv h 0 0 ba D)) := Q23.out.below b24
    have y0' : w24.cell? ⟨w.heap.size, 0, none⟩ = some (.int .i64 X) := HX.out _ B24.out 0
    have y1' : w24.cell? ⟨w.heap.size, 1, none⟩ = some (.int .i64 Y) := HX.out _ B24.out 1
    have y2' : w24.cell? ⟨w.heap.size, 2, none⟩ = some (.int .i64 Z) := HX.out _ B24.out 2
    have t1' : w24.cell? ⟨w22.heap.size, 1, none⟩ = some (.int .i64 0) := (B.cell b24 _ _ z23.2).trans t1
    have t2' : w24.cell? ⟨w22.heap.size, 2, none⟩ = some (.bool false) := (B.cell b24 _ _ z23.2).trans t2
    have t5' : w24.cell? ⟨w22.heap.size, 5, none⟩ = some (.int .i64 ba) := (B.cell b24 _ _ z23.2).trans t5
    have u5' : w24.cell? ⟨w5.heap.size, 5, none⟩ = some (.int .i64 ba) := (B.cell b24 _ _ z23.1).trans u5
    clear b24 P23 Q23 B23 hw23
    go_wp2_with fail
    refine (HBt.out _ Q24.out P24.out).mono ?_
    rintro e w25 ⟨rfl, b25⟩
    have B25 : Hid (Below w0.heap.size w0 w25) := B.next B24.out b25 B24.out.size
    have d9 : w25.cell? ⟨pb, 9, none⟩ = some (.bool false) := by have := (P24.out.below b25).c9; rw [HTu.out] at this; exact this
    clear b25
    go_wp2
    go_returns
    exact ⟨rfl, FIN.out _ B25.out⟩
  subst kz
  go_wp2_with fail
  refine (front_any X Y 1 w7).mono ?_
  rintro e w8 ⟨rfl, b8⟩
  have B8 : Hid (Below w0.heap.size w0 w8) := B.next B7.out b8 B7.out.size
  have P8 : Hid (IsP w8 pb mb 400 (Qu lv h 0 0 ba D)) := P7.out.below b8
  have Q8 : Hid (IsP w8 pq mq 400 (Qu lv h 0 0 ba D)) := Q7.out.below b8
  have R8 : Hid (∀ o, w8.cell? ⟨w5.heap.size, o, none⟩ = (#[.int .i64 h, .int .i64 0, .bool false, .int .i64 0, .int .i64 0, .int .i64 ba, .bool a1, .bool a2, .bool a3] : Array Value)[o]?) := B.row b8 R7.out z7
  have z8 : w5.heap.size < w8.heap.size := Nat.lt_of_lt_of_le z7 b8.size
  have zz8 : w7.heap.size ≤ w8.heap.size := b8.size
  clear b8 P7 Q7 B7 R7 x0 x1 x2 s4
  obtain ⟨x0, x1, x2⟩ : w8.cell? ⟨w.heap.size, 0, none⟩ = some (.int .i64 X) ∧ w8.cell? ⟨w.heap.size, 1, none⟩ = some (.int .i64 Y) ∧ w8.cell? ⟨w.heap.size, 2, none⟩ = some (.int .i64 1) := ⟨HX.out _ B8.out 0, HX.out _ B8.out 1, HX.out _ B8.out 2⟩
  have s4 : w8.cell? ⟨w5.heap.size, 4, none⟩ = some (.int .i64 0) := R8.out 4
  go_wp2_with fail
  refine (HAt.out 0 _ (wfI (by omega)) P8.out).mono ?_
  rintro e w9 ⟨rfl, b9⟩
  have B9 : Hid (Below w0.heap.size w0 w9) := B.next B8.out b9 B8.out.size
  have P9 : Hid (IsP w9 pb mb 400 (Qu lv h 0 0 ba D)) := P8.out.below b9
  have Q9 : Hid (IsP w9 pq mq 400 (Qu lv h 0 0 ba D)) := Q8.out.below b9
  have R9 : Hid (∀ o, w9.cell? ⟨w5.heap.size, o, none⟩ = (#[.int .i64 h, .int .i64 0, .bool false, .int .i64 0, .int .i64 0, .int .i64 ba, .bool a1, .bool a2, .bool a3] : Array Value)[o]?) := B.row b9 R8.out z8
  have z9 : w5.heap.size < w9.heap.size := Nat.lt_of_lt_of_le z8 b9.size
  have zz9 : w8.heap.size ≤ w9.heap.size := b9.size
  clear b9 P8 Q8 B8 R8 x0 x1 x2 s4
  obtain ⟨x0, x1, x2⟩ : w9.cell? ⟨w.heap.size, 0, none⟩ = some (.int .i64 X) ∧ w9.cell? ⟨w.heap.size, 1, none⟩ = some (.int .i64 Y) ∧ w9.cell? ⟨w.heap.size, 2, none⟩ = some (.int .i64 1) := ⟨HX.out _ B9.out 0, HX.out _ B9.out 1, HX.out _ B9.out 2⟩
  have s4 : w9.cell? ⟨w5.heap.size, 4, none⟩ = some (.int .i64 0) := R9.out 4
  rcases Int.decEq (carOf D X Y 0) 0 with kf | kf
  · have kf1 : (carOf D X Y 0 != 0) = true := by simp [bne, kf]
    go_wp2
    go_returns
    exact ⟨rfl, FIN.out _ B9.out⟩
  have HFr : Hid ((1 : Int) = 1 → carOf D X Y 0 = 0) := fun _ => kf
  rw [kf]
  clear kf
  go_wp2_with fail
  refine (fetch_any X Y 1 w9 pb mb (by omega) (by omega) p1 (by omega) p5 p6).mono ?_
  rintro e w20 ⟨v20, rfl, g20, b20⟩
  have G20 : Hid (GoalsAt pb mb w20 v20 [(2, 0), (5, 0), (1, X * 3), (2, extI Y 1), (3, 0), (2, 0)]) := g20
  have B20 : Hid (Below w0.heap.size w0 w20) := B.next B9.out b20 B9.out.size
  have P20 : Hid (IsP w20 pb mb 400 (Qu lv h 0 0 ba D)) := P9.out.below b20
  have Q20 : Hid (IsP w20 pq mq 400 (Qu lv h 0 0 ba D)) := Q9.out.below b20
  have R20 : Hid (∀ o, w20.cell? ⟨w5.heap.size, o, none⟩ = (#[.int .i64 h, .int .i64 0, .bool false, .int .i64 0, .int .i64 0, .int .i64 ba, .bool a1, .bool a2, .bool a3] : Array Value)[o]?) := B.row b20 R9.out z9
  have z20 : w5.heap.size < w20.heap.size := Nat.lt_of_lt_of_le z9 b20.size
  have HRun : Hid (runS 80 [(2, 0), (5, 0), (1, X * 3), (2, extI Y 1), (3, 0), (2, 0)] (Qu lv h 0 0 ba D) = ([], Qu lv (X * 3) 0 (carOf D X Y 1) ba (D.del (pk X Y 1)))) := run_fetch I3.out ⟨p1, p2⟩ ⟨p3, p4⟩ ⟨p5, p6⟩ HCne.out (fun e => HFr.out (by first | exact e | trivial))
  have HRn : Hid (∀ w1, IsP w1 pb mb 400 (Qu lv h 0 0 ba D) → GoalsAt pb mb w1 v20 [(2, 0), (5, 0), (1, X * 3), (2, extI Y 1), (3, 0), (2, 0)] → Calls Try.prog 23 #[.pointer (some ⟨pb, 0, none⟩), v20, .int .i64 80] w1 fun e w' => e = .returned (.bool true) ∧ IsP w' pb mb (400 + 80) (Qu lv (X * 3) 0 (carOf D X Y 1) ba (D.del (pk X Y 1))) ∧ Turn pb mb w1 w') := fun w1 hp hg => by
    have := run_any pb mb 400 _ v20 _ 80 w1 hp I3.out hg (by omega) (by unfold maxLen; omega)
    rw [HRun.out] at this
    exact this
  have I21 : Hid (Inv (Qu lv (X * 3) 0 (carOf D X Y 1) ba (D.del (pk X Y 1)))) := by
    have := Inv.run 80 [(2, 0), (5, 0), (1, X * 3), (2, extI Y 1), (3, 0), (2, 0)] I3.out
    rw [HRun.out] at this
    exact this
  have HDel : Hid (carOf (D.del (pk X Y 1)) X Y 1 = 0) := by
    show _ = _
    rw [carOf_del wX wY wZ wX wY wZ, if_pos ⟨rfl, rfl, rfl⟩]
  have HOth : Hid (∀ x y z : Int, 1 ≤ x ∧ x ≤ 4 → 0 ≤ y ∧ y ≤ 1 → 0 ≤ z ∧ z ≤ 1 → ¬ (x = X ∧ y = Y ∧ z = 1) → carOf (Qu lv h 0 0 ba D).D x y z = carOf (Qu lv (X * 3) 0 (carOf D X Y 1) ba (D.del (pk X Y 1))).D x y z) := fun x y z h1 h2 h3 hn => by
    show carOf D x y z = carOf (D.del (pk X Y 1)) x y z
    rw [carOf_del wX wY wZ (wfI (by omega)) (wfI (by omega)) (wfI (by omega)), if_neg hn]
  clear g20 b20 P9 Q9 B9 R9 x0 x1 x2 s4 HRun
  go_wp2_with fail
  refine (HRn.out _ P20.out G20.out).mono ?_
  rintro e w21 ⟨rfl, p21, t21⟩
  have B21 : Hid (Below w0.heap.size w0 w21) := turn_new B20.out t21 (by omega) (by omega) B20.out.size
  have Q21 : Hid (IsP w21 pq mq 400 (Qu lv h 0 0 ba D)) := Q20.out.turn t21 (by omega) (by omega) (by omega) (by omega)
  have R21 : Hid (∀ o, w21.cell? ⟨w5.heap.size, o, none⟩ = (#[.int .i64 h, .int .i64 0, .bool false, .int .i64 0, .int .i64 0, .int .i64 ba, .bool a1, .bool a2, .bool a3] : Array Value)[o]?) := fun o => (World.cell?_of_block (t21.block w5.heap.size z20 (by omega) (by omega))).trans (R20.out o)
  have z21 : w5.heap.size < w21.heap.size := Nat.lt_of_lt_of_le z20 t21.size
  have P21 : Hid (IsP w21 pb mb (400 + 80) (Qu lv (X * 3) 0 (carOf D X Y 1) ba (D.del (pk X Y 1)))) := p21
  have HSe2 : Hid (∀ w1, IsP w1 pb mb (400 + 80) (Qu lv (X * 3) 0 (carOf D X Y 1) ba (D.del (pk X Y 1))) → Calls Try.prog 16 #[.pointer (some ⟨pb, 0, none⟩)] w1 fun e w' => e = .returned (senseV (Qu lv (X * 3) 0 (carOf D X Y 1) ba (D.del (pk X Y 1)))) ∧ Below w1.heap.size w1 w') := fun w1 hp => sense_any pb mb (400 + 80) _ w1 hp I21.out.ok
  have HV2 : Hid (∃ c1 c2 c3, senseV (Qu lv (X * 3) 0 (carOf D X Y 1) ba (D.del (pk X Y 1))) = .agg #[.int .i64 (X * 3), .int .i64 0, .bool false, .int .i64 0, .int .i64 (carOf D X Y 1), .int .i64 ba, .bool c1, .bool c2, .bool c3]) := ⟨_, _, _, rfl⟩
  obtain ⟨c1, c2, c3, hv2⟩ := HV2.out
  rw [hv2] at HSe2
  have HAt2 : Hid (∀ w1, IsP w1 pb mb (400 + 80) (Qu lv (X * 3) 0 (carOf D X Y 1) ba (D.del (pk X Y 1))) → Calls Try.prog 21 #[.pointer (some ⟨pb, 0, none⟩), .agg #[.int .i64 X, .int .i64 Y, .int .i64 1]] w1 fun e w' => e = .returned (.int .i64 0) ∧ Below w1.heap.size w1 w') := fun w1 hp => by
    have := at_any pb mb (400 + 80) (D.del (pk X Y 1)) X Y 1 w1 hp.c7 hp.cars wX wY wZ
    rwa [HDel.out] at this
  have HBt : Hid (∀ w1, IsP w1 pq mq 400 (Qu lv h 0 0 ba D) → IsP w1 pb mb (400 + 80) (Qu lv (X * 3) 0 (carOf D X Y 1) ba (D.del (pk X Y 1))) → Calls Try.prog 25 #[.pointer (some ⟨pq, 0, none⟩), .pointer (some ⟨pb, 0, none⟩), .agg #[.int .i64 X, .int .i64 Y, .int .i64 1]] w1 fun e w' => e = .returned (.bool true) ∧ Below w1.heap.size w1 w') := fun w1 hq hp => but_any pq mq 400 pb mb (400 + 80) _ _ X Y 1 w1 hq hp (by omega) HOth.out
  clear p21 t21 hv2 HV2 HRn HOth HDel P20 Q20 B20 R20 G20
  generalize hST : Qu lv (X * 3) 0 (carOf D X Y 1) ba (D.del (pk X Y 1)) = T at *
  have HTu : Hid (T.hu = false) := by rw [← hST]; rfl
  clear hST
  generalize carOf D X Y 1 = c at *
  go_wp2_with fail
  refine (HSe2.out _ P21.out).mono ?_
  rintro e w22 ⟨rfl, b22⟩
  obtain ⟨w23, hw23⟩ : ∃ w23, w22.alloc (.cells #[.int .i64 (X * 3), .int .i64 0, .bool false, .int .i64 0, .int .i64 c, .int .i64 ba, .bool c1, .bool c2, .bool c3] 45) = w23 := ⟨_, rfl⟩
  have zb22 := b22.size
  have B23 : Hid (Below w0.heap.size w0 w23) := by rw [← hw23]; exact B.next B21.out (b22.alloc zb22 _) B21.out.size
  have P23 : Hid (IsP w23 pb mb (400 + 80) T) := by rw [← hw23]; exact P21.out.below (b22.alloc zb22 _)
  have Q23 : Hid (IsP w23 pq mq 400 (Qu lv h 0 0 ba D)) := by rw [← hw23]; exact Q21.out.below (b22.alloc zb22 _)
  have R23 : Hid (∀ o, w23.cell? ⟨w5.heap.size, o, none⟩ = (#[.int .i64 h, .int .i64 0, .bool false, .int .i64 0, .int .i64 0, .int .i64 ba, .bool a1, .bool a2, .bool a3] : Array Value)[o]?) := by rw [← hw23]; exact B.row (b22.alloc zb22 _) R21.out z21
  have T23 : Hid (∀ o, w23.cell? ⟨w22.heap.size, o, none⟩ = (#[.int .i64 (X * 3), .int .i64 0, .bool false, .int .i64 0, .int .i64 c, .int .i64 ba, .bool c1, .bool c2, .bool c3] : Array Value)[o]?) := by rw [← hw23]; exact B.row_new w22 _ _
  have z23 : w5.heap.size < w23.heap.size ∧ w22.heap.size < w23.heap.size := by rw [← hw23]; simp; omega
  have y0 : w23.cell? ⟨w.heap.size, 0, none⟩ = some (.int .i64 X) := HX.out _ B23.out 0
  have y1 : w23.cell? ⟨w.heap.size, 1, none⟩ = some (.int .i64 Y) := HX.out _ B23.out 1
  have y2 : w23.cell? ⟨w.heap.size, 2, none⟩ = some (.int .i64 1) := HX.out _ B23.out 2
  have t1 : w23.cell? ⟨w22.heap.size, 1, none⟩ = some (.int .i64 0) := T23.out 1
  have t2 : w23.cell? ⟨w22.heap.size, 2, none⟩ = some (.bool false) := T23.out 2
  have t4 : w23.cell? ⟨w22.heap.size, 4, none⟩ = some (.int .i64 c) := T23.out 4
  have t5 : w23.cell? ⟨w22.heap.size, 5, none⟩ = some (.int .i64 ba) := T23.out 5
  have u5 : w23.cell? ⟨w5.heap.size, 5, none⟩ = some (.int .i64 ba) := R23.out 5
  clear b22 HSe2 P21 Q21 B21 R21
  go_wp2_with fail
  refine (HAt2.out _ P23.out).mono ?_
  rintro e w24 ⟨rfl, b24⟩
  have B24 : Hid (Below w0.heap.size w0 w24) := B.next B23.out b24 B23.out.size
  have P24 : Hid (IsP w24 pb mb (400 + 80) T) := P23.out.below b24
  have Q24 : Hid (IsP w24 pq mq 400 (Qu lv h 0 0 ba D)) := Q23.out.below b24
  have y0' : w24.cell? ⟨w.heap.size, 0, none⟩ = some (.int .i64 X) := HX.out _ B24.out 0
  have y1' : w24.cell? ⟨w.heap.size, 1, none⟩ = some (.int .i64 Y) := HX.out _ B24.out 1
  have y2' : w24.cell? ⟨w.heap.size, 2, none⟩ = some (.int .i64 1) := HX.out _ B24.out 2
  have t1' : w24.cell? ⟨w22.heap.size, 1, none⟩ = some (.int .i64 0) := (B.cell b24 _ _ z23.2).trans t1
  have t2' : w24.cell? ⟨w22.heap.size, 2, none⟩ = some (.bool false) := (B.cell b24 _ _ z23.2).trans t2
  have t5' : w24.cell? ⟨w22.heap.size, 5, none⟩ = some (.int .i64 ba) := (B.cell b24 _ _ z23.2).trans t5
  have u5' : w24.cell? ⟨w5.heap.size, 5, none⟩ = some (.int .i64 ba) := (B.cell b24 _ _ z23.1).trans u5
  clear b24 P23 Q23 B23 hw23
  go_wp2_with fail
  refine (HBt.out _ Q24.out P24.out).mono ?_
  rintro e w25 ⟨rfl, b25⟩
  have B25 : Hid (Below w0.heap.size w0 w25) := B.next B24.out b25 B24.out.size
  have d9 : w25.cell? ⟨pb, 9, none⟩ = some (.bool false) := by have := (P24.out.below b25).c9; rw [HTu.out] at this; exact this
  clear b25
  go_wp2
  go_returns
  exact ⟨rfl, FIN.out _ B25.out⟩

end Pl
end Go.Proofs.Yticjjnmmedmbiab
