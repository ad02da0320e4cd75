/- The document's machine: its cells, and what is in front of the shuttle (B2); contracts for PlantSays. -/
import Derived.Test.YtihapeagjikiaaaJOutside
namespace Go.Proofs.Ytihapeagjikiaaa
open Go.ChangeShapes Go.WideShapes Go.ChangeAt Go.RowKit Go.Maps
set_option maxRecDepth 100000
set_option linter.unusedSimpArgs false
set_option linter.unusedVariables false

namespace Pl
open Ac
/-- The car in slot m of the document's machine: level m / 4 (none at the level 0). -/
def slotN (s : St) (m : Nat) : Int := if m < 4 then 0 else carOf s.D ((m / 4 : Nat) : Int) ((m % 4 / 2 : Nat) : Int) ((m % 2 : Nat) : Int)
def rarr (s : St) : Array Value := #[.int .i64 s.lv, .int .i64 s.h, .int .i64 s.ex, .bool s.op, .int .i64 s.pe, .int .i64 s.li, .int .i64 s.ba, .int .i64 (slotN s 0), .int .i64 (slotN s 1), .int .i64 (slotN s 2), .int .i64 (slotN s 3), .int .i64 (slotN s 4), .int .i64 (slotN s 5), .int .i64 (slotN s 6), .int .i64 (slotN s 7), .int .i64 (slotN s 8), .int .i64 (slotN s 9), .int .i64 (slotN s 10), .int .i64 (slotN s 11), .int .i64 (slotN s 12), .int .i64 (slotN s 13), .int .i64 (slotN s 14), .int .i64 (slotN s 15), .int .i64 (slotN s 16), .int .i64 (slotN s 17), .int .i64 (slotN s 18), .int .i64 (slotN s 19), .int .i64 s.st, .bool s.hu]
/-- Block rb is the document's machine that is as s is. -/
def IsR (w : World) (rb : Nat) (s : St) : Prop := w.heap[rb]? = some (.cells (rarr s) 155 (0, 0))
theorem IsR.lt {w : World} {rb : Nat} {s : St} (h : IsR w rb s) : rb < w.heap.size := (Array.getElem?_eq_some_iff.1 h).1
theorem IsR.cell {w : World} {rb : Nat} {s : St} (h : IsR w rb s) (o : Nat) : w.cell? ⟨rb, o, none⟩ = (rarr s)[o]? := by simp [World.cell?, (show w.heap[rb]? = _ from h)]
theorem IsR.free {w : World} {rb : Nat} {s : St} (h : IsR w rb s) (o : Nat) : w.frozen? ⟨rb, o, none⟩ = false := by simp [World.frozen?, (show w.heap[rb]? = _ from h)]
theorem IsR.below {w w' : World} {rb : Nat} {s : St} (h : IsR w rb s) (hb : Below w.heap.size w w') : IsR w' rb s := (hb.block rb h.lt).trans h
theorem IsR.c1 {w : World} {rb : Nat} {s : St} (h : IsR w rb s) : w.cell? ⟨rb, 1, none⟩ = some (.int .i64 s.h) := h.cell 1
/-- A slot of the block. -/
theorem rarr_slot (s : St) (m : Nat) (hm : m < 20) : (rarr s)[7 + m]? = some (.int .i64 (slotN s m)) := by
  have h : m = 0 ∨ m = 1 ∨ m = 2 ∨ m = 3 ∨ m = 4 ∨ m = 5 ∨ m = 6 ∨ m = 7 ∨ m = 8 ∨ m = 9 ∨ m = 10 ∨ m = 11 ∨ m = 12 ∨ m = 13 ∨ m = 14 ∨ m = 15 ∨ m = 16 ∨ m = 17 ∨ m = 18 ∨ m = 19 := by omega
  rcases h with rfl | rfl | rfl | rfl | rfl | rfl | rfl | rfl | rfl | rfl | rfl | rfl | rfl | rfl | rfl | rfl | rfl | rfl | rfl | rfl <;> rfl

/-- The document's place in front of the shuttle is the program's. -/
theorem end_cases {lv h ex : Int} (h0 : 0 ≤ h) (h12 : h ≤ lv * 3) (e0 : -3 ≤ ex) (e3 : ex ≤ 3) :
    endV lv h ex = (if h = 0 ∨ 0 < h % 3 then .tuple #[.agg #[.int .i64 0, .int .i64 0, .int .i64 0], .bool false]
      else if ex = -2 then .tuple #[.agg #[.int .i64 (h / 3), .int .i64 0, .int .i64 1], .bool true]
      else if ex = -1 then .tuple #[.agg #[.int .i64 (h / 3), .int .i64 0, .int .i64 0], .bool true]
      else if ex = 1 then .tuple #[.agg #[.int .i64 (h / 3), .int .i64 1, .int .i64 0], .bool true]
      else if ex = 2 then .tuple #[.agg #[.int .i64 (h / 3), .int .i64 1, .int .i64 1], .bool true]
      else .tuple #[.agg #[.int .i64 0, .int .i64 0, .int .i64 0], .bool false]) := by
  by_cases hh : h = 0 ∨ 0 < h % 3
  · rw [if_pos hh, endV_f]
    simp only [endB, Bool.and_eq_false_iff, decide_eq_false_iff_not]
    left; omega
  · rw [if_neg hh]
    have hx : ex = -3 ∨ ex = -2 ∨ ex = -1 ∨ ex = 0 ∨ ex = 1 ∨ ex = 2 ∨ ex = 3 := by omega
    have key : ∀ e : Int, endB lv h e = (decide (0 < h ∧ h % 3 = 0 ∧ e ≠ 0) && placeB (h / 3) (if e < 0 then 0 else 1) (if e < 0 then -e - 1 else e - 1) lv) := fun e => rfl
    rcases hx with rfl | rfl | rfl | rfl | rfl | rfl | rfl
    · rw [endV_f (by rw [key]; simp [placeB])]; simp
    · have hb : endB lv h (-2) = true := by rw [key]; simp only [placeB, Bool.and_eq_true, decide_eq_true_eq]; simp; omega
      simp [endV, endX, endY, endZ, hb]
    · have hb : endB lv h (-1) = true := by rw [key]; simp only [placeB, Bool.and_eq_true, decide_eq_true_eq]; simp; omega
      simp [endV, endX, endY, endZ, hb]
    · rw [endV_f (by rw [key]; simp)]; simp
    · have hb : endB lv h 1 = true := by rw [key]; simp only [placeB, Bool.and_eq_true, decide_eq_true_eq]; simp; omega
      simp [endV, endX, endY, endZ, hb]
    · have hb : endB lv h 2 = true := by rw [key]; simp only [placeB, Bool.and_eq_true, decide_eq_true_eq]; simp; omega
      simp [endV, endX, endY, endZ, hb]
    · rw [endV_f (by rw [key]; simp [placeB])]; simp

set_option maxHeartbeats 2000000 in
theorem rend_any (rb : Nat) (s : St) (ex : Int) (w : World) (hr : IsR w rb s) (iv : Inv s) (e0 : -3 ≤ ex) (e3 : ex ≤ 3) :
    Calls Try.prog 135 #[.pointer (some ⟨rb, 0, none⟩), .int .i64 ex] w fun e w' => e = .returned (endV s.lv s.h ex) ∧ Below w.heap.size w w' := by
  have hlt := hr.lt
  have c1 : ∀ o, (w.alloc o).cell? ⟨rb, 1, none⟩ = some (.int .i64 s.h) := fun o => (hr.below (B.new1 w o)).c1
  rw [end_cases iv.ok.h0 iv.ok.h12 e0 e3]
  have i0 := iv.ok.h0; have i1 := iv.ok.h12; have i4 := iv.ok.lv4
  have h12 : s.h ≤ 12 := by omega
  generalize s.h = h at *
  have g := B.row_new w #[.int .i64 0, .int .i64 0, .int .i64 0] 38
  have q0 := set3_0 g
  have q1 := set3_1 g
  have q2 := set3_2 g
  clear hr iv
  by_cases hh : h = 0 ∨ 0 < h % 3
  · rw [if_pos hh]
    have HH : Hid (h = 0 ∨ 0 < h % 3) := hh
    clear hh
    go_enter Try.func135, Try.ntmps135
    go_wp2
    all_goals first
      | (exfalso; go_light; have := HH.out; omega)
      | ((try simp only [Exit.inBlock, Exit.then]); refine bodyPost_ret (by simp [results, Try.results135, go_sem, q0, q1, q2]; try rfl) rfl ?_; exact ⟨by simp, by go_grown⟩)
  · rw [if_neg hh]
    have h1 : ¬ h = 0 := fun e => hh (Or.inl e)
    have h2 : ¬ 0 < h % 3 := fun e => hh (Or.inr e)
    have hx : ex = -3 ∨ ex = -2 ∨ ex = -1 ∨ ex = 0 ∨ ex = 1 ∨ ex = 2 ∨ ex = 3 := by omega
    clear hh
    rcases hx with rfl | rfl | rfl | rfl | rfl | rfl | rfl
    all_goals
      simp only [Int.reduceNeg, Int.reduceEq, if_true, if_false, reduceIte]
      clear e0 e3
      go_enter Try.func135, Try.ntmps135
      go_wp2
      all_goals first
        | (exfalso; go_light; omega)
        | ((try simp only [Exit.inBlock, Exit.then]); refine bodyPost_ret (by simp [results, Try.results135, go_sem, q0, q1, q2]; try rfl) rfl ?_; exact ⟨by simp, by go_grown⟩)

set_option maxHeartbeats 2000000 in
theorem rAt_any (rb : Nat) (s : St) (x y z : Int) (w : World) (hr : IsR w rb s) (iv : Inv s) (hx : (Lit.int .i64 x).wf = true) (hy : (Lit.int .i64 y).wf = true) (hz : (Lit.int .i64 z).wf = true) :
    Calls Try.prog 107 #[.pointer (some ⟨rb, 0, none⟩), .agg #[.int .i64 x, .int .i64 y, .int .i64 z]] w fun e w' => e = .returned (.int .i64 (carOf s.D x y z)) ∧ Below w.heap.size w w' := by
  have hlt := hr.lt
  cases hp : placeB x y z 4
  · have K : Hid (carOf s.D x y z = 0) := by
      show _ = _
      by_cases hc : carOf s.D x y z = 0
      · exact hc
      · have := iv.D.place iv.ok.lv4 hx hy hz hc
        have h4 := iv.ok.lv4
        simp only [placeB, decide_eq_false_iff_not] at hp
        omega
    rw [K.out]
    have HF : Hid (placeB x y z 4 = false) := hp
    clear hr iv hp K
    go_enter Try.func107, Try.ntmps107
    go_wp2_with fail
    refine (Go.Proofs.Ytihapeagjikiaaa.rplace_any x y z 4 _).mono ?_
    rw [HF.out, faultN_f]
    rintro e w1 ⟨rfl, b1⟩
    have B1 : Hid (Below w.heap.size w w1) := B.next (B.new1 _ _) b1 (by simp)
    clear b1
    go_wp2
    go_returns
    exact ⟨rfl, B1.out⟩
  · have HF : Hid (placeB x y z 4 = true) := hp
    simp only [placeB, decide_eq_true_eq] at hp
    have hs : ∀ m : Nat, 4 ≤ m → m < 20 → ((m / 4 : Nat) : Int) = x → ((m % 4 / 2 : Nat) : Int) = y → ((m % 2 : Nat) : Int) = z → ∀ w1, Below w.heap.size w w1 → w1.cell? ⟨rb, 7 + m, none⟩ = some (.int .i64 (carOf s.D x y z)) := fun m m4 m20 e1 e2 e3 w1 hb => by
      rw [(hr.below hb).cell, rarr_slot s m m20]
      unfold slotN
      rw [if_neg (by omega), e1, e2, e3]
    have HC : Hid (∀ m : Nat, 4 ≤ m → m < 20 → ((m / 4 : Nat) : Int) = x → ((m % 4 / 2 : Nat) : Int) = y → ((m % 2 : Nat) : Int) = z → ∀ w1, Below w.heap.size w w1 → w1.cell? ⟨rb, 7 + m, none⟩ = some (.int .i64 (carOf s.D x y z))) := hs
    generalize carOf s.D x y z = c at HC ⊢
    clear hs hr iv hx hy hz
    have hx4 : x = 1 ∨ x = 2 ∨ x = 3 ∨ x = 4 := by omega
    have hy2 : y = 0 ∨ y = 1 := by omega
    have hz2 : z = 0 ∨ z = 1 := by omega
    clear hp
    rcases hx4 with rfl | rfl | rfl | rfl <;> rcases hy2 with rfl | rfl <;> rcases hz2 with rfl | rfl
    · have K := HC.out 4 (by omega) (by omega) (by decide) (by decide) (by decide)
      have HK : Hid (∀ w1, Below w.heap.size w w1 → w1.cell? ⟨rb, 11, none⟩ = some (.int .i64 c)) := K
      clear K HC
      go_enter Try.func107, Try.ntmps107
      go_wp2_with fail
      refine (Go.Proofs.Ytihapeagjikiaaa.rplace_any 1 0 0 4 _).mono ?_
      rw [HF.out, faultN_t]
      rintro e w1 ⟨rfl, b1⟩
      have B1 : Hid (Below w.heap.size w w1) := B.next (B.new1 _ _) b1 (by simp)
      have r1 := B.row b1 (B.row_new w #[.int .i64 1, .int .i64 0, .int .i64 0] 38) (by simp)
      have k1 := HK.out w1 B1.out
      clear b1 HK
      go_wp2_with fail
      go_region
      all_goals go_wp2
      all_goals go_returns
      all_goals exact ⟨rfl, by have := B1.out; go_grown⟩
    · have K := HC.out 5 (by omega) (by omega) (by decide) (by decide) (by decide)
      have HK : Hid (∀ w1, Below w.heap.size w w1 → w1.cell? ⟨rb, 12, none⟩ = some (.int .i64 c)) := K
      clear K HC
      go_enter Try.func107, Try.ntmps107
      go_wp2_with fail
      refine (Go.Proofs.Ytihapeagjikiaaa.rplace_any 1 0 1 4 _).mono ?_
      rw [HF.out, faultN_t]
      rintro e w1 ⟨rfl, b1⟩
      have B1 : Hid (Below w.heap.size w w1) := B.next (B.new1 _ _) b1 (by simp)
      have r1 := B.row b1 (B.row_new w #[.int .i64 1, .int .i64 0, .int .i64 1] 38) (by simp)
      have k1 := HK.out w1 B1.out
      clear b1 HK
      go_wp2_with fail
      go_region
      all_goals go_wp2
      all_goals go_returns
      all_goals exact ⟨rfl, by have := B1.out; go_grown⟩
    · have K := HC.out 6 (by omega) (by omega) (by decide) (by decide) (by decide)
      have HK : Hid (∀ w1, Below w.heap.size w w1 → w1.cell? ⟨rb, 13, none⟩ = some (.int .i64 c)) := K
      clear K HC
      go_enter Try.func107, Try.ntmps107
      go_wp2_with fail
      refine (Go.Proofs.Ytihapeagjikiaaa.rplace_any 1 1 0 4 _).mono ?_
      rw [HF.out, faultN_t]
      rintro e w1 ⟨rfl, b1⟩
      have B1 : Hid (Below w.heap.size w w1) := B.next (B.new1 _ _) b1 (by simp)
      have r1 := B.row b1 (B.row_new w #[.int .i64 1, .int .i64 1, .int .i64 0] 38) (by simp)
      have k1 := HK.out w1 B1.out
      clear b1 HK
      go_wp2_with fail
      go_region
      all_goals go_wp2
      all_goals go_returns
      all_goals exact ⟨rfl, by have := B1.out; go_grown⟩
    · have K := HC.out 7 (by omega) (by omega) (by decide) (by decide) (by decide)
      have HK : Hid (∀ w1, Below w.heap.size w w1 → w1.cell? ⟨rb, 14, none⟩ = some (.int .i64 c)) := K
      clear K HC
      go_enter Try.func107, Try.ntmps107
      go_wp2_with fail
      refine (Go.Proofs.Ytihapeagjikiaaa.rplace_any 1 1 1 4 _).mono ?_
      rw [HF.out, faultN_t]
      rintro e w1 ⟨rfl, b1⟩
      have B1 : Hid (Below w.heap.size w w1) := B.next (B.new1 _ _) b1 (by simp)
      have r1 := B.row b1 (B.row_new w #[.int .i64 1, .int .i64 1, .int .i64 1] 38) (by simp)
      have k1 := HK.out w1 B1.out
      clear b1 HK
      go_wp2_with fail
      go_region
      all_goals go_wp2
      all_goals go_returns
      all_goals exact ⟨rfl, by have := B1.out; go_grown⟩
    · have K := HC.out 8 (by omega) (by omega) (by decide) (by decide) (by decide)
      have HK : Hid (∀ w1, Below w.heap.size w w1 → w1.cell? ⟨rb, 15, none⟩ = some (.int .i64 c)) := K
      clear K HC
      go_enter Try.func107, Try.ntmps107
      go_wp2_with fail
      refine (Go.Proofs.Ytihapeagjikiaaa.rplace_any 2 0 0 4 _).mono ?_
      rw [HF.out, faultN_t]
      rintro e w1 ⟨rfl, b1⟩
      have B1 : Hid (Below w.heap.size w w1) := B.next (B.new1 _ _) b1 (by simp)
      have r1 := B.row b1 (B.row_new w #[.int .i64 2, .int .i64 0, .int .i64 0] 38) (by simp)
      have k1 := HK.out w1 B1.out
      clear b1 HK
      go_wp2_with fail
      go_region
      all_goals go_wp2
      all_goals go_returns
      all_goals exact ⟨rfl, by have := B1.out; go_grown⟩
    · have K := HC.out 9 (by omega) (by omega) (by decide) (by decide) (by decide)
      have HK : Hid (∀ w1, Below w.heap.size w w1 → w1.cell? ⟨rb, 16, none⟩ = some (.int .i64 c)) := K
      clear K HC
      go_enter Try.func107, Try.ntmps107
      go_wp2_with fail
      refine (Go.Proofs.Ytihapeagjikiaaa.rplace_any 2 0 1 4 _).mono ?_
      rw [HF.out, faultN_t]
      rintro e w1 ⟨rfl, b1⟩
      have B1 : Hid (Below w.heap.size w w1) := B.next (B.new1 _ _) b1 (by simp)
      have r1 := B.row b1 (B.row_new w #[.int .i64 2, .int .i64 0, .int .i64 1] 38) (by simp)
      have k1 := HK.out w1 B1.out
      clear b1 HK
      go_wp2_with fail
      go_region
      all_goals go_wp2
      all_goals go_returns
      all_goals exact ⟨rfl, by have := B1.out; go_grown⟩
    · have K := HC.out 10 (by omega) (by omega) (by decide) (by decide) (by decide)
      have HK : Hid (∀ w1, Below w.heap.size w w1 → w1.cell? ⟨rb, 17, none⟩ = some (.int .i64 c)) := K
      clear K HC
      go_enter Try.func107, Try.ntmps107
      go_wp2_with fail
      refine (Go.Proofs.Ytihapeagjikiaaa.rplace_any 2 1 0 4 _).mono ?_
      rw [HF.out, faultN_t]
      rintro e w1 ⟨rfl, b1⟩
      have B1 : Hid (Below w.heap.size w w1) := B.next (B.new1 _ _) b1 (by simp)
      have r1 := B.row b1 (B.row_new w #[.int .i64 2, .int .i64 1, .int .i64 0] 38) (by simp)
      have k1 := HK.out w1 B1.out
      clear b1 HK
      go_wp2_with fail
      go_region
      all_goals go_wp2
      all_goals go_returns
      all_goals exact ⟨rfl, by have := B1.out; go_grown⟩
    · have K := HC.out 11 (by omega) (by omega) (by decide) (by decide) (by decide)
      have HK : Hid (∀ w1, Below w.heap.size w w1 → w1.cell? ⟨rb, 18, none⟩ = some (.int .i64 c)) := K
      clear K HC
      go_enter Try.func107, Try.ntmps107
      go_wp2_with fail
      refine (Go.Proofs.Ytihapeagjikiaaa.rplace_any 2 1 1 4 _).mono ?_
      rw [HF.out, faultN_t]
      rintro e w1 ⟨rfl, b1⟩
      have B1 : Hid (Below w.heap.size w w1) := B.next (B.new1 _ _) b1 (by simp)
      have r1 := B.row b1 (B.row_new w #[.int .i64 2, .int .i64 1, .int .i64 1] 38) (by simp)
      have k1 := HK.out w1 B1.out
      clear b1 HK
      go_wp2_with fail
      go_region
      all_goals go_wp2
      all_goals go_returns
      all_goals exact ⟨rfl, by have := B1.out; go_grown⟩
    · have K := HC.out 12 (by omega) (by omega) (by decide) (by decide) (by decide)
      have HK : Hid (∀ w1, Below w.heap.size w w1 → w1.cell? ⟨rb, 19, none⟩ = some (.int .i64 c)) := K
      clear K HC
      go_enter Try.func107, Try.ntmps107
      go_wp2_with fail
      refine (Go.Proofs.Ytihapeagjikiaaa.rplace_any 3 0 0 4 _).mono ?_
      rw [HF.out, faultN_t]
      rintro e w1 ⟨rfl, b1⟩
      have B1 : Hid (Below w.heap.size w w1) := B.next (B.new1 _ _) b1 (by simp)
      have r1 := B.row b1 (B.row_new w #[.int .i64 3, .int .i64 0, .int .i64 0] 38) (by simp)
      have k1 := HK.out w1 B1.out
      clear b1 HK
      go_wp2_with fail
      go_region
      all_goals go_wp2
      all_goals go_returns
      all_goals exact ⟨rfl, by have := B1.out; go_grown⟩
    · have K := HC.out 13 (by omega) (by omega) (by decide) (by decide) (by decide)
      have HK : Hid (∀ w1, Below w.heap.size w w1 → w1.cell? ⟨rb, 20, none⟩ = some (.int .i64 c)) := K
      clear K HC
      go_enter Try.func107, Try.ntmps107
      go_wp2_with fail
      refine (Go.Proofs.Ytihapeagjikiaaa.rplace_any 3 0 1 4 _).mono ?_
      rw [HF.out, faultN_t]
      rintro e w1 ⟨rfl, b1⟩
      have B1 : Hid (Below w.heap.size w w1) := B.next (B.new1 _ _) b1 (by simp)
      have r1 := B.row b1 (B.row_new w #[.int .i64 3, .int .i64 0, .int .i64 1] 38) (by simp)
      have k1 := HK.out w1 B1.out
      clear b1 HK
      go_wp2_with fail
      go_region
      all_goals go_wp2
      all_goals go_returns
      all_goals exact ⟨rfl, by have := B1.out; go_grown⟩
    · have K := HC.out 14 (by omega) (by omega) (by decide) (by decide) (by decide)
      have HK : Hid (∀ w1, Below w.heap.size w w1 → w1.cell? ⟨rb, 21, none⟩ = some (.int .i64 c)) := K
      clear K HC
      go_enter Try.func107, Try.ntmps107
      go_wp2_with fail
      refine (Go.Proofs.Ytihapeagjikiaaa.rplace_any 3 1 0 4 _).mono ?_
      rw [HF.out, faultN_t]
      rintro e w1 ⟨rfl, b1⟩
      have B1 : Hid (Below w.heap.size w w1) := B.next (B.new1 _ _) b1 (by simp)
      have r1 := B.row b1 (B.row_new w #[.int .i64 3, .int .i64 1, .int .i64 0] 38) (by simp)
      have k1 := HK.out w1 B1.out
      clear b1 HK
      go_wp2_with fail
      go_region
      all_goals go_wp2
      all_goals go_returns
      all_goals exact ⟨rfl, by have := B1.out; go_grown⟩
    · have K := HC.out 15 (by omega) (by omega) (by decide) (by decide) (by decide)
      have HK : Hid (∀ w1, Below w.heap.size w w1 → w1.cell? ⟨rb, 22, none⟩ = some (.int .i64 c)) := K
      clear K HC
      go_enter Try.func107, Try.ntmps107
      go_wp2_with fail
      refine (Go.Proofs.Ytihapeagjikiaaa.rplace_any 3 1 1 4 _).mono ?_
      rw [HF.out, faultN_t]
      rintro e w1 ⟨rfl, b1⟩
      have B1 : Hid (Below w.heap.size w w1) := B.next (B.new1 _ _) b1 (by simp)
      have r1 := B.row b1 (B.row_new w #[.int .i64 3, .int .i64 1, .int .i64 1] 38) (by simp)
      have k1 := HK.out w1 B1.out
      clear b1 HK
      go_wp2_with fail
      go_region
      all_goals go_wp2
      all_goals go_returns
      all_goals exact ⟨rfl, by have := B1.out; go_grown⟩
    · have K := HC.out 16 (by omega) (by omega) (by decide) (by decide) (by decide)
      have HK : Hid (∀ w1, Below w.heap.size w w1 → w1.cell? ⟨rb, 23, none⟩ = some (.int .i64 c)) := K
      clear K HC
      go_enter Try.func107, Try.ntmps107
      go_wp2_with fail
      refine (Go.Proofs.Ytihapeagjikiaaa.rplace_any 4 0 0 4 _).mono ?_
      rw [HF.out, faultN_t]
      rintro e w1 ⟨rfl, b1⟩
      have B1 : Hid (Below w.heap.size w w1) := B.next (B.new1 _ _) b1 (by simp)
      have r1 := B.row b1 (B.row_new w #[.int .i64 4, .int .i64 0, .int .i64 0] 38) (by simp)
      have k1 := HK.out w1 B1.out
      clear b1 HK
      go_wp2_with fail
      go_region
      all_goals go_wp2
      all_goals go_returns
      all_goals exact ⟨rfl, by have := B1.out; go_grown⟩
    · have K := HC.out 17 (by omega) (by omega) (by decide) (by decide) (by decide)
      have HK : Hid (∀ w1, Below w.heap.size w w1 → w1.cell? ⟨rb, 24, none⟩ = some (.int .i64 c)) := K
      clear K HC
      go_enter Try.func107, Try.ntmps107
      go_wp2_with fail
      refine (Go.Proofs.Ytihapeagjikiaaa.rplace_any 4 0 1 4 _).mono ?_
      rw [HF.out, faultN_t]
      rintro e w1 ⟨rfl, b1⟩
      have B1 : Hid (Below w.heap.size w w1) := B.next (B.new1 _ _) b1 (by simp)
      have r1 := B.row b1 (B.row_new w #[.int .i64 4, .int .i64 0, .int .i64 1] 38) (by simp)
      have k1 := HK.out w1 B1.out
      clear b1 HK
      go_wp2_with fail
      go_region
      all_goals go_wp2
      all_goals go_returns
      all_goals exact ⟨rfl, by have := B1.out; go_grown⟩
    · have K := HC.out 18 (by omega) (by omega) (by decide) (by decide) (by decide)
      have HK : Hid (∀ w1, Below w.heap.size w w1 → w1.cell? ⟨rb, 25, none⟩ = some (.int .i64 c)) := K
      clear K HC
      go_enter Try.func107, Try.ntmps107
      go_wp2_with fail
      refine (Go.Proofs.Ytihapeagjikiaaa.rplace_any 4 1 0 4 _).mono ?_
      rw [HF.out, faultN_t]
      rintro e w1 ⟨rfl, b1⟩
      have B1 : Hid (Below w.heap.size w w1) := B.next (B.new1 _ _) b1 (by simp)
      have r1 := B.row b1 (B.row_new w #[.int .i64 4, .int .i64 1, .int .i64 0] 38) (by simp)
      have k1 := HK.out w1 B1.out
      clear b1 HK
      go_wp2_with fail
      go_region
      all_goals go_wp2
      all_goals go_returns
      all_goals exact ⟨rfl, by have := B1.out; go_grown⟩
    · have K := HC.out 19 (by omega) (by omega) (by decide) (by decide) (by decide)
      have HK : Hid (∀ w1, Below w.heap.size w w1 → w1.cell? ⟨rb, 26, none⟩ = some (.int .i64 c)) := K
      clear K HC
      go_enter Try.func107, Try.ntmps107
      go_wp2_with fail
      refine (Go.Proofs.Ytihapeagjikiaaa.rplace_any 4 1 1 4 _).mono ?_
      rw [HF.out, faultN_t]
      rintro e w1 ⟨rfl, b1⟩
      have B1 : Hid (Below w.heap.size w w1) := B.next (B.new1 _ _) b1 (by simp)
      have r1 := B.row b1 (B.row_new w #[.int .i64 4, .int .i64 1, .int .i64 1] 38) (by simp)
      have k1 := HK.out w1 B1.out
      clear b1 HK
      go_wp2_with fail
      go_region
      all_goals go_wp2
      all_goals go_returns
      all_goals exact ⟨rfl, by have := B1.out; go_grown⟩

end Pl
end Go.Proofs.Ytihapeagjikiaaa
