/- Chapter 2: a car is taken from its place (B3); contract. -/
import Derived.Test.YticjjnmmedmbiabPlantF
namespace Go.Proofs.Yticjjnmmedmbiab
open Go.ChangeShapes Go.WideShapes Go.ChangeAt Go.RowKit Go.Maps
set_option maxRecDepth 100000
set_option linter.unusedSimpArgs false
set_option linter.unusedVariables false

namespace Pl
theorem Turn.below {pb mb : Nat} {w w1 w2 : World} (h : Turn pb mb w w1) (k : Below w1.heap.size w1 w2) : Turn pb mb w w2 := h.trans (Turn.of_below k)
theorem Turn.map {pb mb : Nat} {w w' : World} (h : w.mapTurned w' mb) : Turn pb mb w w' :=
  ⟨h.grown.os, h.grown.tape, h.grown.output, h.grown.size, fun k hk _ h2 => h.grown.block k hk (by simpa using h2)⟩
theorem IsP.map {w w' : World} {pb mb n n' : Nat} {s : St} {D' : DataW Unit} (h : IsP w pb mb n s) (ht : w.mapTurned w' mb) (hc : Cars w' mb n' D') : IsP w' pb mb n' { s with D := D' } :=
  ⟨(ht.grown.block pb h.lt (by simpa using h.ne)).trans h.row, hc⟩

def grabB (s : St) : Bool := endB s.lv s.h s.ex && s.li == 0
def grabS (s : St) : St := if grabB s = true then { s with li := carOf s.D (endX s.lv s.h s.ex) (endY s.lv s.h s.ex) (endZ s.lv s.h s.ex), D := s.D.del (pk (endX s.lv s.h s.ex) (endY s.lv s.h s.ex) (endZ s.lv s.h s.ex)) } else s

set_option maxHeartbeats 2000000 in
theorem grab_any (pb mb n : Nat) (s : St) (w : World) (hp : IsP w pb mb n s) (ok : Ok s) :
    Calls Try.prog 73 #[.pointer (some ⟨pb, 0, none⟩)] w fun e w' => e = .returned (.tuple #[]) ∧ IsP w' pb mb n (grabS s) ∧ Turn pb mb w w' := by
  obtain ⟨lv, h, ex, op, pe, li, ba, D, st, hu⟩ := s
  obtain ⟨lv1, lv4, h0, h12, e0, e2⟩ := ok
  simp only at lv1 lv4 h0 h12 e0 e2
  obtain ⟨wx, wy, wz⟩ := end_wf (lv := lv) (h := h) (ex := ex) h0 (by omega) (by omega) (by omega)
  have P : Hid (IsP w pb mb n ⟨lv, h, ex, op, pe, li, ba, D, st, hu⟩) := hp
  have c2 := hp.c2
  simp only at c2
  have HE : Hid (∀ w, IsP w pb mb n ⟨lv, h, ex, op, pe, li, ba, D, st, hu⟩ → Calls Try.prog 112 #[.pointer (some ⟨pb, 0, none⟩), .int .i64 ex] w fun e w' => e = .returned (endV lv h ex) ∧ Below w.heap.size w w') := fun w hp => end_any pb lv h ex w hp.c0 hp.c1 h0 (by omega) (by omega) (by omega)
  clear hp
  cases k : endB lv h ex with
  | false =>
    have K : Hid (grabS ⟨lv, h, ex, op, pe, li, ba, D, st, hu⟩ = ⟨lv, h, ex, op, pe, li, ba, D, st, hu⟩) := by show _ = _; simp [grabS, grabB, k]
    have KV : Hid (endV lv h ex = _) := endV_f k
    rw [K.out]
    clear k
    go_enter Try.func73, Try.ntmps73
    go_wp2_with fail
    refine (HE.out _ P.out).mono ?_
    rw [KV.out]
    rintro e w1 ⟨rfl, hb1⟩
    have B1 : Hid (Below w.heap.size w w1) := hb1
    have z1 := hb1.size
    clear hb1
    go_wp2
    go_returns
    exact ⟨rfl, (P.out.below (B1.out.alloc z1 _)), Turn.of_below (B1.out.alloc z1 _)⟩
  | true =>
    generalize hX : endX lv h ex = X at wx
    generalize hY : endY lv h ex = Y at wy
    generalize hZ : endZ lv h ex = Z at wz
    have KV : Hid (endV lv h ex = .tuple #[.agg #[.int .i64 X, .int .i64 Y, .int .i64 Z], .bool true]) := by show _ = _; simp only [endV, hX, hY, hZ, k]
    by_cases kl : li = 0
    · have K : Hid (grabS ⟨lv, h, ex, op, pe, li, ba, D, st, hu⟩ = ⟨lv, h, ex, op, pe, carOf D X Y Z, ba, D.del (pk X Y Z), st, hu⟩) := by show _ = _; simp [grabS, grabB, k, kl, hX, hY, hZ]
      obtain ⟨c, HCc⟩ : ∃ c, Hid (carOf D X Y Z = c) := ⟨_, rfl⟩
      rw [K.out, HCc.out]
      have kl' : (li == 0) = true := by simpa using kl
      clear k hX hY hZ kl K
      go_enter Try.func73, Try.ntmps73
      go_wp2_with fail
      refine (HE.out _ P.out).mono ?_
      rw [KV.out]
      rintro e w1 ⟨rfl, hb1⟩
      have Z1 : Hid (Below w.heap.size w w1) := hb1
      have z1 := hb1.size
      have P1 : Hid (IsP (w1.alloc (.cells #[.int .i64 X, .int .i64 Y, .int .i64 Z] 52)) pb mb n ⟨lv, h, ex, op, pe, li, ba, D, st, hu⟩) := P.out.below (hb1.alloc z1 _)
      have d5 := P1.out.c5
      simp only at d5
      clear hb1 c2 HE
      go_wp2_with fail
      refine (at_any pb mb n D X Y Z _ P1.out.c7 P1.out.cars wx wy wz).mono ?_
      rw [HCc.out]
      rintro e w2 ⟨rfl, hb2⟩
      have P2 : Hid (IsP w2 pb mb n ⟨lv, h, ex, op, pe, li, ba, D, st, hu⟩) := P1.out.below hb2
      have Z2 : Hid (Below w.heap.size w w2) := B.next (Z1.out.alloc z1 _) hb2 (by simp; omega)
      have s2 := B.row hb2 (B.row_new w1 _ _) (by simp)
      have f5 := P2.out.free 5
      have c5 := P2.out.c5
      simp only at c5
      have P3 : Hid (IsP (w2.setCell ⟨pb, 5, none⟩ (.int .i64 c)).drew pb mb n ⟨lv, h, ex, op, pe, c, ba, D, st, hu⟩) := (IsP.set (s' := ⟨lv, h, ex, op, pe, c, ba, D, st, hu⟩) P2.out 5 (.int .i64 c) rfl rfl).drew
      have c7 := P3.out.c7
      have hw1 : pb < w1.heap.size := Nat.lt_of_lt_of_le P.out.lt z1
      have s3 : ∀ o, (w2.setCell ⟨pb, 5, none⟩ (.int .i64 c)).drew.cell? ⟨w1.heap.size, o, none⟩ = (#[.int .i64 X, .int .i64 Y, .int .i64 Z] : Array Value)[o]? := fun o => (World.cell?_setCell_far w2 ⟨pb, 5, none⟩ ⟨w1.heap.size, o, none⟩ _ (by simp; omega)).trans (s2 o)
      obtain ⟨w3, hrun, hown3, hturn⟩ := P3.out.cars.drop law Try.underlying118 (key_place wx wy wz) 0
      have Q3 : Hid (IsP w3 pb mb n ⟨lv, h, ex, op, pe, c, ba, D.del (pk X Y Z), st, hu⟩) := P3.out.map hturn hown3
      have T3 : Hid (Turn pb mb w w3) := (((Turn.of_below Z2.out).trans (Turn.set _ _ _)).trans (Turn.drew _)).trans (Turn.map hturn)
      clear hb2 hown3 hturn d5
      go_wp2_with fail
      go_region
      go_wp2
      go_returns
      exact ⟨rfl, Q3.out, T3.out⟩
    · have K : Hid (grabS ⟨lv, h, ex, op, pe, li, ba, D, st, hu⟩ = ⟨lv, h, ex, op, pe, li, ba, D, st, hu⟩) := by show _ = _; simp [grabS, grabB, kl]
      have kl' : (li == 0) = false := by simpa using kl
      rw [K.out]
      clear k hX hY hZ kl K
      go_enter Try.func73, Try.ntmps73
      go_wp2_with fail
      refine (HE.out _ P.out).mono ?_
      rw [KV.out]
      rintro e w1 ⟨rfl, hb1⟩
      have Z1 : Hid (Below w.heap.size w w1) := hb1
      have z1 := hb1.size
      have d5 := (P.out.below (hb1.alloc z1 (.cells #[.int .i64 X, .int .i64 Y, .int .i64 Z] 52))).c5
      simp only at d5
      clear hb1
      go_wp2
      go_returns
      exact ⟨rfl, (P.out.below (Z1.out.alloc z1 _)), Turn.of_below (Z1.out.alloc z1 _)⟩

end Pl
end Go.Proofs.Yticjjnmmedmbiab
