/- Chapter 2: a car is put at a place (B3); contract. -/
import Derived.Test.YticjjnmmedmbiabPlantG
namespace Go.Proofs.Yticjjnmmedmbiab
open Go.ChangeShapes Go.WideShapes Go.ChangeAt Go.RowKit Go.Maps
set_option maxRecDepth 100000
set_option linter.unusedSimpArgs false
set_option linter.unusedVariables false

namespace Pl
theorem IsP.mono {w : World} {pb mb n : Nat} {s : St} (h : IsP w pb mb n s) : IsP w pb mb (n + 1) s := ⟨h.row, World.ownsMap.mono h.cars (Nat.le_succ n)⟩
def putB (s : St) : Bool := endB s.lv s.h s.ex && s.li != 0 && carAtI s.D s.lv s.h s.ex == 0
def putS (s : St) : St := if putB s = true then { s with li := 0, D := s.D.put (pk (endX s.lv s.h s.ex) (endY s.lv s.h s.ex) (endZ s.lv s.h s.ex)) (.lit (.int .i64 s.li)) } else s

set_option maxHeartbeats 2000000 in
theorem put_any (pb mb n : Nat) (s : St) (w : World) (hp : IsP w pb mb n s) (ok : Ok s) (hn : n < maxLen) (hl : (Lit.int .i64 s.li).wf = true) :
    Calls Try.prog 74 #[.pointer (some ⟨pb, 0, none⟩)] w fun e w' => e = .returned (.tuple #[]) ∧ IsP w' pb mb (n + 1) (putS s) ∧ Turn pb mb w w' := by
  obtain ⟨lv, h, ex, op, pe, li, ba, D, st, hu⟩ := s
  obtain ⟨lv1, lv4, h0, h12, e0, e2⟩ := ok
  simp only at lv1 lv4 h0 h12 e0 e2 hl
  obtain ⟨wx, wy, wz⟩ := end_wf (lv := lv) (h := h) (ex := ex) h0 (by omega) (by omega) (by omega)
  have P : Hid (IsP w pb mb n ⟨lv, h, ex, op, pe, li, ba, D, st, hu⟩) := hp
  have c2 := hp.c2
  simp only at c2
  have HE : Hid (∀ w, IsP w pb mb n ⟨lv, h, ex, op, pe, li, ba, D, st, hu⟩ → Calls Try.prog 112 #[.pointer (some ⟨pb, 0, none⟩), .int .i64 ex] w fun e w' => e = .returned (endV lv h ex) ∧ Below w.heap.size w w') := fun w hp => end_any pb lv h ex w hp.c0 hp.c1 h0 (by omega) (by omega) (by omega)
  clear hp
  cases k : endB lv h ex with
  | false =>
    have K : Hid (putS ⟨lv, h, ex, op, pe, li, ba, D, st, hu⟩ = ⟨lv, h, ex, op, pe, li, ba, D, st, hu⟩) := by show _ = _; simp [putS, putB, k]
    have KV : Hid (endV lv h ex = _) := endV_f k
    rw [K.out]
    clear k
    go_enter Try.func74, Try.ntmps74
    go_wp2_with fail
    refine (HE.out _ P.out).mono ?_
    rw [KV.out]
    rintro e w1 ⟨rfl, hb1⟩
    have B1 : Hid (Below w.heap.size w w1) := hb1
    have z1 := hb1.size
    clear hb1
    go_wp2
    go_returns
    exact ⟨rfl, (P.out.below (B1.out.alloc z1 _)).mono, Turn.of_below (B1.out.alloc z1 _)⟩
  | true =>
    generalize hX : endX lv h ex = X at wx
    generalize hY : endY lv h ex = Y at wy
    generalize hZ : endZ lv h ex = Z at wz
    have KV : Hid (endV lv h ex = .tuple #[.agg #[.int .i64 X, .int .i64 Y, .int .i64 Z], .bool true]) := by show _ = _; simp only [endV, hX, hY, hZ, k]
    have KA : carAtI D lv h ex = carOf D X Y Z := by simp [carAtI, k, hX, hY, hZ]
    obtain ⟨c, HCc⟩ : ∃ c, Hid (carOf D X Y Z = c) := ⟨_, rfl⟩
    rw [HCc.out] at KA
    by_cases kl : li = 0
    · have K : Hid (putS ⟨lv, h, ex, op, pe, li, ba, D, st, hu⟩ = ⟨lv, h, ex, op, pe, li, ba, D, st, hu⟩) := by show _ = _; simp [putS, putB, kl]
      have kl' : (li == 0) = true := by simpa using kl
      rw [K.out]
      clear k hX hY hZ kl K KA
      go_enter Try.func74, Try.ntmps74
      go_wp2_with fail
      refine (HE.out _ P.out).mono ?_
      rw [KV.out]
      rintro e w1 ⟨rfl, hb1⟩
      have Z1 : Hid (Below w.heap.size w w1) := hb1
      have z1 := hb1.size
      have P1 : Hid (IsP (w1.alloc (.cells #[.int .i64 X, .int .i64 Y, .int .i64 Z] 52)) pb mb n ⟨lv, h, ex, op, pe, li, ba, D, st, hu⟩) := P.out.below (hb1.alloc z1 _)
      have d5 := P1.out.c5
      simp only at d5
      clear hb1 c2 HE
      go_wp2
      go_returns
      exact ⟨rfl, (P.out.below (Z1.out.alloc z1 _)).mono, Turn.of_below (Z1.out.alloc z1 _)⟩
    · have kl' : (li == 0) = false := by simpa using kl
      by_cases kc : c = 0
      · have K : Hid (putS ⟨lv, h, ex, op, pe, li, ba, D, st, hu⟩ = ⟨lv, h, ex, op, pe, 0, ba, D.put (pk X Y Z) (.lit (.int .i64 li)), st, hu⟩) := by show _ = _; simp [putS, putB, k, kl, KA, kc, hX, hY, hZ]
        have kc' : (c == 0) = true := by simpa using kc
        rw [K.out]
        clear k hX hY hZ kl K KA kc
        go_enter Try.func74, Try.ntmps74
        go_wp2_with fail
        refine (HE.out _ P.out).mono ?_
        rw [KV.out]
        rintro e w1 ⟨rfl, hb1⟩
        have Z1 : Hid (Below w.heap.size w w1) := hb1
        have z1 := hb1.size
        have P1 : Hid (IsP (w1.alloc (.cells #[.int .i64 X, .int .i64 Y, .int .i64 Z] 52)) pb mb n ⟨lv, h, ex, op, pe, li, ba, D, st, hu⟩) := P.out.below (hb1.alloc z1 _)
        have d5 := P1.out.c5
        simp only at d5
        clear hb1 c2 HE
        go_wp2_with fail
        refine (at_any pb mb n D X Y Z _ P1.out.c7 P1.out.cars wx wy wz).mono ?_
        rw [HCc.out]
        rintro e w2 ⟨rfl, hb2⟩
        have P2 : Hid (IsP w2.drew pb mb n ⟨lv, h, ex, op, pe, li, ba, D, st, hu⟩) := (P1.out.below hb2).drew
        have Z2 : Hid (Below w.heap.size w w2) := B.next (Z1.out.alloc z1 _) hb2 (by simp; omega)
        have s2 := B.row hb2 (B.row_new w1 _ _) (by simp)
        have f5 := P2.out.free 5
        have c5 := P2.out.c5
        have c7 := P2.out.c7
        have c5' : w2.cell? ⟨pb, 5, none⟩ = _ := c5
        have c7' : w2.cell? ⟨pb, 7, none⟩ = _ := c7
        simp only at c5 c5' c7 c7'
        obtain ⟨w3, hrun, hown3, hturn⟩ := P2.out.cars.store law Try.underlying118 hn (key_place wx wy wz) (plainElem_int (H := Unit) Try.underlying3 hl)
        have Q3 : Hid (IsP w3 pb mb (n + 1) ⟨lv, h, ex, op, pe, li, ba, D.put (pk X Y Z) (.lit (.int .i64 li)), st, hu⟩) := P2.out.map hturn hown3
        have T3 : Hid (Turn pb mb w w3) := ((Turn.of_below Z2.out).trans (Turn.drew _)).trans (Turn.map hturn)
        have g5 := Q3.out.c5
        have h5 := Q3.out.free 5
        simp only at g5
        clear hb2 hown3 hturn d5
        go_wp2_with fail
        go_region
        go_wp2
        go_returns
        exact ⟨rfl, Q3.out.set 5 _ rfl rfl, T3.out.trans (Turn.set _ _ _)⟩
      · have K : Hid (putS ⟨lv, h, ex, op, pe, li, ba, D, st, hu⟩ = ⟨lv, h, ex, op, pe, li, ba, D, st, hu⟩) := by show _ = _; simp [putS, putB, KA, kc]
        have kc' : (c == 0) = false := by simpa using kc
        rw [K.out]
        clear k hX hY hZ kl K KA kc
        go_enter Try.func74, Try.ntmps74
        go_wp2_with fail
        refine (HE.out _ P.out).mono ?_
        rw [KV.out]
        rintro e w1 ⟨rfl, hb1⟩
        have Z1 : Hid (Below w.heap.size w w1) := hb1
        have z1 := hb1.size
        have P1 : Hid (IsP (w1.alloc (.cells #[.int .i64 X, .int .i64 Y, .int .i64 Z] 52)) pb mb n ⟨lv, h, ex, op, pe, li, ba, D, st, hu⟩) := P.out.below (hb1.alloc z1 _)
        have d5 := P1.out.c5
        simp only at d5
        clear hb1 c2 HE
        go_wp2_with fail
        refine (at_any pb mb n D X Y Z _ P1.out.c7 P1.out.cars wx wy wz).mono ?_
        rw [HCc.out]
        rintro e w2 ⟨rfl, hb2⟩
        have P2 : Hid (IsP w2 pb mb n ⟨lv, h, ex, op, pe, li, ba, D, st, hu⟩) := P1.out.below hb2
        have Z2 : Hid (Below w.heap.size w w2) := B.next (Z1.out.alloc z1 _) hb2 (by simp; omega)
        clear hb2
        go_wp2
        go_returns
        exact ⟨rfl, P2.out.mono, Turn.of_below Z2.out⟩

end Pl
end Go.Proofs.Yticjjnmmedmbiab
