/- Chapter 6: the disk: Flush, Arm, Down, however it is armed; contracts for the laws of stages 3 and 4. -/
import Derived.Test.YtmojjjikaaclpaaDiskL
import Derived.Test.YtmojjjikaaclpaaDiskJ
namespace Go.Proofs.Ytmojjjikaaclpaa
open Go.Shelf Go.Lib Go.ChangeShapes Go.WideShapes Go.ChangeAt Go.RowKit
set_option maxRecDepth 100000
set_option linter.unusedSimpArgs false
set_option linter.unusedVariables false

namespace Dk
open Bk
/-- What Flush answers, and how the disk then lies. -/
def FlushG (base db sb : Nat) (secs : List Sec) (bit : Int) (armed : Bool) (left : Int) (down : Bool) (w : World) (e : Ending) (w' : World) : Prop :=
  (downB armed left down = true ∧ e = .returned (errV 9) ∧ DFr base w w' ∧ DiskAt w' base db sb secs bit armed (leftN armed left down) true) ∨
  (downB armed left down = false ∧ e = .returned .nilIface ∧ DFr base w w' ∧ DiskAt w' base db sb (stl 18446744073709551615 secs secs.length) 0 armed (leftN armed left down) false)

set_option maxHeartbeats 2000000 in
theorem flushG_any (base db sb : Nat) (secs : List Sec) (bit : Int) (armed : Bool) (left : Int) (down : Bool) (w : World) (h : DiskAt w base db sb secs bit armed left down) (hbase : base ≤ w.heap.size) (hlo : 0 ≤ left ∨ armed = false) (hlh : left ≤ 9223372036854775807) (hl : ∀ i, i < secs.length → secs[i]!.wr.length ≤ 1000) (hbit : ∀ i, i < secs.length → ∀ y ∈ secs[i]!.wr, 0 ≤ y.bit ∧ y.bit < 64) (hn : secs.length ≤ 1000) :
    Calls Try.prog 14 #[.pointer (some ⟨db, 0, none⟩)] w (FlushG base db sb secs bit armed left down w) := by
  have HST : Hid (Calls Try.prog 22 #[.pointer (some ⟨db, 0, none⟩)] w fun e w' => e = .returned (errV (stepN armed left down)) ∧ DiskAt w' base db sb secs bit armed (leftN armed left down) (downB armed left down) ∧ DFr base w w') := step_any base db sb secs bit armed left down w h hbase hlo hlh
  have HSN : Hid (stepN armed left down = if downB armed left down = true then 9 else 0) := rfl
  have HD0 : Hid (downB armed left down = true → ∀ w', DFr base w w' → DiskAt w' base db sb secs bit armed (leftN armed left down) true → FlushG base db sb secs bit armed left down w (.returned (.iface 60 (.int .i64 9))) w') := fun e' w' h1 h2 => Or.inl ⟨e', rfl, h1, h2⟩
  have HG0 : Hid (downB armed left down = false → ∀ w', DFr base w w' → DiskAt w' base db sb (stl 18446744073709551615 secs secs.length) 0 armed (leftN armed left down) false → FlushG base db sb secs bit armed left down w (.returned .nilIface) w') := fun e' w' h1 h2 => Or.inr ⟨e', rfl, h1, h2⟩
  generalize FlushG base db sb secs bit armed left down w = PP at *
  have HSE : Hid (∀ left2 W, DiskAt W base db sb secs bit armed left2 false → base ≤ W.heap.size → Calls Try.prog 26 #[.pointer (some ⟨db, 0, none⟩), .int .u64 18446744073709551615] W fun e w' => e = .returned (.tuple #[]) ∧ DiskAt w' base db sb (stl 18446744073709551615 secs secs.length) 0 armed left2 false ∧ DFr base W w') := fun left2 W h hb => settle_any base db sb secs bit armed left2 false 18446744073709551615 W h hb hl hbit hn
  generalize leftN armed left down = left2 at *
  generalize downB armed left down = dn at *
  generalize stepN armed left down = sn at *
  clear h hlo hlh hl hbit
  go_enter Try.func14, Try.ntmps14
  go_wp2_with fail
  refine HST.out.mono ?_
  rintro e w10 ⟨rfl, hD10, hF10⟩
  have XD : Hid (DiskAt w10 base db sb secs bit armed left2 dn ∧ DFr base w w10) := ⟨hD10, hF10⟩
  clear hD10 hF10 HST
  cases dn
  case true =>
    obtain rfl : sn = 9 := HSN.out
    have HF : Hid (PP (.returned (.iface 60 (.int .i64 9))) w10) := HD0.out rfl _ XD.out.2 XD.out.1
    clear HD0 HG0 HSE
    rw [show errV 9 = .iface 60 (.int .i64 9) from rfl]
    go_wp2
    exact HF.out
  obtain rfl : sn = 0 := HSN.out
  have HS2 : Hid (Calls Try.prog 26 #[.pointer (some ⟨db, 0, none⟩), .int .u64 18446744073709551615] w10 fun e w' => e = .returned (.tuple #[]) ∧ DiskAt w' base db sb (stl 18446744073709551615 secs secs.length) 0 armed left2 false ∧ DFr base w10 w') := HSE.out _ _ XD.out.1 (Nat.le_trans hbase XD.out.2.b.size)
  rw [errV0]
  clear HSE HSN HD0
  go_wp2_with fail
  refine HS2.out.mono ?_
  rintro e w2 ⟨rfl, hD, hF⟩
  have HF : Hid (PP (.returned .nilIface) w2) := HG0.out (by simp) _ (XD.out.2.trans hF hbase) hD
  clear hD hF HS2 HG0
  go_wp2
  exact HF.out

set_option maxHeartbeats 2000000 in
theorem arm_any (base db sb : Nat) (secs : List Sec) (bit : Int) (armed : Bool) (left : Int) (down : Bool) (n : Int) (w : World) (h : DiskAt w base db sb secs bit armed left down) :
    Calls Try.prog 16 #[.pointer (some ⟨db, 0, none⟩), .int .i64 n] w fun e w' => e = .returned (.tuple #[]) ∧ DiskAt w' base db sb secs bit (decide (0 ≤ n)) n down ∧ DFr base w w' := by
  have c2 := h.d.cell 2
  have c3 := h.d.cell 3
  simp only [List.getElem?_toArray, List.getElem?_cons_succ, List.getElem?_cons_zero] at c2 c3
  have ff := h.d.free
  have X : Hid (∀ b, DiskAt ((w.setCell ⟨db, 2, none⟩ (.bool b)).setCell ⟨db, 3, none⟩ (.int .i64 n)) base db sb secs bit b n down ∧ DFr base w ((w.setCell ⟨db, 2, none⟩ (.bool b)).setCell ⟨db, 3, none⟩ (.int .i64 n))) := fun b => by
    have h1 := h.head 2 (.bool b) (bit' := bit) (armed' := b) (left' := left) (down' := down) rfl
    exact ⟨h1.head 3 _ rfl, ⟨((DFr.of_set h.d h.hb.1 2 _).b.setCell (p := ⟨db, 3, none⟩) h.hb.1 _), fun k arr T a1 a2 a3 hk => (DFr.of_set h1.d h.hb.1 3 _).far k arr T a1 a2 a3 ((DFr.of_set h.d h.hb.1 2 _).far k arr T a1 a2 a3 hk), (DFr.of_set (base := base) h.d h.hb.1 2 _).oth.trans (KeepsOthers.setCell _ _ _)⟩⟩
  clear h
  cases hq : decide (0 ≤ n)
  · have hqn : ¬ 0 ≤ n := of_decide_eq_false hq
    go_enter Try.func16, Try.ntmps16
    go_wp2
    go_returns
    exact ⟨rfl, (X.out false).1, (X.out false).2⟩
  · have hqn : 0 ≤ n := of_decide_eq_true hq
    go_enter Try.func16, Try.ntmps16
    go_wp2
    go_returns
    exact ⟨rfl, (X.out true).1, (X.out true).2⟩

set_option maxHeartbeats 2000000 in
theorem down_any (base db sb : Nat) (secs : List Sec) (bit : Int) (armed : Bool) (left : Int) (down : Bool) (w : World) (h : DiskAt w base db sb secs bit armed left down) :
    Calls Try.prog 19 #[.pointer (some ⟨db, 0, none⟩)] w fun e w' => e = .returned (.bool down) ∧ w' = w := by
  have c4 := h.d.cell 4
  simp only [List.getElem?_toArray, List.getElem?_cons_succ, List.getElem?_cons_zero] at c4
  clear h
  go_enter Try.func19, Try.ntmps19
  go_wp2
  go_returns
  exact ⟨rfl, rfl⟩

end Dk
end Go.Proofs.Ytmojjjikaaclpaa
