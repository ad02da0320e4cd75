/- Has a machine what the document's machine has (B2): the statement's own function; and its closed fact. -/
import Derived.Test.YticjjnmmedmbiaaRefOutB
import Derived.Test.YticjjnmmedmbiaaQuiet
import Derived.Laws.StructEq
namespace Go.Proofs.Yticjjnmmedmbiaa
open Go.ChangeShapes Go.WideShapes Go.ChangeAt Go.RowKit Go.Maps
set_option maxRecDepth 100000
set_option linter.unusedSimpArgs false
set_option linter.unusedVariables false

namespace Pl
open Ac
theorem neqS_run (h ex : Int) (op : Bool) (pe li ba : Int) (q1 q2 q3 : Bool) (w : World) : Sem.run Try.prog (binOp .neq 71 (.agg #[.int .i64 h, .int .i64 ex, .bool op, .int .i64 pe, .int .i64 li, .int .i64 ba, .bool q1, .bool q2, .bool q3]) (.agg #[.int .i64 h, .int .i64 ex, .bool op, .int .i64 pe, .int .i64 li, .int .i64 ba, .bool q1, .bool q2, .bool q3])) w = .ok (.bool false) w := by
  have u3 := Try.underlying3
  have a3 := Try.isAgg3
  have z3 := Try.sizeOf3
  have u4 := Try.underlying4
  have a4 := Try.isAgg4
  have z4 := Try.sizeOf4
  have hS : Try.prog.underlying 71 = some (.struct (Try.prog.fieldsOf 71)) := by kernel_rfl
  have hp : Try.prog.stoodInHeld 71 = false := by kernel_rfl
  rw [run_neq_struct, show (10000 : Nat) = 9999 + 1 from rfl, run_equalIn_agg w 9999 71 _ _ hS hp]
  simp only [Program.fieldsOf, Try.underlying71]
  go_simp
theorem guardS_run (op : BinOp) (u v : Operand) (a b : Array Value) (w : World) : Sem.run Try.prog (eqGuard op 71 u v (.agg a) (.agg b)) w = .ok () w := run_eqGuard_agg w op 71 u v a b (by kernel_rfl)

theorem _root_.Go.Proofs.Yticjjnmmedmbiaa.Calls.wsame {P : Program} {f : FuncId} {args : Array Value} {w : World} {p : BelowW w} {v : Value}
    (h : Calls P f args p.wd fun e w' => e = .returned v ∧ w' = p.wd) : Calls P f args p.wd fun e w'' => e = .returned v ∧ ∃ q : BelowW w, w'' = q.wd :=
  h.mono fun _ w' ⟨he, hb⟩ => ⟨he, p, hb⟩

set_option maxHeartbeats 4000000 in
theorem asPlant_any (pb mb rb n : Nat) (s : St) (w : World) (hp : IsP w pb mb n s) (hr : IsR w rb s) (iv : Inv s) :
    Calls Try.prog 39 #[.pointer (some ⟨pb, 0, none⟩), .pointer (some ⟨rb, 0, none⟩)] w fun e w' => e = .returned (.bool true) ∧ Below w.heap.size w w' := by
  have HSP : Hid (∀ p : BelowW w, Calls Try.prog 67 #[.pointer (some ⟨pb, 0, none⟩)] p.wd fun e w' => e = .returned (.agg #[.int .i64 s.h, .int .i64 s.ex, .bool s.op, .int .i64 s.pe, .int .i64 s.li, .int .i64 s.ba, .bool (carAtI s.D s.lv s.h s.ex != 0), .bool (carAtI s.D s.lv s.h (s.ex - 1) != 0), .bool (carAtI s.D s.lv s.h (s.ex + 1) != 0)]) ∧ Below p.wd.heap.size p.wd w') := fun p => sense_any pb mb n s p.wd (hp.below p.hb) iv.ok
  have HSR : Hid (∀ p : BelowW w, Calls Try.prog 78 #[.pointer (some ⟨rb, 0, none⟩)] p.wd fun e w' => e = .returned (.agg #[.int .i64 s.h, .int .i64 s.ex, .bool s.op, .int .i64 s.pe, .int .i64 s.li, .int .i64 s.ba, .bool (carAtI s.D s.lv s.h s.ex != 0), .bool (carAtI s.D s.lv s.h (s.ex - 1) != 0), .bool (carAtI s.D s.lv s.h (s.ex + 1) != 0)]) ∧ Below p.wd.heap.size p.wd w') := fun p => rsense_any rb s p.wd (hr.below p.hb) iv
  have HHU : Hid (∀ p : BelowW w, Calls Try.prog 69 #[.pointer (some ⟨pb, 0, none⟩)] p.wd fun e w' => e = .returned (.bool s.hu) ∧ w' = p.wd) := fun p => hurt_any pb s.hu p.wd (hp.below p.hb).c9
  have c28 : ∀ p : BelowW w, p.wd.cell? ⟨rb, 28, none⟩ = some (.bool s.hu) := fun p => (hr.below p.hb).cell 28
  have HAP : Hid (∀ x y z : Int, -5 ≤ x ∧ x ≤ 9 → -5 ≤ y ∧ y ≤ 9 → -5 ≤ z ∧ z ≤ 9 → ∀ wx, Below w.heap.size w wx → Calls Try.prog 79 #[.pointer (some ⟨pb, 0, none⟩), .agg #[.int .i64 x, .int .i64 y, .int .i64 z]] wx fun e w' => e = .returned (.int .i64 (carOf s.D x y z)) ∧ Below wx.heap.size wx w') := fun x y z hx hy hz wx hb => at_any pb mb n s.D x y z wx (hp.below hb).c7 (hp.below hb).cars (wfI (by omega)) (wfI (by omega)) (wfI (by omega))
  have HAR : Hid (∀ x y z : Int, -5 ≤ x ∧ x ≤ 9 → -5 ≤ y ∧ y ≤ 9 → -5 ≤ z ∧ z ≤ 9 → ∀ wx, Below w.heap.size w wx → Calls Try.prog 80 #[.pointer (some ⟨rb, 0, none⟩), .agg #[.int .i64 x, .int .i64 y, .int .i64 z]] wx fun e w' => e = .returned (.int .i64 (carOf s.D x y z)) ∧ Below wx.heap.size wx w') := fun x y z hx hy hz wx hb => rAt_any rb s x y z wx (hr.below hb) iv (wfI (by omega)) (wfI (by omega)) (wfI (by omega))
  have eS := neqS_run s.h s.ex s.op s.pe s.li s.ba (carAtI s.D s.lv s.h s.ex != 0) (carAtI s.D s.lv s.h (s.ex - 1) != 0) (carAtI s.D s.lv s.h (s.ex + 1) != 0)
  have gS := guardS_run
  generalize (carAtI s.D s.lv s.h s.ex != 0) = q1 at *
  generalize (carAtI s.D s.lv s.h (s.ex - 1) != 0) = q2 at *
  generalize (carAtI s.D s.lv s.h (s.ex + 1) != 0) = q3 at *
  generalize s.h = h at *
  generalize s.ex = ex at *
  generalize s.op = op at *
  generalize s.pe = pe at *
  generalize s.li = li at *
  generalize s.ba = ba at *
  generalize s.hu = hu at *
  clear hp hr iv
  go_enter Try.func39, Try.ntmps39
  go_wp2_with fail
  refine wp_region_below (by kernel_rfl) (by kernel_rfl) ?_
  repeat (quiet_step (first | (go_at_call 67; exact Calls.wof (HSP.out _)) | (go_at_call 78; exact Calls.wof (HSR.out _)) | (go_at_call 69; exact Calls.wsame (HHU.out _))))
  refine wpQuiet_nil ?_
  rintro w1 ⟨⟨_, NQ⟩, rfl⟩
  have B1 : Hid (Below w.heap.size w w1) := NQ
  clear NQ c28 eS gS HSP HSR HHU
  go_wp2_with fail
  go_loopg [5] 6 (fun gg s5 wr => ∃ k : Nat, k ≤ 6 ∧ 6 - k ≤ gg ∧ s5 = .int .i64 k ∧ Hid (Below w.heap.size w wr))
  case atStart => exact ⟨0, by omega, by omega, rfl, B1⟩
  case round =>
    obtain ⟨k, hk, hg, rfl, B2⟩ := hrel
    by_cases hlt : k < 6
    · have hltz : (k : Int) ≤ 5 := by omega
      go_wp2_with fail
      go_loopg [6] 4 (fun gg s6 wr => ∃ i : Nat, i ≤ 4 ∧ 4 - i ≤ gg ∧ s6 = .int .i64 ((i : Int) - 1) ∧ Hid (Below w.heap.size w wr))
      case atStart => exact ⟨0, by omega, by omega, rfl, B2⟩
      case round =>
        clear B2
        obtain ⟨i, hi, hgi, rfl, B2⟩ := hrel
        by_cases hlt2 : i < 4
        · have hltz2 : (i : Int) - 1 < 3 := by omega
          go_wp2_with fail
          go_loopg [7] 4 (fun gg s7 wr => ∃ j : Nat, j ≤ 4 ∧ 4 - j ≤ gg ∧ s7 = .int .i64 ((j : Int) - 1) ∧ Hid (Below w.heap.size w wr))
          case atStart => exact ⟨0, by omega, by omega, rfl, B2⟩
          case round =>
            clear B2
            obtain ⟨j, hj, hgj, rfl, B2⟩ := hrel
            by_cases hlt3 : j < 4
            · have hltz3 : (j : Int) - 1 < 3 := by omega
              obtain ⟨y, HY⟩ : ∃ y : Int, Hid (y = (i : Int) - 1) := ⟨_, rfl⟩
              obtain ⟨z, HZ⟩ : ∃ z : Int, Hid (z = (j : Int) - 1) := ⟨_, rfl⟩
              have mz : IntKind.i64.wrap (z + 1) = z + 1 := by rw [IntKind.wrap_i64, HZ.out]; omega
              have hz3 : z < 3 := by rw [HZ.out]; omega
              rw [← HY.out, ← HZ.out]
              have HA1 : Hid (∀ wx, Below w.heap.size w wx → Calls Try.prog 79 #[.pointer (some ⟨pb, 0, none⟩), .agg #[.int .i64 k, .int .i64 y, .int .i64 z]] wx fun e w' => e = .returned (.int .i64 (carOf s.D k y z)) ∧ Below wx.heap.size wx w') := HAP.out k y z (by omega) (by rw [HY.out]; omega) (by rw [HZ.out]; omega)
              have HA2 : Hid (∀ wx, Below w.heap.size w wx → Calls Try.prog 80 #[.pointer (some ⟨rb, 0, none⟩), .agg #[.int .i64 k, .int .i64 y, .int .i64 z]] wx fun e w' => e = .returned (.int .i64 (carOf s.D k y z)) ∧ Below wx.heap.size wx w') := HAR.out k y z (by omega) (by rw [HY.out]; omega) (by rw [HZ.out]; omega)
              generalize carOf s.D k y z = c at HA1 HA2
              obtain ⟨wa, hwa⟩ : ∃ wa, wr.alloc (.cells #[.int .i64 k, .int .i64 y, .int .i64 z] 28) = wa := ⟨_, rfl⟩
              have BA : Hid (Below w.heap.size w wa) := by show Below _ _ _; rw [← hwa]; exact B2.out.alloc B2.out.size _
              have KA : Hid (Go.Proofs.Yticjjnmmedmbiaa.Blk wa wr.heap.size #[.int .i64 k, .int .i64 y, .int .i64 z] 28) := by show Go.Proofs.Yticjjnmmedmbiaa.Blk _ _ _ _; rw [← hwa]; exact Go.Proofs.Yticjjnmmedmbiaa.Blk.new _ _ _
              have h0 := fun p : BelowW wa => (KA.out.below p.hb).cell 0
              have h1 := fun p : BelowW wa => (KA.out.below p.hb).cell 1
              have h2 := fun p : BelowW wa => (KA.out.below p.hb).cell 2
              go_wp2_with fail
              refine wp_region_below (by kernel_rfl) (by kernel_rfl) ?_
              repeat (quiet_step (first | (go_at_call 79; exact Calls.wof (HA1.out _ (B.next BA.out (BelowW.hb _) BA.out.size))) | (go_at_call 80; exact Calls.wof (HA2.out _ (B.next BA.out (BelowW.hb _) BA.out.size)))))
              refine wpQuiet_nil ?_
              rintro wb ⟨⟨_, NQ⟩, rfl⟩
              have BB : Hid (Below w.heap.size w wb) := B.next BA.out NQ BA.out.size
              clear h0 h1 h2 NQ HA1 HA2 KA hwa
              go_wp2
              have hy := HY.out
              have hz := HZ.out
              clear HY HZ
              subst hy hz
              go_roundg (4 - (j + 1))
              case measure => omega
              case rel => exact ⟨j + 1, by omega, by omega, by go_num, BB⟩
            · have hltz3 : ¬ (j : Int) - 1 < 3 := by omega
              obtain ⟨y, HY⟩ : ∃ y : Int, Hid (y = (i : Int) - 1) := ⟨_, rfl⟩
              have my : IntKind.i64.wrap (y + 1) = y + 1 := by rw [IntKind.wrap_i64, HY.out]; omega
              rw [← HY.out]
              go_wp2
              go_roundg (4 - (i + 1))
              case measure => omega
              case rel => exact ⟨i + 1, by omega, by omega, by rw [HY.out]; go_num, B2⟩
        · have hltz2 : ¬ (i : Int) - 1 < 3 := by omega
          go_wp2
          go_roundg (6 - (k + 1))
          case measure => omega
          case rel => exact ⟨k + 1, by omega, by omega, by go_num, B2⟩
    · have hltz : ¬ (k : Int) ≤ 5 := by omega
      go_wp2
      go_returns
      exact ⟨rfl, B2.out⟩

end Pl
end Go.Proofs.Yticjjnmmedmbiaa
