/- A plan is followed, goal by goal, as it may be: contract of the laws' own function 'run'. -/
import Derived.Test.YticjjnmmedmbiabTopSafe
import Derived.Test.YticjjnmmedmbiabGoal
import Derived.Deep.LoopGhost
namespace Go.Proofs.Yticjjnmmedmbiab
open Go.ChangeShapes Go.WideShapes Go.ChangeAt Go.RowKit Go.Maps
set_option maxRecDepth 100000
set_option linter.unusedSimpArgs false
set_option linter.unusedVariables false

namespace Pl
open Ac
/-- A list of goals lies in memory, apart from the machine. -/
def GoalsAt (pb mb : Nat) (w : World) (v : Value) (l : List (Int × Int)) : Prop :=
  ∃ (ad : Option Addr) (cap : Nat), v = .slice ad l.length cap ∧ l.length ≤ cap ∧ cap ≤ maxLen ∧
    (0 < l.length → ∃ b off, ad = some ⟨b, off, none⟩ ∧ b < w.heap.size ∧ b ≠ pb ∧ b ≠ mb ∧ ∀ i, i < l.length → w.cell? ⟨b, off + i * 2, none⟩ = some (.int .i64 (l.getD i (0, 0)).1) ∧ w.cell? ⟨b, off + i * 2 + 1, none⟩ = some (.int .i64 (l.getD i (0, 0)).2))
theorem GoalsAt.turn {pb mb : Nat} {w w' : World} {v : Value} {l : List (Int × Int)} (h : GoalsAt pb mb w v l) (t : Turn pb mb w w') : GoalsAt pb mb w' v l := by
  obtain ⟨ad, cap, hv, h1, h2, hc⟩ := h
  refine ⟨ad, cap, hv, h1, h2, fun h0 => ?_⟩
  obtain ⟨b, off, ha, hlt, hp, hm, hcell⟩ := hc h0
  exact ⟨b, off, ha, Nat.lt_of_lt_of_le hlt t.size, hp, hm, fun i hi => ⟨(World.cell?_of_block (t.block b hlt hp hm)).trans (hcell i hi).1, (World.cell?_of_block (t.block b hlt hp hm)).trans (hcell i hi).2⟩⟩
theorem IsP.le {w : World} {pb mb n n' : Nat} {s : St} (h : IsP w pb mb n s) (hn : n ≤ n') : IsP w pb mb n' s := ⟨h.row, World.ownsMap.mono h.cars hn⟩

def nextS (g : Int × Int) (s : St) : Int := nextC g.1 g.2 s.h s.ex s.op s.li
/-- So many ticks: what is left of the goals, and the machine. -/
def runS : Nat → List (Int × Int) → St → List (Int × Int) × St
  | 0, l, s => (l, s)
  | _ + 1, [], s => ([], s)
  | t + 1, g :: l, s => if nextS g s = 45 then runS t l s else runS t (g :: l) (guardS (nextS g s) s)
theorem runS_nil : ∀ t s, runS t [] s = ([], s)
  | 0, _ => rfl
  | _ + 1, _ => rfl
theorem Inv.run : ∀ t l {s : St}, Inv s → Inv (runS t l s).2
  | 0, _, _, h => h
  | _ + 1, [], _, h => h
  | t + 1, g :: l, s, h => by
    unfold runS
    split
    · exact Inv.run t l h
    · exact Inv.run t (g :: l) (h.guard _)

set_option maxHeartbeats 4000000 in
theorem run_any (pb mb n : Nat) (s0 : St) (v : Value) (l0 : List (Int × Int)) (ticks : Nat) (w : World) (hp : IsP w pb mb n s0) (iv : Inv s0) (hg : GoalsAt pb mb w v l0) (ht : ticks ≤ 1000) (hn : n + ticks < maxLen) :
    Calls Try.prog 23 #[.pointer (some ⟨pb, 0, none⟩), v, .int .i64 ticks] w fun e w' => e = .returned (.bool (runS ticks l0 s0).1.isEmpty) ∧ IsP w' pb mb (n + ticks) (runS ticks l0 s0).2 ∧ Turn pb mb w w' := by
  have P0 : Hid (IsP w pb mb (n + 0) s0) := hp
  have I0 : Hid (Inv s0) := iv
  have G0 : Hid (GoalsAt pb mb w v l0) := hg
  obtain ⟨R, HR⟩ : ∃ R, Hid (runS ticks l0 s0 = R) := ⟨_, rfl⟩
  rw [HR.out]
  clear hp iv hg
  go_enter Try.func23, Try.ntmps23
  go_wp2_with fail
  go_loopg [1, 7] ticks (fun q v i wr => ∃ (k : Nat) (l : List (Int × Int)) (s : St), k + q = ticks ∧ i = .int .i64 k ∧ Hid (GoalsAt pb mb wr v l) ∧ Hid (IsP wr pb mb (n + k) s) ∧ Hid (Inv s) ∧ Hid (runS q l s = R) ∧ Hid (Turn pb mb w wr))
  case atStart => exact ⟨0, l0, s0, by omega, rfl, G0, P0, I0, HR, Turn.refl _ _ _⟩
  case round =>
    obtain ⟨k, l, s, hk, rfl, HG, HP, HI, HRR, HT⟩ := hrel
    have HK : Hid (k + gk = ticks) := hk
    obtain ⟨ad, cap, rfl, hl, hm, hc⟩ := HG.out
    unfold maxLen at hm
    by_cases hlt : k < ticks
    · cases l with
      | nil =>
        have HE : Hid (R = ([], s)) := by rw [← HRR.out]; exact runS_nil _ _
        clear hc
        go_wp2
        go_returns
        rw [HE.out]
        exact ⟨rfl, HP.out.le (by omega), HT.out⟩
      | cons g l =>
        obtain ⟨K, N⟩ := g
        obtain ⟨b, off, rfl, hb, hbp, hbm, hcell⟩ := hc (by simp)
        have c0 := (hcell 0 (by simp)).1
        have c1 := (hcell 0 (by simp)).2
        simp at c0 c1
        simp only [List.length_cons] at hl
        have GT : Hid (GoalsAt pb mb wr (.slice (some ⟨b, off + 2, none⟩) l.length (cap - 1)) l) := ⟨_, cap - 1, rfl, by omega, by unfold maxLen; omega, fun h0 => ⟨b, off + 2, rfl, hb, hbp, hbm, fun i hi => by
          have := hcell (i + 1) (by simp; omega)
          simp only [List.getD_cons_succ] at this
          rw [show off + 2 + i * 2 = off + (i + 1) * 2 from by omega]
          exact this⟩⟩
        have HSe : Hid (∀ w1, IsP w1 pb mb (n + k) s → Calls Try.prog 16 #[.pointer (some ⟨pb, 0, none⟩)] w1 fun e w' => e = .returned (senseV s) ∧ Below w1.heap.size w1 w') := fun w1 hp => sense_any pb mb (n + k) s w1 hp HI.out.ok
        have HNx : Hid (∀ w1, Calls Try.prog 17 #[.agg #[.int .i64 K, .int .i64 N], senseV s] w1 fun e w' => e = .returned (.tuple #[.int .u8 (nextS (K, N) s), .bool (nextS (K, N) s == 45)]) ∧ Below w1.heap.size w1 w') := fun w1 => next_any K N s.h s.ex s.op s.pe s.li s.ba _ _ _ w1
        have HMa : Hid (∀ w1 c, Calls Try.prog 79 #[.int .u8 c, senseV s] w1 fun e w' => e = .returned (.bool (mayS c s)) ∧ Below w1.heap.size w1 w') := fun w1 c => may_sense c s HI.out w1
        have HSt : Hid (∀ w1 c, IsP w1 pb mb (n + k) s → StepTo pb mb (n + k) c w1 (stepS c s)) := fun w1 c hp => step_any pb mb (n + k) s c w1 hp HI.out.ok (by omega) HI.out.wf HI.out.st.2
        have HStep : Hid (∀ q, runS (q + 1) ((K, N) :: l) s = if nextS (K, N) s = 45 then runS q l s else runS q ((K, N) :: l) (guardS (nextS (K, N) s) s)) := fun q => rfl
        have HG2 : Hid (∀ c, guardS c s = if mayS c s = true then stepS c s else s) := fun c => rfl
        have HI2 : Hid (∀ c, Inv (guardS c s)) := fun c => HI.out.guard c
        have HV1 : Hid (senseV s = .agg #[.int .i64 s.h, .int .i64 s.ex, .bool s.op, .int .i64 s.pe, .int .i64 s.li, .int .i64 s.ba, .bool (carAtI s.D s.lv s.h s.ex != 0), .bool (carAtI s.D s.lv s.h (s.ex - 1) != 0), .bool (carAtI s.D s.lv s.h (s.ex + 1) != 0)]) := rfl
        rw [HV1.out] at HSe HNx HMa
        clear HV1 hcell hc
        generalize (carAtI s.D s.lv s.h s.ex != 0) = q1 at *
        generalize (carAtI s.D s.lv s.h (s.ex - 1) != 0) = q2 at *
        generalize (carAtI s.D s.lv s.h (s.ex + 1) != 0) = q3 at *
        generalize s.li = li at *
        generalize s.ba = ba at *
        generalize s.h = h at *
        generalize s.ex = ex at *
        generalize s.op = op at *
        generalize s.pe = pe at *
        generalize nextS (K, N) s = C at *
        have lc : (0 : Int) < ((l.length + 1 : Nat) : Int) := by omega
        have lc2 : (1 : Int) ≤ (cap : Int) := by omega
        simp only [List.length_cons]
        go_wp2_with fail
        refine (HSe.out _ HP.out).mono ?_
        rintro e w4 ⟨rfl, b4⟩
        have z4 := b4.size
        have P4 : Hid (IsP (w4.alloc (.cells #[.int .i64 h, .int .i64 ex, .bool op, .int .i64 pe, .int .i64 li, .int .i64 ba, .bool q1, .bool q2, .bool q3] 45)) pb mb (n + k) s) := HP.out.below (b4.alloc z4 _)
        have B4 : Hid (Below wr.heap.size wr (w4.alloc (.cells #[.int .i64 h, .int .i64 ex, .bool op, .int .i64 pe, .int .i64 li, .int .i64 ba, .bool q1, .bool q2, .bool q3] 45))) := b4.alloc z4 _
        have Rw5 : Hid (∀ o, (w4.alloc (.cells #[.int .i64 h, .int .i64 ex, .bool op, .int .i64 pe, .int .i64 li, .int .i64 ba, .bool q1, .bool q2, .bool q3] 45)).cell? ⟨w4.heap.size, o, none⟩ = (#[.int .i64 h, .int .i64 ex, .bool op, .int .i64 pe, .int .i64 li, .int .i64 ba, .bool q1, .bool q2, .bool q3] : Array Value)[o]?) := B.row_new w4 _ _
        obtain ⟨w5, hw5⟩ : ∃ w5, w4.alloc (.cells #[.int .i64 h, .int .i64 ex, .bool op, .int .i64 pe, .int .i64 li, .int .i64 ba, .bool q1, .bool q2, .bool q3] 45) = w5 := ⟨_, rfl⟩
        have g0 : w5.cell? ⟨b, off, none⟩ = some (.int .i64 K) := by rw [← hw5]; exact (B.cell B4.out b _ hb).trans c0
        have g1 : w5.cell? ⟨b, off + 1, none⟩ = some (.int .i64 N) := by rw [← hw5]; exact (B.cell B4.out b _ hb).trans c1
        have z5 : w4.heap.size < w5.heap.size := by rw [← hw5]; simp
        rw [hw5] at P4 B4 Rw5
        have c5_0 : w5.cell? ⟨w4.heap.size, 0, none⟩ = some (.int .i64 h) := Rw5.out 0; have c5_1 : w5.cell? ⟨w4.heap.size, 1, none⟩ = some (.int .i64 ex) := Rw5.out 1; have c5_2 : w5.cell? ⟨w4.heap.size, 2, none⟩ = some (.bool op) := Rw5.out 2; have c5_3 : w5.cell? ⟨w4.heap.size, 3, none⟩ = some (.int .i64 pe) := Rw5.out 3; have c5_4 : w5.cell? ⟨w4.heap.size, 4, none⟩ = some (.int .i64 li) := Rw5.out 4; have c5_5 : w5.cell? ⟨w4.heap.size, 5, none⟩ = some (.int .i64 ba) := Rw5.out 5; have c5_6 : w5.cell? ⟨w4.heap.size, 6, none⟩ = some (.bool q1) := Rw5.out 6; have c5_7 : w5.cell? ⟨w4.heap.size, 7, none⟩ = some (.bool q2) := Rw5.out 7; have c5_8 : w5.cell? ⟨w4.heap.size, 8, none⟩ = some (.bool q3) := Rw5.out 8
        have hb5 : b < w5.heap.size := Nat.lt_of_lt_of_le hb B4.out.size
        go_upto_region 5 with fail
        clear b4 HSe hw5
        have TW : Hid (Turn pb mb w w5) := HT.out.below B4.out
        go_region_held3 (fun wx => wx.cell? ⟨b, off, none⟩ = some (.int .i64 K) ∧ wx.cell? ⟨b, off + 1, none⟩ = some (.int .i64 N) ∧ wx.cell? ⟨w4.heap.size, 0, none⟩ = some (.int .i64 h) ∧ wx.cell? ⟨w4.heap.size, 1, none⟩ = some (.int .i64 ex) ∧ wx.cell? ⟨w4.heap.size, 2, none⟩ = some (.bool op) ∧ wx.cell? ⟨w4.heap.size, 3, none⟩ = some (.int .i64 pe) ∧ wx.cell? ⟨w4.heap.size, 4, none⟩ = some (.int .i64 li) ∧ wx.cell? ⟨w4.heap.size, 5, none⟩ = some (.int .i64 ba) ∧ wx.cell? ⟨w4.heap.size, 6, none⟩ = some (.bool q1) ∧ wx.cell? ⟨w4.heap.size, 7, none⟩ = some (.bool q2) ∧ wx.cell? ⟨w4.heap.size, 8, none⟩ = some (.bool q3)) (go_keep)
          (first
            | (go_at_call 17; refine (HNx.out _).mono ?_; rintro e w6 ⟨rfl, b6⟩
               have P6 : Hid (IsP w6 pb mb (n + k) s) := P4.out.drew.below b6
               have B6 : Hid (Below wr.heap.size wr w6) := B.next B4.out.drew b6 B4.out.size
               have Rw6 : Hid (∀ o, w6.cell? ⟨w4.heap.size, o, none⟩ = (#[.int .i64 h, .int .i64 ex, .bool op, .int .i64 pe, .int .i64 li, .int .i64 ba, .bool q1, .bool q2, .bool q3] : Array Value)[o]?) := B.row b6 Rw5.out z5
               have h0 : w6.cell? ⟨b, off, none⟩ = some (.int .i64 K) := (B.cell b6 b _ hb5).trans g0
               have h1 : w6.cell? ⟨b, off + 1, none⟩ = some (.int .i64 N) := (B.cell b6 b _ hb5).trans g1
               have c6_0 : w6.cell? ⟨w4.heap.size, 0, none⟩ = some (.int .i64 h) := Rw6.out 0; have c6_1 : w6.cell? ⟨w4.heap.size, 1, none⟩ = some (.int .i64 ex) := Rw6.out 1; have c6_2 : w6.cell? ⟨w4.heap.size, 2, none⟩ = some (.bool op) := Rw6.out 2; have c6_3 : w6.cell? ⟨w4.heap.size, 3, none⟩ = some (.int .i64 pe) := Rw6.out 3; have c6_4 : w6.cell? ⟨w4.heap.size, 4, none⟩ = some (.int .i64 li) := Rw6.out 4; have c6_5 : w6.cell? ⟨w4.heap.size, 5, none⟩ = some (.int .i64 ba) := Rw6.out 5; have c6_6 : w6.cell? ⟨w4.heap.size, 6, none⟩ = some (.bool q1) := Rw6.out 6; have c6_7 : w6.cell? ⟨w4.heap.size, 7, none⟩ = some (.bool q2) := Rw6.out 7; have c6_8 : w6.cell? ⟨w4.heap.size, 8, none⟩ = some (.bool q3) := Rw6.out 8
               clear b6))
        all_goals
          have T6 : Hid (Turn pb mb w w6) := HT.out.below B6.out
          have GT6 : Hid (GoalsAt pb mb w6 (.slice (some ⟨b, off + 2, none⟩) l.length (cap - 1)) l) := GT.out.turn (Turn.of_below B6.out)
          have GG6 : Hid (GoalsAt pb mb w6 (.slice (some ⟨b, off, none⟩) (l.length + 1) cap) ((K, N) :: l)) := HG.out.turn (Turn.of_below B6.out)
          clear B6 TW GT HNx
          by_cases hC : C = 45
          · subst hC
            have HQ : Hid (runS (gk - 1) l s = R) := by
              have h1 := HStep.out (gk - 1)
              rw [show gk - 1 + 1 = gk from by have := HK.out; omega, if_pos rfl] at h1
              show _ = _
              rw [← h1]; exact HRR.out
            have P7 : Hid (IsP w6 pb mb (n + (k + 1)) s) := P6.out.le (by omega)
            have GTz : Hid (l.length = 0 → GoalsAt pb mb w6 (.slice (some ⟨b, off, none⟩) l.length 0) l) := fun h => ⟨_, 0, rfl, by omega, by unfold maxLen; omega, fun h0 => by omega⟩
            clear HStep HRR HMa HSt HG2
            go_wp2_with fail
            all_goals go_roundg (gk - 1)
            all_goals first
              | (have := HK.out; omega)
              | exact ⟨k + 1, l, s, by have := HK.out; omega, by go_num, GT6, P7, HI, HQ, T6⟩
              | exact ⟨k + 1, l, s, by have := HK.out; omega, by go_num, GTz.out (by omega), P7, HI, HQ, T6⟩
          · have hC' : (C == 45) = false := by simpa using hC
            have HQ : Hid (runS (gk - 1) ((K, N) :: l) (guardS C s) = R) := by
              have h1 := HStep.out (gk - 1)
              rw [show gk - 1 + 1 = gk from by have := HK.out; omega, if_neg hC] at h1
              show _ = _
              rw [← h1]; exact HRR.out
            clear HStep HRR GT6
            go_wp2_with fail
            refine (HMa.out _ C).mono ?_
            rintro e w7 ⟨rfl, b7⟩
            have P7 : Hid (IsP w7 pb mb (n + k) s) := P6.out.below b7
            have T7 : Hid (Turn pb mb w w7) := T6.out.below b7
            have G7 : Hid (GoalsAt pb mb w7 (.slice (some ⟨b, off, none⟩) (l.length + 1) cap) ((K, N) :: l)) := GG6.out.turn (Turn.of_below b7)
            have HI3 : Hid (Inv (guardS C s)) := HI2.out C
            have HG3 : Hid (guardS C s = if mayS C s = true then stepS C s else s) := HG2.out C
            clear b7 HMa P6 T6 GG6 Rw6 HI2 HG2
            generalize mayS C s = m at *
            cases m
            · rw [show guardS C s = s from by rw [HG3.out]; simp] at HQ HI3
              have P8 : Hid (IsP w7 pb mb (n + (k + 1)) s) := P7.out.le (by omega)
              clear HG3 HSt
              go_wp2_with fail
              go_roundg (gk - 1)
              case measure => have := HK.out; omega
              case rel => exact ⟨k + 1, (K, N) :: l, s, by have := HK.out; omega, by go_num, G7, P8, HI3, HQ, T7⟩
            · rw [show guardS C s = stepS C s from by rw [HG3.out]; simp] at HQ HI3
              clear HG3
              have HSt2 : Hid (∀ w1, IsP w1 pb mb (n + k) s → StepTo pb mb (n + k) C w1 (stepS C s)) := fun w1 hp => HSt.out w1 C hp
              generalize stepS C s = s2 at HQ HI3 HSt2
              clear HSt
              go_wp2_with fail
              refine (HSt2.out _ P7.out).mono ?_
              rintro e w8 ⟨rfl, p8, t8⟩
              have P8 : Hid (IsP w8 pb mb (n + (k + 1)) s2) := p8
              have T8 : Hid (Turn pb mb w w8) := T7.out.trans t8
              have G8 : Hid (GoalsAt pb mb w8 (.slice (some ⟨b, off, none⟩) (l.length + 1) cap) ((K, N) :: l)) := G7.out.turn t8
              clear p8 t8 HSt2
              go_wp2_with fail
              go_roundg (gk - 1)
              case measure => have := HK.out; omega
              case rel => exact ⟨k + 1, (K, N) :: l, s2, by have := HK.out; omega, by go_num, G8, P8, HI3, HQ, T8⟩
    · have hkt : gk = 0 := by omega
      subst hkt
      have HE : Hid (R = (l, s)) := HRR.out.symm
      clear hc
      go_wp2
      go_returns
      rw [HE.out]
      refine ⟨?_, HP.out.le (by omega), HT.out⟩
      cases l <;> rfl

end Pl
end Go.Proofs.Yticjjnmmedmbiab
