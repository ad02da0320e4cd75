/- TopGoal: each thing that is done comes one nearer to its goal (B3, D1). -/
import Derived.Test.YticjjnmmedmbiabMoved
import Derived.Test.YticjjnmmedmbiabGoal
namespace Go.Proofs.Yticjjnmmedmbiab
open Go.ChangeShapes Go.WideShapes Go.ChangeAt Go.RowKit Go.Maps
set_option maxRecDepth 100000
set_option linter.unusedSimpArgs false
set_option linter.unusedVariables false

namespace Pl
open Ac
theorem do_st (c : Int) (s : St) : (doS c s).st = s.st := by
  unfold doS
  split; · rfl
  split; · rfl
  split; · unfold slideS; split <;> rfl
  split; · unfold slideS; split <;> rfl
  split; · unfold grabS; split <;> rfl
  split; · unfold putS; split <;> rfl
  split; · rfl
  split; · rfl
  split; · unfold takeInS; split <;> rfl
  split; · unfold giveOutS; split <;> rfl
  rfl
theorem step_st {c : Int} {s : St} (h : s.st = 0) : stepS c s = doS c s := by unfold stepS; rw [if_neg (by omega)]
theorem out_st (x : ActC) {s : St} (h : s.st = 0) (hk : (x.kind.toList == [115, 116, 97, 108, 108]) = false) : (outS x s).st = 0 := by
  unfold outS
  split; · rw [step_st h, do_st]; exact h
  split; · unfold walkS; split <;> exact h
  split; · unfold arriveS; split <;> exact h
  split; · unfold leaveS; split <;> exact h
  rw [if_neg (by simp [hk])]
  exact h
theorem Inv.lv_out {s : St} (x : ActC) : (outS x s).lv = s.lv := by
  unfold outS
  split
  · unfold stepS
    split
    · rfl
    · unfold doS
      split; · rfl
      split; · rfl
      split; · unfold slideS; split <;> rfl
      split; · unfold slideS; split <;> rfl
      split; · unfold grabS; split <;> rfl
      split; · unfold putS; split <;> rfl
      split; · rfl
      split; · rfl
      split; · unfold takeInS; split <;> rfl
      split; · unfold giveOutS; split <;> rfl
      rfl
  split; · unfold walkS; split <;> rfl
  split; · unfold arriveS; split <;> rfl
  split; · unfold leaveS; split <;> rfl
  split; · unfold stallS; split <;> rfl
  rfl

theorem sq_le {A : Int} (h : -20 ≤ A ∧ A ≤ 20) : A * A ≤ 400 ∧ 0 ≤ A * A := by
  constructor
  · have h3 : 0 ≤ (20 - A) * (20 + A) := Int.mul_nonneg (by omega) (by omega)
    rw [Int.sub_mul, Int.mul_add, Int.mul_add] at h3
    omega
  · by_cases hneg : A < 0
    · have h4 : 0 ≤ (-A) * (-A) := Int.mul_nonneg (by omega) (by omega)
      rw [Int.neg_mul_neg] at h4
      exact h4
    · exact Int.mul_nonneg (by omega) (by omega)
theorem sq_up (A : Int) : (A + 1) * (A + 1) = A * A + 2 * A + 1 := by
  rw [Int.add_mul, Int.mul_add]
  omega
theorem sq_down (A : Int) : (A + (-1)) * (A + (-1)) = A * A + (-2) * A + 1 := by
  rw [Int.add_mul, Int.mul_add]
  omega

set_option maxHeartbeats 4000000 in
theorem topGoal_run (lv : Int) (v : Value) (K N : Int) (len : Nat) (f : Nat → ActC) (w : World) (hs : ActsAt w v len f) (hN : -9223372036854775808 ≤ N ∧ N ≤ 9223372036854775807) :
    Calls Try.prog 3 #[.int .i64 lv, v, .agg #[.int .i64 K, .int .i64 N]] w fun e w' => e = .returned (.bool true) ∧ Below w.heap.size w w' := by
  obtain ⟨w0, hw0⟩ : ∃ w0, w0 = w.alloc (.cells #[.int .i64 K, .int .i64 N] 24) := ⟨_, rfl⟩
  have HW : Hid (Below w.heap.size w w0) := by rw [hw0]; exact B.new1 _ _
  have z0 : w0.heap.size = w.heap.size + 1 := by rw [hw0]; simp
  have HG : Hid (∀ wx, Below w0.heap.size w0 wx → wx.cell? ⟨w.heap.size, 0, none⟩ = some (.int .i64 K) ∧ wx.cell? ⟨w.heap.size, 1, none⟩ = some (.int .i64 N)) := fun wx hb => by
    have h := B.row hb (b := w.heap.size) (C := #[.int .i64 K, .int .i64 N]) (by rw [hw0]; exact B.row_new _ _ _) (by omega)
    exact ⟨h 0, h 1⟩
  have HS : Hid (ActsAt w0 v len f) := hs.below HW.out
  obtain ⟨a, cap, rfl, hl, hm, hok, hcc⟩ := hs
  clear hok hcc
  unfold maxLen at hm
  go_enter Try.func3, Try.ntmps3
  go_wp2_with fail
  rw [← hw0]
  refine (moved_any w0).mono ?_
  rintro e w1 ⟨rfl, b1⟩
  have B1 : Hid (Below w0.heap.size w0 w1) := b1
  clear b1 hw0
  go_wp2_with fail
  refine (light_any _ len f 150 w1 (HS.out.below B1.out)).mono ?_
  rintro e w2 ⟨b, rfl, hli, hw⟩
  subst hw
  have HL : Hid (b = true → Light len f 150) := hli
  clear hli
  have fin : ∀ wx, Below w0.heap.size w0 wx → Below w.heap.size w wx := fun wx hb => B.next HW.out hb (by omega)
  have FIN : Hid (∀ wx, Below w0.heap.size w0 wx → Below w.heap.size w wx) := fin
  clear fin
  cases b
  · go_wp2
    go_returns
    exact ⟨rfl, FIN.out _ B1.out⟩
  have h150 : len ≤ 150 := by have := (HL.out rfl).1; omega
  clear HL
  go_wp2_with fail
  by_cases hlv : 1 ≤ lv ∧ lv ≤ 4
  · refine (new_any lv w2 hlv.1 hlv.2).mono ?_
    rintro e w3 ⟨rfl, p3, b3⟩
    have z2 : w0.heap.size ≤ w2.heap.size := B1.out.size
    have B3 : Hid (Below w0.heap.size w0 w3) := B.next B1.out b3 z2
    have P3 : Hid (IsP w3 (w2.heap.size + 1) w2.heap.size 0 (newS lv)) := p3
    have I3 : Hid (Inv (newS lv)) := Inv.new hlv.1 hlv.2
    clear p3 b3 B1
    generalize hmb : w2.heap.size = mb at *
    generalize hpb : mb + 1 = pb at *
    have hpb' : w0.heap.size ≤ pb := by omega
    clear hpb hmb
    obtain ⟨hlv1, hlv4⟩ := hlv
    go_wp2_with fail
    go_loopw [10] (fun i wr => ∃ (k : Nat) (s : St), k ≤ len ∧ i = .int .i64 k ∧ Hid (IsP wr pb mb k s) ∧ Hid (Inv s) ∧ Hid (s.st = 0 ∧ s.lv = lv) ∧ Hid (Below w0.heap.size w0 wr)) (fun i _ => len - (intOf i).toNat)
    case atStart => exact ⟨0, _, Nat.zero_le _, rfl, P3, I3, ⟨rfl, rfl⟩, B3⟩
    case round =>
      obtain ⟨k, s, hk, rfl, HP, HI, HU, HB⟩ := hrel
      by_cases hlt : k < len
      · obtain ⟨a', cap', ev, _, _, _, hc⟩ := HS.out.below HB.out
        cases ev
        obtain ⟨b, off, rfl, hb, hcell⟩ := hc (by omega)
        have c0 := hcell k hlt 0 (by omega); have c1 := hcell k hlt 1 (by omega); have c2 := hcell k hlt 2 (by omega); have c3 := hcell k hlt 3 (by omega)
        have c4 := hcell k hlt 4 (by omega); have c5 := hcell k hlt 5 (by omega); have c6 := hcell k hlt 6 (by omega); have c7 := hcell k hlt 7 (by omega)
        have c8 := hcell k hlt 8 (by omega); have c9 := hcell k hlt 9 (by omega); have c10 := hcell k hlt 10 (by omega); have c11 := hcell k hlt 11 (by omega)
        generalize f k = x at c0 c1 c2 c3 c4 c5 c6 c7 c8 c9 c10 c11
        simp [ActC.vals] at c0 c1 c2 c3 c4 c5 c6 c7 c8 c9 c10 c11
        clear hcell hc
        have hkm : k < maxLen := by unfold maxLen; omega
        cases hks : (x.kind.toList == [115, 116, 97, 108, 108])
        · have HO : Hid (∀ w1, IsP w1 pb mb k s → Calls Try.prog 15 #[.pointer (some ⟨pb, 0, none⟩), .agg #[.string x.kind, .int .i64 x.a, .int .i64 x.b, .int .i64 x.c0, .int .i64 x.c1, .int .i64 x.c2, .int .i64 x.c3, .string x.s, .int .u64 x.k, .int .i64 x.last, .slice x.sa x.sl x.sc, .slice x.ja x.jl x.jc]] w1 fun e w' => e = .returned (.tuple #[]) ∧ IsP w' pb mb (k + 1) (outS x s) ∧ Turn pb mb w1 w') := fun w1 hp => out_any pb mb k s x w1 hp HI.out hkm
          have HU2 : Hid ((outS x s).st = 0 ∧ (outS x s).lv = lv) := ⟨out_st x HU.out.1 hks, (Inv.lv_out x).trans HU.out.2⟩
          have HI2 : Hid (Inv (outS x s)) := HI.out.out x
          generalize outS x s = s2 at HO HU2 HI2
          go_wp2_with fail
          refine (HO.out _ HP.out).mono ?_
          rintro e w4 ⟨rfl, p4, t4⟩
          have HP4 : Hid (IsP w4 pb mb (k + 1) s2) := p4
          have HB4 : Hid (Below w0.heap.size w0 w4) := turn_new HB.out t4 (by omega) (by omega) HB.out.size
          clear p4 t4 HO
          go_wp2
          go_roundw
          case rel => exact ⟨k + 1, s2, by omega, by go_num, HP4, HI2, HU2, HB4⟩
          case measure => simp [intOf]; omega
        · have HPm : Hid (IsP wr pb mb (k + 1) s) := HP.out.mono
          go_wp2
          go_roundw
          case rel => exact ⟨k + 1, s, by omega, by go_num, HPm, HI, HU, HB⟩
          case measure => simp [intOf]; omega
      · have hkm : k < maxLen := by unfold maxLen; omega
        obtain ⟨hst, hslv⟩ := HU.out
        have i0 := HI.out.ok.h0; have i1 := HI.out.ok.h12; have i2 := HI.out.ok.e0; have i3 := HI.out.ok.e2
        rw [hslv] at i1
        have HSe : Hid (∀ w1, IsP w1 pb mb k s → Calls Try.prog 16 #[.pointer (some ⟨pb, 0, none⟩)] w1 fun e w' => e = .returned (senseV s) ∧ Below w1.heap.size w1 w') := fun w1 hp => sense_any pb mb k s w1 hp HI.out.ok
        have HNx : Hid (∀ w1, Calls Try.prog 17 #[.agg #[.int .i64 K, .int .i64 N], senseV s] w1 fun e w' => e = .returned (.tuple #[.int .u8 (nextC K N s.h s.ex s.op s.li), .bool (nextC K N s.h s.ex s.op s.li == 45)]) ∧ Below w1.heap.size w1 w') := fun w1 => next_any K N s.h s.ex s.op s.pe s.li s.ba _ _ _ w1
        have HSt : Hid (∀ c w1, IsP w1 pb mb k s → StepTo pb mb k c w1 (doS c s)) := fun c w1 hp => by
          have := step_any pb mb k s c w1 hp HI.out.ok hkm HI.out.wf HI.out.st.2
          rwa [step_st hst] at this
        have HS2 : Hid (∀ c w1, IsP w1 pb mb (k + 1) (doS c s) → Calls Try.prog 16 #[.pointer (some ⟨pb, 0, none⟩)] w1 fun e w' => e = .returned (senseV (doS c s)) ∧ Below w1.heap.size w1 w') := fun c w1 hp => sense_any pb mb (k + 1) (doS c s) w1 hp (HI.out.do c).ok
        have HV : Hid (∀ t : St, ∃ a3 a4 a5 a6 a7 a8 a9, senseV t = .agg #[.int .i64 t.h, .int .i64 t.ex, .bool a3, .int .i64 a4, .int .i64 a5, .int .i64 a6, .bool a7, .bool a8, .bool a9]) := fun t => ⟨_, _, _, _, _, _, _, rfl⟩
        have HR : Hid (∀ b : Int, 0 ≤ s.h + b → s.h + b ≤ lv * 3 → (raiseS b s).h = s.h + b) := fun b h1 h2 => by show min (max (s.h + b) 0) (s.lv * 3) = _; rw [hslv]; omega
        have HL2 : Hid (∀ b : Int, -2 ≤ s.ex + b → s.ex + b ≤ 2 → (slideS b s).ex = s.ex + b) := fun b h1 h2 => by show (slideS b s).ex = _; unfold slideS; rw [if_pos ⟨h1, h2⟩]
        have HV1 : Hid (senseV s = .agg #[.int .i64 s.h, .int .i64 s.ex, .bool s.op, .int .i64 s.pe, .int .i64 s.li, .int .i64 s.ba, .bool (carAtI s.D s.lv s.h s.ex != 0), .bool (carAtI s.D s.lv s.h (s.ex - 1) != 0), .bool (carAtI s.D s.lv s.h (s.ex + 1) != 0)]) := rfl
        rw [HV1.out] at HSe HNx
        clear HV1 hst hslv HU
        generalize s.li = li at *
        generalize s.ba = ba at *
        generalize (carAtI s.D s.lv s.h s.ex != 0) = q1 at *
        generalize (carAtI s.D s.lv s.h (s.ex - 1) != 0) = q2 at *
        generalize (carAtI s.D s.lv s.h (s.ex + 1) != 0) = q3 at *
        generalize s.h = h at *
        generalize s.ex = ex at *
        generalize s.op = op at *
        generalize s.pe = pe at *
        go_wp2_with fail
        refine (HSe.out _ HP.out).mono ?_
        rintro e w4 ⟨rfl, b4⟩
        have z4 := b4.size
        have zr := HB.out.size
        have P4 : Hid (IsP (w4.alloc (.cells #[.int .i64 h, .int .i64 ex, .bool op, .int .i64 pe, .int .i64 li, .int .i64 ba, .bool q1, .bool q2, .bool q3] 45)) pb mb k s) := HP.out.below (b4.alloc z4 _)
        have B4 : Hid (Below w0.heap.size w0 (w4.alloc (.cells #[.int .i64 h, .int .i64 ex, .bool op, .int .i64 pe, .int .i64 li, .int .i64 ba, .bool q1, .bool q2, .bool q3] 45))) := B.next HB.out (b4.alloc z4 _) HB.out.size
        obtain ⟨g0, g1⟩ := HG.out _ B4.out
        clear b4 HSe
        go_wp2_with fail
        refine (HNx.out _).mono ?_
        rintro e w5 ⟨rfl, b5⟩
        have P5 : Hid (IsP w5 pb mb k s) := P4.out.below b5
        have B5 : Hid (Below w0.heap.size w0 w5) := B.next B4.out b5 B4.out.size
        have r5 : Hid (∀ o, w5.cell? ⟨w4.heap.size, o, none⟩ = (#[.int .i64 h, .int .i64 ex, .bool op, .int .i64 pe, .int .i64 li, .int .i64 ba, .bool q1, .bool q2, .bool q3] : Array Value)[o]?) := B.row b5 (B.row_new w4 _ _) (by simp)
        have z5 : w4.heap.size < w5.heap.size := by have := b5.size; simp at this; omega
        clear b5 P4 B4 g0 g1 HNx
        obtain ⟨g0, g1⟩ := HG.out _ B5.out
        by_cases hC : nextC K N h ex op li = 45
        · rw [hC]
          clear hC
          go_wp2
          go_returns
          exact ⟨rfl, FIN.out _ B5.out⟩
        have hC' : (nextC K N h ex op li == 45) = false := by simpa using hC
        by_cases k1 : K = 1
        · subst k1
          have m3 : IntKind.i64.wrap (lv * 3) = lv * 3 := by rw [IntKind.wrap_i64]; omega
          by_cases n0 : N < 0
          · generalize nextC 1 N h ex op li = C at *
            go_wp2
            go_returns
            exact ⟨rfl, FIN.out _ B5.out⟩
          by_cases n1 : lv * 3 < N
          · generalize nextC 1 N h ex op li = C at *
            go_wp2
            go_returns
            exact ⟨rfl, FIN.out _ B5.out⟩
          by_cases hn : h < N
          · have hCv : nextC 1 N h ex op li = 117 := by simp [nextC, hn]
            rw [hCv]
            obtain ⟨a3, a4, a5, a6, a7, a8, a9, hsv⟩ := HV.out (doS 117 s)
            have KS : Hid (∀ w1, IsP w1 pb mb (k + 1) (doS 117 s) → Calls Try.prog 16 #[.pointer (some ⟨pb, 0, none⟩)] w1 fun e w' => e = .returned (senseV (doS 117 s)) ∧ Below w1.heap.size w1 w') := fun w1 hp => HS2.out 117 w1 hp
            have KT : Hid (∀ w1, IsP w1 pb mb k s → StepTo pb mb k 117 w1 (doS 117 s)) := fun w1 hp => HSt.out 117 w1 hp
            rw [hsv] at KS
            have hv1 : (doS 117 s).h = h + 1 := HR.out 1 (by omega) (by omega)
            rw [hv1] at KS
            generalize (doS 117 s).ex = other at KS
            generalize doS 117 s = s2 at KS KT
            obtain ⟨hx1, HX1⟩ : ∃ q, Hid (q = h + 1) := ⟨_, rfl⟩
            rw [← HX1.out] at KS
            obtain ⟨B2, HB2⟩ : ∃ q, Hid (q = h - N + 1) := ⟨_, rfl⟩
            have m1 : IntKind.i64.wrap (hx1 - N) = B2 := by rw [IntKind.wrap_i64, HX1.out, HB2.out]; omega
            have bA : -20 ≤ h - N ∧ h - N ≤ 20 := by omega
            have q2' : B2 * B2 = (h - N) * (h - N) + 2 * (h - N) + 1 := by rw [HB2.out]; exact sq_up _
            have sq := sq_le bA
            obtain ⟨P2, HP2⟩ : ∃ q, Hid (q = (h - N) * (h - N)) := ⟨_, rfl⟩
            obtain ⟨R2, HR2⟩ : ∃ q, Hid (q = B2 * B2) := ⟨_, rfl⟩
            rw [← HP2.out] at q2' sq
            rw [← HR2.out] at q2'
            have lt2 : R2 < P2 := by omega
            have u1 : IntKind.i64.wrap ((h - N) * (h - N)) = P2 := by rw [← HP2.out, IntKind.wrap_i64]; omega
            have u2 : IntKind.i64.wrap (B2 * B2) = R2 := by rw [← HR2.out, IntKind.wrap_i64]; omega
            have u3 : IntKind.i64.wrap (h - N - B2) = -1 := by rw [IntKind.wrap_i64]; have := HB2.out; omega
            have u4 : IntKind.i64.wrap (B2 - (h - N)) = 1 := by rw [IntKind.wrap_i64]; have := HB2.out; omega
            clear q2' sq bA hv1 hsv hC hC' hCv
            clear HSt HS2 HV HR HL2
            go_wp2_with fail
            refine (KT.out _ P5.out).mono ?_
            rintro e w6 ⟨rfl, p6, t6⟩
            have P6 : Hid (IsP w6 pb mb (k + 1) s2) := p6
            have B6 : Hid (Below w0.heap.size w0 w6) := turn_new B5.out t6 (by omega) (by omega) B5.out.size
            have r6 : Hid (∀ o, w6.cell? ⟨w4.heap.size, o, none⟩ = (#[.int .i64 h, .int .i64 ex, .bool op, .int .i64 pe, .int .i64 li, .int .i64 ba, .bool q1, .bool q2, .bool q3] : Array Value)[o]?) := fun o => (World.cell?_of_block (t6.block w4.heap.size z5 (by have := HP.out.lt; omega) (by have := HP.out.ltm; omega))).trans (r5.out o)
            have z6 : w4.heap.size < w6.heap.size := by have := t6.size; omega
            clear p6 t6 KT g0 g1 P5 B5 r5
            go_wp2_with fail
            refine (KS.out _ P6.out).mono ?_
            rintro e w7 ⟨rfl, b7⟩
            have B7 : Hid (∀ o, Below w0.heap.size w0 (w7.alloc o)) := fun o => (B.next B6.out b7 B6.out.size).alloc (by have := b7.size; have := B6.out.size; omega) o
            have r7 : Hid (∀ o' o, (w7.alloc o').cell? ⟨w4.heap.size, o, none⟩ = (#[.int .i64 h, .int .i64 ex, .bool op, .int .i64 pe, .int .i64 li, .int .i64 ba, .bool q1, .bool q2, .bool q3] : Array Value)[o]?) := fun o' => B.row_old o' (B.row b7 r6.out z6) (by have := b7.size; omega)
            have g0 := fun o => (HG.out _ (B7.out o)).1
            have g1 := fun o => (HG.out _ (B7.out o)).2
            have t0 : ∀ o', (w7.alloc o').cell? ⟨w4.heap.size, 0, none⟩ = some (.int .i64 h) := fun o' => r7.out o' 0
            have t1 : ∀ o', (w7.alloc o').cell? ⟨w4.heap.size, 1, none⟩ = some (.int .i64 ex) := fun o' => r7.out o' 1
            have zz : w4.heap.size < w7.heap.size := by have := b7.size; omega
            clear b7
            skip
            go_wp2
            all_goals go_returns
            all_goals exact ⟨rfl, FIN.out _ (B7.out _)⟩
          · have hn2 : N < h := by
              by_cases e : N < h
              · exact e
              · exact absurd (by simp [nextC, hn, e]) hC
            have hCv : nextC 1 N h ex op li = 100 := by simp [nextC, hn, hn2]
            rw [hCv]
            obtain ⟨a3, a4, a5, a6, a7, a8, a9, hsv⟩ := HV.out (doS 100 s)
            have KS : Hid (∀ w1, IsP w1 pb mb (k + 1) (doS 100 s) → Calls Try.prog 16 #[.pointer (some ⟨pb, 0, none⟩)] w1 fun e w' => e = .returned (senseV (doS 100 s)) ∧ Below w1.heap.size w1 w') := fun w1 hp => HS2.out 100 w1 hp
            have KT : Hid (∀ w1, IsP w1 pb mb k s → StepTo pb mb k 100 w1 (doS 100 s)) := fun w1 hp => HSt.out 100 w1 hp
            rw [hsv] at KS
            have hv1 : (doS 100 s).h = h + (-1) := HR.out (-1) (by omega) (by omega)
            rw [hv1] at KS
            generalize (doS 100 s).ex = other at KS
            generalize doS 100 s = s2 at KS KT
            obtain ⟨hx1, HX1⟩ : ∃ q, Hid (q = h + (-1)) := ⟨_, rfl⟩
            rw [← HX1.out] at KS
            obtain ⟨B2, HB2⟩ : ∃ q, Hid (q = h - N + (-1)) := ⟨_, rfl⟩
            have m1 : IntKind.i64.wrap (hx1 - N) = B2 := by rw [IntKind.wrap_i64, HX1.out, HB2.out]; omega
            have bA : -20 ≤ h - N ∧ h - N ≤ 20 := by omega
            have q2' : B2 * B2 = (h - N) * (h - N) + (-2) * (h - N) + 1 := by rw [HB2.out]; exact sq_down _
            have sq := sq_le bA
            obtain ⟨P2, HP2⟩ : ∃ q, Hid (q = (h - N) * (h - N)) := ⟨_, rfl⟩
            obtain ⟨R2, HR2⟩ : ∃ q, Hid (q = B2 * B2) := ⟨_, rfl⟩
            rw [← HP2.out] at q2' sq
            rw [← HR2.out] at q2'
            have lt2 : R2 < P2 := by omega
            have u1 : IntKind.i64.wrap ((h - N) * (h - N)) = P2 := by rw [← HP2.out, IntKind.wrap_i64]; omega
            have u2 : IntKind.i64.wrap (B2 * B2) = R2 := by rw [← HR2.out, IntKind.wrap_i64]; omega
            have u3 : IntKind.i64.wrap (h - N - B2) = 1 := by rw [IntKind.wrap_i64]; have := HB2.out; omega
            have u4 : IntKind.i64.wrap (B2 - (h - N)) = -1 := by rw [IntKind.wrap_i64]; have := HB2.out; omega
            clear q2' sq bA hv1 hsv hC hC' hCv
            clear HSt HS2 HV HR HL2
            go_wp2_with fail
            refine (KT.out _ P5.out).mono ?_
            rintro e w6 ⟨rfl, p6, t6⟩
            have P6 : Hid (IsP w6 pb mb (k + 1) s2) := p6
            have B6 : Hid (Below w0.heap.size w0 w6) := turn_new B5.out t6 (by omega) (by omega) B5.out.size
            have r6 : Hid (∀ o, w6.cell? ⟨w4.heap.size, o, none⟩ = (#[.int .i64 h, .int .i64 ex, .bool op, .int .i64 pe, .int .i64 li, .int .i64 ba, .bool q1, .bool q2, .bool q3] : Array Value)[o]?) := fun o => (World.cell?_of_block (t6.block w4.heap.size z5 (by have := HP.out.lt; omega) (by have := HP.out.ltm; omega))).trans (r5.out o)
            have z6 : w4.heap.size < w6.heap.size := by have := t6.size; omega
            clear p6 t6 KT g0 g1 P5 B5 r5
            go_wp2_with fail
            refine (KS.out _ P6.out).mono ?_
            rintro e w7 ⟨rfl, b7⟩
            have B7 : Hid (∀ o, Below w0.heap.size w0 (w7.alloc o)) := fun o => (B.next B6.out b7 B6.out.size).alloc (by have := b7.size; have := B6.out.size; omega) o
            have r7 : Hid (∀ o' o, (w7.alloc o').cell? ⟨w4.heap.size, o, none⟩ = (#[.int .i64 h, .int .i64 ex, .bool op, .int .i64 pe, .int .i64 li, .int .i64 ba, .bool q1, .bool q2, .bool q3] : Array Value)[o]?) := fun o' => B.row_old o' (B.row b7 r6.out z6) (by have := b7.size; omega)
            have g0 := fun o => (HG.out _ (B7.out o)).1
            have g1 := fun o => (HG.out _ (B7.out o)).2
            have t0 : ∀ o', (w7.alloc o').cell? ⟨w4.heap.size, 0, none⟩ = some (.int .i64 h) := fun o' => r7.out o' 0
            have t1 : ∀ o', (w7.alloc o').cell? ⟨w4.heap.size, 1, none⟩ = some (.int .i64 ex) := fun o' => r7.out o' 1
            have zz : w4.heap.size < w7.heap.size := by have := b7.size; omega
            clear b7
            skip
            go_wp2
            all_goals go_returns
            all_goals exact ⟨rfl, FIN.out _ (B7.out _)⟩
        by_cases k2 : K = 2
        · subst k2
          by_cases n0 : N < -2
          · generalize nextC 2 N h ex op li = C at *
            go_wp2
            go_returns
            exact ⟨rfl, FIN.out _ B5.out⟩
          by_cases n1 : 2 < N
          · generalize nextC 2 N h ex op li = C at *
            go_wp2
            go_returns
            exact ⟨rfl, FIN.out _ B5.out⟩
          by_cases hn : ex < N
          · have hCv : nextC 2 N h ex op li = 114 := by simp [nextC, hn]
            rw [hCv]
            obtain ⟨a3, a4, a5, a6, a7, a8, a9, hsv⟩ := HV.out (doS 114 s)
            have KS : Hid (∀ w1, IsP w1 pb mb (k + 1) (doS 114 s) → Calls Try.prog 16 #[.pointer (some ⟨pb, 0, none⟩)] w1 fun e w' => e = .returned (senseV (doS 114 s)) ∧ Below w1.heap.size w1 w') := fun w1 hp => HS2.out 114 w1 hp
            have KT : Hid (∀ w1, IsP w1 pb mb k s → StepTo pb mb k 114 w1 (doS 114 s)) := fun w1 hp => HSt.out 114 w1 hp
            rw [hsv] at KS
            have hv1 : (doS 114 s).ex = ex + 1 := HL2.out 1 (by omega) (by omega)
            rw [hv1] at KS
            generalize (doS 114 s).h = other at KS
            generalize doS 114 s = s2 at KS KT
            obtain ⟨hx1, HX1⟩ : ∃ q, Hid (q = ex + 1) := ⟨_, rfl⟩
            rw [← HX1.out] at KS
            obtain ⟨B2, HB2⟩ : ∃ q, Hid (q = ex - N + 1) := ⟨_, rfl⟩
            have m1 : IntKind.i64.wrap (hx1 - N) = B2 := by rw [IntKind.wrap_i64, HX1.out, HB2.out]; omega
            have bA : -20 ≤ ex - N ∧ ex - N ≤ 20 := by omega
            have q2' : B2 * B2 = (ex - N) * (ex - N) + 2 * (ex - N) + 1 := by rw [HB2.out]; exact sq_up _
            have sq := sq_le bA
            obtain ⟨P2, HP2⟩ : ∃ q, Hid (q = (ex - N) * (ex - N)) := ⟨_, rfl⟩
            obtain ⟨R2, HR2⟩ : ∃ q, Hid (q = B2 * B2) := ⟨_, rfl⟩
            rw [← HP2.out] at q2' sq
            rw [← HR2.out] at q2'
            have lt2 : R2 < P2 := by omega
            have u1 : IntKind.i64.wrap ((ex - N) * (ex - N)) = P2 := by rw [← HP2.out, IntKind.wrap_i64]; omega
            have u2 : IntKind.i64.wrap (B2 * B2) = R2 := by rw [← HR2.out, IntKind.wrap_i64]; omega
            have u3 : IntKind.i64.wrap (ex - N - B2) = -1 := by rw [IntKind.wrap_i64]; have := HB2.out; omega
            have u4 : IntKind.i64.wrap (B2 - (ex - N)) = 1 := by rw [IntKind.wrap_i64]; have := HB2.out; omega
            clear q2' sq bA hv1 hsv hC hC' hCv
            clear HSt HS2 HV HR HL2
            go_wp2_with fail
            refine (KT.out _ P5.out).mono ?_
            rintro e w6 ⟨rfl, p6, t6⟩
            have P6 : Hid (IsP w6 pb mb (k + 1) s2) := p6
            have B6 : Hid (Below w0.heap.size w0 w6) := turn_new B5.out t6 (by omega) (by omega) B5.out.size
            have r6 : Hid (∀ o, w6.cell? ⟨w4.heap.size, o, none⟩ = (#[.int .i64 h, .int .i64 ex, .bool op, .int .i64 pe, .int .i64 li, .int .i64 ba, .bool q1, .bool q2, .bool q3] : Array Value)[o]?) := fun o => (World.cell?_of_block (t6.block w4.heap.size z5 (by have := HP.out.lt; omega) (by have := HP.out.ltm; omega))).trans (r5.out o)
            have z6 : w4.heap.size < w6.heap.size := by have := t6.size; omega
            clear p6 t6 KT g0 g1 P5 B5 r5
            go_wp2_with fail
            refine (KS.out _ P6.out).mono ?_
            rintro e w7 ⟨rfl, b7⟩
            have B7 : Hid (∀ o, Below w0.heap.size w0 (w7.alloc o)) := fun o => (B.next B6.out b7 B6.out.size).alloc (by have := b7.size; have := B6.out.size; omega) o
            have r7 : Hid (∀ o' o, (w7.alloc o').cell? ⟨w4.heap.size, o, none⟩ = (#[.int .i64 h, .int .i64 ex, .bool op, .int .i64 pe, .int .i64 li, .int .i64 ba, .bool q1, .bool q2, .bool q3] : Array Value)[o]?) := fun o' => B.row_old o' (B.row b7 r6.out z6) (by have := b7.size; omega)
            have g0 := fun o => (HG.out _ (B7.out o)).1
            have g1 := fun o => (HG.out _ (B7.out o)).2
            have t0 : ∀ o', (w7.alloc o').cell? ⟨w4.heap.size, 0, none⟩ = some (.int .i64 h) := fun o' => r7.out o' 0
            have t1 : ∀ o', (w7.alloc o').cell? ⟨w4.heap.size, 1, none⟩ = some (.int .i64 ex) := fun o' => r7.out o' 1
            have zz : w4.heap.size < w7.heap.size := by have := b7.size; omega
            clear b7
            skip
            go_wp2
            all_goals go_returns
            all_goals exact ⟨rfl, FIN.out _ (B7.out _)⟩
          · have hn2 : N < ex := by
              by_cases e : N < ex
              · exact e
              · exact absurd (by simp [nextC, hn, e]) hC
            have hCv : nextC 2 N h ex op li = 108 := by simp [nextC, hn, hn2]
            rw [hCv]
            obtain ⟨a3, a4, a5, a6, a7, a8, a9, hsv⟩ := HV.out (doS 108 s)
            have KS : Hid (∀ w1, IsP w1 pb mb (k + 1) (doS 108 s) → Calls Try.prog 16 #[.pointer (some ⟨pb, 0, none⟩)] w1 fun e w' => e = .returned (senseV (doS 108 s)) ∧ Below w1.heap.size w1 w') := fun w1 hp => HS2.out 108 w1 hp
            have KT : Hid (∀ w1, IsP w1 pb mb k s → StepTo pb mb k 108 w1 (doS 108 s)) := fun w1 hp => HSt.out 108 w1 hp
            rw [hsv] at KS
            have hv1 : (doS 108 s).ex = ex + (-1) := HL2.out (-1) (by omega) (by omega)
            rw [hv1] at KS
            generalize (doS 108 s).h = other at KS
            generalize doS 108 s = s2 at KS KT
            obtain ⟨hx1, HX1⟩ : ∃ q, Hid (q = ex + (-1)) := ⟨_, rfl⟩
            rw [← HX1.out] at KS
            obtain ⟨B2, HB2⟩ : ∃ q, Hid (q = ex - N + (-1)) := ⟨_, rfl⟩
            have m1 : IntKind.i64.wrap (hx1 - N) = B2 := by rw [IntKind.wrap_i64, HX1.out, HB2.out]; omega
            have bA : -20 ≤ ex - N ∧ ex - N ≤ 20 := by omega
            have q2' : B2 * B2 = (ex - N) * (ex - N) + (-2) * (ex - N) + 1 := by rw [HB2.out]; exact sq_down _
            have sq := sq_le bA
            obtain ⟨P2, HP2⟩ : ∃ q, Hid (q = (ex - N) * (ex - N)) := ⟨_, rfl⟩
            obtain ⟨R2, HR2⟩ : ∃ q, Hid (q = B2 * B2) := ⟨_, rfl⟩
            rw [← HP2.out] at q2' sq
            rw [← HR2.out] at q2'
            have lt2 : R2 < P2 := by omega
            have u1 : IntKind.i64.wrap ((ex - N) * (ex - N)) = P2 := by rw [← HP2.out, IntKind.wrap_i64]; omega
            have u2 : IntKind.i64.wrap (B2 * B2) = R2 := by rw [← HR2.out, IntKind.wrap_i64]; omega
            have u3 : IntKind.i64.wrap (ex - N - B2) = 1 := by rw [IntKind.wrap_i64]; have := HB2.out; omega
            have u4 : IntKind.i64.wrap (B2 - (ex - N)) = -1 := by rw [IntKind.wrap_i64]; have := HB2.out; omega
            clear q2' sq bA hv1 hsv hC hC' hCv
            clear HSt HS2 HV HR HL2
            go_wp2_with fail
            refine (KT.out _ P5.out).mono ?_
            rintro e w6 ⟨rfl, p6, t6⟩
            have P6 : Hid (IsP w6 pb mb (k + 1) s2) := p6
            have B6 : Hid (Below w0.heap.size w0 w6) := turn_new B5.out t6 (by omega) (by omega) B5.out.size
            have r6 : Hid (∀ o, w6.cell? ⟨w4.heap.size, o, none⟩ = (#[.int .i64 h, .int .i64 ex, .bool op, .int .i64 pe, .int .i64 li, .int .i64 ba, .bool q1, .bool q2, .bool q3] : Array Value)[o]?) := fun o => (World.cell?_of_block (t6.block w4.heap.size z5 (by have := HP.out.lt; omega) (by have := HP.out.ltm; omega))).trans (r5.out o)
            have z6 : w4.heap.size < w6.heap.size := by have := t6.size; omega
            clear p6 t6 KT g0 g1 P5 B5 r5
            go_wp2_with fail
            refine (KS.out _ P6.out).mono ?_
            rintro e w7 ⟨rfl, b7⟩
            have B7 : Hid (∀ o, Below w0.heap.size w0 (w7.alloc o)) := fun o => (B.next B6.out b7 B6.out.size).alloc (by have := b7.size; have := B6.out.size; omega) o
            have r7 : Hid (∀ o' o, (w7.alloc o').cell? ⟨w4.heap.size, o, none⟩ = (#[.int .i64 h, .int .i64 ex, .bool op, .int .i64 pe, .int .i64 li, .int .i64 ba, .bool q1, .bool q2, .bool q3] : Array Value)[o]?) := fun o' => B.row_old o' (B.row b7 r6.out z6) (by have := b7.size; omega)
            have g0 := fun o => (HG.out _ (B7.out o)).1
            have g1 := fun o => (HG.out _ (B7.out o)).2
            have t0 : ∀ o', (w7.alloc o').cell? ⟨w4.heap.size, 0, none⟩ = some (.int .i64 h) := fun o' => r7.out o' 0
            have t1 : ∀ o', (w7.alloc o').cell? ⟨w4.heap.size, 1, none⟩ = some (.int .i64 ex) := fun o' => r7.out o' 1
            have zz : w4.heap.size < w7.heap.size := by have := b7.size; omega
            clear b7
            skip
            go_wp2
            all_goals go_returns
            all_goals exact ⟨rfl, FIN.out _ (B7.out _)⟩
        have k1' : (K == 1) = false := by simpa using k1
        have k2' : (K == 2) = false := by simpa using k2
        have k1n : (K != 1) = true := by simp [bne, k1']
        have k2n : (K != 2) = true := by simp [bne, k2']
        generalize nextC K N h ex op li = C at *
        go_wp2_with fail
        all_goals first
          | (go_returns; exact ⟨rfl, FIN.out _ B5.out⟩)
          | (exfalso; go_light; simp_all; done)
          | (exfalso; go_light; omega)
  · refine (new_bad lv w2 hlv).mono ?_
    rw [errV_ne (by decide)]
    rintro e w3 ⟨rfl, rfl⟩
    go_wp2
    go_returns
    exact ⟨rfl, FIN.out _ B1.out⟩

end Pl
end Go.Proofs.Yticjjnmmedmbiab
