/- TopFree: nothing is forbidden in vain (B3, C1): what may not be done would hurt the machine, or do nothing. -/
import Derived.Test.YticjjnmmedmbiaaTopSafe
import Derived.Test.YticjjnmmedmbiaaAlike
namespace Go.Proofs.Yticjjnmmedmbiaa
open Go.ChangeShapes Go.WideShapes Go.ChangeAt Go.RowKit Go.Maps
set_option maxRecDepth 100000
set_option linter.unusedSimpArgs false
set_option linter.unusedVariables false

namespace Pl
open Ac
theorem endB_iff {lv h ex : Int} (h0 : 0 ≤ h) (h12 : h ≤ lv * 3) (e0 : -2 ≤ ex) (e2 : ex ≤ 2) : endB lv h ex = (levelB h && ex != 0) := by
  cases hl : levelB h with
  | false =>
    simp only [levelB, Bool.and_eq_false_iff, decide_eq_false_iff_not, beq_eq_false_iff_ne] at hl
    simp only [endB, Bool.false_and, Bool.and_eq_false_iff, decide_eq_false_iff_not]
    left
    omega
  | true =>
    by_cases hx : ex = 0
    · subst hx; simp [endB]
    · rw [endB_level h0 h12 hl e0 e2 hx]; simp [hx]

theorem slide_free {s : St} (iv : Inv s) (b : Int) (hr : reachB (s.ex + b) s.h s.li (carAtI s.D s.lv s.h (s.ex + b) != 0) = false) : (slideS b s).hu = true ∨ slideS b s = s := by
  have i0 := iv.ok.h0; have i1 := iv.ok.h12
  unfold slideS
  by_cases hk : -2 ≤ s.ex + b ∧ s.ex + b ≤ 2
  · left
    rw [if_pos hk]
    simp only [reachB, hk, and_self, decide_true, Bool.true_and] at hr
    rw [endB_iff i0 i1 hk.1 hk.2]
    generalize (carAtI s.D s.lv s.h (s.ex + b) != 0) = q at hr ⊢
    cases hx : (s.ex + b == 0) <;> cases hl : levelB s.h <;> cases hi : (s.li == 0) <;> cases q <;> simp [hx, hl, hi, bne] at hr ⊢
  · right
    rw [if_neg hk]

theorem may_free {s : St} (iv : Inv s) (c : Int) (hm : mayS c s = false) : (doS c s).hu = true ∨ doS c s = s := by
  have i0 := iv.ok.h0; have i1 := iv.ok.h12; have i2 := iv.ok.e0; have i3 := iv.ok.e2
  unfold mayS mayB at hm
  unfold doS
  by_cases k0 : c = 45
  · subst k0; simp at hm
  rw [if_neg k0] at hm
  by_cases k1 : c = 117
  · subst k1
    left
    simp only [true_or, if_true, closedB] at hm ⊢
    simp only [raiseS]
    cases hx : (s.ex == 0) <;> cases ho : s.op <;> cases hp : (s.pe == 0) <;> simp [hx, ho, hp, bne] at hm ⊢
  by_cases k2 : c = 100
  · subst k2
    left
    simp only [or_true, if_true, closedB] at hm ⊢
    simp only [raiseS]
    cases hx : (s.ex == 0) <;> cases ho : s.op <;> cases hp : (s.pe == 0) <;> simp [hx, ho, hp, bne] at hm ⊢
  rw [if_neg (by omega)] at hm
  rw [if_neg k1, if_neg k2]
  by_cases k3 : c = 108
  · subst k3
    simp only [if_true] at hm ⊢
    exact slide_free iv (-1) hm
  rw [if_neg k3] at hm
  rw [if_neg k3]
  by_cases k4 : c = 114
  · subst k4
    simp only [if_true] at hm ⊢
    exact slide_free iv 1 hm
  rw [if_neg k4] at hm
  rw [if_neg k4]
  by_cases k5 : c = 103
  · subst k5
    right
    simp only [if_true] at hm ⊢
    unfold grabS
    split
    · rename_i hg
      simp only [grabB, Bool.and_eq_true, beq_iff_eq] at hg
      have he := hg.1
      rw [endB_iff i0 i1 i2 i3, Bool.and_eq_true] at he
      have hc : carAtI s.D s.lv s.h s.ex = 0 := by simpa [he.1, he.2, hg.2] using hm
      have hc' : carOf s.D (endX s.lv s.h s.ex) (endY s.lv s.h s.ex) (endZ s.lv s.h s.ex) = 0 := by simpa [carAtI, hg.1] using hc
      have hn : has s.D (pk (endX s.lv s.h s.ex) (endY s.lv s.h s.ex) (endZ s.lv s.h s.ex)) = false := by
        cases hh : has s.D (pk (endX s.lv s.h s.ex) (endY s.lv s.h s.ex) (endZ s.lv s.h s.ex)) with
        | false => rfl
        | true => exact absurd hc' ((iv.D.has_iff _ _ _).1 hh)
      rw [del_of_not_has hn, hc', ← hg.2]
    · rfl
  rw [if_neg k5] at hm
  rw [if_neg k5]
  by_cases k6 : c = 112
  · subst k6
    right
    simp only [if_true] at hm ⊢
    unfold putS
    split
    · rename_i hg
      simp only [putB, Bool.and_eq_true, beq_iff_eq] at hg
      obtain ⟨⟨g1, g2⟩, g3⟩ := hg
      rw [endB_iff i0 i1 i2 i3, Bool.and_eq_true] at g1
      simp [g1.1, g1.2, g2, g3] at hm
    · rfl
  rw [if_neg k6] at hm
  rw [if_neg k6]
  by_cases k7 : c = 111
  · subst k7
    left
    simp only [if_true, belowB] at hm ⊢
    simp only [openS]
    cases hx : (s.h == 0) <;> cases ho : (s.ex == 0) <;> simp [hx, ho] at hm ⊢ <;> simp at hx ho <;> simp [hx, ho]
  rw [if_neg k7] at hm
  rw [if_neg k7]
  by_cases k8 : c = 99
  · subst k8
    left
    simp only [if_true, beq_eq_false_iff_ne] at hm ⊢
    simp [shutS, hm]
  rw [if_neg k8] at hm
  rw [if_neg k8]
  by_cases k9 : c = 110
  · subst k9
    simp only [if_true, closedB, belowB] at hm ⊢
    cases hcl : (!s.op && s.pe == 0) with
    | false =>
      left
      unfold takeInS
      have : (s.op || s.pe != 0) = true := by cases ho : s.op <;> cases hp : (s.pe == 0) <;> simp [ho, hp, bne] at hcl ⊢
      split <;> simp [this]
    | true =>
      right
      have : (s.op || s.pe != 0) = false := by cases ho : s.op <;> cases hp : (s.pe == 0) <;> simp [ho, hp, bne] at hcl ⊢
      rw [hcl] at hm
      unfold takeInS
      split
      · rename_i hg
        obtain ⟨g1, g2, g3⟩ := hg
        have hb : s.ba = 0 := by simpa [g1, g2, g3] using hm
        rw [this, Bool.or_false, hb, ← g3]
        obtain ⟨lv, h, ex, op, pe, li, ba, D, st, hu⟩ := s
        simp only at hb g3 ⊢
        simp [hb, g3]
      · rw [this, Bool.or_false]
  rw [if_neg k9] at hm
  rw [if_neg k9]
  by_cases k10 : c = 120
  · subst k10
    simp only [if_true, closedB, belowB] at hm ⊢
    cases hcl : (!s.op && s.pe == 0) with
    | false =>
      left
      unfold giveOutS
      have : (s.op || s.pe != 0) = true := by cases ho : s.op <;> cases hp : (s.pe == 0) <;> simp [ho, hp, bne] at hcl ⊢
      split <;> simp [this]
    | true =>
      right
      have : (s.op || s.pe != 0) = false := by cases ho : s.op <;> cases hp : (s.pe == 0) <;> simp [ho, hp, bne] at hcl ⊢
      rw [hcl] at hm
      unfold giveOutS
      split
      · rename_i hg
        obtain ⟨g1, g2, g3⟩ := hg
        have hb : s.li = 0 := by simpa [g1, g2, g3] using hm
        rw [this, Bool.or_false]
        obtain ⟨lv, h, ex, op, pe, li, ba, D, st, hu⟩ := s
        simp only at hb g3 ⊢
        simp [hb, g3]
      · rw [this, Bool.or_false]
  rw [if_neg k10]
  right
  rfl

theorem do_st (c : Int) (s : St) : (doS c s).st = s.st := by
  unfold doS
  split; · rfl
  split; · rfl
  split; · unfold slideS; split <;> rfl
  split; · unfold slideS; split <;> rfl
  split; · unfold grabS; split <;> rfl
  split; · unfold putS; split <;> rfl
  split; · rfl
  split; · rfl
  split; · unfold takeInS; split <;> rfl
  split; · unfold giveOutS; split <;> rfl
  rfl
theorem step_st {c : Int} {s : St} (h : s.st = 0) : stepS c s = doS c s := by unfold stepS; rw [if_neg (by omega)]
theorem guard_st (c : Int) {s : St} (h : s.st = 0) : (guardS c s).st = 0 := by
  unfold guardS
  split
  · rw [step_st h, do_st]; exact h
  · exact h
theorem out_st (x : ActC) {s : St} (h : s.st = 0) (hk : (x.kind.toList == [115, 116, 97, 108, 108]) = false) : (outS x s).st = 0 := by
  unfold outS
  split; · rw [step_st h, do_st]; exact h
  split; · unfold walkS; split <;> exact h
  split; · unfold arriveS; split <;> exact h
  split; · unfold leaveS; split <;> exact h
  rw [if_neg (by simp [hk])]
  exact h

theorem IntsOwn.turn {w w' w2 : World} {v : Value} {l : List Int} {pb mb : Nat} (h : IntsOwn w w' v l) (t : Turn pb mb w' w2) (h1 : pb < w.heap.size) (h2 : mb < w.heap.size) : IntsAt w2 v l := by
  obtain ⟨ad, cap, hv, a1, a2, hc⟩ := h.at
  refine ⟨ad, cap, hv, a1, a2, fun h0 => ?_⟩
  obtain ⟨b, off, ha, hlt, hcell⟩ := hc h0
  subst ha
  have hb : w.heap.size ≤ b := (h.1.lt b (by rw [hv]; rfl)).1
  refine ⟨b, off, rfl, Nat.lt_of_lt_of_le hlt t.size, fun i hi => ?_⟩
  rw [← hcell i hi]
  exact World.cell?_of_block (t.block b hlt (by omega) (by omega))

set_option maxHeartbeats 4000000 in
theorem topFree_run (lv : Int) (v : Value) (c : Int) (len : Nat) (f : Nat → ActC) (w : World) (hs : ActsAt w v len f) :
    Calls Try.prog 13 #[.int .i64 lv, v, .int .u8 c] w fun e w' => e = .returned (.bool true) ∧ Below w.heap.size w w' := by
  have HS : Hid (ActsAt w v len f) := hs
  obtain ⟨a, cap, rfl, hl, hm, hok, hcc⟩ := hs
  clear hok hcc
  unfold maxLen at hm
  go_enter Try.func13, Try.ntmps13
  go_wp2_with fail
  refine (moved_any w).mono ?_
  rintro e w1 ⟨rfl, b1⟩
  have B1 : Hid (Below w.heap.size w w1) := b1
  clear b1
  go_wp2_with fail
  refine (light_any _ len f 150 w1 (HS.out.below B1.out)).mono ?_
  rintro e w2 ⟨b, rfl, hli, hw⟩
  subst hw
  have HL : Hid (b = true → Light len f 150) := hli
  clear hli
  cases b
  · go_wp2
    go_returns
    exact ⟨rfl, B1.out⟩
  have h150 : len ≤ 150 := by have := (HL.out rfl).1; omega
  clear HL
  go_wp2_with fail
  by_cases hlv : 1 ≤ lv ∧ lv ≤ 4
  · refine (new_any lv w2 hlv.1 hlv.2).mono ?_
    rintro e w3 ⟨rfl, p3, b3⟩
    have z2 : w.heap.size ≤ w2.heap.size := B1.out.size
    have B3 : Hid (Below w.heap.size w w3) := B.next B1.out b3 z2
    have P3 : Hid (IsP w3 (w2.heap.size + 1) w2.heap.size 0 (newS lv)) := p3
    have I3 : Hid (Inv (newS lv)) := Inv.new hlv.1 hlv.2
    clear p3 b3 hlv B1
    generalize hmb : w2.heap.size = mb at *
    generalize hpb : mb + 1 = pb at *
    have hpb' : w.heap.size ≤ pb := by omega
    clear hpb hmb
    go_wp2_with fail
    go_loopw [10] (fun i wr => ∃ (k : Nat) (s : St), k ≤ len ∧ i = .int .i64 k ∧ Hid (IsP wr pb mb k s) ∧ Hid (Inv s) ∧ Hid (s.st = 0) ∧ Hid (Below w.heap.size w wr)) (fun i _ => len - (intOf i).toNat)
    case atStart => exact ⟨0, _, Nat.zero_le _, rfl, P3, I3, rfl, B3⟩
    case round =>
      obtain ⟨k, s, hk, rfl, HP, HI, HU, HB⟩ := hrel
      by_cases hlt : k < len
      · obtain ⟨a', cap', ev, _, _, _, hc⟩ := HS.out.below HB.out
        cases ev
        obtain ⟨b, off, rfl, hb, hcell⟩ := hc (by omega)
        have c0 := hcell k hlt 0 (by omega); have c1 := hcell k hlt 1 (by omega); have c2 := hcell k hlt 2 (by omega); have c3 := hcell k hlt 3 (by omega)
        have c4 := hcell k hlt 4 (by omega); have c5 := hcell k hlt 5 (by omega); have c6 := hcell k hlt 6 (by omega); have c7 := hcell k hlt 7 (by omega)
        have c8 := hcell k hlt 8 (by omega); have c9 := hcell k hlt 9 (by omega); have c10 := hcell k hlt 10 (by omega); have c11 := hcell k hlt 11 (by omega)
        generalize f k = x at c0 c1 c2 c3 c4 c5 c6 c7 c8 c9 c10 c11
        simp [ActC.vals] at c0 c1 c2 c3 c4 c5 c6 c7 c8 c9 c10 c11
        clear hcell hc
        have hkm : k < maxLen := by unfold maxLen; omega
        cases hkd : (x.kind.toList == [115, 116, 101, 112])
        · cases hks : (x.kind.toList == [115, 116, 97, 108, 108])
          · have HO : Hid (∀ w1, IsP w1 pb mb k s → Calls Try.prog 65 #[.pointer (some ⟨pb, 0, none⟩), .agg #[.string x.kind, .int .i64 x.a, .int .i64 x.b, .int .i64 x.c0, .int .i64 x.c1, .int .i64 x.c2, .int .i64 x.c3, .string x.s, .int .u64 x.k, .int .i64 x.last, .slice x.sa x.sl x.sc, .slice x.ja x.jl x.jc]] w1 fun e w' => e = .returned (.tuple #[]) ∧ IsP w' pb mb (k + 1) (outS x s) ∧ Turn pb mb w1 w') := fun w1 hp => out_any pb mb k s x w1 hp HI.out hkm
            have HU2 : Hid ((outS x s).st = 0) := out_st x HU.out hks
            have HI2 : Hid (Inv (outS x s)) := HI.out.out x
            generalize outS x s = s2 at HO HU2 HI2
            go_wp2_with fail
            refine (HO.out _ HP.out).mono ?_
            rintro e w4 ⟨rfl, p4, t4⟩
            have HP4 : Hid (IsP w4 pb mb (k + 1) s2) := p4
            have HB4 : Hid (Below w.heap.size w w4) := turn_new HB.out t4 (by omega) (by omega) HB.out.size
            clear p4 t4 HO
            go_wp2
            go_roundw
            case rel => exact ⟨k + 1, s2, by omega, by go_num, HP4, HI2, HU2, HB4⟩
            case measure => simp [intOf]; omega
          · have HPm : Hid (IsP wr pb mb (k + 1) s) := HP.out.mono
            go_wp2
            go_roundw
            case rel => exact ⟨k + 1, s, by omega, by go_num, HPm, HI, HU, HB⟩
            case measure => simp [intOf]; omega
        · by_cases hs0 : 0 < x.s.size
          · obtain ⟨c', HCc⟩ : ∃ c : Int, Hid (((x.s[0]'hs0).toNat : Int) = c) := ⟨_, rfl⟩
            have hd : decide ((0 : Int) < (x.s.size : Int)) = true := by simp only [decide_eq_true_eq]; omega
            have HSe : Hid (∀ w1, IsP w1 pb mb k s → Calls Try.prog 67 #[.pointer (some ⟨pb, 0, none⟩)] w1 fun e w' => e = .returned (senseV s) ∧ Below w1.heap.size w1 w') := fun w1 hp => sense_any pb mb k s w1 hp HI.out.ok
            have HMa : Hid (∀ w1, Calls Try.prog 44 #[.int .u8 c', senseV s] w1 fun e w' => e = .returned (.bool (mayS c' s)) ∧ Below w1.heap.size w1 w') := fun w1 => may_sense c' s HI.out w1
            have HSt : Hid (∀ w1, IsP w1 pb mb k s → StepTo pb mb k c' w1 (stepS c' s)) := fun w1 hp => step_any pb mb k s c' w1 hp HI.out.ok hkm HI.out.wf HI.out.st.2
            have HG : Hid (guardS c' s = if mayS c' s = true then stepS c' s else s) := rfl
            have HU2 : Hid ((guardS c' s).st = 0) := guard_st c' HU.out
            have HI2 : Hid (Inv (guardS c' s)) := HI.out.guard c'
            have HSV : Hid (∃ vs, senseV s = .agg vs) := ⟨_, rfl⟩
            obtain ⟨vs, hvs⟩ := HSV.out
            rw [hvs] at HSe HMa
            clear hvs HSV
            go_wp2_with fail
            go_region_held3 (fun wx => wx.cell? ⟨b, off + k * 12 + 7, none⟩ = some (.string x.s)) (go_keep)
              (first
                | (go_at_call 67; refine (HSe.out _ HP.out.drew).mono ?_; rintro e wa ⟨rfl, hba⟩
                   have Pa : Hid (IsP wa pb mb k s) := HP.out.drew.below hba
                   have Ba : Hid (Below w.heap.size w wa) := B.next HB.out.drew hba HB.out.size
                   have s7 : wa.cell? ⟨b, off + k * 12 + 7, none⟩ = some (.string x.s) := (B.cell hba b _ hb).trans c7
                   have hba2 : b < wa.heap.size := Nat.lt_of_lt_of_le hb hba.size
                   clear hba)
                | (go_at_call 44; rw [HCc.out]; refine (HMa.out _).mono ?_; rintro e wb ⟨rfl, hbb⟩
                   have Pb : Hid (IsP wb pb mb k s) := Pa.out.below hbb
                   have Bb : Hid (Below w.heap.size w wb) := B.next Ba.out hbb Ba.out.size
                   have t7 : wb.cell? ⟨b, off + k * 12 + 7, none⟩ = some (.string x.s) := (B.cell hbb b _ hba2).trans s7
                   clear hbb))
            all_goals
              generalize hmy : mayS c' s = m at *
              cases m
              · rw [show guardS c' s = s from by rw [HG.out]; simp] at HU2 HI2
                have HPb : Hid (IsP wb pb mb (k + 1) s) := Pb.out.mono
                clear hmy HG HSe HMa HSt
                go_wp2
                go_roundw
                case rel => exact ⟨k + 1, s, by omega, by go_num, HPb, HI2, HU2, Bb⟩
                case measure => simp [intOf]; omega
              · rw [show guardS c' s = stepS c' s from by rw [HG.out]; simp] at HU2 HI2
                clear hmy HG HSe HMa
                generalize stepS c' s = s2 at *
                go_wp2_with fail
                rw [HCc.out]
                refine (HSt.out _ Pb.out).mono ?_
                rintro e w4 ⟨rfl, p4, t4⟩
                have HP4 : Hid (IsP w4 pb mb (k + 1) s2) := p4
                have HB4 : Hid (Below w.heap.size w w4) := turn_new Bb.out t4 (by omega) (by omega) Bb.out.size
                clear p4 t4 HSt
                go_wp2
                go_roundw
                case rel => exact ⟨k + 1, s2, by omega, by go_num, HP4, HI2, HU2, HB4⟩
                case measure => simp [intOf]; omega
          · have hd : decide ((0 : Int) < (x.s.size : Int)) = false := by simp only [decide_eq_false_iff_not]; omega
            go_wp2_with fail
            go_region
            have HPb : Hid (IsP wr.drew pb mb (k + 1) s) := HP.out.drew.mono
            have Bb : Hid (Below w.heap.size w wr.drew) := HB.out.drew
            go_wp2
            go_roundw
            case rel => exact ⟨k + 1, s, by omega, by go_num, HPb, HI, HU, Bb⟩
            case measure => simp [intOf]; omega
      · have hkm : k < maxLen := by unfold maxLen; omega
        have HSe : Hid (∀ w1, IsP w1 pb mb k s → Calls Try.prog 67 #[.pointer (some ⟨pb, 0, none⟩)] w1 fun e w' => e = .returned (senseV s) ∧ Below w1.heap.size w1 w') := fun w1 hp => sense_any pb mb k s w1 hp HI.out.ok
        have HSe2 : Hid (∀ w1, IsP w1 pb mb (k + 1) s → Calls Try.prog 67 #[.pointer (some ⟨pb, 0, none⟩)] w1 fun e w' => e = .returned (senseV s) ∧ Below w1.heap.size w1 w') := fun w1 hp => sense_any pb mb (k + 1) s w1 hp HI.out.ok
        have HMa : Hid (∀ w1, Calls Try.prog 44 #[.int .u8 c, senseV s] w1 fun e w' => e = .returned (.bool (mayS c s)) ∧ Below w1.heap.size w1 w') := fun w1 => may_sense c s HI.out w1
        have HSt : Hid (∀ w1, IsP w1 pb mb k s → StepTo pb mb k c w1 (stepS c s)) := fun w1 hp => step_any pb mb k s c w1 hp HI.out.ok hkm HI.out.wf HI.out.st.2
        have HCa : Hid (∀ w1 n, IsP w1 pb mb n s → Calls Try.prog 61 #[.pointer (some ⟨pb, 0, none⟩)] w1 fun e w' => ∃ v, e = .returned v ∧ IntsOwn w1 w' v (carsL s)) := fun w1 n hp => cars_any pb mb n s w1 hp HI.out
        have HFr : Hid (mayS c s = false → (stepS c s).hu = true ∨ stepS c s = s) := fun hm => by rw [step_st HU.out]; exact may_free HI.out c hm
        have HLe : Hid ((carsL s).length ≤ 1000) := by have := carsTo_le s 16; show (carsTo s 16).length ≤ 1000; omega
        have HV : Hid (senseV s = .agg #[.int .i64 s.h, .int .i64 s.ex, .bool s.op, .int .i64 s.pe, .int .i64 s.li, .int .i64 s.ba, .bool (carAtI s.D s.lv s.h s.ex != 0), .bool (carAtI s.D s.lv s.h (s.ex - 1) != 0), .bool (carAtI s.D s.lv s.h (s.ex + 1) != 0)]) := rfl
        rw [HV.out] at HSe HSe2 HMa
        clear HV
        generalize mayS c s = m at HMa HFr
        generalize carsL s = L at HCa HLe
        generalize stepS c s = s2 at HSt HFr
        generalize s.li = li at *
        generalize s.ba = ba at *
        generalize (carAtI s.D s.lv s.h s.ex != 0) = q1 at *
        generalize (carAtI s.D s.lv s.h (s.ex - 1) != 0) = q2 at *
        generalize (carAtI s.D s.lv s.h (s.ex + 1) != 0) = q3 at *
        generalize s.h = h at *
        generalize s.ex = ex at *
        generalize s.op = op at *
        generalize s.pe = pe at *
        have zp := HP.out.lt
        have zm := HP.out.ltm
        go_wp2_with fail
        refine (HSe.out _ HP.out).mono ?_
        rintro e w4 ⟨rfl, b4⟩
        have z4 := b4.size
        have P4 : Hid (IsP (w4.alloc (.cells #[.int .i64 h, .int .i64 ex, .bool op, .int .i64 pe, .int .i64 li, .int .i64 ba, .bool q1, .bool q2, .bool q3] 71)) pb mb k s) := HP.out.below (b4.alloc z4 _)
        have B4 : Hid (Below w.heap.size w (w4.alloc (.cells #[.int .i64 h, .int .i64 ex, .bool op, .int .i64 pe, .int .i64 li, .int .i64 ba, .bool q1, .bool q2, .bool q3] 71))) := B.next HB.out (b4.alloc z4 _) HB.out.size
        clear b4 HSe
        go_wp2_with fail
        refine (HCa.out _ k P4.out).mono ?_
        rintro e w5 ⟨v5, rfl, o5⟩
        have O5 : Hid (IntsOwn (w4.alloc (.cells #[.int .i64 h, .int .i64 ex, .bool op, .int .i64 pe, .int .i64 li, .int .i64 ba, .bool q1, .bool q2, .bool q3] 71)) w5 v5 L) := o5
        have P5 : Hid (IsP w5 pb mb k s) := P4.out.below o5.2
        have B5 : Hid (Below w.heap.size w w5) := B.next B4.out o5.2 B4.out.size
        have r5 : ∀ o, w5.cell? ⟨w4.heap.size, o, none⟩ = (#[.int .i64 h, .int .i64 ex, .bool op, .int .i64 pe, .int .i64 li, .int .i64 ba, .bool q1, .bool q2, .bool q3] : Array Value)[o]? := B.row o5.2 (B.row_new w4 _ _) (by simp)
        have z5 : w4.heap.size < w5.heap.size := by have := o5.2.size; simp at this; omega
        clear o5 P4 B4
        go_wp2_with fail
        refine (HMa.out _).mono ?_
        rintro e w6 ⟨rfl, b6⟩
        have O6 : Hid (IntsOwn (w4.alloc (.cells #[.int .i64 h, .int .i64 ex, .bool op, .int .i64 pe, .int .i64 li, .int .i64 ba, .bool q1, .bool q2, .bool q3] 71)) w6 v5 L) := O5.out.below b6
        have P6 : Hid (IsP w6 pb mb k s) := P5.out.below b6
        have B6 : Hid (Below w.heap.size w w6) := B.next B5.out b6 B5.out.size
        have R6 : Hid (∀ o, w6.cell? ⟨w4.heap.size, o, none⟩ = (#[.int .i64 h, .int .i64 ex, .bool op, .int .i64 pe, .int .i64 li, .int .i64 ba, .bool q1, .bool q2, .bool q3] : Array Value)[o]?) := B.row b6 r5 z5
        have z6 : w4.heap.size < w6.heap.size := by have := b6.size; omega
        clear b6 O5 P5 B5 r5 z5 HMa
        cases m
        · go_wp2_with fail
          refine (HSt.out _ P6.out).mono ?_
          rintro e w7 ⟨rfl, p7, t7⟩
          have B7 : Hid (Below w.heap.size w w7) := turn_new B6.out t7 (by omega) (by omega) B6.out.size
          have O7 : Hid (IntsAt w7 v5 L) := O6.out.turn t7 (by simp; omega) (by simp; omega)
          have R7 : Hid (∀ o, w7.cell? ⟨w4.heap.size, o, none⟩ = (#[.int .i64 h, .int .i64 ex, .bool op, .int .i64 pe, .int .i64 li, .int .i64 ba, .bool q1, .bool q2, .bool q3] : Array Value)[o]?) := fun o => (World.cell?_of_block (t7.block w4.heap.size z6 (by omega) (by omega))).trans (R6.out o)
          have P7 : Hid (IsP w7 pb mb (k + 1) s2) := p7
          have z7 : w4.heap.size < w7.heap.size := by have := t7.size; omega
          clear p7 t7 O6 R6 P6 B6 HSt
          go_wp2_with fail
          by_cases hhu : s2.hu = true
          · have K9 : Hid (w7.cell? ⟨pb, 9, none⟩ = some (.bool true)) := by rw [← hhu]; exact P7.out.c9
            clear hhu
            go_quiet (first | (go_at_call 69; refine Calls.quiet_of_same (hurt_any pb true _ ?_); exact K9.out))
            go_wp2
            go_returns
            exact ⟨rfl, ⟨B7.out.os, B7.out.tape, B7.out.output, B7.out.size, B7.out.block⟩⟩
          · have hs2 : s2 = s := (HFr.out trivial).resolve_left hhu
            subst hs2
            have K9 : Hid (Calls Try.prog 69 #[.pointer (some ⟨pb, 0, none⟩)] w7.drew fun e w' => e = .returned (.bool false) ∧ w' = w7.drew) := hurt_any pb false w7.drew (by rw [← Bool.eq_false_iff.2 hhu]; exact P7.out.drew.c9)
            clear hhu HFr
            have c0 : w7.cell? ⟨w4.heap.size, 0, none⟩ = some (.int .i64 h) := R7.out 0; have c1 : w7.cell? ⟨w4.heap.size, 1, none⟩ = some (.int .i64 ex) := R7.out 1; have c2 : w7.cell? ⟨w4.heap.size, 2, none⟩ = some (.bool op) := R7.out 2; have c3 : w7.cell? ⟨w4.heap.size, 3, none⟩ = some (.int .i64 pe) := R7.out 3; have c4 : w7.cell? ⟨w4.heap.size, 4, none⟩ = some (.int .i64 li) := R7.out 4; have c5 : w7.cell? ⟨w4.heap.size, 5, none⟩ = some (.int .i64 ba) := R7.out 5; have c6 : w7.cell? ⟨w4.heap.size, 6, none⟩ = some (.bool q1) := R7.out 6; have c7 : w7.cell? ⟨w4.heap.size, 7, none⟩ = some (.bool q2) := R7.out 7; have c8 : w7.cell? ⟨w4.heap.size, 8, none⟩ = some (.bool q3) := R7.out 8
            go_region_held3 (fun wx => wx.cell? ⟨w4.heap.size, 0, none⟩ = some (.int .i64 h) ∧ wx.cell? ⟨w4.heap.size, 1, none⟩ = some (.int .i64 ex) ∧ wx.cell? ⟨w4.heap.size, 2, none⟩ = some (.bool op) ∧ wx.cell? ⟨w4.heap.size, 3, none⟩ = some (.int .i64 pe) ∧ wx.cell? ⟨w4.heap.size, 4, none⟩ = some (.int .i64 li) ∧ wx.cell? ⟨w4.heap.size, 5, none⟩ = some (.int .i64 ba) ∧ wx.cell? ⟨w4.heap.size, 6, none⟩ = some (.bool q1) ∧ wx.cell? ⟨w4.heap.size, 7, none⟩ = some (.bool q2) ∧ wx.cell? ⟨w4.heap.size, 8, none⟩ = some (.bool q3)) (go_keep)
              (first
                | (go_at_call 69; refine K9.out.mono ?_; rintro e wz ⟨rfl, hwz⟩; subst hwz)
                | (go_at_call 67; refine (HSe2.out _ P7.out.drew).mono ?_; rintro e wa ⟨rfl, ba'⟩
                   have Pwa : Hid (IsP wa pb mb (k + 1) s2) := P7.out.drew.below ba'
                   have Bwa : Hid (Below w.heap.size w wa) := B.next B7.out.drew ba' B7.out.size
                   have Owa : Hid (IntsAt wa v5 L) := (O7.out.below (Below.refl _ _).drew).below ba'
                   have Rwa : Hid (∀ o, wa.cell? ⟨w4.heap.size, o, none⟩ = (#[.int .i64 h, .int .i64 ex, .bool op, .int .i64 pe, .int .i64 li, .int .i64 ba, .bool q1, .bool q2, .bool q3] : Array Value)[o]?) := B.row ba' R7.out z7
                   have zwa : w4.heap.size < wa.heap.size := Nat.lt_of_lt_of_le z7 ba'.size
                   have a0 : wa.cell? ⟨w4.heap.size, 0, none⟩ = some (.int .i64 h) := Rwa.out 0; have a1 : wa.cell? ⟨w4.heap.size, 1, none⟩ = some (.int .i64 ex) := Rwa.out 1; have a2 : wa.cell? ⟨w4.heap.size, 2, none⟩ = some (.bool op) := Rwa.out 2; have a3 : wa.cell? ⟨w4.heap.size, 3, none⟩ = some (.int .i64 pe) := Rwa.out 3; have a4 : wa.cell? ⟨w4.heap.size, 4, none⟩ = some (.int .i64 li) := Rwa.out 4; have a5 : wa.cell? ⟨w4.heap.size, 5, none⟩ = some (.int .i64 ba) := Rwa.out 5; have a6 : wa.cell? ⟨w4.heap.size, 6, none⟩ = some (.bool q1) := Rwa.out 6; have a7 : wa.cell? ⟨w4.heap.size, 7, none⟩ = some (.bool q2) := Rwa.out 7; have a8 : wa.cell? ⟨w4.heap.size, 8, none⟩ = some (.bool q3) := Rwa.out 8
                   clear ba')
                | (go_at_call 61; refine (HCa.out _ _ Pwa.out).mono ?_; rintro e wb ⟨vb, rfl, ob⟩
                   have Bwb : Hid (Below w.heap.size w wb) := B.next Bwa.out ob.2 Bwa.out.size
                   have Owb : Hid (IntsAt wb v5 L) := Owa.out.below ob.2
                   have Owb2 : Hid (IntsAt wb vb L) := ob.at
                   have Rwb : Hid (∀ o, wb.cell? ⟨w4.heap.size, o, none⟩ = (#[.int .i64 h, .int .i64 ex, .bool op, .int .i64 pe, .int .i64 li, .int .i64 ba, .bool q1, .bool q2, .bool q3] : Array Value)[o]?) := B.row ob.2 Rwa.out zwa
                   have zwb : w4.heap.size < wb.heap.size := Nat.lt_of_lt_of_le zwa ob.2.size
                   have b0 : wb.cell? ⟨w4.heap.size, 0, none⟩ = some (.int .i64 h) := Rwb.out 0; have b1 : wb.cell? ⟨w4.heap.size, 1, none⟩ = some (.int .i64 ex) := Rwb.out 1; have b2 : wb.cell? ⟨w4.heap.size, 2, none⟩ = some (.bool op) := Rwb.out 2; have b3 : wb.cell? ⟨w4.heap.size, 3, none⟩ = some (.int .i64 pe) := Rwb.out 3; have b4 : wb.cell? ⟨w4.heap.size, 4, none⟩ = some (.int .i64 li) := Rwb.out 4; have b5 : wb.cell? ⟨w4.heap.size, 5, none⟩ = some (.int .i64 ba) := Rwb.out 5; have b6 : wb.cell? ⟨w4.heap.size, 6, none⟩ = some (.bool q1) := Rwb.out 6; have b7 : wb.cell? ⟨w4.heap.size, 7, none⟩ = some (.bool q2) := Rwb.out 7; have b8 : wb.cell? ⟨w4.heap.size, 8, none⟩ = some (.bool q3) := Rwb.out 8
                   clear ob)
                | (go_at_call 66; refine (alike_any vb v5 L L _ Owb2.out Owb.out rfl (fun _ => rfl) HLe.out).mono ?_; rintro e wc ⟨rfl, bc⟩
                   have Bwc : Hid (Below w.heap.size w wc) := B.next Bwb.out bc Bwb.out.size
                   have Rwc : Hid (∀ o, wc.cell? ⟨w4.heap.size, o, none⟩ = (#[.int .i64 h, .int .i64 ex, .bool op, .int .i64 pe, .int .i64 li, .int .i64 ba, .bool q1, .bool q2, .bool q3] : Array Value)[o]?) := B.row bc Rwb.out zwb
                   have d0 : wc.cell? ⟨w4.heap.size, 0, none⟩ = some (.int .i64 h) := Rwc.out 0; have d1 : wc.cell? ⟨w4.heap.size, 1, none⟩ = some (.int .i64 ex) := Rwc.out 1; have d2 : wc.cell? ⟨w4.heap.size, 2, none⟩ = some (.bool op) := Rwc.out 2; have d3 : wc.cell? ⟨w4.heap.size, 3, none⟩ = some (.int .i64 pe) := Rwc.out 3; have d4 : wc.cell? ⟨w4.heap.size, 4, none⟩ = some (.int .i64 li) := Rwc.out 4; have d5 : wc.cell? ⟨w4.heap.size, 5, none⟩ = some (.int .i64 ba) := Rwc.out 5; have d6 : wc.cell? ⟨w4.heap.size, 6, none⟩ = some (.bool q1) := Rwc.out 6; have d7 : wc.cell? ⟨w4.heap.size, 7, none⟩ = some (.bool q2) := Rwc.out 7; have d8 : wc.cell? ⟨w4.heap.size, 8, none⟩ = some (.bool q3) := Rwc.out 8
                   clear bc))
            all_goals go_wp2
            all_goals go_returns
            all_goals exact ⟨rfl, Bwc.out⟩
        · go_wp2
          go_returns
          exact ⟨rfl, B6.out⟩
  · refine (new_bad lv w2 hlv).mono ?_
    rw [errV_ne (by decide)]
    rintro e w3 ⟨rfl, rfl⟩
    go_wp2
    go_returns
    exact ⟨rfl, B1.out⟩

end Pl
end Go.Proofs.Yticjjnmmedmbiaa
