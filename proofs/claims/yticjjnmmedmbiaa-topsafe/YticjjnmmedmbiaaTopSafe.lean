/- TopSafe: nothing goes wrong where just that is done which may be (B3, C1). -/
import Derived.Test.YticjjnmmedmbiaaMoved
import Derived.Test.YticjjnmmedmbiaaGuardA
namespace Go.Proofs.Yticjjnmmedmbiaa
open Go.ChangeShapes Go.WideShapes Go.ChangeAt Go.RowKit Go.Maps
set_option maxRecDepth 100000
set_option linter.unusedSimpArgs false
set_option linter.unusedVariables false

namespace Pl
open Ac
/-- May it be done, by what is seen? -/
def mayS (c : Int) (s : St) : Bool := mayB c s.h s.ex s.op s.pe s.li s.ba (carAtI s.D s.lv s.h s.ex != 0) (carAtI s.D s.lv s.h (s.ex - 1) != 0) (carAtI s.D s.lv s.h (s.ex + 1) != 0)
def guardS (c : Int) (s : St) : St := if mayS c s = true then stepS c s else s

theorem may_sense (c : Int) (s : St) (iv : Inv s) (w : World) : Calls Try.prog 44 #[.int .u8 c, senseV s] w fun e w' => e = .returned (.bool (mayS c s)) ∧ Below w.heap.size w w' :=
  may_any c s.h s.ex s.op s.pe s.li s.ba _ _ _ w (B.has_of (by have := iv.ok.h0; have := iv.ok.h12; have := iv.ok.lv4; omega)) (B.has_of (by have := iv.ok.e0; have := iv.ok.e2; omega))

/-- Where the shuttle may reach there is a place. -/
theorem endB_level {lv h ex : Int} (h0 : 0 ≤ h) (h12 : h ≤ lv * 3) (hl : levelB h = true) (e0 : -2 ≤ ex) (e2 : ex ≤ 2) (hne : ex ≠ 0) : endB lv h ex = true := by
  simp only [levelB, Bool.and_eq_true, decide_eq_true_eq, beq_iff_eq] at hl
  simp only [endB, placeB, Bool.and_eq_true, decide_eq_true_eq]
  refine ⟨⟨hl.1, hl.2, hne⟩, ?_⟩
  by_cases hn : ex < 0 <;> simp only [hn, if_true, if_false] <;> omega

theorem slide_safe {s : St} (iv : Inv s) (b : Int) (hu : s.hu = false) (hr : reachB (s.ex + b) s.h s.li (carAtI s.D s.lv s.h (s.ex + b) != 0) = true) : (slideS b s).hu = false := by
  have i0 := iv.ok.h0; have i1 := iv.ok.h12
  simp only [reachB, Bool.and_eq_true, decide_eq_true_eq, Bool.or_eq_true, beq_iff_eq, Bool.not_eq_true'] at hr
  obtain ⟨⟨r1, r2⟩, r3⟩ := hr
  unfold slideS
  rw [if_pos ⟨r1, r2⟩]
  simp only [hu, Bool.false_or]
  by_cases hx : s.ex + b = 0
  · have he : endB s.lv s.h 0 = false := by simp [endB]
    simp [hx, carAtI, he]
  · rcases r3 with r3 | ⟨r3, r4⟩
    · exact absurd r3 hx
    · have he := endB_level i0 i1 r3 r1 r2 hx
      rw [he]
      rcases r4 with r4 | r4
      · simp [r4]
      · rw [r4]; simp

theorem may_safe {s : St} (iv : Inv s) (c : Int) (hu : s.hu = false) (hm : mayS c s = true) : (doS c s).hu = false := by
  unfold mayS mayB at hm
  unfold doS
  by_cases k0 : c = 45
  · subst k0; simpa using hu
  rw [if_neg k0] at hm
  by_cases k1 : c = 117
  · subst k1
    simp only [true_or, if_true, closedB, Bool.and_eq_true, beq_iff_eq, Bool.not_eq_true'] at hm ⊢
    simp [raiseS, hu, hm.1, hm.2.1, hm.2.2]
  by_cases k2 : c = 100
  · subst k2
    simp only [or_true, if_true, closedB, Bool.and_eq_true, beq_iff_eq, Bool.not_eq_true'] at hm ⊢
    simp [raiseS, hu, hm.1, hm.2.1, hm.2.2]
  rw [if_neg (by omega)] at hm
  rw [if_neg k1, if_neg k2]
  by_cases k3 : c = 108
  · subst k3
    simp only [if_true] at hm ⊢
    exact slide_safe iv (-1) hu hm
  rw [if_neg k3] at hm
  rw [if_neg k3]
  by_cases k4 : c = 114
  · subst k4
    simp only [if_true] at hm ⊢
    exact slide_safe iv 1 hu hm
  rw [if_neg k4] at hm
  rw [if_neg k4]
  by_cases k5 : c = 103
  · subst k5; simp only [if_true]; unfold grabS; split <;> exact hu
  rw [if_neg k5] at hm
  rw [if_neg k5]
  by_cases k6 : c = 112
  · subst k6; simp only [if_true]; unfold putS; split <;> exact hu
  rw [if_neg k6] at hm
  rw [if_neg k6]
  by_cases k7 : c = 111
  · subst k7
    simp only [if_true, belowB, Bool.and_eq_true, beq_iff_eq] at hm ⊢
    simp [openS, hu, hm.1, hm.2]
  rw [if_neg k7] at hm
  rw [if_neg k7]
  by_cases k8 : c = 99
  · subst k8
    simp only [if_true, beq_iff_eq] at hm ⊢
    simp [shutS, hu, hm]
  rw [if_neg k8] at hm
  rw [if_neg k8]
  by_cases k9 : c = 110
  · subst k9
    simp only [if_true, closedB, Bool.and_eq_true, beq_iff_eq, Bool.not_eq_true'] at hm ⊢
    unfold takeInS
    split <;> simp [hu, hm.1.1.2.1, hm.1.1.2.2]
  rw [if_neg k9] at hm
  rw [if_neg k9]
  by_cases k10 : c = 120
  · subst k10
    simp only [if_true, closedB, Bool.and_eq_true, beq_iff_eq, Bool.not_eq_true'] at hm ⊢
    unfold giveOutS
    split <;> simp [hu, hm.1.1.2.1, hm.1.1.2.2]
  rw [if_neg k10] at hm
  cases hm

theorem guard_safe {s : St} (iv : Inv s) (c : Int) (hu : s.hu = false) : (guardS c s).hu = false := by
  unfold guardS
  split
  · rename_i hm
    unfold stepS
    split
    · exact hu
    · exact may_safe iv c hu hm
  · exact hu
theorem Inv.guard {s : St} (iv : Inv s) (c : Int) : Inv (guardS c s) := by
  unfold guardS
  split
  · exact iv.step c
  · exact iv
theorem out_safe {s : St} (x : ActC) (hu : s.hu = false) (hk : (x.kind.toList == [115, 116, 101, 112]) = false) : (outS x s).hu = false := by
  unfold outS
  rw [if_neg (by simp [hk])]
  split; · unfold walkS; split <;> exact hu
  split; · unfold arriveS; split <;> exact hu
  split; · unfold leaveS; split <;> exact hu
  split; · unfold stallS; split <;> exact hu
  exact hu

set_option maxHeartbeats 4000000 in
theorem topSafe_run (lv : Int) (v : Value) (len : Nat) (f : Nat → ActC) (w : World) (hs : ActsAt w v len f) :
    Calls Try.prog 12 #[.int .i64 lv, v] w fun e w' => e = .returned (.bool true) ∧ Below w.heap.size w w' := by
  have HS : Hid (ActsAt w v len f) := hs
  obtain ⟨a, cap, rfl, hl, hm, hok, hcc⟩ := hs
  clear hok hcc
  unfold maxLen at hm
  go_enter Try.func12, Try.ntmps12
  go_wp2_with fail
  refine (moved_any w).mono ?_
  rintro e w1 ⟨rfl, b1⟩
  have B1 : Hid (Below w.heap.size w w1) := b1
  clear b1
  go_wp2_with fail
  refine (light_any _ len f 150 w1 (HS.out.below B1.out)).mono ?_
  rintro e w2 ⟨b, rfl, hli, hw⟩
  subst hw
  have HL : Hid (b = true → Light len f 150) := hli
  clear hli
  cases b
  · go_wp2
    go_returns
    exact ⟨rfl, B1.out⟩
  have h150 : len ≤ 150 := by have := (HL.out rfl).1; omega
  clear HL
  go_wp2_with fail
  by_cases hlv : 1 ≤ lv ∧ lv ≤ 4
  · refine (new_any lv w2 hlv.1 hlv.2).mono ?_
    rintro e w3 ⟨rfl, p3, b3⟩
    have z2 : w.heap.size ≤ w2.heap.size := B1.out.size
    have B3 : Hid (Below w.heap.size w w3) := B.next B1.out b3 z2
    have P3 : Hid (IsP w3 (w2.heap.size + 1) w2.heap.size 0 (newS lv)) := p3
    have I3 : Hid (Inv (newS lv)) := Inv.new hlv.1 hlv.2
    clear p3 b3 hlv B1
    generalize hmb : w2.heap.size = mb at *
    generalize hpb : mb + 1 = pb at *
    have hpb' : w.heap.size ≤ pb := by omega
    clear hpb hmb
    go_wp2_with fail
    go_loopw [8] (fun i wr => ∃ (k : Nat) (s : St), k ≤ len ∧ i = .int .i64 k ∧ Hid (IsP wr pb mb k s) ∧ Hid (Inv s) ∧ Hid (s.hu = false) ∧ Hid (Below w.heap.size w wr)) (fun i _ => len - (intOf i).toNat)
    case atStart => exact ⟨0, _, Nat.zero_le _, rfl, P3, I3, rfl, B3⟩
    case round =>
      obtain ⟨k, s, hk, rfl, HP, HI, HU, HB⟩ := hrel
      by_cases hlt : k < len
      · obtain ⟨a', cap', ev, _, _, _, hc⟩ := HS.out.below HB.out
        cases ev
        obtain ⟨b, off, rfl, hb, hcell⟩ := hc (by omega)
        have c0 := hcell k hlt 0 (by omega); have c1 := hcell k hlt 1 (by omega); have c2 := hcell k hlt 2 (by omega); have c3 := hcell k hlt 3 (by omega)
        have c4 := hcell k hlt 4 (by omega); have c5 := hcell k hlt 5 (by omega); have c6 := hcell k hlt 6 (by omega); have c7 := hcell k hlt 7 (by omega)
        have c8 := hcell k hlt 8 (by omega); have c9 := hcell k hlt 9 (by omega); have c10 := hcell k hlt 10 (by omega); have c11 := hcell k hlt 11 (by omega)
        generalize f k = x at c0 c1 c2 c3 c4 c5 c6 c7 c8 c9 c10 c11
        have HV : Hid (x.vals = _) := rfl
        simp [ActC.vals] at c0 c1 c2 c3 c4 c5 c6 c7 c8 c9 c10 c11
        clear hcell hc
        have hkm : k < maxLen := by unfold maxLen; omega
        cases hkd : (x.kind.toList == [115, 116, 101, 112])
        · have HO : Hid (∀ w1, IsP w1 pb mb k s → Calls Try.prog 65 #[.pointer (some ⟨pb, 0, none⟩), .agg #[.string x.kind, .int .i64 x.a, .int .i64 x.b, .int .i64 x.c0, .int .i64 x.c1, .int .i64 x.c2, .int .i64 x.c3, .string x.s, .int .u64 x.k, .int .i64 x.last, .slice x.sa x.sl x.sc, .slice x.ja x.jl x.jc]] w1 fun e w' => e = .returned (.tuple #[]) ∧ IsP w' pb mb (k + 1) (outS x s) ∧ Turn pb mb w1 w') := fun w1 hp => out_any pb mb k s x w1 hp HI.out hkm
          have HU2 : Hid ((outS x s).hu = false) := out_safe x HU.out hkd
          have HI2 : Hid (Inv (outS x s)) := HI.out.out x
          generalize outS x s = s2 at HO HU2 HI2
          go_wp2_with fail
          refine (HO.out _ HP.out).mono ?_
          rintro e w4 ⟨rfl, p4, t4⟩
          have HP4 : Hid (IsP w4 pb mb (k + 1) s2) := p4
          have HB4 : Hid (Below w.heap.size w w4) := turn_new HB.out t4 (by omega) (by omega) HB.out.size
          have d9 := p4.c9
          rw [HU2.out] at d9
          clear p4 t4 HO
          go_wp2
          go_roundw
          case rel => exact ⟨k + 1, s2, by omega, by go_num, HP4, HI2, HU2, HB4⟩
          case measure => simp [intOf]; omega
        · by_cases hs0 : 0 < x.s.size
          · obtain ⟨c, HCc⟩ : ∃ c : Int, Hid (((x.s[0]'hs0).toNat : Int) = c) := ⟨_, rfl⟩
            have hd : decide ((0 : Int) < (x.s.size : Int)) = true := by simp only [decide_eq_true_eq]; omega
            have HSe : Hid (∀ w1, IsP w1 pb mb k s → Calls Try.prog 67 #[.pointer (some ⟨pb, 0, none⟩)] w1 fun e w' => e = .returned (senseV s) ∧ Below w1.heap.size w1 w') := fun w1 hp => sense_any pb mb k s w1 hp HI.out.ok
            have HMa : Hid (∀ w1, Calls Try.prog 44 #[.int .u8 c, senseV s] w1 fun e w' => e = .returned (.bool (mayS c s)) ∧ Below w1.heap.size w1 w') := fun w1 => may_sense c s HI.out w1
            have HSt : Hid (∀ w1, IsP w1 pb mb k s → StepTo pb mb k c w1 (stepS c s)) := fun w1 hp => step_any pb mb k s c w1 hp HI.out.ok hkm HI.out.wf HI.out.st.2
            have HG : Hid (guardS c s = if mayS c s = true then stepS c s else s) := rfl
            have HU2 : Hid ((guardS c s).hu = false) := guard_safe HI.out c HU.out
            have HI2 : Hid (Inv (guardS c s)) := HI.out.guard c
            have HSV : Hid (∃ vs, senseV s = .agg vs) := ⟨_, rfl⟩
            obtain ⟨vs, hvs⟩ := HSV.out
            rw [hvs] at HSe HMa
            clear hvs HSV
            go_wp2_with fail
            go_region_held3 (fun wx => wx.cell? ⟨b, off + k * 12 + 7, none⟩ = some (.string x.s)) (go_keep)
              (first
                | (go_at_call 67; refine (HSe.out _ HP.out.drew).mono ?_; rintro e wa ⟨rfl, hba⟩
                   have Pa : Hid (IsP wa pb mb k s) := HP.out.drew.below hba
                   have Ba : Hid (Below w.heap.size w wa) := B.next HB.out.drew hba HB.out.size
                   have s7 : wa.cell? ⟨b, off + k * 12 + 7, none⟩ = some (.string x.s) := (B.cell hba b _ hb).trans c7
                   have hba2 : b < wa.heap.size := Nat.lt_of_lt_of_le hb hba.size
                   clear hba)
                | (go_at_call 44; rw [HCc.out]; refine (HMa.out _).mono ?_; rintro e wb ⟨rfl, hbb⟩
                   have Pb : Hid (IsP wb pb mb k s) := Pa.out.below hbb
                   have Bb : Hid (Below w.heap.size w wb) := B.next Ba.out hbb Ba.out.size
                   have t7 : wb.cell? ⟨b, off + k * 12 + 7, none⟩ = some (.string x.s) := (B.cell hbb b _ hba2).trans s7
                   clear hbb))
            all_goals
              generalize hmy : mayS c s = m at *
              cases m
              · rw [show guardS c s = s from by rw [HG.out]; simp] at HU2 HI2
                have d9 := Pb.out.c9
                rw [HU2.out] at d9
                have HPb : Hid (IsP wb pb mb (k + 1) s) := Pb.out.mono
                clear hmy HG HSe HMa HSt
                go_wp2
                go_roundw
                case rel => exact ⟨k + 1, s, by omega, by go_num, HPb, HI2, HU2, Bb⟩
                case measure => simp [intOf]; omega
              · rw [show guardS c s = stepS c s from by rw [HG.out]; simp] at HU2 HI2
                clear hmy HG HSe HMa
                generalize stepS c s = s2 at *
                go_wp2_with fail
                rw [HCc.out]
                refine (HSt.out _ Pb.out).mono ?_
                rintro e w4 ⟨rfl, p4, t4⟩
                have HP4 : Hid (IsP w4 pb mb (k + 1) s2) := p4
                have HB4 : Hid (Below w.heap.size w w4) := turn_new Bb.out t4 (by omega) (by omega) Bb.out.size
                have d9 := p4.c9
                rw [HU2.out] at d9
                clear p4 t4 HSt
                go_wp2
                go_roundw
                case rel => exact ⟨k + 1, s2, by omega, by go_num, HP4, HI2, HU2, HB4⟩
                case measure => simp [intOf]; omega
          · have hd : decide ((0 : Int) < (x.s.size : Int)) = false := by simp only [decide_eq_false_iff_not]; omega
            go_wp2_with fail
            have d9 : wr.drew.cell? ⟨pb, 9, none⟩ = some (.bool false) := by have := HP.out.drew.c9; rw [HU.out] at this; exact this
            go_region
            have HPb : Hid (IsP wr.drew pb mb (k + 1) s) := HP.out.drew.mono
            have Bb : Hid (Below w.heap.size w wr.drew) := HB.out.drew
            go_wp2
            go_roundw
            case rel => exact ⟨k + 1, s, by omega, by go_num, HPb, HI, HU, Bb⟩
            case measure => simp [intOf]; omega
      · go_wp2
        go_returns
        exact ⟨rfl, HB.out⟩
  · refine (new_bad lv w2 hlv).mono ?_
    rw [errV_ne (by decide)]
    rintro e w3 ⟨rfl, rfl⟩
    go_wp2
    go_returns
    exact ⟨rfl, B1.out⟩

end Pl
end Go.Proofs.Yticjjnmmedmbiaa
