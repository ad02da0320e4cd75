/- A calm machine behind acts that may be: contract of the laws' own function 'calm'. -/
import Derived.Test.YticjjnmmedmbiabRun
namespace Go.Proofs.Yticjjnmmedmbiab
open Go.ChangeShapes Go.WideShapes Go.ChangeAt Go.RowKit Go.Maps
set_option maxRecDepth 100000
set_option linter.unusedSimpArgs false
set_option linter.unusedVariables false

namespace Pl
open Ac
/-- One act, as it may be. -/
def actG (x : ActC) (s : St) : St := if (x.kind.toList == [115, 116, 101, 112]) = true then guardS (byte0 x.s) s else outS x s
def actsS (f : Nat → ActC) : Nat → St → St
  | 0, s => s
  | k + 1, s => actG (f k) (actsS f k s)
theorem Inv.act {s : St} (h : Inv s) (x : ActC) : Inv (actG x s) := by
  unfold actG
  split
  · exact h.guard _
  · exact h.out x
theorem Inv.acts {s : St} (h : Inv s) (f : Nat → ActC) : ∀ k, Inv (actsS f k s)
  | 0 => h
  | k + 1 => (Inv.acts h f k).act _
def calm2 (s : St) : St := if s.ex ≠ 0 ∧ s.li ≠ 0 then stepS 112 s else s
def calm1 (lv : Int) (len : Nat) (f : Nat → ActC) : St := walkS (-9) (stallS 0 (actsS f len (newS lv)))
def calmR (lv : Int) (len : Nat) (f : Nat → ActC) : List (Int × Int) × St := runS 20 [(2, 0), (5, 0)] (calm2 (calm1 lv len f))
def calmSt (lv : Int) (len : Nat) (f : Nat → ActC) : St := (calmR lv len f).2
def calmB (lv : Int) (len : Nat) (f : Nat → ActC) : Bool := (calmR lv len f).1.isEmpty && !(calmSt lv len f).hu
def CalmPost (w : World) (lv : Int) (len : Nat) (f : Nat → ActC) (e : Ending) (w' : World) : Prop :=
  (e = .returned (.tuple #[.pointer none, .bool false]) ∧ Below w.heap.size w w') ∨
  ((1 ≤ lv ∧ lv ≤ 4) ∧ ∃ pb mb, e = .returned (.tuple #[.pointer (some ⟨pb, 0, none⟩), .bool (calmB lv len f)]) ∧ IsP w' pb mb 400 (calmSt lv len f) ∧ w.heap.size ≤ pb ∧ w.heap.size ≤ mb ∧ Below w.heap.size w w')
theorem Inv.calm1 {lv : Int} (h : 1 ≤ lv ∧ lv ≤ 4) (len : Nat) (f : Nat → ActC) : Inv (calm1 lv len f) := (((Inv.new h.1 h.2).acts f len).stall 0).walk (-9)
theorem Inv.calm2 {s : St} (h : Inv s) : Inv (calm2 s) := by
  unfold Pl.calm2
  split
  · exact h.step _
  · exact h
theorem Inv.calm {lv : Int} (h : 1 ≤ lv ∧ lv ≤ 4) (len : Nat) (f : Nat → ActC) : Inv (calmSt lv len f) := Inv.run _ _ ((Inv.calm1 h len f).calm2)

theorem goals2 (pb mb N : Nat) (w : World) (hN : N = w.heap.size) (h1 : pb < N) (h2 : mb < N) : GoalsAt pb mb (w.alloc (.cells #[.int .i64 2, .int .i64 0, .int .i64 5, .int .i64 0] 24)) (.slice (some ⟨N, 0, none⟩) 2 2) [(2, 0), (5, 0)] := by
  subst hN
  refine ⟨_, 2, rfl, Nat.le_refl _, by unfold maxLen; omega, fun h0 => ⟨w.heap.size, 0, rfl, by simp, by omega, by omega, fun i hi => ?_⟩⟩
  have hr := B.row_new w #[.int .i64 2, .int .i64 0, .int .i64 5, .int .i64 0] 24
  simp only [List.length_cons, List.length_nil] at hi
  have hi2 : i = 0 ∨ i = 1 := by omega
  rcases hi2 with rfl | rfl
  · exact ⟨hr 0, hr 1⟩
  · exact ⟨hr 2, hr 3⟩

set_option maxHeartbeats 8000000 in
theorem calm_any (lv : Int) (v : Value) (len : Nat) (f : Nat → ActC) (w : World) (hs : ActsAt w v len f) :
    Calls Try.prog 19 #[.int .i64 lv, v] w fun e w' => CalmPost w lv len f e w' := by
  have HS : Hid (ActsAt w v len f) := hs
  obtain ⟨a, cap, rfl, hl, hm, hok, hcc⟩ := hs
  clear hok hcc
  unfold maxLen at hm
  go_enter Try.func19, Try.ntmps19
  go_wp2_with fail
  refine (light_any _ len f 150 w HS.out).mono ?_
  rintro e w2 ⟨b, rfl, hli, hw⟩
  subst hw
  have HL : Hid (b = true → Light len f 150) := hli
  clear hli
  cases b
  · go_wp2
    go_returns
    exact Or.inl ⟨rfl, Below.refl _ _⟩
  have h150 : len ≤ 150 := by have := (HL.out rfl).1; omega
  clear HL
  go_wp2_with fail
  by_cases hlv : 1 ≤ lv ∧ lv ≤ 4
  · refine (new_any lv w2 hlv.1 hlv.2).mono ?_
    rintro e w3 ⟨rfl, p3, b3⟩
    have HLV : Hid (1 ≤ lv ∧ lv ≤ 4) := hlv
    have B3 : Hid (Below w2.heap.size w2 w3) := b3
    have P3 : Hid (IsP w3 (w2.heap.size + 1) w2.heap.size 0 (newS lv)) := p3
    have I3 : Hid (Inv (newS lv)) := Inv.new hlv.1 hlv.2
    clear p3 b3 hlv
    generalize hmb : w2.heap.size = mb at *
    generalize hpb : mb + 1 = pb at *
    have hpb' : mb ≤ pb := by omega
    have hwm : w2.heap.size = mb := hmb
    clear hpb hmb
    have HAS : Hid (∀ k, actsS f (k + 1) (newS lv) = actG (f k) (actsS f k (newS lv))) := fun k => rfl
    go_wp2_with fail
    go_loopw [8] (fun i wr => ∃ (k : Nat) (s : St), k ≤ len ∧ i = .int .i64 k ∧ Hid (IsP wr pb mb k s) ∧ Hid (Inv s) ∧ Hid (s = actsS f k (newS lv)) ∧ Hid (Below mb w2 wr)) (fun i _ => len - (intOf i).toNat)
    case atStart => exact ⟨0, _, Nat.zero_le _, rfl, P3, I3, rfl, B3⟩
    case round =>
      obtain ⟨k, s, hk, rfl, HP, HI, HU, HB⟩ := hrel
      by_cases hlt : k < len
      · obtain ⟨a', cap', ev, _, _, _, hc⟩ := HS.out.below (by rw [hwm]; exact HB.out)
        cases ev
        obtain ⟨b, off, rfl, hb, hcell⟩ := hc (by omega)
        have c0 := hcell k hlt 0 (by omega); have c1 := hcell k hlt 1 (by omega); have c2 := hcell k hlt 2 (by omega); have c3 := hcell k hlt 3 (by omega)
        have c4 := hcell k hlt 4 (by omega); have c5 := hcell k hlt 5 (by omega); have c6 := hcell k hlt 6 (by omega); have c7 := hcell k hlt 7 (by omega)
        have c8 := hcell k hlt 8 (by omega); have c9 := hcell k hlt 9 (by omega); have c10 := hcell k hlt 10 (by omega); have c11 := hcell k hlt 11 (by omega)
        have HA1 : Hid (actsS f (k + 1) (newS lv) = actG (f k) s) := by show _ = _; rw [HAS.out, ← HU.out]
        generalize f k = x at c0 c1 c2 c3 c4 c5 c6 c7 c8 c9 c10 c11 HA1
        simp [ActC.vals] at c0 c1 c2 c3 c4 c5 c6 c7 c8 c9 c10 c11
        clear hcell hc
        have hkm : k < maxLen := by unfold maxLen; omega
        cases hkd : (x.kind.toList == [115, 116, 101, 112])
        · have HO : Hid (∀ w1, IsP w1 pb mb k s → Calls Try.prog 15 #[.pointer (some ⟨pb, 0, none⟩), .agg #[.string x.kind, .int .i64 x.a, .int .i64 x.b, .int .i64 x.c0, .int .i64 x.c1, .int .i64 x.c2, .int .i64 x.c3, .string x.s, .int .u64 x.k, .int .i64 x.last, .slice x.sa x.sl x.sc, .slice x.ja x.jl x.jc]] w1 fun e w' => e = .returned (.tuple #[]) ∧ IsP w' pb mb (k + 1) (outS x s) ∧ Turn pb mb w1 w') := fun w1 hp => out_any pb mb k s x w1 hp HI.out hkm
          have HU2 : Hid (outS x s = actsS f (k + 1) (newS lv)) := by show _ = _; rw [HA1.out]; simp [actG, hkd]
          have HI2 : Hid (Inv (outS x s)) := HI.out.out x
          generalize outS x s = s2 at HO HU2 HI2
          go_wp2_with fail
          refine (HO.out _ HP.out).mono ?_
          rintro e w4 ⟨rfl, p4, t4⟩
          have HP4 : Hid (IsP w4 pb mb (k + 1) s2) := p4
          have HB4 : Hid (Below mb w2 w4) := turn_new HB.out t4 (by omega) (by omega) (by have := HB.out.size; omega)
          clear p4 t4 HO
          go_wp2
          go_roundw
          case rel => exact ⟨k + 1, s2, by omega, by go_num, HP4, HI2, HU2, HB4⟩
          case measure => simp [intOf]; omega
        · by_cases hs0 : 0 < x.s.size
          · obtain ⟨c', HCc⟩ : ∃ c : Int, Hid (((x.s[0]'hs0).toNat : Int) = c) := ⟨_, rfl⟩
            have hd : decide ((0 : Int) < (x.s.size : Int)) = true := by simp only [decide_eq_true_eq]; omega
            have HSe : Hid (∀ w1, IsP w1 pb mb k s → Calls Try.prog 16 #[.pointer (some ⟨pb, 0, none⟩)] w1 fun e w' => e = .returned (senseV s) ∧ Below w1.heap.size w1 w') := fun w1 hp => sense_any pb mb k s w1 hp HI.out.ok
            have HMa : Hid (∀ w1, Calls Try.prog 79 #[.int .u8 c', senseV s] w1 fun e w' => e = .returned (.bool (mayS c' s)) ∧ Below w1.heap.size w1 w') := fun w1 => may_sense c' s HI.out w1
            have HSt : Hid (∀ w1, IsP w1 pb mb k s → StepTo pb mb k c' w1 (stepS c' s)) := fun w1 hp => step_any pb mb k s c' w1 hp HI.out.ok hkm HI.out.wf HI.out.st.2
            have HG : Hid (guardS c' s = if mayS c' s = true then stepS c' s else s) := rfl
            have HU2 : Hid (guardS c' s = actsS f (k + 1) (newS lv)) := by show _ = _; rw [HA1.out]; unfold actG; rw [hkd, if_pos rfl, ← HCc.out, byte0_of hs0]
            have HI2 : Hid (Inv (guardS c' s)) := HI.out.guard c'
            have HSV : Hid (∃ vs, senseV s = .agg vs) := ⟨_, rfl⟩
            obtain ⟨vs, hvs⟩ := HSV.out
            rw [hvs] at HSe HMa
            clear hvs HSV
            go_wp2_with fail
            go_region_held3 (fun wx => wx.cell? ⟨b, off + k * 12 + 7, none⟩ = some (.string x.s)) (go_keep)
              (first
                | (go_at_call 16; refine (HSe.out _ HP.out.drew).mono ?_; rintro e wa ⟨rfl, hba⟩
                   have Pa : Hid (IsP wa pb mb k s) := HP.out.drew.below hba
                   have Ba : Hid (Below mb w2 wa) := B.next HB.out.drew hba (Nat.le_trans (Nat.le_of_eq hwm.symm) HB.out.size)
                   have s7 : wa.cell? ⟨b, off + k * 12 + 7, none⟩ = some (.string x.s) := (B.cell hba b _ hb).trans c7
                   have hba2 : b < wa.heap.size := Nat.lt_of_lt_of_le hb hba.size
                   clear hba)
                | (go_at_call 79; rw [HCc.out]; refine (HMa.out _).mono ?_; rintro e wb ⟨rfl, hbb⟩
                   have Pb : Hid (IsP wb pb mb k s) := Pa.out.below hbb
                   have Bb : Hid (Below mb w2 wb) := B.next Ba.out hbb (Nat.le_trans (Nat.le_of_eq hwm.symm) Ba.out.size)
                   have t7 : wb.cell? ⟨b, off + k * 12 + 7, none⟩ = some (.string x.s) := (B.cell hbb b _ hba2).trans s7
                   clear hbb))
            all_goals
              generalize hmy : mayS c' s = m at *
              cases m
              · rw [show guardS c' s = s from by rw [HG.out]; simp] at HU2 HI2
                have HPb : Hid (IsP wb pb mb (k + 1) s) := Pb.out.mono
                clear hmy HG HSe HMa HSt
                go_wp2
                go_roundw
                case rel => exact ⟨k + 1, s, by omega, by go_num, HPb, HI2, HU2, Bb⟩
                case measure => simp [intOf]; omega
              · rw [show guardS c' s = stepS c' s from by rw [HG.out]; simp] at HU2 HI2
                clear hmy HG HSe HMa
                generalize stepS c' s = s2 at *
                go_wp2_with fail
                rw [HCc.out]
                refine (HSt.out _ Pb.out).mono ?_
                rintro e w4 ⟨rfl, p4, t4⟩
                have HP4 : Hid (IsP w4 pb mb (k + 1) s2) := p4
                have HB4 : Hid (Below mb w2 w4) := turn_new Bb.out t4 (by omega) (by omega) (by have := Bb.out.size; omega)
                clear p4 t4 HSt
                go_wp2
                go_roundw
                case rel => exact ⟨k + 1, s2, by omega, by go_num, HP4, HI2, HU2, HB4⟩
                case measure => simp [intOf]; omega
          · have hd : decide ((0 : Int) < (x.s.size : Int)) = false := by simp only [decide_eq_false_iff_not]; omega
            go_wp2_with fail
            go_region
            have HPb : Hid (IsP wr.drew pb mb (k + 1) s) := HP.out.drew.mono
            have HU2 : Hid (s = actsS f (k + 1) (newS lv)) := by show _ = _; rw [HA1.out]; unfold actG; rw [hkd, if_pos rfl, byte0_none hs0]; unfold guardS; split <;> simp [step_rest]
            have Bb : Hid (Below mb w2 wr.drew) := HB.out.drew
            go_wp2
            go_roundw
            case rel => exact ⟨k + 1, s, by omega, by go_num, HPb, HI, HU2, Bb⟩
            case measure => simp [intOf]; omega
      · have hkl : k = len := by omega
        subst hkl
        have HC1 : Hid (calm1 lv k f = walkS (-9) (stallS 0 s)) := by show _ = _; rw [HU.out]; rfl
        have HSl : Hid (∀ w1, IsP w1 pb mb k s → Calls Try.prog 67 #[.pointer (some ⟨pb, 0, none⟩), .int .i64 0] w1 fun e w' => e = .returned (stallE 0) ∧ IsP w' pb mb k (stallS 0 s) ∧ Turn pb mb w1 w') := fun w1 hp => stall_any pb mb k s 0 w1 hp
        have HWk : Hid (∀ w1, IsP w1 pb mb k (stallS 0 s) → Calls Try.prog 65 #[.pointer (some ⟨pb, 0, none⟩), .int .i64 (-9)] w1 fun e w' => e = .returned (walkE (-9) (stallS 0 s)) ∧ IsP w' pb mb k (calm1 lv k f) ∧ Turn pb mb w1 w') := fun w1 hp => by rw [HC1.out]; exact walk_any pb mb k (stallS 0 s) (-9) w1 hp (HI.out.stall 0).pe.1 (HI.out.stall 0).pe.2
        have I1 : Hid (Inv (calm1 lv k f)) := Inv.calm1 HLV.out k f
        have HPost : Hid (CalmPost w2 lv k f = fun e w' => (e = .returned (.tuple #[.pointer none, .bool false]) ∧ Below w2.heap.size w2 w') ∨ ((1 ≤ lv ∧ lv ≤ 4) ∧ ∃ pb mb, e = .returned (.tuple #[.pointer (some ⟨pb, 0, none⟩), .bool (calmB lv k f)]) ∧ IsP w' pb mb 400 (calmSt lv k f) ∧ w2.heap.size ≤ pb ∧ w2.heap.size ≤ mb ∧ Below w2.heap.size w2 w')) := rfl
        have HR0 : Hid (calmR lv k f = runS 20 [(2, 0), (5, 0)] (calm2 (calm1 lv k f))) := rfl
        have HB0 : Hid (calmB lv k f = ((calmR lv k f).1.isEmpty && !(calmSt lv k f).hu)) := rfl
        have HS0 : Hid (calmSt lv k f = (calmR lv k f).2) := rfl
        have h0 := HS.out
        go_wp2_with fail
        refine (HSl.out _ HP.out).mono ?_
        rintro e w4 ⟨rfl, p4, t4⟩
        have P4 : Hid (IsP w4 pb mb k (stallS 0 s)) := p4
        have B4 : Hid (Below mb w2 w4) := turn_new HB.out t4 (by omega) (by omega) (by have := HB.out.size; omega)
        clear p4 t4 h0
        generalize stallE 0 = ev0
        go_wp2_with fail
        refine (HWk.out _ P4.out).mono ?_
        generalize walkE (-9) (stallS 0 s) = ev1
        rintro e w5 ⟨rfl, p5, t5⟩
        have B5 : Hid (Below mb w2 w5) := turn_new B4.out t5 (by omega) (by omega) (by have := B4.out.size; omega)
        have P5 : Hid (IsP w5 pb mb k (calm1 lv k f)) := p5
        have HSe : Hid (∀ w1, IsP w1 pb mb k (calm1 lv k f) → Calls Try.prog 16 #[.pointer (some ⟨pb, 0, none⟩)] w1 fun e w' => e = .returned (senseV (calm1 lv k f)) ∧ Below w1.heap.size w1 w') := fun w1 hp => sense_any pb mb k _ w1 hp I1.out.ok
        have HPu : Hid (∀ w1, IsP w1 pb mb k (calm1 lv k f) → StepTo pb mb k 112 w1 (stepS 112 (calm1 lv k f))) := fun w1 hp => step_any pb mb k _ 112 w1 hp I1.out.ok (by unfold maxLen; omega) I1.out.wf I1.out.st.2
        have HC2 : Hid (calm2 (calm1 lv k f) = if (calm1 lv k f).ex ≠ 0 ∧ (calm1 lv k f).li ≠ 0 then stepS 112 (calm1 lv k f) else calm1 lv k f) := rfl
        have I2 : Hid (Inv (calm2 (calm1 lv k f))) := I1.out.calm2
        have HRn : Hid (∀ w1 v, IsP w1 pb mb (k + 1) (calm2 (calm1 lv k f)) → GoalsAt pb mb w1 v [(2, 0), (5, 0)] → Calls Try.prog 23 #[.pointer (some ⟨pb, 0, none⟩), v, .int .i64 20] w1 fun e w' => e = .returned (.bool (calmR lv k f).1.isEmpty) ∧ IsP w' pb mb (k + 1 + 20) (calmSt lv k f) ∧ Turn pb mb w1 w') := fun w1 v hp hg => run_any pb mb (k + 1) _ v _ 20 w1 hp I2.out hg (by omega) (by unfold maxLen; omega)
        clear p5 t5 HSl HWk P4 B4 HC1 HR0
        obtain ⟨t, ht⟩ : ∃ t, calm1 lv k f = t := ⟨_, rfl⟩
        rw [ht] at P5 HSe HPu HC2 HRn I1 I2
        have HV1 : Hid (senseV t = .agg #[.int .i64 t.h, .int .i64 t.ex, .bool t.op, .int .i64 t.pe, .int .i64 t.li, .int .i64 t.ba, .bool (carAtI t.D t.lv t.h t.ex != 0), .bool (carAtI t.D t.lv t.h (t.ex - 1) != 0), .bool (carAtI t.D t.lv t.h (t.ex + 1) != 0)]) := rfl
        rw [HV1.out] at HSe
        clear HV1 ht
        generalize (carAtI t.D t.lv t.h t.ex != 0) = q1 at *
        generalize (carAtI t.D t.lv t.h (t.ex - 1) != 0) = q2 at *
        generalize (carAtI t.D t.lv t.h (t.ex + 1) != 0) = q3 at *
        generalize t.li = li at *
        generalize t.ba = ba at *
        generalize t.h = h at *
        generalize t.ex = ex at *
        generalize t.op = op at *
        generalize t.pe = pe at *
        go_wp2_with fail
        refine (HSe.out _ P5.out).mono ?_
        rintro e w6 ⟨rfl, b6⟩
        have P6 : Hid (∀ o, IsP (w6.alloc o) pb mb k t) := fun o => (P5.out.below b6).below (B.new1 _ _)
        have B6 : Hid (∀ o, Below mb w2 (w6.alloc o)) := fun o => (B.next B5.out b6 (Nat.le_trans (Nat.le_of_eq hwm.symm) B5.out.size)).alloc (by have := b6.size; have := B5.out.size; omega) o
        have z6 : mb < w6.heap.size ∧ pb < w6.heap.size := ⟨(P5.out.below b6).ltm, (P5.out.below b6).lt⟩
        clear b6 HSe P5 B5
        rcases Int.decEq ex 0 with kx | kx
        · rcases Int.decEq li 0 with ki | ki
          · have KE : Hid (calm2 t = stepS 112 t) := by show _ = _; rw [HC2.out, if_pos ⟨kx, ki⟩]
            rw [KE.out] at HRn I2
            clear HC2 KE
            have kx1 : (ex != 0) = true := by simp [bne, kx]
            have ki1 : (li != 0) = true := by simp [bne, ki]
            go_wp2_with fail
            refine (HPu.out _ (P6.out _)).mono ?_
            rintro e w7 ⟨rfl, p7, t7⟩
            have z7 := t7.size
            have P7 : Hid (∀ o, IsP (w7.alloc o) pb mb (k + 1) (stepS 112 t)) := fun o => p7.below (B.new1 _ _)
            have B7 : Hid (∀ o, Below mb w2 (w7.alloc o)) := fun o => (turn_new (B6.out _) t7 (by omega) (by omega) (by simp; omega)).alloc (by simp at z7; omega) o
            have z7' : mb < w7.heap.size ∧ pb < w7.heap.size := by simp at z7; omega
            clear p7 t7 HPu
            go_wp2_with fail
            refine (HRn.out _ _ (P7.out _) (goals2 pb mb w7.heap.size _ rfl (by omega) (by omega))).mono ?_
            rintro e w8 ⟨rfl, p8, t8⟩
            have P8 : Hid (IsP w8 pb mb (k + 1 + 20) (calmSt lv k f)) := p8
            have B8 : Hid (Below mb w2 w8) := turn_new (B7.out _) t8 (by omega) (by omega) (by simp; omega)
            have d9 := p8.c9
            clear p8 t8 HRn
            generalize (calmR lv k f).1.isEmpty = r1 at *
            generalize hST : calmSt lv k f = ST at *
            generalize hB : calmB lv k f = BB at *
            cases r1
            · have HBB : Hid (BB = false) := by show _ = _; rw [HB0.out]; rfl
              go_wp2
              go_returns
              refine Or.inr ⟨HLV.out, pb, mb, ?_, ?_, by omega, by omega, by rw [hwm]; exact B8.out⟩
              · rw [hB, HBB.out]; rfl
              · rw [hST]; exact P8.out.le (by omega)
            · have HBB : Hid (BB = !ST.hu) := by show _ = _; rw [HB0.out]; rfl
              go_wp2
              go_returns
              refine Or.inr ⟨HLV.out, pb, mb, ?_, ?_, by omega, by omega, by rw [hwm]; exact B8.out⟩
              · rw [hB, HBB.out]; rfl
              · rw [hST]; exact P8.out.le (by omega)
          · subst ki
            have KE : Hid (calm2 t = t) := by show _ = _; rw [HC2.out, if_neg (by simp)]
            rw [KE.out] at HRn I2
            clear HC2 KE HPu
            go_wp2_with fail
            refine (HRn.out _ _ (((P6.out _).mono.below (B.new1 _ _))) (goals2 pb mb (w6.heap.size + 1) _ (by simp) (by omega) (by omega))).mono ?_
            rintro e w8 ⟨rfl, p8, t8⟩
            have P8 : Hid (IsP w8 pb mb (k + 1 + 20) (calmSt lv k f)) := p8
            have B8 : Hid (Below mb w2 w8) := turn_new ((B6.out _).alloc (by simp; omega) _) t8 (by omega) (by omega) (by simp; omega)
            have d9 := p8.c9
            clear p8 t8 HRn
            generalize (calmR lv k f).1.isEmpty = r1 at *
            generalize hST : calmSt lv k f = ST at *
            generalize hB : calmB lv k f = BB at *
            cases r1
            · have HBB : Hid (BB = false) := by show _ = _; rw [HB0.out]; rfl
              go_wp2
              go_returns
              refine Or.inr ⟨HLV.out, pb, mb, ?_, ?_, by omega, by omega, by rw [hwm]; exact B8.out⟩
              · rw [hB, HBB.out]; rfl
              · rw [hST]; exact P8.out.le (by omega)
            · have HBB : Hid (BB = !ST.hu) := by show _ = _; rw [HB0.out]; rfl
              go_wp2
              go_returns
              refine Or.inr ⟨HLV.out, pb, mb, ?_, ?_, by omega, by omega, by rw [hwm]; exact B8.out⟩
              · rw [hB, HBB.out]; rfl
              · rw [hST]; exact P8.out.le (by omega)
        · subst kx
          have KE : Hid (calm2 t = t) := by show _ = _; rw [HC2.out, if_neg (by simp)]
          rw [KE.out] at HRn I2
          clear HC2 KE HPu
          go_wp2_with fail
          refine (HRn.out _ _ (((P6.out _).mono.below (B.new1 _ _))) (goals2 pb mb (w6.heap.size + 1) _ (by simp) (by omega) (by omega))).mono ?_
          rintro e w8 ⟨rfl, p8, t8⟩
          have P8 : Hid (IsP w8 pb mb (k + 1 + 20) (calmSt lv k f)) := p8
          have B8 : Hid (Below mb w2 w8) := turn_new ((B6.out _).alloc (by simp; omega) _) t8 (by omega) (by omega) (by simp; omega)
          have d9 := p8.c9
          clear p8 t8 HRn
          generalize (calmR lv k f).1.isEmpty = r1 at *
          generalize hST : calmSt lv k f = ST at *
          generalize hB : calmB lv k f = BB at *
          cases r1
          · have HBB : Hid (BB = false) := by show _ = _; rw [HB0.out]; rfl
            go_wp2
            go_returns
            refine Or.inr ⟨HLV.out, pb, mb, ?_, ?_, by omega, by omega, by rw [hwm]; exact B8.out⟩
            · rw [hB, HBB.out]; rfl
            · rw [hST]; exact P8.out.le (by omega)
          · have HBB : Hid (BB = !ST.hu) := by show _ = _; rw [HB0.out]; rfl
            go_wp2
            go_returns
            refine Or.inr ⟨HLV.out, pb, mb, ?_, ?_, by omega, by omega, by rw [hwm]; exact B8.out⟩
            · rw [hB, HBB.out]; rfl
            · rw [hST]; exact P8.out.le (by omega)
  · refine (new_bad lv w2 hlv).mono ?_
    rw [errV_ne (by decide)]
    rintro e w3 ⟨rfl, rfl⟩
    go_wp2
    go_returns
    exact Or.inl ⟨rfl, Below.refl _ _⟩

end Pl
end Go.Proofs.Yticjjnmmedmbiab
