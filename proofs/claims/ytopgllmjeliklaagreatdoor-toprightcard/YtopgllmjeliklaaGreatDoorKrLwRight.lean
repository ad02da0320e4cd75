/- Chapter 11, the law TopRight: its walk. -/
import Derived.Test.YtopgllmjeliklaaGreatDoorKrHsM
import Derived.Test.YtopgllmjeliklaaGreatDoorKrHvK
import Derived.Test.YtopgllmjeliklaaGreatDoorKrPlantK
namespace Go.Proofs.YtopgllmjeliklaaGreatDoor
open Go.Shelf Go.Lib Go.ChangeShapes Go.WideShapes Go.ChangeAt Go.RowKit
set_option maxRecDepth 100000
set_option linter.unusedSimpArgs false
set_option linter.unusedVariables false
namespace Hs
open Bk Lg Pl Dk Tx Tn Ac
set_option maxHeartbeats 16000000 in
theorem topRight_law (len : Nat) (f : Nat → Int × Int × Int) (lvv : Value) (alen : Nat) (g : Nat → ActC) (v : Value) (w : World) (hs : SizesAt w lvv len f) (ha : ActsAt w v alen g) (G : Glob w) :
  Calls Tryz.prog 8 #[lvv, v] w fun e w' => e = .returned (.bool true) ∧ Below w.heap.size w w' := by
 have HW : Hid (Calls Tryz.prog 14 #[] w fun e w' => e = .returned (.bool true) ∧ Below w.heap.size w w') := works_any w G
 have HR : Hid (∀ W, Below w.heap.size w W → Calls Tryz.prog 15 #[lvv, v] W (ReadyPost len f alen g W)) := fun W hB => ready_any len f lvv alen g v W (hs.below hB) (ha.below hB) (G.new hB)
 have HG : Hid (∀ W, HFr w.heap.size w W → Glob W) := fun W hf => G.below hf.b G.hn
 have hbg : Hid (Tryz.prog.globals.size ≤ w.heap.size) := G.hn; have HA : Hid (∀ W, HFr w.heap.size w W → ActsAt W v alen g) := fun W hf => ha.below hf.b
 have HS : Hid (∀ W, HFr w.heap.size w W → SizesAt W lvv len f) := fun W hf => hs.below hf.b
 obtain ⟨a, cap, rfl, hl, hm, hok, hc⟩ := id ha; have HOK : Hid (∀ i, i < alen → (g i).Ok) := hok
 clear hs ha G hc hok hl; unfold maxLen at hm
 go_enter Tryz.func8, Tryz.ntmps8
 go_wp2_with fail; refine HW.out.mono ?_; rintro e w1 ⟨rfl, b1⟩; have X1 : Hid (Below w.heap.size w w1) := b1; have HR1 := hidd (HR.out w1 b1); clear HW HR b1; go_wp2_with fail; refine HR1.out.mono ?_; rintro e w2 ⟨b2, rfl | ⟨hlv, hlight, pb, mb, db, sb, hb, rfl, hx⟩⟩
 ·have X2 : Hid (Below w.heap.size w w2) := B.next X1.out b2 X1.out.size
  clear HR1 b2 X1 HG HA HS HOK; go_wp2; go_returns; exact ⟨rfl, X2.out⟩
 have F2 : Hid (HFr w.heap.size w w2) := (HFr.of_below X1.out (Nat.le_refl _)).trans (HFr.of_below b2 X1.out.size); have H2 : Hid (HX w2 w.heap.size pb mb db sb hb (rowsOf f len) ⟨newS len, ⟨0, [], []⟩, []⟩ (60 * 0)) := hx.down X1.out.size; have hal : Hid ((alen : Int) ≤ 60) := hlight.1; have HLV : Hid (levelsN len f = 0) := hlv; have hln : Hid (1 ≤ len ∧ len ≤ 4) := ⟨(levelsN_zero hlv).1, (levelsN_zero hlv).2.1⟩; have HWS : Hid (Good7 (rowsOf f len) ⟨newS len, ⟨0, [], []⟩, []⟩) := Good7.start f hln.out.1 hln.out.2; clear HR1 b2 X1 hx hlight hlv; go_wp2_with fail
 go_loopg [8, 9, 10, 11, 12, 13, 14, 15, 16, 17, 18, 19] alen (fun q hv9 iv9 p10 p11 p12 p13 p14 p15 p16 p17 p18 p19 wr => ∃ (k : Nat) (hb : Nat) (σ : Sg), k + q = alen ∧ iv9 = .int .i64 k ∧ hv9 = .pointer (some ⟨hb, 0, none⟩) ∧ Hid (HX wr w.heap.size pb mb db sb hb (rowsOf f len) σ (60 * k)) ∧ Hid (Good7 (rowsOf f len) σ) ∧ Hid (HFr w.heap.size w wr))
 case atStart => exact ⟨0, hb, _, by omega, rfl, rfl, H2, HWS, F2⟩
 case round =>
  clear H2 F2 HWS; obtain ⟨k, hb, σ, hk, rfl, rfl, HX1, HW1, HF1⟩ := hrel; have HK : Hid (k + gk = alen) := hk
  by_cases hlt : k < alen
  ·have hlt' : (k : Int) < (alen : Int) := by omega
   have hAc := HA.out wr HF1.out; obtain ⟨a', cap', hv, _, _, _, hc⟩ := hAc; obtain ⟨bq, off, hv2, hbl, hcell⟩ := hc (by omega); injection hv with e1 e2 e3; subst hv2; subst e1 e3
   have HAC : Hid (∀ W, HFr w.heap.size w W → W.cell? ⟨bq, off + k * 12 + 0, none⟩ = some (.string (g k).kind) ∧ W.cell? ⟨bq, off + k * 12 + 1, none⟩ = some (.int .i64 (g k).a) ∧ W.cell? ⟨bq, off + k * 12 + 2, none⟩ = some (.int .i64 (g k).b) ∧ W.cell? ⟨bq, off + k * 12 + 3, none⟩ = some (.int .i64 (g k).c0) ∧ W.cell? ⟨bq, off + k * 12 + 4, none⟩ = some (.int .i64 (g k).c1) ∧ W.cell? ⟨bq, off + k * 12 + 5, none⟩ = some (.int .i64 (g k).c2) ∧ W.cell? ⟨bq, off + k * 12 + 6, none⟩ = some (.int .i64 (g k).c3) ∧ W.cell? ⟨bq, off + k * 12 + 7, none⟩ = some (.string (g k).s) ∧ W.cell? ⟨bq, off + k * 12 + 8, none⟩ = some (.int .u64 (g k).k) ∧ W.cell? ⟨bq, off + k * 12 + 9, none⟩ = some (.int .i64 (g k).last) ∧ W.cell? ⟨bq, off + k * 12 + 10, none⟩ = some (.slice (g k).sa (g k).sl (g k).sc) ∧ W.cell? ⟨bq, off + k * 12 + 11, none⟩ = some (.slice (g k).ja (g k).jl (g k).jc)) := fun W hf => by
    obtain ⟨a2, cap2, hv, _, _, _, hc⟩ := HA.out W hf; obtain ⟨bq2, off2, hv2, _, hcell⟩ := hc (by omega); injection hv with e1 _ _; rw [hv2] at e1; injection e1 with e1; injection e1 with e4 e5 _; subst e4 e5; exact ⟨hcell k hlt 0 (by omega), hcell k hlt 1 (by omega), hcell k hlt 2 (by omega), hcell k hlt 3 (by omega), hcell k hlt 4 (by omega), hcell k hlt 5 (by omega), hcell k hlt 6 (by omega), hcell k hlt 7 (by omega), hcell k hlt 8 (by omega), hcell k hlt 9 (by omega), hcell k hlt 10 (by omega), hcell k hlt 11 (by omega)⟩
   have HXO : Hid ((g k).Ok) := HOK.out k hlt; obtain ⟨tk, HTK⟩ : ∃ tk, Hid (((g k).kind.toList == [116, 105, 99, 107]) = tk) := ⟨_, rfl⟩
   obtain ⟨c0, c1, _⟩ := HAC.out wr HF1.out; have HK60 : Hid (k < 60) := by show k < 60; have := hal.out; omega
   clear hcell hc hk hbl; simp only [Nat.add_zero] at c0
   go_upto_if 44 with fail
   rw [HTK.out]
   go_cut [10] from 45 to 51 (fun s10 wx => wr = wx ∧ ∃ n : Nat, n ≤ 60 ∧ s10 = .int .i64 n ∧ (tk = false → n = 1))
   case first =>
    clear HX1 HW1 HF1 HAC HTK
    cases tk
    ·go_wp2_with fail
     go_meet
     exact ⟨rfl, 1, by omega, rfl, fun _ => rfl⟩
    ·go_wp2_with fail
     go_meet
     exact ⟨rfl, (min (max (g k).a 0) 60).toNat, by omega, congrArg _ (by omega), fun h => by cases h⟩
   case rest =>
   obtain ⟨rfl, n, hn60, rfl, hn1⟩ := hcut; have HN : Hid (n ≤ 60 ∧ (tk = false → n = 1)) := ⟨hn60, hn1⟩; have HX1' : Hid (HX wr w.heap.size pb mb db sb hb (rowsOf f len) σ (60 * k + (if tk = true then 0 else 60 * (0)))) := HX1.out.le (by omega)
   clear c0 c1 hn60 hn1 HX1; go_wp2_with fail
   go_loopg [8, 11, 12, 13, 14, 15, 16, 17, 18, 19] n (fun q hv8 iv11 p12 p13 p14 p15 p16 p17 p18 p19 wr => ∃ (kk : Nat) (hb : Nat) (σ : Sg), kk + q = n ∧ iv11 = .int .i64 kk ∧ hv8 = .pointer (some ⟨hb, 0, none⟩) ∧ Hid (HX wr w.heap.size pb mb db sb hb (rowsOf f len) σ (60 * k + (if tk = true then kk else 60 * (kk)))) ∧ Hid (Good7 (rowsOf f len) σ) ∧ Hid (HFr w.heap.size w wr))
   case atStart => exact ⟨0, hb, σ, by omega, rfl, rfl, HX1', HW1, HF1⟩
   case round =>
    clear HX1' HW1 HF1; obtain ⟨kk, hb, σ, hkk, rfl, rfl, HX1, HW1, HF1⟩ := hrel; have HKK : Hid (kk + gk = n) := hkk
    by_cases hlk : kk < n
    ·have hlk' : (kk : Int) < (n : Int) := by omega
     have HK6 : Hid (kk < 60) := by show kk < 60; have := HN.out.1; omega
     have HB1 := hidd (bookX HX1.out); have h16 : σ.b.stays.length ≤ 16 := HX1.out.ok.fewS; clear hkk; go_wp2_with fail; refine HB1.out.mono ?_; rintro e w4 ⟨vs, vj, rfl, ho, b4⟩; obtain ⟨K0, hK0⟩ : ∃ K0, wr.heap.size = K0 := ⟨_, rfl⟩
     rw [hK0] at ho; obtain ⟨sa, sc, ja, jc, hvs, hvj, _⟩ := own_at2 (last := σ.b.last) ho; subst hvs hvj; have hB5 := B.next b4 (B.new1 w4 (.cells #[.int .i64 σ.b.last, .slice sa σ.b.stays.length sc, .slice ja σ.b.jobs.length jc] 39)) b4.size; have X5 : Hid ((HX (w4.alloc (.cells #[.int .i64 σ.b.last, .slice sa σ.b.stays.length sc, .slice ja σ.b.jobs.length jc] 39)) w.heap.size pb mb db sb hb (rowsOf f len) σ (60 * k + (if tk = true then kk else 60 * (kk))) ∧ HFr w.heap.size w (w4.alloc (.cells #[.int .i64 σ.b.last, .slice sa σ.b.stays.length sc, .slice ja σ.b.jobs.length jc] 39))) ∧ Blk (w4.alloc (.cells #[.int .i64 σ.b.last, .slice sa σ.b.stays.length sc, .slice ja σ.b.jobs.length jc] 39)) w4.heap.size #[.int .i64 σ.b.last, .slice sa σ.b.stays.length sc, .slice ja σ.b.jobs.length jc] 39 ∧ OwnBook (w4.alloc (.cells #[.int .i64 σ.b.last, .slice sa σ.b.stays.length sc, .slice ja σ.b.jobs.length jc] 39)) K0 (.slice sa σ.b.stays.length sc) (.slice ja σ.b.jobs.length jc) σ.b.stays σ.b.jobs) := ⟨⟨HX1.out.below hB5, HF1.out.trans (HFr.of_below hB5 HX1.out.sz)⟩, Blk.new _ _ _, ho.below (B.new1 _ _)⟩
     have c0 := (HAC.out _ X5.out.1.2).1; simp only [Nat.add_zero] at c0; clear HB1 ho b4 hB5 HX1 HF1 hK0
     go_upto_if 64 with fail
     rw [HTK.out]; obtain ⟨w5, hw5⟩ : ∃ w5, w4.alloc (.cells #[.int .i64 σ.b.last, .slice sa σ.b.stays.length sc, .slice ja σ.b.jobs.length jc] 39) = w5 := ⟨_, rfl⟩
     obtain ⟨BB, hBB⟩ : ∃ BB, w4.heap.size = BB := ⟨_, rfl⟩
     simp only [hw5, hBB] at X5 ⊢; clear hw5 hBB c0
     go_cut [8] from 65 to 75 (fun s8 wx => ∃ (hb' : Nat) (σ' : Sg), s8 = .pointer (some ⟨hb', 0, none⟩) ∧ Hid ((HX wx w.heap.size pb mb db sb hb' (rowsOf f len) σ' (60 * k + (if tk = true then (kk + 1) else 60 * ((kk + 1)))) ∧ HFr w.heap.size w wx) ∧ Blk wx BB #[.int .i64 σ.b.last, .slice sa σ.b.stays.length sc, .slice ja σ.b.jobs.length jc] 39 ∧ OwnBook wx K0 (.slice sa σ.b.stays.length sc) (.slice ja σ.b.jobs.length jc) σ.b.stays σ.b.jobs) ∧ Hid (RightR σ σ' ∧ Good7 (rowsOf f len) σ'))
     case first =>
      obtain ⟨c0, c1, c2, c3, c4, c5, c6, c7, c8, c9, c10, c11⟩ := HAC.out w5 X5.out.1.2; simp only [Nat.add_zero] at c0; have HPL := hidd (play_any w.heap.size pb mb db sb hb len f lvv σ (60 * k + (if tk = true then kk else 60 * (kk))) (g k) w5 X5.out.1.1 (HS.out w5 X5.out.1.2) HLV.out (by have := HK60.out; have := HK6.out; unfold maxLen; split <;> omega) HXO.out (HG.out w5 X5.out.1.2) hbg.out)
      have HT := hidd (tickX X5.out.1.1 (by have := HK60.out; have := HK6.out; unfold maxLen; split <;> omega) (HG.out w5 X5.out.1.2) hbg.out)
      cases tk
      ·clear HT
       go_wp2_with fail; refine HPL.out.mono ?_; rintro e w6 ⟨hb', σ', rfl, f6, hp, hx6⟩; have X6 : Hid ((HX w6 w.heap.size pb mb db sb hb' (rowsOf f len) σ' (60 * k + (if false = true then kk + 1 else 60 * (kk + 1))) ∧ HFr w.heap.size w w6) ∧ Blk w6 BB #[.int .i64 σ.b.last, .slice sa σ.b.stays.length sc, .slice ja σ.b.jobs.length jc] 39 ∧ OwnBook w6 K0 (.slice sa σ.b.stays.length sc) (.slice ja σ.b.jobs.length jc) σ.b.stays σ.b.jobs) := ⟨⟨hx6.le (by simp only [Bool.false_eq_true, if_false]; omega), X5.out.1.2.trans f6⟩, f6.far _ _ _ (by decide) (by decide) (by decide) (by decide) (by decide) (by decide) X5.out.2.1, ownFr X5.out.2.2 f6⟩
       have HR6 : Hid (RightR σ σ' ∧ Good7 (rowsOf f len) σ') := ⟨right_play HW1.out.wf hp, HW1.out.play hx6.ok hp⟩; clear HPL f6 hp hx6 X5 c0 c1 c2 c3 c4 c5 c6 c7 c8 c9 c10 c11; go_wp2_with fail
       go_meet
       exact ⟨hb', σ', rfl, X6, HR6⟩
      ·clear HPL c0 c1 c2 c3 c4 c5 c6 c7 c8 c9 c10 c11
       go_wp2_with fail; refine HT.out.mono ?_; rintro e w6 ⟨rfl, f6, σ', ht, hx6⟩; have X6 : Hid ((HX w6 w.heap.size pb mb db sb hb (rowsOf f len) σ' (60 * k + (if true = true then kk + 1 else 60 * (kk + 1))) ∧ HFr w.heap.size w w6) ∧ Blk w6 BB #[.int .i64 σ.b.last, .slice sa σ.b.stays.length sc, .slice ja σ.b.jobs.length jc] 39 ∧ OwnBook w6 K0 (.slice sa σ.b.stays.length sc) (.slice ja σ.b.jobs.length jc) σ.b.stays σ.b.jobs) := ⟨⟨hx6.le (by simp only [if_true]; omega), X5.out.1.2.trans f6⟩, f6.far _ _ _ (by decide) (by decide) (by decide) (by decide) (by decide) (by decide) X5.out.2.1, ownFr X5.out.2.2 f6⟩
       have HR6 : Hid (RightR σ σ' ∧ Good7 (rowsOf f len) σ') := ⟨right_of HW1.out.wf (tick_stays HW1.out.wf ht), HW1.out.tick ht⟩; clear HT f6 ht hx6 X5; go_wp2_with fail
       go_meet
       exact ⟨hb, σ', rfl, X6, HR6⟩
     case rest =>
     obtain ⟨hb', σ', rfl, X6, HR6⟩ := hcut
     have HSF : Hid (SF len σ.b.stays) := by
      have := HW1.out.wf.sf
      rwa [rowsOf_len] at this
     have HB7 := hidd (bookX2 X6.out.1.1); have h16' : σ'.b.stays.length ≤ 16 := X6.out.1.1.ok.fewS; clear X5 HW1; go_wp2_with fail; refine HB7.out.mono ?_; rintro e w7 ⟨sa2, sc2, ja2, jc2, rfl, hat, b7⟩; have hB8 := B.next b7 (B.new1 w7 (.cells #[.int .i64 σ'.b.last, .slice sa2 σ'.b.stays.length sc2, .slice ja2 σ'.b.jobs.length jc2] 39)) b7.size; have X8 : Hid ((HX (w7.alloc (.cells #[.int .i64 σ'.b.last, .slice sa2 σ'.b.stays.length sc2, .slice ja2 σ'.b.jobs.length jc2] 39)) w.heap.size pb mb db sb hb' (rowsOf f len) σ' (60 * k + (if tk = true then (kk + 1) else 60 * ((kk + 1)))) ∧ HFr w.heap.size w (w7.alloc (.cells #[.int .i64 σ'.b.last, .slice sa2 σ'.b.stays.length sc2, .slice ja2 σ'.b.jobs.length jc2] 39))) ∧ BkAt (w7.alloc (.cells #[.int .i64 σ'.b.last, .slice sa2 σ'.b.stays.length sc2, .slice ja2 σ'.b.jobs.length jc2] 39)) BB sa ja sc jc σ.b ∧ BkAt (w7.alloc (.cells #[.int .i64 σ'.b.last, .slice sa2 σ'.b.stays.length sc2, .slice ja2 σ'.b.jobs.length jc2] 39)) w7.heap.size sa2 ja2 sc2 jc2 σ'.b) := ⟨⟨X6.out.1.1.below hB8, X6.out.1.2.trans (HFr.of_below hB8 X6.out.1.1.sz)⟩, ⟨X6.out.2.1.below hB8, ownBk (X6.out.2.2.below hB8)⟩, Blk.new _ _ _, hat.below (B.new1 _ _)⟩
     clear HB7 hat b7 hB8 X6; go_wp2_with fail; obtain ⟨w8, hw8⟩ : ∃ w8, w7.alloc (.cells #[.int .i64 σ'.b.last, .slice sa2 σ'.b.stays.length sc2, .slice ja2 σ'.b.jobs.length jc2] 39) = w8 := ⟨_, rfl⟩
     obtain ⟨BN, hBN⟩ : ∃ BN, w7.heap.size = BN := ⟨_, rfl⟩
     simp only [hw8, hBN] at X8 ⊢; clear hw8 hBN
     go_loopg [14, 15, 16, 17, 18, 19] σ.b.stays.length (fun q iv14 p15 p16 p17 p18 p19 wx => ∃ (j : Nat), j + q = σ.b.stays.length ∧ iv14 = .int .i64 j ∧ Hid ((HX wx w.heap.size pb mb db sb hb' (rowsOf f len) σ' (60 * k + (if tk = true then (kk + 1) else 60 * ((kk + 1)))) ∧ HFr w.heap.size w wx) ∧ BkAt wx BB sa ja sc jc σ.b ∧ BkAt wx BN sa2 ja2 sc2 jc2 σ'.b))
     case atStart => exact ⟨0, by omega, rfl, X8⟩
     case round =>
      clear X8; obtain ⟨j, hj, rfl, XI⟩ := hrel; have HJ : Hid (j + gk = σ.b.stays.length) := hj; have d1 := XI.out.2.1.k.cell 1; clear hj
      by_cases hlj : j < σ.b.stays.length
      ·have hlj' : (j : Int) < (σ.b.stays.length : Int) := by omega
       obtain ⟨sg, soff, rfl, hcj⟩ := XI.out.2.1.stay j hlj; have HV : Hid (σ.b.stays[j]! ∈ σ.b.stays) := by show _ ∈ _; rw [getElem!_pos σ.b.stays j hlj]; exact List.getElem_mem hlj
       obtain ⟨vv, HVV⟩ : ∃ vv, Hid (σ.b.stays[j]! = vv) := ⟨_, rfl⟩
       rw [HVV.out] at hcj HV; obtain ⟨vt, vi, va, vb, vc, vx, vy, vz⟩ := vv; have s0 := hcj 0 _ rfl; have s1 := hcj 1 _ rfl; have s2 := hcj 2 _ rfl; have s3 := hcj 3 _ rfl; have s4 := hcj 4 _ rfl; have s5 := hcj 5 _ rfl; have s6 := hcj 6 _ rfl; have s7 := hcj 7 _ rfl; simp only [Nat.add_zero] at s0; clear hcj HVV
       go_upto_region 25 with fail
       obtain ⟨w9, hw9⟩ : ∃ w9, wr.alloc (.cells #[.int .i64 vt, .int .i64 vi, .int .i64 va, .int .i64 vb, .int .i64 vc, .int .i64 vx, .int .i64 vy, .int .i64 vz] 67) = w9 := ⟨_, rfl⟩
       obtain ⟨XB, hXB⟩ : ∃ XB, wr.heap.size = XB := ⟨_, rfl⟩
       have X9 : Hid ((HX w9 w.heap.size pb mb db sb hb' (rowsOf f len) σ' (60 * k + (if tk = true then (kk + 1) else 60 * ((kk + 1)))) ∧ HFr w.heap.size w w9) ∧ BkAt w9 BB (some ⟨sg, soff, none⟩) ja sc jc σ.b ∧ BkAt w9 BN sa2 ja2 sc2 jc2 σ'.b ∧ Blk w9 XB #[.int .i64 vt, .int .i64 vi, .int .i64 va, .int .i64 vb, .int .i64 vc, .int .i64 vx, .int .i64 vy, .int .i64 vz] 67) := by
        show (_ ∧ _) ∧ _ ∧ _ ∧ _
        rw [← hw9, ← hXB]; have hB := B.new1 wr (.cells #[.int .i64 vt, .int .i64 vi, .int .i64 va, .int .i64 vb, .int .i64 vc, .int .i64 vx, .int .i64 vy, .int .i64 vz] 67); exact ⟨⟨XI.out.1.1.below hB, XI.out.1.2.trans (HFr.of_below hB XI.out.1.1.sz)⟩, XI.out.2.1.below hB, XI.out.2.2.below hB, Blk.new _ _ _⟩
       simp only [hw9, hXB]; clear hw9 hXB s0 s1 s2 s3 s4 s5 s6 s7 d1 XI; have HFN := hidd (X9.out.2.2.1.find vt); have rN := X9.out.2.2.1.k.cell; have rX := X9.out.2.2.2.cell; have hrv := HR6.out.1 _ HV.out; go_wp2_with fail; refine HFN.out.mono ?_; rintro e w10 ⟨rfl, b10⟩; have X10 : Hid ((HX w10 w.heap.size pb mb db sb hb' (rowsOf f len) σ' (60 * k + (if tk = true then (kk + 1) else 60 * ((kk + 1)))) ∧ HFr w.heap.size w w10) ∧ BkAt w10 BB (some ⟨sg, soff, none⟩) ja sc jc σ.b ∧ BkAt w10 BN sa2 ja2 sc2 jc2 σ'.b ∧ Blk w10 XB #[.int .i64 vt, .int .i64 vi, .int .i64 va, .int .i64 vb, .int .i64 vc, .int .i64 vx, .int .i64 vy, .int .i64 vz] 67) := ⟨⟨X9.out.1.1.below b10, X9.out.1.2.trans (HFr.of_below b10 X9.out.1.1.sz)⟩, X9.out.2.1.below b10, X9.out.2.2.1.below b10, X9.out.2.2.2.below b10⟩
       clear HFN rN rX b10 X9
       rcases hrv with hin | ⟨hno, hpl, hli⟩
       ·have h0 : 0 ≤ findI σ'.b.book vt := (findI_nonneg σ'.b.book vt).2 ⟨_, hin, rfl⟩
        obtain ⟨i2, hi2⟩ : ∃ i2 : Nat, findI σ'.b.book vt = (i2 : Int) := ⟨(findI σ'.b.book vt).toNat, by omega⟩
        obtain ⟨g1, g2, g3⟩ := find_stay σ'.b vt h0; have e2 : (findI σ'.b.book vt).toNat = i2 := by omega
        rw [e2] at g1 g2 g3; have HI2 : Hid (i2 < σ'.b.stays.length ∧ σ'.b.stays[i2]! = ⟨vt, vi, va, vb, vc, vx, vy, vz⟩) := ⟨g1, HR6.out.2.wf.sf.st _ g2 _ hin g3⟩; rw [hi2]; have hi2' : (i2 : Int) < (σ'.b.stays.length : Int) := by omega
        have hi20 : ¬ ((i2 : Int) < 0) := by omega
        clear h0 hi2 g1 g2 g3 e2 hin; obtain ⟨sg2, soff2, rfl, _⟩ := X10.out.2.2.1.stay i2 HI2.out.1
        have HCC : ∀ p : BelowW w10, ∀ j u, (Stay.enc ⟨vt, vi, va, vb, vc, vx, vy, vz⟩)[j]? = some u → p.wd.cell? ⟨sg2, soff2 + i2 * 8 + j, none⟩ = some u := fun p => by
         obtain ⟨g', o', e, hc⟩ := (X10.out.2.2.1.below p.hb).stay i2 HI2.out.1; injection e with e; injection e with e1 e2 _; subst e1 e2; rw [HI2.out.2] at hc; exact hc
        have t0 : ∀ p : BelowW w10, p.wd.cell? ⟨sg2, soff2 + i2 * 8, none⟩ = some (.int .i64 vt) := fun p => HCC p 0 _ rfl
        have t1 : ∀ p : BelowW w10, p.wd.cell? ⟨sg2, soff2 + i2 * 8 + 1, none⟩ = some (.int .i64 vi) := fun p => HCC p 1 _ rfl
        have t2 : ∀ p : BelowW w10, p.wd.cell? ⟨sg2, soff2 + i2 * 8 + 2, none⟩ = some (.int .i64 va) := fun p => HCC p 2 _ rfl
        have t3 : ∀ p : BelowW w10, p.wd.cell? ⟨sg2, soff2 + i2 * 8 + 3, none⟩ = some (.int .i64 vb) := fun p => HCC p 3 _ rfl
        have t4 : ∀ p : BelowW w10, p.wd.cell? ⟨sg2, soff2 + i2 * 8 + 4, none⟩ = some (.int .i64 vc) := fun p => HCC p 4 _ rfl
        have t5 : ∀ p : BelowW w10, p.wd.cell? ⟨sg2, soff2 + i2 * 8 + 5, none⟩ = some (.int .i64 vx) := fun p => HCC p 5 _ rfl
        have t6 : ∀ p : BelowW w10, p.wd.cell? ⟨sg2, soff2 + i2 * 8 + 6, none⟩ = some (.int .i64 vy) := fun p => HCC p 6 _ rfl
        have t7 : ∀ p : BelowW w10, p.wd.cell? ⟨sg2, soff2 + i2 * 8 + 7, none⟩ = some (.int .i64 vz) := fun p => HCC p 7 _ rfl
        have f1 := fun p : BelowW w10 => (X10.out.2.2.1.below p.hb).k.cell 1
        have y0 := fun p : BelowW w10 => (X10.out.2.2.2.below p.hb).cell 0
        have y1 := fun p : BelowW w10 => (X10.out.2.2.2.below p.hb).cell 1
        have y2 := fun p : BelowW w10 => (X10.out.2.2.2.below p.hb).cell 2
        have y3 := fun p : BelowW w10 => (X10.out.2.2.2.below p.hb).cell 3
        have y4 := fun p : BelowW w10 => (X10.out.2.2.2.below p.hb).cell 4
        have y5 := fun p : BelowW w10 => (X10.out.2.2.2.below p.hb).cell 5
        have y6 := fun p : BelowW w10 => (X10.out.2.2.2.below p.hb).cell 6
        have y7 := fun p : BelowW w10 => (X10.out.2.2.2.below p.hb).cell 7
        have eS := neqStay_run ⟨vt, vi, va, vb, vc, vx, vy, vz⟩; have gS := guardStay_run; simp only at eS; clear HCC; go_wp2_with fail; refine wp_region_below (by kernel_rfl) (by kernel_rfl) ?_
        repeat (go_big_quiet_step (fail))
        refine wpQuiet_nil ?_; rintro wz ⟨⟨_, NZ⟩, rfl⟩; have XZ : Hid ((HX wz w.heap.size pb mb db sb hb' (rowsOf f len) σ' (60 * k + (if tk = true then (kk + 1) else 60 * ((kk + 1)))) ∧ HFr w.heap.size w wz) ∧ BkAt wz BB (some ⟨sg, soff, none⟩) ja sc jc σ.b ∧ BkAt wz BN (some ⟨sg2, soff2, none⟩) ja2 sc2 jc2 σ'.b) := ⟨⟨X10.out.1.1.below NZ, X10.out.1.2.trans (HFr.of_below NZ X10.out.1.1.sz)⟩, X10.out.2.1.below NZ, X10.out.2.2.1.below NZ⟩
        clear t0 t1 t2 t3 t4 t5 t6 t7 f1 y0 y1 y2 y3 y4 y5 y6 y7 eS gS NZ X10; go_wp2_with fail
        go_roundg (gk - 1)
        case measure => have := HJ.out; omega
        case rel => exact ⟨j + 1, by have := HJ.out; omega, by go_num, XZ⟩
       ·have hneg : findI σ'.b.book vt < 0 := by
         rcases Int.lt_or_le (findI σ'.b.book vt) 0 with h | h
         ·exact h
         ·obtain ⟨u, hu, e⟩ := (findI_nonneg σ'.b.book vt).1 h
          exact absurd e (hno u hu)
        generalize findI σ'.b.book vt = fi at *; have hneg' : ¬ (0 ≤ fi) := by omega
        have hi1 : 1 ≤ vi := HSF.out.i1 _ HV.out
        have HWH : Hid (Calls Tryz.prog 31 #[.pointer (some ⟨pb, 0, none⟩), .int .i64 vi] w10 fun e w' => (∃ x y z, e = .returned (.tuple #[.agg #[.int .i64 x, .int .i64 y, .int .i64 z], .bool false])) ∧ Below w10.heap.size w10 w') := (where_any pb mb _ σ'.s vi w10 X10.out.1.1.p).mono (by
         rintro e w' ⟨x, y, z, b, rfl, hw, hb⟩; have iv := X10.out.1.1.iv
         cases b with
         | false => exact ⟨⟨x, y, z, rfl⟩, hb⟩
         | true =>
           exfalso
           have h1 := (whereB_iff iv.D iv.ok.lv4 (by omega)).1 (hw.iff.1 rfl); have h2 : placedB (C σ'.s) vi = true := h1; rw [hpl] at h2
           cases h2)
        have HLI : Hid ((σ'.s.li == vi) = false) := by show _ = _; rw [beq_eq_false_iff_ne]; exact hli
        have r10 := X10.out.2.2.2.cell; clear hno hpl hli hneg; go_wp2_with fail; refine HWH.out.mono ?_; rintro e w11 ⟨⟨x, y, z, rfl⟩, b11⟩; have hB12 := B.next b11 (B.new1 w11 (.cells #[.int .i64 x, .int .i64 y, .int .i64 z] 65)) b11.size; have X12 : Hid ((HX (w11.alloc (.cells #[.int .i64 x, .int .i64 y, .int .i64 z] 65)) w.heap.size pb mb db sb hb' (rowsOf f len) σ' (60 * k + (if tk = true then (kk + 1) else 60 * ((kk + 1)))) ∧ HFr w.heap.size w (w11.alloc (.cells #[.int .i64 x, .int .i64 y, .int .i64 z] 65))) ∧ BkAt (w11.alloc (.cells #[.int .i64 x, .int .i64 y, .int .i64 z] 65)) BB (some ⟨sg, soff, none⟩) ja sc jc σ.b ∧ BkAt (w11.alloc (.cells #[.int .i64 x, .int .i64 y, .int .i64 z] 65)) BN sa2 ja2 sc2 jc2 σ'.b ∧ Blk (w11.alloc (.cells #[.int .i64 x, .int .i64 y, .int .i64 z] 65)) XB #[.int .i64 vt, .int .i64 vi, .int .i64 va, .int .i64 vb, .int .i64 vc, .int .i64 vx, .int .i64 vy, .int .i64 vz] 67) := ⟨⟨X10.out.1.1.below hB12, X10.out.1.2.trans (HFr.of_below hB12 X10.out.1.1.sz)⟩, X10.out.2.1.below hB12, X10.out.2.2.1.below hB12, X10.out.2.2.2.below hB12⟩
        clear HWH b11 hB12 r10 X10; go_wp2_with fail; obtain ⟨w12, hw12⟩ : ∃ w12, w11.alloc (.cells #[.int .i64 x, .int .i64 y, .int .i64 z] 65) = w12 := ⟨_, rfl⟩
        simp only [hw12] at X12 ⊢; clear hw12; have HSE := hidd (sense_some X12.out.1.1); refine HSE.out.mono ?_; rintro e w13 ⟨⟨x1, x2, x3, q1, q2, q3, rfl⟩, b13⟩; have hB14 := B.next b13 (B.new1 w13 (.cells #[.int .i64 x1, .int .i64 x2, .bool σ'.s.op, .int .i64 x3, .int .i64 σ'.s.li, .int .i64 σ'.s.ba, .bool q1, .bool q2, .bool q3] 46)) b13.size; have X14 := hidd (X12.out.2.2.2.below hB14); have r14 := X14.out.cell; have XZ : Hid ((HX (w13.alloc (.cells #[.int .i64 x1, .int .i64 x2, .bool σ'.s.op, .int .i64 x3, .int .i64 σ'.s.li, .int .i64 σ'.s.ba, .bool q1, .bool q2, .bool q3] 46)) w.heap.size pb mb db sb hb' (rowsOf f len) σ' (60 * k + (if tk = true then (kk + 1) else 60 * ((kk + 1)))) ∧ HFr w.heap.size w (w13.alloc (.cells #[.int .i64 x1, .int .i64 x2, .bool σ'.s.op, .int .i64 x3, .int .i64 σ'.s.li, .int .i64 σ'.s.ba, .bool q1, .bool q2, .bool q3] 46))) ∧ BkAt (w13.alloc (.cells #[.int .i64 x1, .int .i64 x2, .bool σ'.s.op, .int .i64 x3, .int .i64 σ'.s.li, .int .i64 σ'.s.ba, .bool q1, .bool q2, .bool q3] 46)) BB (some ⟨sg, soff, none⟩) ja sc jc σ.b ∧ BkAt (w13.alloc (.cells #[.int .i64 x1, .int .i64 x2, .bool σ'.s.op, .int .i64 x3, .int .i64 σ'.s.li, .int .i64 σ'.s.ba, .bool q1, .bool q2, .bool q3] 46)) BN sa2 ja2 sc2 jc2 σ'.b) := ⟨⟨X12.out.1.1.below hB14, X12.out.1.2.trans (HFr.of_below hB14 X12.out.1.1.sz)⟩, X12.out.2.1.below hB14, X12.out.2.2.1.below hB14⟩
        have hlif := HLI.out
        clear HSE b13 hB14 X12; go_wp2_with fail
        go_roundg (gk - 1)
        case measure => have := HJ.out; omega
        case rel => exact ⟨j + 1, by have := HJ.out; omega, by go_num, XZ⟩
      ·have hlj' : ¬ (j : Int) < (σ.b.stays.length : Int) := by omega
       have hk6 := HK6.out; have X9 := hidd XI.out.1; have HW6 := hidd HR6.out.2; clear XI h16 h16'; go_wp2_with fail
       go_roundg (n - (kk + 1))
       case measure => have := HKK.out; omega
       case rel => exact ⟨kk + 1, hb', σ', by have := HKK.out; omega, by go_num, rfl, hidd X9.out.1, HW6, hidd X9.out.2⟩
    ·have hlk' : ¬ (kk : Int) < (n : Int) := by omega
     have HX9 : Hid (HX wr w.heap.size pb mb db sb hb (rowsOf f len) σ (60 * (k + 1))) := HX1.out.le (by
      have hn := HN.out; have hn1 := hn.1; have hk0 := HKK.out
      cases tk with
      | true => simp only [if_true]; omega
      | false => simp only [Bool.false_eq_true, if_false]; have := hn.2 rfl; omega)
     clear HX1 hkk; go_wp2_with fail
     go_roundg (alen - (k + 1))
     case measure => have := HK.out; omega
     case rel => exact ⟨k + 1, hb, σ, by have := HK.out; omega, by go_num, rfl, HX9, HW1, HF1⟩
  ·have hlt' : ¬ (k : Int) < (alen : Int) := by omega
   clear HA HS HOK hk; go_wp2; go_returns; exact ⟨rfl, HF1.out.b⟩
end Hs
end Go.Proofs.YtopgllmjeliklaaGreatDoor
