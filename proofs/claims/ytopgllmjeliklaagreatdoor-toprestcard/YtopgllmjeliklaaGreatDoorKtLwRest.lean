/- Chapter 11, the law TopRest: its walk. -/
import Derived.Test.YtopgllmjeliklaaGreatDoorKtHsM
import Derived.Test.YtopgllmjeliklaaGreatDoorKtSameBook
namespace Go.Proofs.YtopgllmjeliklaaGreatDoor
open Go.Shelf Go.Lib Go.ChangeShapes Go.WideShapes Go.ChangeAt Go.RowKit
set_option maxRecDepth 100000
set_option linter.unusedSimpArgs false
set_option linter.unusedVariables false
namespace Hs
open Bk Lg Pl Dk Tx Tn Ac
set_option maxHeartbeats 16000000 in
theorem topRest_law (len : Nat) (f : Nat → Int × Int × Int) (lvv : Value) (alen : Nat) (g : Nat → ActC) (v : Value) (more : Int) (w : World) (hs : SizesAt w lvv len f) (ha : ActsAt w v alen g) (G : Glob w) :
  Calls Tryz.prog 4 #[lvv, v, .int .i64 more] w fun e w' => e = .returned (.bool true) ∧ Below w.heap.size w w' := by
 have HW : Hid (Calls Tryz.prog 14 #[] w fun e w' => e = .returned (.bool true) ∧ Below w.heap.size w w') := works_any w G
 have HR : Hid (∀ W, Below w.heap.size w W → Calls Tryz.prog 15 #[lvv, v] W (ReadyPost len f alen g W)) := fun W hB => ready_any len f lvv alen g v W (hs.below hB) (ha.below hB) (G.new hB)
 have HG : Hid (∀ W, HFr w.heap.size w W → Glob W) := fun W hf => G.below hf.b G.hn
 have hbg : Hid (Tryz.prog.globals.size ≤ w.heap.size) := G.hn; have HA : Hid (∀ W, HFr w.heap.size w W → ActsAt W v alen g) := fun W hf => ha.below hf.b
 have HS : Hid (∀ W, HFr w.heap.size w W → SizesAt W lvv len f) := fun W hf => hs.below hf.b
 obtain ⟨a, cap, rfl, hl, hm, hok, hc⟩ := id ha; have HOK : Hid (∀ i, i < alen → (g i).Ok) := hok
 clear hs ha G hc hok hl; unfold maxLen at hm; obtain ⟨r, hr64, hrm⟩ := mask63 more
 go_enter Tryz.func4, Tryz.ntmps4
 go_wp2_with fail; refine HW.out.mono ?_; rintro e w1 ⟨rfl, b1⟩; have X1 : Hid (Below w.heap.size w w1) := b1; have HR1 := hidd (HR.out w1 b1); clear HW HR b1; go_wp2_with fail; refine HR1.out.mono ?_; rintro e w2 ⟨b2, rfl | ⟨hlv, hlight, pb, mb, db, sb, hb, rfl, hx⟩⟩
 ·have X2 : Hid (Below w.heap.size w w2) := B.next X1.out b2 X1.out.size
  clear HR1 b2 X1 HG HA HS HOK; go_wp2; go_returns; exact ⟨rfl, X2.out⟩
 have F2 : Hid (HFr w.heap.size w w2) := (HFr.of_below X1.out (Nat.le_refl _)).trans (HFr.of_below b2 X1.out.size); have H2 : Hid (HX w2 w.heap.size pb mb db sb hb (rowsOf f len) ⟨newS len, ⟨0, [], []⟩, []⟩ (60 * 0)) := hx.down X1.out.size; have hal : Hid ((alen : Int) ≤ 60) := hlight.1; have HLV : Hid (levelsN len f = 0) := hlv; have hln : Hid (1 ≤ len ∧ len ≤ 4) := ⟨(levelsN_zero hlv).1, (levelsN_zero hlv).2.1⟩; have HWS : Hid (Good7 (rowsOf f len) ⟨newS len, ⟨0, [], []⟩, []⟩) := Good7.start f hln.out.1 hln.out.2; clear HR1 b2 X1 hx hlight hlv; go_wp2_with fail
 go_loopg [10, 11] alen (fun q hv9 iv9 wr => ∃ (k : Nat) (hb : Nat) (σ : Sg), k + q = alen ∧ iv9 = .int .i64 k ∧ hv9 = .pointer (some ⟨hb, 0, none⟩) ∧ Hid (HX wr w.heap.size pb mb db sb hb (rowsOf f len) σ (60 * k)) ∧ Hid (Good7 (rowsOf f len) σ) ∧ Hid (HFr w.heap.size w wr))
 case atStart => exact ⟨0, hb, _, by omega, rfl, rfl, H2, HWS, F2⟩
 case round =>
  clear H2 F2 HWS; obtain ⟨k, hb, σ, hk, rfl, rfl, HX1, HW1, HF1⟩ := hrel; have HK : Hid (k + gk = alen) := hk
  by_cases hlt : k < alen
  ·have hlt' : (k : Int) < (alen : Int) := by omega
   have hAc := HA.out wr HF1.out; obtain ⟨a', cap', hv, _, _, _, hc⟩ := hAc; obtain ⟨bq, off, hv2, hbl, hcell⟩ := hc (by omega); injection hv with e1 e2 e3; subst hv2; subst e1 e3; have c0 : wr.cell? ⟨bq, off + k * 12 + 0, none⟩ = some (.string (g k).kind) := hcell k hlt 0 (by omega); have c1 : wr.cell? ⟨bq, off + k * 12 + 1, none⟩ = some (.int .i64 (g k).a) := hcell k hlt 1 (by omega); have c2 : wr.cell? ⟨bq, off + k * 12 + 2, none⟩ = some (.int .i64 (g k).b) := hcell k hlt 2 (by omega); have c3 : wr.cell? ⟨bq, off + k * 12 + 3, none⟩ = some (.int .i64 (g k).c0) := hcell k hlt 3 (by omega); have c4 : wr.cell? ⟨bq, off + k * 12 + 4, none⟩ = some (.int .i64 (g k).c1) := hcell k hlt 4 (by omega); have c5 : wr.cell? ⟨bq, off + k * 12 + 5, none⟩ = some (.int .i64 (g k).c2) := hcell k hlt 5 (by omega); have c6 : wr.cell? ⟨bq, off + k * 12 + 6, none⟩ = some (.int .i64 (g k).c3) := hcell k hlt 6 (by omega); have c7 : wr.cell? ⟨bq, off + k * 12 + 7, none⟩ = some (.string (g k).s) := hcell k hlt 7 (by omega); have c8 : wr.cell? ⟨bq, off + k * 12 + 8, none⟩ = some (.int .u64 (g k).k) := hcell k hlt 8 (by omega); have c9 : wr.cell? ⟨bq, off + k * 12 + 9, none⟩ = some (.int .i64 (g k).last) := hcell k hlt 9 (by omega); have c10 : wr.cell? ⟨bq, off + k * 12 + 10, none⟩ = some (.slice (g k).sa (g k).sl (g k).sc) := hcell k hlt 10 (by omega); have c11 : wr.cell? ⟨bq, off + k * 12 + 11, none⟩ = some (.slice (g k).ja (g k).jl (g k).jc) := hcell k hlt 11 (by omega); have hx := HOK.out k hlt; have HPL := hidd (play_any w.heap.size pb mb db sb hb len f lvv σ (60 * k) (g k) wr HX1.out (HS.out wr HF1.out) HLV.out (by have := hal.out; unfold maxLen; omega) hx (HG.out wr HF1.out) hbg.out); clear hcell hc hk hx; simp only [Nat.add_zero] at c0; go_wp2_with fail; refine HPL.out.mono ?_; rintro e w3 ⟨hb', σ', rfl, f3, hp, hx3⟩; have HX3 : Hid (HX w3 w.heap.size pb mb db sb hb' (rowsOf f len) σ' (60 * (k + 1))) := by show HX _ _ _ _ _ _ _ _ _ _; rw [Nat.mul_succ]; exact hx3
   have HW3 : Hid (Good7 (rowsOf f len) σ') := HW1.out.play HX3.out.ok hp; have HF3 : Hid (HFr w.heap.size w w3) := HF1.out.trans f3; clear HPL f3 hp hx3 HX1 HW1 HF1 c0 c1 c2 c3 c4 c5 c6 c7 c8 c9 c10 c11 hbl; go_wp2_with fail
   go_roundg (gk - 1)
   case measure => have := HK.out; omega
   case rel => exact ⟨k + 1, hb', σ', by have := HK.out; omega, by go_num, rfl, HX3, HW3, HF3⟩
  ·have hlt' : ¬ (k : Int) < (alen : Int) := by omega
   have hk60 : Hid (k ≤ 60) := by show k ≤ 60; have := hal.out; have := HK.out; omega
   have HST := hidd (settle_any w.heap.size pb mb db sb hb (60 * k) (rowsOf f len) σ wr HX1.out (by have := hk60.out; unfold maxLen; omega) (HG.out wr HF1.out) hbg.out); clear hk HA HOK; go_wp2_with fail; refine HST.out.mono ?_; rintro e w3 ⟨rfl, f3, σ2, hend, hx3⟩; have HF3 : Hid (HFr w.heap.size w w3) := HF1.out.trans f3; have HX3 : Hid (HX w3 w.heap.size pb mb db sb hb (rowsOf f len) σ2 (60 * k + 2500)) := hx3
   have HE3 : Hid (Fin σ2 ∧ Wf len σ2 ∧ Settled σ2.b σ2.s) := by
    have w0 := HW1.out.wf; have o0 := HW1.out.og; rw [rowsOf_len] at w0 o0 hend; exact hend.fin w0 o0
   clear HST f3 hend hx3 HX1 HW1 HF1; obtain ⟨x1, x2, x3, x4, x5, y1, y2, z1, z2, z3, HSV⟩ : ∃ x1 x2 x3 x4 x5 y1 y2 z1 z2 z3, Hid (senseV σ2.s = .agg #[.int .i64 x1, .int .i64 x2, .bool y1, .int .i64 x3, .int .i64 x4, .int .i64 x5, .bool z1, .bool z2, .bool z3] ∧ y2 = y1) := ⟨_, _, _, _, _, _, _, _, _, _, rfl, rfl⟩
   have HSE : Hid (∀ n W, HX W w.heap.size pb mb db sb hb (rowsOf f len) σ2 n → Calls Tryz.prog 19 #[.pointer (some ⟨pb, 0, none⟩)] W fun e w' => e = .returned (.agg #[.int .i64 x1, .int .i64 x2, .bool y1, .int .i64 x3, .int .i64 x4, .int .i64 x5, .bool z1, .bool z2, .bool z3]) ∧ Below W.heap.size W w') := fun n W h => by
    have := sense_any pb mb n σ2.s W h.p h.iv.ok
    rwa [HSV.out.1] at this
   have HS3 := hidd (HSE.out _ w3 HX3.out); go_wp2_with fail; refine HS3.out.mono ?_; rintro e w4 ⟨rfl, b4⟩; go_wp2_with fail; obtain ⟨wx, hwx⟩ : ∃ wx, w4.alloc (.cells #[.int .i64 x1, .int .i64 x2, .bool y1, .int .i64 x3, .int .i64 x4, .int .i64 x5, .bool z1, .bool z2, .bool z3] 46) = wx := ⟨_, rfl⟩
   have X4 : Hid (HX wx w.heap.size pb mb db sb hb (rowsOf f len) σ2 (60 * k + 2500) ∧ HFr w.heap.size w wx ∧ Blk wx w4.heap.size #[.int .i64 x1, .int .i64 x2, .bool y1, .int .i64 x3, .int .i64 x4, .int .i64 x5, .bool z1, .bool z2, .bool z3] 46) := by
    show _ ∧ _ ∧ _
    rw [← hwx]; have hB := B.next b4 (B.new1 w4 (.cells #[.int .i64 x1, .int .i64 x2, .bool y1, .int .i64 x3, .int .i64 x4, .int .i64 x5, .bool z1, .bool z2, .bool z3] 46)) b4.size; exact ⟨HX3.out.below hB, HF3.out.trans (HFr.of_below hB HX3.out.sz), Blk.new _ _ _⟩
   simp only [hwx]; have HB4 := hidd (bookX X4.out.1); clear HS3 b4 HX3 HF3 hwx; refine HB4.out.mono ?_; rintro e w5 ⟨vs, vj, rfl, hat, b5⟩; obtain ⟨K0, hK0⟩ : ∃ K0, wx.heap.size = K0 := ⟨_, rfl⟩
   rw [hK0] at hat
   obtain ⟨sa, sc, ja, jc, hvs, hvj, _⟩ := own_at2 (last := σ2.b.last) hat
   subst hvs hvj; obtain ⟨SB, hSB⟩ : ∃ SB, w4.heap.size = SB := ⟨_, rfl⟩
   obtain ⟨BB, hBB⟩ : ∃ BB, w5.heap.size = BB := ⟨_, rfl⟩
   go_wp2_with fail; obtain ⟨w6, hw6⟩ : ∃ w6, w5.alloc (.cells #[.int .i64 σ2.b.last, .slice sa σ2.b.stays.length sc, .slice ja σ2.b.jobs.length jc] 39) = w6 := ⟨_, rfl⟩
   have X6 : Hid (HX w6 w.heap.size pb mb db sb hb (rowsOf f len) σ2 (60 * k + 2500 + 0) ∧ HFr w.heap.size w w6 ∧ Blk w6 SB #[.int .i64 x1, .int .i64 x2, .bool y1, .int .i64 x3, .int .i64 x4, .int .i64 x5, .bool z1, .bool z2, .bool z3] 46 ∧ (Blk w6 BB #[.int .i64 σ2.b.last, .slice sa σ2.b.stays.length sc, .slice ja σ2.b.jobs.length jc] 39 ∧ OwnBook w6 K0 (.slice sa σ2.b.stays.length sc) (.slice ja σ2.b.jobs.length jc) σ2.b.stays σ2.b.jobs)) := by
    show _ ∧ _ ∧ _ ∧ _
    rw [← hw6, ← hSB, ← hBB]; have hB := B.next b5 (B.new1 w5 (.cells #[.int .i64 σ2.b.last, .slice sa σ2.b.stays.length sc, .slice ja σ2.b.jobs.length jc] 39)) b5.size; exact ⟨X4.out.1.below hB, X4.out.2.1.trans (HFr.of_below hB X4.out.1.sz), X4.out.2.2.below hB, Blk.new _ _ _, hat.below (B.new1 _ _)⟩
   (try simp only [hw6, hSB, hBB])
   clear HB4 b5 hat X4 hw6 hSB hBB HS hK0; have HKK : Hid (k ≤ 60) := hk60.out; have hgs : σ2.gs = [] := HE3.out.1.gs
   go_loopg [14] r (fun q iv9 wr => ∃ (i : Nat), i + q = r ∧ iv9 = .int .i64 i ∧ Hid (HX wr w.heap.size pb mb db sb hb (rowsOf f len) σ2 (60 * k + 2500 + i) ∧ HFr w.heap.size w wr ∧ Blk wr SB #[.int .i64 x1, .int .i64 x2, .bool y1, .int .i64 x3, .int .i64 x4, .int .i64 x5, .bool z1, .bool z2, .bool z3] 46 ∧ (Blk wr BB #[.int .i64 σ2.b.last, .slice sa σ2.b.stays.length sc, .slice ja σ2.b.jobs.length jc] 39 ∧ OwnBook wr K0 (.slice sa σ2.b.stays.length sc) (.slice ja σ2.b.jobs.length jc) σ2.b.stays σ2.b.jobs)))
   case atStart => exact ⟨0, by omega, rfl, X6⟩
   case round =>
    clear X6; obtain ⟨i, hi, rfl, XI⟩ := hrel; have HI : Hid (i + gk = r) := hi
    by_cases hlr : i < r
    ·have hlr' : (i : Int) < (r : Int) := by omega
     have HT := hidd (tickX XI.out.1 (by have := HKK.out; unfold maxLen; omega) (HG.out wr XI.out.2.1) hbg.out); clear hi; go_wp2_with fail; refine HT.out.mono ?_; rintro e w7 ⟨rfl, f7, σ7, ht, hx7⟩; have e7 : σ7 = σ2 := HE3.out.1.tick HE3.out.2.1 (by rw [← rowsOf_len f len]; exact ht); subst e7
     have XJ : Hid (HX w7 w.heap.size pb mb db sb hb (rowsOf f len) σ7 (60 * k + 2500 + (i + 1)) ∧ HFr w.heap.size w w7 ∧ Blk w7 SB #[.int .i64 x1, .int .i64 x2, .bool y1, .int .i64 x3, .int .i64 x4, .int .i64 x5, .bool z1, .bool z2, .bool z3] 46 ∧ (Blk w7 BB #[.int .i64 σ7.b.last, .slice sa σ7.b.stays.length sc, .slice ja σ7.b.jobs.length jc] 39 ∧ OwnBook w7 K0 (.slice sa σ7.b.stays.length sc) (.slice ja σ7.b.jobs.length jc) σ7.b.stays σ7.b.jobs)) := by
      refine ⟨hx7, XI.out.2.1.trans f7, f7.far _ _ _ (by decide) (by decide) (by decide) (by decide) (by decide) (by decide) XI.out.2.2.1, f7.far _ _ _ (by decide) (by decide) (by decide) (by decide) (by decide) (by decide) XI.out.2.2.2.1, ownFr XI.out.2.2.2.2 f7⟩
     clear HT f7 ht hx7 XI; go_wp2_with fail
     go_roundg (gk - 1)
     case measure => have := HI.out; omega
     case rel => exact ⟨i + 1, by have := HI.out; omega, by go_num, XJ⟩
    ·have hlr' : ¬ (i : Int) < (r : Int) := by omega
     have HSR : Hid (∀ W, Below wr.heap.size wr W → Calls Tryz.prog 19 #[.pointer (some ⟨pb, 0, none⟩)] W fun e w' => e = .returned (.agg #[.int .i64 x1, .int .i64 x2, .bool y1, .int .i64 x3, .int .i64 x4, .int .i64 x5, .bool z1, .bool z2, .bool z3]) ∧ Below W.heap.size W w') := fun W hB => HSE.out _ W (XI.out.1.below hB)
     have HBR : Hid (∀ W, Below wr.heap.size wr W → Calls Tryz.prog 20 #[.pointer (some ⟨hb, 0, none⟩)] W fun e w' => ∃ sa sc ja jc, e = .returned (.agg #[.int .i64 σ2.b.last, .slice sa σ2.b.stays.length sc, .slice ja σ2.b.jobs.length jc]) ∧ Book.At ⟨σ2.b.last, sa, sc, ja, jc, σ2.b.stays, σ2.b.jobs⟩ w' ∧ Below W.heap.size W w') := fun W hB => bookX2 (XI.out.1.below hB)
     have HGR : Hid (∀ W, Below wr.heap.size wr W → Calls Tryz.prog 23 #[.pointer (some ⟨hb, 0, none⟩)] W fun e w' => ∃ a c, e = .returned (.slice a 0 c) ∧ Below W.heap.size W w') := fun W hB => by
      have := goalsX (XI.out.1.below hB)
      rwa [hgs] at this
     have HSA : Hid (∀ W, Below wr.heap.size wr W → Book.At ⟨σ2.b.last, sa, sc, ja, jc, σ2.b.stays, σ2.b.jobs⟩ W) := fun W hB => ownBk (XI.out.2.2.2.2.below hB)
     have HC9 : Hid (∀ W, Below wr.heap.size wr W → (∀ o, W.cell? ⟨SB, o, none⟩ = #[.int .i64 x1, .int .i64 x2, .bool y1, .int .i64 x3, .int .i64 x4, .int .i64 x5, .bool z1, .bool z2, .bool z3][o]?) ∧ ∀ o, W.cell? ⟨BB, o, none⟩ = #[.int .i64 σ2.b.last, .slice sa σ2.b.stays.length sc, .slice ja σ2.b.jobs.length jc][o]?) := fun W hB => ⟨(XI.out.2.2.1.below hB).cell, (XI.out.2.2.2.1.below hB).cell⟩
     have HFW : Hid (∀ W, Below wr.heap.size wr W → Below w.heap.size w W) := fun W hB => B.next XI.out.2.1.b hB XI.out.1.sz
     have D0 : Hid (Below wr.heap.size wr wr.drew) := (Below.refl _ _).drew; obtain ⟨d1, d2⟩ := HC9.out _ D0.out; clear hi XI HSE HE3 HG HI hgs; generalize σ2.b.last = bl at *; generalize σ2.b.stays = bs at *; generalize σ2.b.jobs = bj at *; go_wp2_with fail
     go_region_with (first
      | (go_at_call 19; refine (HSR.out _ D0.out).mono ?_; rintro e wa ⟨rfl, ba⟩; have HA1 : Hid (Below wr.heap.size wr wa) := B.next D0.out ba D0.out.size; obtain ⟨da1, da2⟩ := HC9.out _ HA1.out)
      | (go_at_call 20; refine (HBR.out _ HA1.out).mono ?_; rintro e wb ⟨sa2, sc2, ja2, jc2, rfl, hat2, bb⟩; have HA2 : Hid (Below wr.heap.size wr wb) := B.next HA1.out bb HA1.out.size; obtain ⟨db1, db2⟩ := HC9.out _ HA2.out; have HSB := hidd (sameBook_any bl bs bj sa2 ja2 sa ja sc2 jc2 sc jc wb hat2 (HSA.out _ HA2.out)))
      | (go_at_call 22; refine HSB.out.mono ?_; rintro e wc ⟨rfl, bc⟩; have HA3 : Hid (Below wr.heap.size wr wc) := B.next HA2.out bc HA2.out.size)
      | (go_at_call 23; refine (HGR.out _ HA3.out).mono ?_; rintro e wd ⟨ga, gc, rfl, bd⟩; have HA4 : Hid (Below wr.heap.size wr wd) := B.next HA3.out bd HA3.out.size))
     all_goals (go_wp2; go_returns; exact ⟨B.ret_bool (by simp), HFW.out _ HA4.out⟩)
end Hs
end Go.Proofs.YtopgllmjeliklaaGreatDoor
