/- Chapter 11, the law TopHome: its walk. -/
import Derived.Test.YtopgllmjeliklaaGreatDoorKhHsM
import Derived.Test.YtopgllmjeliklaaGreatDoorKhHvK
namespace Go.Proofs.YtopgllmjeliklaaGreatDoor
open Go.Shelf Go.Lib Go.ChangeShapes Go.WideShapes Go.ChangeAt Go.RowKit
set_option maxRecDepth 100000
set_option linter.unusedSimpArgs false
set_option linter.unusedVariables false
namespace Hs
open Bk Lg Pl Dk Tx Tn Ac
set_option maxHeartbeats 16000000 in
theorem topHome_law (len : Nat) (f : Nat → Int × Int × Int) (lvv : Value) (alen : Nat) (g : Nat → ActC) (v : Value) (w : World) (hs : SizesAt w lvv len f) (ha : ActsAt w v alen g) (G : Glob w) :
  Calls Tryz.prog 9 #[lvv, v] w fun e w' => e = .returned (.bool true) ∧ Below w.heap.size w w' := by
 have HW : Hid (Calls Tryz.prog 14 #[] w fun e w' => e = .returned (.bool true) ∧ Below w.heap.size w w') := works_any w G
 have HR : Hid (∀ W, Below w.heap.size w W → Calls Tryz.prog 15 #[lvv, v] W (ReadyPost len f alen g W)) := fun W hB => ready_any len f lvv alen g v W (hs.below hB) (ha.below hB) (G.new hB)
 have HG : Hid (∀ W, HFr w.heap.size w W → Glob W) := fun W hf => G.below hf.b G.hn
 have hbg : Hid (Tryz.prog.globals.size ≤ w.heap.size) := G.hn; have HA : Hid (∀ W, HFr w.heap.size w W → ActsAt W v alen g) := fun W hf => ha.below hf.b
 have HS : Hid (∀ W, HFr w.heap.size w W → SizesAt W lvv len f) := fun W hf => hs.below hf.b
 obtain ⟨a, cap, rfl, hl, hm, hok, hc⟩ := id ha; have HOK : Hid (∀ i, i < alen → (g i).Ok) := hok
 clear hs ha G hc hok hl; unfold maxLen at hm; obtain ⟨la, lcap, rfl, hll, hlm, _⟩ := HS.out w (HFr.refl _ _); unfold maxLen at hlm
 go_enter Tryz.func9, Tryz.ntmps9
 go_wp2_with fail; refine HW.out.mono ?_; rintro e w1 ⟨rfl, b1⟩; have X1 : Hid (Below w.heap.size w w1) := b1; have HR1 := hidd (HR.out w1 b1); clear HW HR b1; go_wp2_with fail; refine HR1.out.mono ?_; rintro e w2 ⟨b2, rfl | ⟨hlv, hlight, pb, mb, db, sb, hb, rfl, hx⟩⟩
 ·have X2 : Hid (Below w.heap.size w w2) := B.next X1.out b2 X1.out.size
  clear HR1 b2 X1 HG HA HS HOK; go_wp2; go_returns; exact ⟨rfl, X2.out⟩
 have F2 : Hid (HFr w.heap.size w w2) := (HFr.of_below X1.out (Nat.le_refl _)).trans (HFr.of_below b2 X1.out.size); have H2 : Hid (HX w2 w.heap.size pb mb db sb hb (rowsOf f len) ⟨newS len, ⟨0, [], []⟩, []⟩ (60 * 0)) := hx.down X1.out.size; have hal : Hid ((alen : Int) ≤ 60) := hlight.1; have HLV : Hid (levelsN len f = 0) := hlv; have hln : Hid (1 ≤ len ∧ len ≤ 4) := ⟨(levelsN_zero hlv).1, (levelsN_zero hlv).2.1⟩; have HWS : Hid (Good7 (rowsOf f len) ⟨newS len, ⟨0, [], []⟩, []⟩) := Good7.start f hln.out.1 hln.out.2; clear HR1 b2 X1 hx hlight hlv; go_wp2_with fail
 go_loopg [8, 9, 10, 11, 12, 13] alen (fun q hv9 iv9 p10 p11 p12 p13 wr => ∃ (k : Nat) (hb : Nat) (σ : Sg), k + q = alen ∧ iv9 = .int .i64 k ∧ hv9 = .pointer (some ⟨hb, 0, none⟩) ∧ Hid (HX wr w.heap.size pb mb db sb hb (rowsOf f len) σ (60 * k)) ∧ Hid (Good7 (rowsOf f len) σ) ∧ Hid (HFr w.heap.size w wr) ∧ Hid (Fit (rowsOf f len) σ.b))
 case atStart => exact ⟨0, hb, _, by omega, rfl, rfl, H2, HWS, F2, Fit.start _⟩
 case round =>
  clear H2 F2 HWS; obtain ⟨k, hb, σ, hk, rfl, rfl, HX1, HW1, HF1, HT1⟩ := hrel; have HK : Hid (k + gk = alen) := hk
  by_cases hlt : k < alen
  ·have hlt' : (k : Int) < (alen : Int) := by omega
   have hAc := HA.out wr HF1.out; obtain ⟨a', cap', hv, _, _, _, hc⟩ := hAc; obtain ⟨bq, off, hv2, hbl, hcell⟩ := hc (by omega); injection hv with e1 e2 e3; subst hv2; subst e1 e3; have c0 : wr.cell? ⟨bq, off + k * 12 + 0, none⟩ = some (.string (g k).kind) := hcell k hlt 0 (by omega); have c1 : wr.cell? ⟨bq, off + k * 12 + 1, none⟩ = some (.int .i64 (g k).a) := hcell k hlt 1 (by omega); have c2 : wr.cell? ⟨bq, off + k * 12 + 2, none⟩ = some (.int .i64 (g k).b) := hcell k hlt 2 (by omega); have c3 : wr.cell? ⟨bq, off + k * 12 + 3, none⟩ = some (.int .i64 (g k).c0) := hcell k hlt 3 (by omega); have c4 : wr.cell? ⟨bq, off + k * 12 + 4, none⟩ = some (.int .i64 (g k).c1) := hcell k hlt 4 (by omega); have c5 : wr.cell? ⟨bq, off + k * 12 + 5, none⟩ = some (.int .i64 (g k).c2) := hcell k hlt 5 (by omega); have c6 : wr.cell? ⟨bq, off + k * 12 + 6, none⟩ = some (.int .i64 (g k).c3) := hcell k hlt 6 (by omega); have c7 : wr.cell? ⟨bq, off + k * 12 + 7, none⟩ = some (.string (g k).s) := hcell k hlt 7 (by omega); have c8 : wr.cell? ⟨bq, off + k * 12 + 8, none⟩ = some (.int .u64 (g k).k) := hcell k hlt 8 (by omega); have c9 : wr.cell? ⟨bq, off + k * 12 + 9, none⟩ = some (.int .i64 (g k).last) := hcell k hlt 9 (by omega); have c10 : wr.cell? ⟨bq, off + k * 12 + 10, none⟩ = some (.slice (g k).sa (g k).sl (g k).sc) := hcell k hlt 10 (by omega); have c11 : wr.cell? ⟨bq, off + k * 12 + 11, none⟩ = some (.slice (g k).ja (g k).jl (g k).jc) := hcell k hlt 11 (by omega); have hx := HOK.out k hlt; have HPL := hidd (play_any w.heap.size pb mb db sb hb len f (.slice la len lcap) σ (60 * k) (g k) wr HX1.out (HS.out wr HF1.out) HLV.out (by have := hal.out; unfold maxLen; omega) hx (HG.out wr HF1.out) hbg.out); clear hcell hc hk hx; simp only [Nat.add_zero] at c0; go_wp2_with fail; refine HPL.out.mono ?_; rintro e w3 ⟨hb', σ', rfl, f3, hp, hx3⟩; have HX3 : Hid (HX w3 w.heap.size pb mb db sb hb' (rowsOf f len) σ' (60 * (k + 1))) := by show HX _ _ _ _ _ _ _ _ _ _; rw [Nat.mul_succ]; exact hx3
   have HW3 : Hid (Good7 (rowsOf f len) σ') := HW1.out.play HX3.out.ok hp; have HT3 : Hid (Fit (rowsOf f len) σ'.b) := Fit.play HW1.out.wf HT1.out hp; have HF3 : Hid (HFr w.heap.size w w3) := HF1.out.trans f3; clear HPL HT1 f3 hp hx3 HX1 HW1 HF1 c0 c1 c2 c3 c4 c5 c6 c7 c8 c9 c10 c11 hbl; have HBK := hidd (bookX2 HX3.out); go_wp2_with fail; refine HBK.out.mono ?_; rintro e w4 ⟨sa, sc, ja, jc, rfl, hat, b4⟩; obtain ⟨BB, hBB⟩ : ∃ BB, w4.heap.size = BB := ⟨_, rfl⟩
   have hB5 := B.next b4 (B.new1 w4 (.cells #[.int .i64 σ'.b.last, .slice sa σ'.b.stays.length sc, .slice ja σ'.b.jobs.length jc] 39)) b4.size; have X5 : Hid (HX (w4.alloc (.cells #[.int .i64 σ'.b.last, .slice sa σ'.b.stays.length sc, .slice ja σ'.b.jobs.length jc] 39)) w.heap.size pb mb db sb hb' (rowsOf f len) σ' (60 * (k + 1)) ∧ HFr w.heap.size w (w4.alloc (.cells #[.int .i64 σ'.b.last, .slice sa σ'.b.stays.length sc, .slice ja σ'.b.jobs.length jc] 39)) ∧ BkAt (w4.alloc (.cells #[.int .i64 σ'.b.last, .slice sa σ'.b.stays.length sc, .slice ja σ'.b.jobs.length jc] 39)) w4.heap.size sa ja sc jc σ'.b) := ⟨HX3.out.below hB5, HF3.out.trans (HFr.of_below hB5 HX3.out.sz), Blk.new _ _ _, hat.below (B.new1 _ _)⟩
   have HCK : Hid (Calls Tryz.prog 32 #[.agg #[.int .i64 σ'.b.last, .slice sa σ'.b.stays.length sc, .slice ja σ'.b.jobs.length jc], .int .i64 len] (w4.alloc (.cells #[.int .i64 σ'.b.last, .slice sa σ'.b.stays.length sc, .slice ja σ'.b.jobs.length jc] 39)) fun e w' => e = .returned .nilIface ∧ Below (w4.alloc (.cells #[.int .i64 σ'.b.last, .slice sa σ'.b.stays.length sc, .slice ja σ'.b.jobs.length jc] 39)).heap.size (w4.alloc (.cells #[.int .i64 σ'.b.last, .slice sa σ'.b.stays.length sc, .slice ja σ'.b.jobs.length jc] 39)) w') := by
    have := bookCheck_any ⟨σ'.b.last, sa, sc, ja, jc, σ'.b.stays, σ'.b.jobs⟩ len _ X5.out.2.2.a hln.out.1 hln.out.2; have e0 : bookN ⟨σ'.b.last, sa, sc, ja, jc, σ'.b.stays, σ'.b.jobs⟩ len = 0 := (bookN_zero _ len).2 (by have := HX3.out.ok; rwa [rowsOf_len] at this); rw [e0] at this; exact this
   clear HBK b4 hat hB5; have rB := X5.out.2.2.k.cell; go_wp2_with fail; refine HCK.out.mono ?_; rintro e w6 ⟨rfl, b6⟩
   have X6 : Hid (HX w6 w.heap.size pb mb db sb hb' (rowsOf f len) σ' (60 * (k + 1)) ∧ HFr w.heap.size w w6 ∧ BkAt w6 BB sa ja sc jc σ'.b) := by
    show _ ∧ _ ∧ _
    rw [← hBB]; exact ⟨X5.out.1.below b6, X5.out.2.1.trans (HFr.of_below b6 X5.out.1.sz), X5.out.2.2.below b6⟩
   simp only [hBB]; clear HCK b6 X5 hBB rB HX3 HF3; go_wp2_with fail
   go_loopg [11, 12, 13] σ'.b.stays.length (fun q iv9 p12 p13 wr => ∃ (i : Nat), i + q = σ'.b.stays.length ∧ iv9 = .int .i64 i ∧ Hid (HX wr w.heap.size pb mb db sb hb' (rowsOf f len) σ' (60 * (k + 1)) ∧ HFr w.heap.size w wr ∧ BkAt wr BB sa ja sc jc σ'.b))
   case atStart => exact ⟨0, by omega, rfl, X6⟩
   case round =>
    clear X6; obtain ⟨i, hi, rfl, XI⟩ := hrel; have HI : Hid (i + gk = σ'.b.stays.length) := hi; have rB := XI.out.2.2.k.cell; have h16 : σ'.b.stays.length ≤ 16 := XI.out.1.ok.fewS; clear hi
    by_cases hli : i < σ'.b.stays.length
    ·have hli' : (i : Int) < (σ'.b.stays.length : Int) := by omega
     obtain ⟨sg, soff, rfl, hcj⟩ := XI.out.2.2.stay i hli; have hv : σ'.b.stays[i]! ∈ σ'.b.stays := by rw [getElem!_pos σ'.b.stays i hli]; exact List.getElem_mem hli
     have wf' : Wf len σ' := by have := HW3.out.wf; rwa [rowsOf_len] at this
     have hrr := (wf'.sf.r _ hv); have hho := home_own wf' hv; have hfit := HT3.out _ hv; have s0 := hcj 0 _ rfl; have s1 := hcj 1 _ rfl; have s2 := hcj 2 _ rfl; have s3 := hcj 3 _ rfl; have s4 := hcj 4 _ rfl; have s5 := hcj 5 _ rfl; have s6 := hcj 6 _ rfl; have s7 := hcj 7 _ rfl; simp only [Nat.add_zero] at s0; have HXV : Hid (1 ≤ σ'.b.stays[i]!.x ∧ σ'.b.stays[i]!.x ≤ len) := ⟨hrr.1.1.1, hrr.2⟩; have HAT0 : Hid (∀ W, Below wr.heap.size wr W → Calls Tryz.prog 34 #[.pointer (some ⟨pb, 0, none⟩), .agg #[.int .i64 σ'.b.stays[i]!.x, .int .i64 σ'.b.stays[i]!.y, .int .i64 σ'.b.stays[i]!.z]] W fun e w' => e = .returned (.int .i64 (carOf σ'.s.D σ'.b.stays[i]!.x σ'.b.stays[i]!.y σ'.b.stays[i]!.z)) ∧ Below W.heap.size W w') := fun W hB => at_any pb mb _ σ'.s.D _ _ _ W (XI.out.1.below hB).p.c7 (XI.out.1.below hB).p.cars (wfR hrr.1).1 (wfR hrr.1).2.1 (wfR hrr.1).2.2
     have HHO : Hid (carOf σ'.s.D σ'.b.stays[i]!.x σ'.b.stays[i]!.y σ'.b.stays[i]!.z = 0 ∨ carOf σ'.s.D σ'.b.stays[i]!.x σ'.b.stays[i]!.y σ'.b.stays[i]!.z = σ'.b.stays[i]!.id) := hho
     have HFT : Hid (fitsB σ'.b.stays[i]!.a σ'.b.stays[i]!.b σ'.b.stays[i]!.c (f (σ'.b.stays[i]!.x - 1).toNat).1 (f (σ'.b.stays[i]!.x - 1).toNat).2.1 (f (σ'.b.stays[i]!.x - 1).toNat).2.2 = true) := by
      have e : fOf (rowsOf f len) (σ'.b.stays[i]!.x - 1).toNat = f (σ'.b.stays[i]!.x - 1).toNat := by
       unfold fOf rowsOf; have hlt : (σ'.b.stays[i]!.x - 1).toNat < len := by have := HXV.out; omega
       rw [getElem!_pos _ _ (by simpa using hlt)]
       simp
      rw [e] at hfit; exact hfit
     have HSZ : Hid (∀ W, Below wr.heap.size wr W → SizesAt W (.slice la len lcap) len f) := fun W hB => (HS.out wr XI.out.2.1).below hB
     have HXI : Hid (∀ W, Below wr.heap.size wr W → HX W w.heap.size pb mb db sb hb' (rowsOf f len) σ' (60 * (k + 1)) ∧ HFr w.heap.size w W ∧ BkAt W BB (some ⟨sg, soff, none⟩) ja sc jc σ'.b) := fun W hB => ⟨XI.out.1.below hB, XI.out.2.1.trans (HFr.of_below hB XI.out.1.sz), XI.out.2.2.below hB⟩
     clear hcj hv wf' hrr hho hfit XI HT3; generalize carOf σ'.s.D σ'.b.stays[i]!.x σ'.b.stays[i]!.y σ'.b.stays[i]!.z = cat at *; generalize σ'.b.stays[i]!.t = vt at *; generalize σ'.b.stays[i]!.id = vi at *; generalize σ'.b.stays[i]!.a = va at *; generalize σ'.b.stays[i]!.b = vb at *; generalize σ'.b.stays[i]!.c = vc at *; generalize σ'.b.stays[i]!.x = vx at *; generalize σ'.b.stays[i]!.y = vy at *; generalize σ'.b.stays[i]!.z = vz at *; obtain ⟨xi, hxi⟩ : ∃ xi : Nat, vx = (xi : Int) + 1 := ⟨(vx - 1).toNat, by have := HXV.out; omega⟩
     subst hxi; have hxl : (xi : Int) < (len : Int) := by have := HXV.out; omega
     have hxl0 : ¬ ((xi : Int) < 0) := by omega
     have ex : ((xi : Int) + 1 - 1).toNat = xi := by omega
     rw [ex] at HFT
     go_upto_region 18 with fail
     obtain ⟨w7, hw7⟩ : ∃ w7, wr.alloc (.cells #[.int .i64 vt, .int .i64 vi, .int .i64 va, .int .i64 vb, .int .i64 vc, .int .i64 ((xi : Int) + 1), .int .i64 vy, .int .i64 vz] 67) = w7 := ⟨_, rfl⟩
     obtain ⟨XB, hXB⟩ : ∃ XB, wr.heap.size = XB := ⟨_, rfl⟩
     have X7 : Hid (Below wr.heap.size wr w7 ∧ Blk w7 XB #[.int .i64 vt, .int .i64 vi, .int .i64 va, .int .i64 vb, .int .i64 vc, .int .i64 ((xi : Int) + 1), .int .i64 vy, .int .i64 vz] 67) := by
      show _ ∧ _
      rw [← hw7, ← hXB]; exact ⟨B.new1 _ _, Blk.new _ _ _⟩
     obtain ⟨la', lcap', elv, _, _, hlc⟩ := HSZ.out w7 X7.out.1; obtain ⟨lb, loff, hla, _, _⟩ := hlc (by omega); injection elv with e1 _ e3; rw [hla] at e1; subst e1
     have HLC : ∀ p : BelowW w7, p.wd.cell? ⟨lb, loff + xi * 3, none⟩ = some (.int .i64 (f xi).1) ∧ p.wd.cell? ⟨lb, loff + xi * 3 + 1, none⟩ = some (.int .i64 (f xi).2.1) ∧ p.wd.cell? ⟨lb, loff + xi * 3 + 2, none⟩ = some (.int .i64 (f xi).2.2) := fun p => by
      obtain ⟨la2, lcap2, elv2, _, _, hlc2⟩ := HSZ.out p.wd (B.next X7.out.1 p.hb X7.out.1.size); obtain ⟨lb2, loff2, hla2, _, hl2⟩ := hlc2 (by omega); injection elv2 with e1 _ _; rw [hla2] at e1; injection e1 with e1; injection e1 with e4 e5 _; subst e4 e5; exact hl2 xi (by omega)
     have l0 := fun p : BelowW w7 => (HLC p).1
     have l1 := fun p : BelowW w7 => (HLC p).2.1
     have l2 := fun p : BelowW w7 => (HLC p).2.2
     have y2 := fun p : BelowW w7 => (X7.out.2.below p.hb).cell 2
     have y3 := fun p : BelowW w7 => (X7.out.2.below p.hb).cell 3
     have y4 := fun p : BelowW w7 => (X7.out.2.below p.hb).cell 4
     have y5 := fun p : BelowW w7 => (X7.out.2.below p.hb).cell 5
     have HFI : Hid (∀ p : BelowW w7, Calls Tryz.prog 33 #[.agg #[.int .i64 va, .int .i64 vb, .int .i64 vc], .agg #[.int .i64 (f xi).1, .int .i64 (f xi).2.1, .int .i64 (f xi).2.2]] p.wd fun e w' => e = .returned (.bool true) ∧ Below p.wd.heap.size p.wd w') := fun p => by
      have := fits_any va vb vc (f xi).1 (f xi).2.1 (f xi).2.2 p.wd
      rwa [HFT.out] at this
     simp only [hw7, hXB]; clear HLC hlc hla e3 s0 s1 s2 s3 s4 s5 s6 s7 hw7 hXB HFT HSZ rB; refine wp_region_below (by kernel_rfl) (by kernel_rfl) ?_
     repeat (go_big_quiet_step (first | (go_at_call 33; with_reducible exact Calls.wof (HFI.out _))))
     refine wpQuiet_nil ?_; rintro wz ⟨⟨_, NZ⟩, rfl⟩; have XZ : Hid (Below wr.heap.size wr wz ∧ Blk wz XB #[.int .i64 vt, .int .i64 vi, .int .i64 va, .int .i64 vb, .int .i64 vc, .int .i64 ((xi : Int) + 1), .int .i64 vy, .int .i64 vz] 67) := ⟨B.next X7.out.1 NZ X7.out.1.size, X7.out.2.below NZ⟩; have HAT1 := hidd (HAT0.out wz XZ.out.1); have rz := XZ.out.2.cell; clear l0 l1 l2 y2 y3 y4 y5 HFI NZ X7 HAT0; go_wp2_with fail; refine HAT1.out.mono ?_; rintro e wy ⟨rfl, by9⟩
     have XY : Hid (Below wr.heap.size wr wy ∧ Blk wy XB #[.int .i64 vt, .int .i64 vi, .int .i64 va, .int .i64 vb, .int .i64 vc, .int .i64 ((xi : Int) + 1), .int .i64 vy, .int .i64 vz] 67) := ⟨B.next XZ.out.1 by9 XZ.out.1.size, XZ.out.2.below by9⟩
     have HXY := hidd (HXI.out wy XY.out.1); have ry := XY.out.2.cell; clear HAT1 by9 XZ rz HXI XY
     by_cases hc0 : cat = 0
     ·subst hc0
      go_wp2_with fail
      go_roundg (gk - 1)
      case measure => have := HI.out; omega
      case rel => exact ⟨i + 1, by have := HI.out; omega, by go_num, HXY⟩
     ·have hc0' : (cat == 0) = false := by simpa using hc0
      have hcv : cat = vi := HHO.out.resolve_left hc0; subst hcv; go_wp2_with fail
      go_roundg (gk - 1)
      case measure => have := HI.out; omega
      case rel => exact ⟨i + 1, by have := HI.out; omega, by go_num, HXY⟩
    ·have hli' : ¬ (i : Int) < (σ'.b.stays.length : Int) := by omega
     have HX3 := hidd XI.out.1; have HF3 := hidd XI.out.2.1; clear XI h16; go_wp2_with fail
     go_roundg (alen - (k + 1))
     case measure => have := HK.out; omega
     case rel => exact ⟨k + 1, hb', σ', by have := HK.out; omega, by go_num, rfl, HX3, HW3, HF3, HT3⟩
  ·have hlt' : ¬ (k : Int) < (alen : Int) := by omega
   have hk60 : Hid (k ≤ 60) := by show k ≤ 60; have := hal.out; have := HK.out; omega
   clear HA HS HOK hk; go_wp2; go_returns; exact ⟨rfl, HF1.out.b⟩
end Hs
end Go.Proofs.YtopgllmjeliklaaGreatDoor
