/- Chapter 11, the law TopTicket: its walk. -/
import Derived.Test.YtopgllmjeliklaaGreatDoorKiHsM
namespace Go.Proofs.YtopgllmjeliklaaGreatDoor
open Go.Shelf Go.Lib Go.ChangeShapes Go.WideShapes Go.ChangeAt Go.RowKit
set_option maxRecDepth 100000
set_option linter.unusedSimpArgs false
set_option linter.unusedVariables false
namespace Hs
open Bk Lg Pl Dk Tx Tn Ac
theorem app_last (S : List Stay) (x : Stay) (h : S.length < (S ++ [x]).length) : (S ++ [x])[S.length] = x := by simp
set_option maxHeartbeats 16000000 in
theorem topTicket_law (len : Nat) (f : Nat → Int × Int × Int) (lvv : Value) (alen : Nat) (g : Nat → ActC) (v : Value) (w : World) (hs : SizesAt w lvv len f) (ha : ActsAt w v alen g) (G : Glob w) :
  Calls Tryz.prog 7 #[lvv, v] w fun e w' => e = .returned (.bool true) ∧ Below w.heap.size w w' := by
 have HW : Hid (Calls Tryz.prog 14 #[] w fun e w' => e = .returned (.bool true) ∧ Below w.heap.size w w') := works_any w G
 have HR : Hid (∀ W, Below w.heap.size w W → Calls Tryz.prog 15 #[lvv, v] W (ReadyPost len f alen g W)) := fun W hB => ready_any len f lvv alen g v W (hs.below hB) (ha.below hB) (G.new hB)
 have HG : Hid (∀ W, HFr w.heap.size w W → Glob W) := fun W hf => G.below hf.b G.hn
 have hbg : Hid (Tryz.prog.globals.size ≤ w.heap.size) := G.hn; have HA : Hid (∀ W, HFr w.heap.size w W → ActsAt W v alen g) := fun W hf => ha.below hf.b
 have HS : Hid (∀ W, HFr w.heap.size w W → SizesAt W lvv len f) := fun W hf => hs.below hf.b
 obtain ⟨a, cap, rfl, hl, hm, hok, hc⟩ := id ha; have HOK : Hid (∀ i, i < alen → (g i).Ok) := hok
 clear hs ha G hc hok hl; unfold maxLen at hm
 go_enter Tryz.func7, Tryz.ntmps7
 go_wp2_with fail; refine HW.out.mono ?_; rintro e w1 ⟨rfl, b1⟩; have X1 : Hid (Below w.heap.size w w1) := b1; have HR1 := hidd (HR.out w1 b1); clear HW HR b1; go_wp2_with fail; refine HR1.out.mono ?_; rintro e w2 ⟨b2, rfl | ⟨hlv, hlight, pb, mb, db, sb, hb, rfl, hx⟩⟩
 ·have X2 : Hid (Below w.heap.size w w2) := B.next X1.out b2 X1.out.size
  clear HR1 b2 X1 HG HA HS HOK; go_wp2; go_returns; exact ⟨rfl, X2.out⟩
 have F2 : Hid (HFr w.heap.size w w2) := (HFr.of_below X1.out (Nat.le_refl _)).trans (HFr.of_below b2 X1.out.size); have H2 : Hid (HX w2 w.heap.size pb mb db sb hb (rowsOf f len) ⟨newS len, ⟨0, [], []⟩, []⟩ (60 * 0)) := hx.down X1.out.size; have hal : Hid ((alen : Int) ≤ 60) := hlight.1; have HLV : Hid (levelsN len f = 0) := hlv; have hln : Hid (1 ≤ len ∧ len ≤ 4) := ⟨(levelsN_zero hlv).1, (levelsN_zero hlv).2.1⟩; have HWS : Hid (Good7 (rowsOf f len) ⟨newS len, ⟨0, [], []⟩, []⟩) := Good7.start f hln.out.1 hln.out.2; clear HR1 b2 X1 hx hlight hlv; go_wp2_with fail
 go_loopg [8, 9, 10, 11, 12, 13, 14] alen (fun q hv9 p9 iv9 p11 p12 p13 p14 wr => ∃ (k : Nat) (hb : Nat) (σ : Sg), k + q = alen ∧ iv9 = .int .i64 k ∧ hv9 = .pointer (some ⟨hb, 0, none⟩) ∧ Hid (HX wr w.heap.size pb mb db sb hb (rowsOf f len) σ (60 * k)) ∧ Hid (Good7 (rowsOf f len) σ) ∧ Hid (HFr w.heap.size w wr) ∧ ∃ la : Int, p9 = .int .i64 la ∧ Hid (la ≤ σ.b.last))
 case atStart => exact ⟨0, hb, _, by omega, rfl, rfl, H2, HWS, F2, 0, rfl, Int.le_refl _⟩
 case round =>
  clear H2 F2 HWS; obtain ⟨k, hb, σ, hk, rfl, rfl, HX1, HW1, HF1, la, rfl, HLA⟩ := hrel; have HK : Hid (k + gk = alen) := hk
  by_cases hlt : k < alen
  ·have hlt' : (k : Int) < (alen : Int) := by omega
   have hAc := HA.out wr HF1.out; obtain ⟨a', cap', hv, _, _, _, hc⟩ := hAc; obtain ⟨bq, off, hv2, hbl, hcell⟩ := hc (by omega); injection hv with e1 e2 e3; subst hv2; subst e1 e3; have c0 : wr.cell? ⟨bq, off + k * 12 + 0, none⟩ = some (.string (g k).kind) := hcell k hlt 0 (by omega); have c1 : wr.cell? ⟨bq, off + k * 12 + 1, none⟩ = some (.int .i64 (g k).a) := hcell k hlt 1 (by omega); have c2 : wr.cell? ⟨bq, off + k * 12 + 2, none⟩ = some (.int .i64 (g k).b) := hcell k hlt 2 (by omega); have c3 : wr.cell? ⟨bq, off + k * 12 + 3, none⟩ = some (.int .i64 (g k).c0) := hcell k hlt 3 (by omega); have c4 : wr.cell? ⟨bq, off + k * 12 + 4, none⟩ = some (.int .i64 (g k).c1) := hcell k hlt 4 (by omega); have c5 : wr.cell? ⟨bq, off + k * 12 + 5, none⟩ = some (.int .i64 (g k).c2) := hcell k hlt 5 (by omega); have c6 : wr.cell? ⟨bq, off + k * 12 + 6, none⟩ = some (.int .i64 (g k).c3) := hcell k hlt 6 (by omega); have c7 : wr.cell? ⟨bq, off + k * 12 + 7, none⟩ = some (.string (g k).s) := hcell k hlt 7 (by omega); have c8 : wr.cell? ⟨bq, off + k * 12 + 8, none⟩ = some (.int .u64 (g k).k) := hcell k hlt 8 (by omega); have c9 : wr.cell? ⟨bq, off + k * 12 + 9, none⟩ = some (.int .i64 (g k).last) := hcell k hlt 9 (by omega); have c10 : wr.cell? ⟨bq, off + k * 12 + 10, none⟩ = some (.slice (g k).sa (g k).sl (g k).sc) := hcell k hlt 10 (by omega); have c11 : wr.cell? ⟨bq, off + k * 12 + 11, none⟩ = some (.slice (g k).ja (g k).jl (g k).jc) := hcell k hlt 11 (by omega); have hx := HOK.out k hlt; have HPL := hidd (play_any w.heap.size pb mb db sb hb len f lvv σ (60 * k) (g k) wr HX1.out (HS.out wr HF1.out) HLV.out (by have := hal.out; unfold maxLen; omega) hx (HG.out wr HF1.out) hbg.out); clear hcell hc hk hx; simp only [Nat.add_zero] at c0; have HPK := hidd (parkX (g k).c0 (g k).c1 (g k).c2 (g k).c3 HX1.out (HG.out wr HF1.out) hbg.out)
   cases hk0 : ((g k).kind.toList == [112, 97, 114, 107])
   ·go_wp2_with fail
    refine HPL.out.mono ?_; rintro e w3 ⟨hb', σ', rfl, f3, hp, hx3⟩; have HX3 : Hid (HX w3 w.heap.size pb mb db sb hb' (rowsOf f len) σ' (60 * (k + 1))) := by show HX _ _ _ _ _ _ _ _ _ _; rw [Nat.mul_succ]; exact hx3
    have HW3 : Hid (Good7 (rowsOf f len) σ') := HW1.out.play HX3.out.ok hp; have HL3 : Hid (la ≤ σ'.b.last) := by show la ≤ _; rw [hp.last hk0]; exact HLA.out
    have HF3 : Hid (HFr w.heap.size w w3) := HF1.out.trans f3; clear HPL HPK HLA f3 hp hx3 HX1 HW1 HF1 c0 c1 c2 c3 c4 c5 c6 c7 c8 c9 c10 c11 hbl; go_wp2_with fail
    go_roundg (gk - 1)
    case measure => have := HK.out; omega
    case rel => exact ⟨k + 1, hb', σ', by have := HK.out; omega, by go_num, rfl, HX3, HW3, HF3, la, rfl, HL3⟩
   ·go_wp2_with fail
    refine HPK.out.mono ?_; rintro e w3 ⟨t, kk, rfl, f3, σ', hr, hx3⟩; have HX3 : Hid (HX w3 w.heap.size pb mb db sb hb (rowsOf f len) σ' (60 * (k + 1))) := hx3.le (by omega); have HW3 : Hid (Good7 (rowsOf f len) σ') := ⟨HW1.out.wf.park rfl hr hx3.ok, by rcases hr with ⟨_, _, rfl, _⟩ | ⟨_, _, _, _, _, po, _, rfl⟩ <;> exact HW1.out.og⟩
    have HF3 : Hid (HFr w.heap.size w w3) := HF1.out.trans f3
    rcases hr with ⟨h1, rfl, rfl, _⟩ | ⟨rfl, rfl, _, _, hpn, po, hpo, rfl⟩
    ·rw [errV_ne h1]
     clear HPL HPK f3 hx3 HX1 HW1 HF1 c0 c1 c2 c3 c4 c5 c6 c7 c8 c9 c10 c11 hbl h1; go_wp2_with fail
     go_roundg (gk - 1)
     case measure => have := HK.out; omega
     case rel => exact ⟨k + 1, hb, σ', by have := HK.out; omega, by go_num, rfl, HX3, HW3, HF3, la, rfl, HLA⟩
    ·rw [errV0]
     have hlast := HX3.out.ok.lim; have HBK := hidd (bookX2 HX3.out)
     have hfi : findI (parkB σ.b (g k).c0 (g k).c1 (g k).c2 (g k).c3 po).book (σ.b.last + 1) = (σ.b.stays.length : Int) := by
      have hlen : σ.b.stays.length < (parkB σ.b (g k).c0 (g k).c1 (g k).c2 (g k).c3 po).stays.length := by unfold parkB; simp
      have := findI_at (parkB σ.b (g k).c0 (g k).c1 (g k).c2 (g k).c3 po).book σ.b.stays.length hlen HX3.out.ok.s.pair
      have e : (parkB σ.b (g k).c0 (g k).c1 (g k).c2 (g k).c3 po).book.stays[σ.b.stays.length]'hlen = ⟨σ.b.last + 1, (g k).c0, (g k).c1, (g k).c2, (g k).c3, po.1, po.2.1, po.2.2⟩ := by
       exact app_last _ _ _
      rw [e] at this; exact this
     have hst : (parkB σ.b (g k).c0 (g k).c1 (g k).c2 (g k).c3 po).stays[σ.b.stays.length]! = ⟨σ.b.last + 1, (g k).c0, (g k).c1, (g k).c2, (g k).c3, po.1, po.2.1, po.2.2⟩ := by
      unfold parkB; rw [getElem!_pos _ _ (by simp)]
      simp
     have HFD : Hid (findI (parkB σ.b (g k).c0 (g k).c1 (g k).c2 (g k).c3 po).book (σ.b.last + 1) = (σ.b.stays.length : Int) ∧ (parkB σ.b (g k).c0 (g k).c1 (g k).c2 (g k).c3 po).stays[σ.b.stays.length]! = ⟨σ.b.last + 1, (g k).c0, (g k).c1, (g k).c2, (g k).c3, po.1, po.2.1, po.2.2⟩ ∧ σ.b.stays.length < (parkB σ.b (g k).c0 (g k).c1 (g k).c2 (g k).c3 po).stays.length ∧ (parkB σ.b (g k).c0 (g k).c1 (g k).c2 (g k).c3 po).last = σ.b.last + 1) := ⟨hfi, hst, by unfold parkB; simp, rfl⟩
     have h15 : σ.b.stays.length ≤ 16 := HX1.out.ok.fewS; have hla : la < σ.b.last + 1 := by have := HLA.out; omega
     have hl0 : 0 ≤ σ.b.last := HX1.out.ok.lim.1; have hl9 : σ.b.last + 1 ≤ 999999 := hlast.2; clear HPL HPK f3 hx3 HX1 HW1 HF1 hfi hst hlast hpn hpo; generalize parkB σ.b (g k).c0 (g k).c1 (g k).c2 (g k).c3 po = b' at *; generalize σ.b.stays.length = si at *; generalize σ.b.last = sl at *
     have HAC : Hid (∀ W, HFr w.heap.size w W → W.cell? ⟨bq, off + k * 12 + 3, none⟩ = some (.int .i64 (g k).c0) ∧ W.cell? ⟨bq, off + k * 12 + 4, none⟩ = some (.int .i64 (g k).c1) ∧ W.cell? ⟨bq, off + k * 12 + 5, none⟩ = some (.int .i64 (g k).c2) ∧ W.cell? ⟨bq, off + k * 12 + 6, none⟩ = some (.int .i64 (g k).c3)) := fun W hf => by
      obtain ⟨a2, cap2, hv, _, _, _, hc⟩ := HA.out W hf; obtain ⟨bq2, off2, hv2, _, hcell⟩ := hc (by omega); injection hv with e1 _ _; rw [hv2] at e1; injection e1 with e1; injection e1 with e4 e5 _; subst e4 e5; exact ⟨hcell k hlt 3 (by omega), hcell k hlt 4 (by omega), hcell k hlt 5 (by omega), hcell k hlt 6 (by omega)⟩
     go_wp2_with fail; refine HBK.out.mono ?_; rintro e w4 ⟨sa, sc, ja, jc, rfl, hat, b4⟩; go_wp2_with fail; obtain ⟨w5, hw5⟩ : ∃ w5, w4.alloc (.cells #[.int .i64 b'.last, .slice sa b'.stays.length sc, .slice ja b'.jobs.length jc] 39) = w5 := ⟨_, rfl⟩
     obtain ⟨BB, hBB⟩ : ∃ BB, w4.heap.size = BB := ⟨_, rfl⟩
     have X5 : Hid (HX w5 w.heap.size pb mb db sb hb (rowsOf f len) ⟨σ.s, b', σ.gs⟩ (60 * (k + 1)) ∧ HFr w.heap.size w w5 ∧ BkAt w5 BB sa ja sc jc b') := by
      show _ ∧ _ ∧ _
      rw [← hw5, ← hBB]; have hB := B.next b4 (B.new1 w4 (.cells #[.int .i64 b'.last, .slice sa b'.stays.length sc, .slice ja b'.jobs.length jc] 39)) b4.size; exact ⟨HX3.out.below hB, HF3.out.trans (HFr.of_below hB HX3.out.sz), Blk.new _ _ _, hat.below (B.new1 _ _)⟩
     simp only [hw5, hBB]; have HFN := hidd (X5.out.2.2.find (sl + 1)); clear HBK hat b4 hw5 hBB HX3 HF3; refine HFN.out.mono ?_; rintro e w6 ⟨rfl, b6⟩; have X6 : Hid (HX w6 w.heap.size pb mb db sb hb (rowsOf f len) ⟨σ.s, b', σ.gs⟩ (60 * (k + 1)) ∧ HFr w.heap.size w w6 ∧ BkAt w6 BB sa ja sc jc b') := ⟨X5.out.1.below b6, X5.out.2.1.trans (HFr.of_below b6 X5.out.1.sz), X5.out.2.2.below b6⟩; rw [HFD.out.1]; clear HFN b6 X5; have HF6 : Hid (∀ p : BelowW w6, HFr w.heap.size w p.wd) := fun p => X6.out.2.1.trans (HFr.of_below p.hb X6.out.1.sz)
     have d3 := fun p : BelowW w6 => (HAC.out p.wd (HF6.out p)).1
     have d4 := fun p : BelowW w6 => (HAC.out p.wd (HF6.out p)).2.1
     have d5 := fun p : BelowW w6 => (HAC.out p.wd (HF6.out p)).2.2.1
     have d6 := fun p : BelowW w6 => (HAC.out p.wd (HF6.out p)).2.2.2
     obtain ⟨sg, soff, rfl, _⟩ := X6.out.2.2.stay si HFD.out.2.2.1
     have hcj : ∀ p : BelowW w6, ∀ j u, (Stay.enc ⟨sl + 1, (g k).c0, (g k).c1, (g k).c2, (g k).c3, po.1, po.2.1, po.2.2⟩)[j]? = some u → p.wd.cell? ⟨sg, soff + si * 8 + j, none⟩ = some u := fun p => by
      obtain ⟨g', o', e, hc⟩ := (X6.out.2.2.below p.hb).stay si HFD.out.2.2.1; injection e with e; injection e with e1 e2 _; subst e1 e2; rw [HFD.out.2.1] at hc; exact hc
     have t1 : ∀ p : BelowW w6, p.wd.cell? ⟨sg, soff + si * 8 + 1, none⟩ = some (.int .i64 (g k).c0) := fun p => hcj p 1 _ rfl
     have t2 : ∀ p : BelowW w6, p.wd.cell? ⟨sg, soff + si * 8 + 2, none⟩ = some (.int .i64 (g k).c1) := fun p => hcj p 2 _ rfl
     have t3 : ∀ p : BelowW w6, p.wd.cell? ⟨sg, soff + si * 8 + 3, none⟩ = some (.int .i64 (g k).c2) := fun p => hcj p 3 _ rfl
     have t4 : ∀ p : BelowW w6, p.wd.cell? ⟨sg, soff + si * 8 + 4, none⟩ = some (.int .i64 (g k).c3) := fun p => hcj p 4 _ rfl
     have f1 := fun p : BelowW w6 => (X6.out.2.2.below p.hb).k.cell 1
     have hsi : (si : Int) < (b'.stays.length : Int) := by have := HFD.out.2.2.1; omega
     have hn1 : decide (sl + 1 ≤ la) = false := decide_eq_false (by omega); have hn2 : decide ((si : Int) < 0) = false := decide_eq_false (by omega); have HLA2 : Hid (sl + 1 ≤ b'.last) := by show sl + 1 ≤ _; rw [HFD.out.2.2.2]; exact Int.le_refl _
     clear hcj HAC HFD HLA hla; generalize (g k).c0 = v0 at *; generalize (g k).c1 = v1 at *; generalize (g k).c2 = v2 at *; generalize (g k).c3 = v3 at *; go_wp2_with fail; refine wp_region_below (by kernel_rfl) (by kernel_rfl) ?_
     repeat (go_big_quiet_step (fail))
     refine wpQuiet_nil ?_; rintro wz ⟨⟨_, NZ⟩, rfl⟩; have XZ : Hid (HX wz w.heap.size pb mb db sb hb (rowsOf f len) ⟨σ.s, b', σ.gs⟩ (60 * (k + 1)) ∧ HFr w.heap.size w wz) := ⟨X6.out.1.below NZ, X6.out.2.1.trans (HFr.of_below NZ X6.out.1.sz)⟩; clear d3 d4 d5 d6 t1 t2 t3 t4 f1 NZ X6 HF6; go_wp2
     go_roundg (gk - 1)
     case measure => have := HK.out; omega
     case rel => exact ⟨k + 1, hb, _, by have := HK.out; omega, by go_num, rfl, XZ.out.1, HW3, XZ.out.2, sl + 1, rfl, HLA2⟩
  ·have hlt' : ¬ (k : Int) < (alen : Int) := by omega
   have hk60 : Hid (k ≤ 60) := by show k ≤ 60; have := hal.out; have := HK.out; omega
   clear HA HS HOK hk; go_wp2; go_returns; exact ⟨rfl, HF1.out.b⟩
end Hs
end Go.Proofs.YtopgllmjeliklaaGreatDoor
