/- Chapter 11, the law TopFetched: its walk. -/
import Derived.Test.YtopgllmjeliklaaGreatDoorKfHsM
import Derived.Test.YtopgllmjeliklaaGreatDoorKfHvU
namespace Go.Proofs.YtopgllmjeliklaaGreatDoor
open Go.Shelf Go.Lib Go.ChangeShapes Go.WideShapes Go.ChangeAt Go.RowKit
set_option maxRecDepth 100000
set_option linter.unusedSimpArgs false
set_option linter.unusedVariables false
namespace Hs
open Bk Lg Pl Dk Tx Tn Ac
set_option maxHeartbeats 16000000 in
theorem topFetched_law (len : Nat) (f : Nat -> Int × Int × Int) (lvv : Value) (alen : Nat) (g : Nat -> ActC) (v : Value) (which : Int) (w : World) (hs : SizesAt w lvv len f) (ha : ActsAt w v alen g) (G : Glob w) :
  Calls Tryz.prog 11 #[lvv, v, .int .i64 which] w fun e w' => e = .returned (.bool true) /\ Below w.heap.size w w' := by
 have HW : Hid (Calls Tryz.prog 14 #[] w fun e w' => e = .returned (.bool true) /\ Below w.heap.size w w') := works_any w G
 have HR : Hid (∀ W, Below w.heap.size w W -> Calls Tryz.prog 15 #[lvv, v] W (ReadyPost len f alen g W)) := fun W hB => ready_any len f lvv alen g v W (hs.below hB) (ha.below hB) (G.new hB)
 have HG : Hid (∀ W, HFr w.heap.size w W -> Glob W) := fun W hf => G.below hf.b G.hn
 have hbg : Hid (Tryz.prog.globals.size <= w.heap.size) := G.hn; have HA : Hid (∀ W, HFr w.heap.size w W -> ActsAt W v alen g) := fun W hf => ha.below hf.b
 have HS : Hid (∀ W, HFr w.heap.size w W -> SizesAt W lvv len f) := fun W hf => hs.below hf.b
 obtain ⟨a, cap, rfl, hl, hm, hok, hc⟩ := id ha; have HOK : Hid (∀ i, i < alen -> (g i).Ok) := hok
 clear hs ha G hc hok hl; unfold maxLen at hm; obtain ⟨r, hr1023, hrm⟩ := mask1023 which
 go_enter Tryz.func11, Tryz.ntmps11
 go_wp2_with fail; refine HW.out.mono ?_; rintro e w1 ⟨rfl, b1⟩; have X1 : Hid (Below w.heap.size w w1) := b1; have HR1 := hidd (HR.out w1 b1); clear HW HR b1; go_wp2_with fail; refine HR1.out.mono ?_; rintro e w2 ⟨b2, rfl | ⟨hlv, hlight, pb, mb, db, sb, hb, rfl, hx⟩⟩
 ·have X2 : Hid (Below w.heap.size w w2) := B.next X1.out b2 X1.out.size
  clear HR1 b2 X1 HG HA HS HOK; go_wp2; go_returns; exact ⟨rfl, X2.out⟩
 have F2 : Hid (HFr w.heap.size w w2) := (HFr.of_below X1.out (Nat.le_refl _)).trans (HFr.of_below b2 X1.out.size); have H2 : Hid (HX w2 w.heap.size pb mb db sb hb (rowsOf f len) ⟨newS len, ⟨0, [], []⟩, []⟩ (60 * 0)) := hx.down X1.out.size; have hal : Hid ((alen : Int) <= 60) := hlight.1; have HLV : Hid (levelsN len f = 0) := hlv; have hln : Hid (1 <= len /\ len <= 4) := ⟨(levelsN_zero hlv).1, (levelsN_zero hlv).2.1⟩; have HWS : Hid (Good7 (rowsOf f len) ⟨newS len, ⟨0, [], []⟩, []⟩) := Good7.start f hln.out.1 hln.out.2; clear HR1 b2 X1 hx hlight hlv; go_wp2_with fail
 go_loopg [10, 11] alen (fun q hv9 iv9 wr => ∃ (k : Nat) (hb : Nat) (σ : Sg), k + q = alen /\ iv9 = .int .i64 k /\ hv9 = .pointer (some ⟨hb, 0, none⟩) /\ Hid (HX wr w.heap.size pb mb db sb hb (rowsOf f len) σ (60 * k)) /\ Hid (Good7 (rowsOf f len) σ) /\ Hid (HFr w.heap.size w wr))
 case atStart => exact ⟨0, hb, _, by omega, rfl, rfl, H2, HWS, F2⟩
 case round =>
  clear H2 F2 HWS; obtain ⟨k, hb, σ, hk, rfl, rfl, HX1, HW1, HF1⟩ := hrel; have HK : Hid (k + gk = alen) := hk
  by_cases hlt : k < alen
  ·have hlt' : (k : Int) < (alen : Int) := by omega
   have hAc := HA.out wr HF1.out; obtain ⟨a', cap', hv, _, _, _, hc⟩ := hAc; obtain ⟨bq, off, hv2, hbl, hcell⟩ := hc (by omega); injection hv with e1 e2 e3; subst hv2; subst e1 e3; have c0 : wr.cell? ⟨bq, off + k * 12 + 0, none⟩ = some (.string (g k).kind) := hcell k hlt 0 (by omega); have c1 : wr.cell? ⟨bq, off + k * 12 + 1, none⟩ = some (.int .i64 (g k).a) := hcell k hlt 1 (by omega); have c2 : wr.cell? ⟨bq, off + k * 12 + 2, none⟩ = some (.int .i64 (g k).b) := hcell k hlt 2 (by omega); have c3 : wr.cell? ⟨bq, off + k * 12 + 3, none⟩ = some (.int .i64 (g k).c0) := hcell k hlt 3 (by omega); have c4 : wr.cell? ⟨bq, off + k * 12 + 4, none⟩ = some (.int .i64 (g k).c1) := hcell k hlt 4 (by omega); have c5 : wr.cell? ⟨bq, off + k * 12 + 5, none⟩ = some (.int .i64 (g k).c2) := hcell k hlt 5 (by omega); have c6 : wr.cell? ⟨bq, off + k * 12 + 6, none⟩ = some (.int .i64 (g k).c3) := hcell k hlt 6 (by omega); have c7 : wr.cell? ⟨bq, off + k * 12 + 7, none⟩ = some (.string (g k).s) := hcell k hlt 7 (by omega); have c8 : wr.cell? ⟨bq, off + k * 12 + 8, none⟩ = some (.int .u64 (g k).k) := hcell k hlt 8 (by omega); have c9 : wr.cell? ⟨bq, off + k * 12 + 9, none⟩ = some (.int .i64 (g k).last) := hcell k hlt 9 (by omega); have c10 : wr.cell? ⟨bq, off + k * 12 + 10, none⟩ = some (.slice (g k).sa (g k).sl (g k).sc) := hcell k hlt 10 (by omega); have c11 : wr.cell? ⟨bq, off + k * 12 + 11, none⟩ = some (.slice (g k).ja (g k).jl (g k).jc) := hcell k hlt 11 (by omega); have hx := HOK.out k hlt; have HPL := hidd (play_any w.heap.size pb mb db sb hb len f lvv σ (60 * k) (g k) wr HX1.out (HS.out wr HF1.out) HLV.out (by have := hal.out; unfold maxLen; omega) hx (HG.out wr HF1.out) hbg.out); clear hcell hc hk hx; simp only [Nat.add_zero] at c0; go_wp2_with fail; refine HPL.out.mono ?_; rintro e w3 ⟨hb', σ', rfl, f3, hp, hx3⟩; have HX3 : Hid (HX w3 w.heap.size pb mb db sb hb' (rowsOf f len) σ' (60 * (k + 1))) := by show HX _ _ _ _ _ _ _ _ _ _; rw [Nat.mul_succ]; exact hx3
   have HW3 : Hid (Good7 (rowsOf f len) σ') := HW1.out.play HX3.out.ok hp; have HF3 : Hid (HFr w.heap.size w w3) := HF1.out.trans f3; clear HPL f3 hp hx3 HX1 HW1 HF1 c0 c1 c2 c3 c4 c5 c6 c7 c8 c9 c10 c11 hbl; go_wp2_with fail
   go_roundg (gk - 1)
   case measure => have := HK.out; omega
   case rel => exact ⟨k + 1, hb', σ', by have := HK.out; omega, by go_num, rfl, HX3, HW3, HF3⟩
  ·have hlt' : ¬ (k : Int) < (alen : Int) := by omega
   have hk60 : Hid (k <= 60) := by show k <= 60; have := hal.out; have := HK.out; omega
   have HST := hidd (settle_any w.heap.size pb mb db sb hb (60 * k) (rowsOf f len) σ wr HX1.out (by have := hk60.out; unfold maxLen; omega) (HG.out wr HF1.out) hbg.out); clear hk HA HOK; go_wp2_with fail; refine HST.out.mono ?_; rintro e w3 ⟨rfl, f3, σ2, hend, hx3⟩; have HF3 : Hid (HFr w.heap.size w w3) := HF1.out.trans f3; have HX3 : Hid (HX w3 w.heap.size pb mb db sb hb (rowsOf f len) σ2 (60 * k + 2500)) := hx3
   have HE3 : Hid (Fin σ2 /\ Wf len σ2 /\ Settled σ2.b σ2.s) := by
    have w0 := HW1.out.wf; have o0 := HW1.out.og; rw [rowsOf_len] at w0 o0 hend; exact hend.fin w0 o0
   clear HST f3 hend hx3 HX1 HW1 HF1; have HB3 := hidd (bookX2 HX3.out); have hs16 : σ2.b.stays.length <= 16 := HX3.out.ok.fewS; go_wp2_with fail; refine HB3.out.mono ?_; rintro e w4 ⟨sa, sc, ja, jc, rfl, hat, b4⟩; have hB5 := B.next b4 (B.new1 w4 (.cells #[.int .i64 σ2.b.last, .slice sa σ2.b.stays.length sc, .slice ja σ2.b.jobs.length jc] 39)) b4.size; have X5 : Hid ((HX (w4.alloc (.cells #[.int .i64 σ2.b.last, .slice sa σ2.b.stays.length sc, .slice ja σ2.b.jobs.length jc] 39)) w.heap.size pb mb db sb hb (rowsOf f len) σ2 (60 * k + 2500) /\ HFr w.heap.size w (w4.alloc (.cells #[.int .i64 σ2.b.last, .slice sa σ2.b.stays.length sc, .slice ja σ2.b.jobs.length jc] 39))) /\ BkAt (w4.alloc (.cells #[.int .i64 σ2.b.last, .slice sa σ2.b.stays.length sc, .slice ja σ2.b.jobs.length jc] 39)) w4.heap.size sa ja sc jc σ2.b) := ⟨⟨HX3.out.below hB5, HF3.out.trans (HFr.of_below hB5 HX3.out.sz)⟩, Blk.new _ _ _, hat.below (B.new1 _ _)⟩; have rB := X5.out.2.k.cell; have HQ : Hid (∀ o, Below w.heap.size w (w4.alloc o)) := fun o => B.next HF3.out.b (B.next b4 (B.new1 w4 o) b4.size) HX3.out.sz
   clear HB3 b4 hat HX3 HF3 hB5 HS
   by_cases h0 : σ2.b.stays.length = 0
   ·have h0' : ((σ2.b.stays.length : Int) == 0) = true := by simp [h0]
    clear X5 HE3 HG; go_wp2; go_returns; exact ⟨rfl, HQ.out _⟩
   have h0' : ((σ2.b.stays.length : Int) == 0) = false := by rw [beq_eq_false_iff_ne]; omega
   go_upto_region 15 with fail
   obtain ⟨w5, hw5⟩ : ∃ w5, w4.alloc (.cells #[.int .i64 σ2.b.last, .slice sa σ2.b.stays.length sc, .slice ja σ2.b.jobs.length jc] 39) = w5 := ⟨_, rfl⟩
   obtain ⟨BB, hBB⟩ : ∃ BB, w4.heap.size = BB := ⟨_, rfl⟩
   simp only [hw5, hBB] at X5 rB ⊢; clear hw5 hBB; obtain ⟨j, hj, hjm⟩ : ∃ j : Nat, j < σ2.b.stays.length /\ (r : Int).tmod (σ2.b.stays.length : Int) = (j : Int) := ⟨r % σ2.b.stays.length, Nat.mod_lt _ (by omega), by rw [Int.tmod_eq_emod_of_nonneg (by omega)]; omega⟩
   have hj' : (j : Int) < (σ2.b.stays.length : Int) := by omega
   have hj0 : ¬ ((j : Int) < 0) := by omega
   obtain ⟨sg, soff, rfl, hcj⟩ := X5.out.2.stay j hj; have HV : Hid (σ2.b.stays[j]! ∈ σ2.b.stays) := by show _ ∈ _; rw [getElem!_pos σ2.b.stays j hj]; exact List.getElem_mem hj
   obtain ⟨vv, HVV⟩ : ∃ vv, Hid (σ2.b.stays[j]! = vv) := ⟨_, rfl⟩
   rw [HVV.out] at hcj HV; obtain ⟨vt, vi, va, vb, vc, vx, vy, vz⟩ := vv; have s0 := hcj 0 _ rfl; have s1 := hcj 1 _ rfl; have s2 := hcj 2 _ rfl; have s3 := hcj 3 _ rfl; have s4 := hcj 4 _ rfl; have s5 := hcj 5 _ rfl; have s6 := hcj 6 _ rfl; have s7 := hcj 7 _ rfl; simp only [Nat.add_zero] at s0; have hsgl : sg < w5.heap.size := World.block_lt_of_cell? _ _ s0; have l0 : ¬ sg = w5.heap.size := by omega
   have l1 : ¬ BB = w5.heap.size := by have := X5.out.2.k.lt; omega
   have q1 : ∀ o, (w5.alloc o).cell? ⟨BB, 1, none⟩ = some (.slice (some ⟨sg, soff, none⟩) σ2.b.stays.length sc) := fun o => (X5.out.2.k.old o).cell 1
   have z0 : ∀ o, (w5.alloc o).cell? ⟨sg, soff + j * 8, none⟩ = some (.int .i64 vt) := fun o => (B.cell (B.new1 w5 o) sg _ hsgl).trans s0
   have z1 : ∀ o, (w5.alloc o).cell? ⟨sg, soff + j * 8 + 1, none⟩ = some (.int .i64 vi) := fun o => (B.cell (B.new1 w5 o) sg _ hsgl).trans s1
   have z2 : ∀ o, (w5.alloc o).cell? ⟨sg, soff + j * 8 + 2, none⟩ = some (.int .i64 va) := fun o => (B.cell (B.new1 w5 o) sg _ hsgl).trans s2
   have z3 : ∀ o, (w5.alloc o).cell? ⟨sg, soff + j * 8 + 3, none⟩ = some (.int .i64 vb) := fun o => (B.cell (B.new1 w5 o) sg _ hsgl).trans s3
   have z4 : ∀ o, (w5.alloc o).cell? ⟨sg, soff + j * 8 + 4, none⟩ = some (.int .i64 vc) := fun o => (B.cell (B.new1 w5 o) sg _ hsgl).trans s4
   have z5 : ∀ o, (w5.alloc o).cell? ⟨sg, soff + j * 8 + 5, none⟩ = some (.int .i64 vx) := fun o => (B.cell (B.new1 w5 o) sg _ hsgl).trans s5
   have z6 : ∀ o, (w5.alloc o).cell? ⟨sg, soff + j * 8 + 6, none⟩ = some (.int .i64 vy) := fun o => (B.cell (B.new1 w5 o) sg _ hsgl).trans s6
   have z7 : ∀ o, (w5.alloc o).cell? ⟨sg, soff + j * 8 + 7, none⟩ = some (.int .i64 vz) := fun o => (B.cell (B.new1 w5 o) sg _ hsgl).trans s7
   clear hcj HVV hsgl HQ
   go_cut [13] from 55 to 64 (fun s13 wx => ∃ XB, s13 = .pointer (some ⟨XB, 0, none⟩) /\ Hid ((HX wx w.heap.size pb mb db sb hb (rowsOf f len) σ2 (60 * k + 2500) /\ HFr w.heap.size w wx) /\ Blk wx BB #[.int .i64 σ2.b.last, .slice (some ⟨sg, soff, none⟩) σ2.b.stays.length sc, .slice ja σ2.b.jobs.length jc] 39 /\ Blk wx XB #[.int .i64 vt, .int .i64 vi, .int .i64 va, .int .i64 vb, .int .i64 vc, .int .i64 vx, .int .i64 vy, .int .i64 vz] 67))
   case first =>
    have HB6 := B.new1 w5 (.cells #[.int .i64 vt, .int .i64 vi, .int .i64 va, .int .i64 vb, .int .i64 vc, .int .i64 vx, .int .i64 vy, .int .i64 vz] 67)
    have X6 : Hid ((HX (w5.alloc (.cells #[.int .i64 vt, .int .i64 vi, .int .i64 va, .int .i64 vb, .int .i64 vc, .int .i64 vx, .int .i64 vy, .int .i64 vz] 67)).drew w.heap.size pb mb db sb hb (rowsOf f len) σ2 (60 * k + 2500) /\ HFr w.heap.size w (w5.alloc (.cells #[.int .i64 vt, .int .i64 vi, .int .i64 va, .int .i64 vb, .int .i64 vc, .int .i64 vx, .int .i64 vy, .int .i64 vz] 67)).drew) /\ Blk (w5.alloc (.cells #[.int .i64 vt, .int .i64 vi, .int .i64 va, .int .i64 vb, .int .i64 vc, .int .i64 vx, .int .i64 vy, .int .i64 vz] 67)).drew BB #[.int .i64 σ2.b.last, .slice (some ⟨sg, soff, none⟩) σ2.b.stays.length sc, .slice ja σ2.b.jobs.length jc] 39 /\ Blk (w5.alloc (.cells #[.int .i64 vt, .int .i64 vi, .int .i64 va, .int .i64 vb, .int .i64 vc, .int .i64 vx, .int .i64 vy, .int .i64 vz] 67)).drew w5.heap.size #[.int .i64 vt, .int .i64 vi, .int .i64 va, .int .i64 vb, .int .i64 vc, .int .i64 vx, .int .i64 vy, .int .i64 vz] 67) := by
     have k1 := HB6.drew; exact ⟨⟨X5.out.1.1.below k1, X5.out.1.2.trans (HFr.of_below k1 X5.out.1.1.sz)⟩, X5.out.2.k.below k1, Blk.new _ _ _⟩
    clear HB6 X5 HE3 HG; go_wp2_with fail
    go_region
    all_goals (go_wp2_with fail; go_meet; exact ⟨_, rfl, X6⟩)
   case rest =>
   obtain ⟨XB, rfl, X6⟩ := hcut; clear X5 rB s0 s1 s2 s3 s4 s5 s6 s7 l0 l1 q1 z0 z1 z2 z3 z4 z5 z6 z7 hj' hj0 hjm; have HWA := hidd (wantX vt X6.out.1.1 (HG.out wc X6.out.1.2) hbg.out); have r6 := X6.out.2.2.cell; go_wp2_with fail; refine HWA.out.mono ?_; rintro e w7 ⟨kk, rfl, f7, σw, hwr, hx7⟩; have HST : Hid (σ2.s.pe = 0) := HE3.out.2.2.pe; obtain ⟨rfl, rfl, hft⟩ := want_ft HE3.out.2.1 HE3.out.1 HST.out HV.out hwr (by have := hx7.ok; rwa [rowsOf_len] at this); have HFT : Hid (Ft len ⟨σ2.b.last, σ2.b.stays, [⟨vt, true⟩]⟩ ⟨vt, vi, va, vb, vc, vx, vy, vz⟩ σ2.s) := hft; have HFI : Hid (σ2.s.li = 0 /\ σ2.s.ba = 0 /\ σ2.s.op = true /\ Home ⟨vt, vi, va, vb, vc, vx, vy, vz⟩ σ2.s) := ⟨HE3.out.1.li, HE3.out.1.ba, HE3.out.1.op, HE3.out.1.home HE3.out.2.1 HV.out⟩; have HOK2 : Hid (BookOK σ2.b.last len σ2.b.stays σ2.b.jobs) := HE3.out.2.1.ok; have X7 : Hid ((HX w7 w.heap.size pb mb db sb hb (rowsOf f len) ⟨σ2.s, ⟨σ2.b.last, σ2.b.stays, [⟨vt, true⟩]⟩, []⟩ (60 * k + 2500 + 0) /\ HFr w.heap.size w w7) /\ Blk w7 BB #[.int .i64 σ2.b.last, .slice (some ⟨sg, soff, none⟩) σ2.b.stays.length sc, .slice ja σ2.b.jobs.length jc] 39 /\ Blk w7 XB #[.int .i64 vt, .int .i64 vi, .int .i64 va, .int .i64 vb, .int .i64 vc, .int .i64 vx, .int .i64 vy, .int .i64 vz] 67) := ⟨⟨hx7.le (by omega), X6.out.1.2.trans f7⟩, f7.far _ _ _ (by decide) (by decide) (by decide) (by decide) (by decide) (by decide) X6.out.2.1, f7.far _ _ _ (by decide) (by decide) (by decide) (by decide) (by decide) (by decide) X6.out.2.2⟩; have HK : Hid (k <= 60) := hk60.out; rw [errV0]; clear HWA f7 hwr hx7 hft X6 r6 HE3 HST; go_wp2_with fail
   go_loopg [14] 400 (fun q iv9 wr => ∃ (i : Nat) (τ : Sg), i + q = 400 /\ iv9 = .int .i64 i /\ Hid ((HX wr w.heap.size pb mb db sb hb (rowsOf f len) τ (60 * k + 2500 + i) /\ HFr w.heap.size w wr) /\ Blk wr BB #[.int .i64 σ2.b.last, .slice (some ⟨sg, soff, none⟩) σ2.b.stays.length sc, .slice ja σ2.b.jobs.length jc] 39 /\ Blk wr XB #[.int .i64 vt, .int .i64 vi, .int .i64 va, .int .i64 vb, .int .i64 vc, .int .i64 vx, .int .i64 vy, .int .i64 vz] 67) /\ Hid (Ticks len i ⟨σ2.s, ⟨σ2.b.last, σ2.b.stays, [⟨vt, true⟩]⟩, []⟩ τ))
   case atStart => exact ⟨0, _, by omega, rfl, X7, rfl⟩
   case round =>
    clear X7; obtain ⟨i, τ, hi, rfl, XI, HTI⟩ := hrel; have HI : Hid (i + gk = 400) := hi
    by_cases hlr : i < 400
    ·have hlr' : (i : Int) < 400 := by omega
     have HT := hidd (tickX XI.out.1.1 (by have := HK.out; unfold maxLen; omega) (HG.out wr XI.out.1.2) hbg.out); clear hi; go_wp2_with fail; refine HT.out.mono ?_; rintro e w8 ⟨rfl, f8, τ8, ht, hx8⟩; have XJ : Hid ((HX w8 w.heap.size pb mb db sb hb (rowsOf f len) τ8 (60 * k + 2500 + (i + 1)) /\ HFr w.heap.size w w8) /\ Blk w8 BB #[.int .i64 σ2.b.last, .slice (some ⟨sg, soff, none⟩) σ2.b.stays.length sc, .slice ja σ2.b.jobs.length jc] 39 /\ Blk w8 XB #[.int .i64 vt, .int .i64 vi, .int .i64 va, .int .i64 vb, .int .i64 vc, .int .i64 vx, .int .i64 vy, .int .i64 vz] 67) := ⟨⟨hx8, XI.out.1.2.trans f8⟩, f8.far _ _ _ (by decide) (by decide) (by decide) (by decide) (by decide) (by decide) XI.out.2.1, f8.far _ _ _ (by decide) (by decide) (by decide) (by decide) (by decide) (by decide) XI.out.2.2⟩; have HTJ : Hid (Ticks len (i + 1) ⟨σ2.s, ⟨σ2.b.last, σ2.b.stays, [⟨vt, true⟩]⟩, []⟩ τ8) := ⟨τ, HTI.out, by rw [rowsOf_len] at ht; exact ht⟩
     clear HT f8 ht hx8 XI HTI; go_wp2_with fail
     go_roundg (gk - 1)
     case measure => have := HI.out; omega
     case rel => exact ⟨i + 1, τ8, by have := HI.out; omega, by go_num, XJ, HTJ⟩
    ·have hlr' : ¬ (i : Int) < 400 := by omega
     have hi4 : i = 400 := by omega
     subst hi4; obtain ⟨f1, f2, f3⟩ := fetched_400 HFT.out HFI.out.1 HFI.out.2.1 HFI.out.2.2.1 HFI.out.2.2.2 HTI.out; have HD : Hid (Fd ⟨σ2.b.last, σ2.b.stays, [⟨vt, true⟩]⟩ ⟨vt, vi, va, vb, vc, vx, vy, vz⟩ τ /\ τ.s.op = true /\ Wf len τ) := ⟨f1, f2, f3⟩
     have HLEN : Hid (τ.b.stays.length + 1 = σ2.b.stays.length) := by
      show _ = _
      rw [f1.ss]; exact done_len HFT.out.w.ok HV.out
     have HHU : Hid (∀ W, Below wr.heap.size wr W -> Calls Tryz.prog 24 #[.pointer (some ⟨pb, 0, none⟩)] W fun e w' => e = .returned (.bool false) /\ w' = W) := fun W hB => by
      have := hurt_any pb τ.s.hu W (XI.out.1.1.below hB).p.c9
      rwa [show τ.s.hu = false from f3.wg.nv.hu] at this
     have HSE : Hid (Calls Tryz.prog 19 #[.pointer (some ⟨pb, 0, none⟩)] wr fun e w' => (∃ x1 x2 x3 x4 q1 q2 q3, e = .returned (.agg #[.int .i64 x1, .int .i64 x2, .bool true, .int .i64 x3, .int .i64 x4, .int .i64 vi, .bool q1, .bool q2, .bool q3])) /\ Below wr.heap.size wr w') := (sense_some XI.out.1.1).mono (by
      rintro e w' ⟨⟨x1, x2, x3, q1, q2, q3, rfl⟩, hb⟩; rw [f2, show τ.s.ba = vi from f1.ba]
      exact ⟨⟨_, _, _, _, _, _, _, rfl⟩, hb⟩)
     have HAT : Hid (∀ (i : Nat), i < τ.b.stays.length -> ∀ W, Below wr.heap.size wr W -> Calls Tryz.prog 34 #[.pointer (some ⟨pb, 0, none⟩), .agg #[.int .i64 τ.b.stays[i]!.x, .int .i64 τ.b.stays[i]!.y, .int .i64 τ.b.stays[i]!.z]] W fun e w' => e = .returned (.int .i64 τ.b.stays[i]!.id) /\ Below W.heap.size W w') := fun i hi W hB => by
      have hv : τ.b.stays[i]! ∈ τ.b.stays := by rw [getElem!_pos τ.b.stays i hi]; exact List.getElem_mem hi
      have hrr := (f3.sf.r _ hv).1; have := at_any pb mb _ τ.s.D _ _ _ W (XI.out.1.1.below hB).p.c7 (XI.out.1.1.below hB).p.cars (wfR hrr).1 (wfR hrr).2.1 (wfR hrr).2.2
      rwa [show carOf τ.s.D τ.b.stays[i]!.x τ.b.stays[i]!.y τ.b.stays[i]!.z = τ.b.stays[i]!.id from f1.home HFT.out.hv HFT.out.w.sf f3 hv] at this
     have HJS : Hid (τ.b.jobs = []) := f1.js; clear hi HFT HFI HOK2 HV HTI f1 f2 f3 HD; go_wp2_with fail; refine HSE.out.mono ?_; rintro e w8 ⟨⟨x1, x2, x3, x4, q1, q2, q3, rfl⟩, b8⟩; have hB8 := B.next b8 (B.new1 w8 (.cells #[.int .i64 x1, .int .i64 x2, .bool true, .int .i64 x3, .int .i64 x4, .int .i64 vi, .bool q1, .bool q2, .bool q3] 46)) b8.size; have X8 : Hid ((HX (w8.alloc (.cells #[.int .i64 x1, .int .i64 x2, .bool true, .int .i64 x3, .int .i64 x4, .int .i64 vi, .bool q1, .bool q2, .bool q3] 46)) w.heap.size pb mb db sb hb (rowsOf f len) τ (60 * k + 2500 + 400) /\ HFr w.heap.size w (w8.alloc (.cells #[.int .i64 x1, .int .i64 x2, .bool true, .int .i64 x3, .int .i64 x4, .int .i64 vi, .bool q1, .bool q2, .bool q3] 46))) /\ Blk (w8.alloc (.cells #[.int .i64 x1, .int .i64 x2, .bool true, .int .i64 x3, .int .i64 x4, .int .i64 vi, .bool q1, .bool q2, .bool q3] 46)) BB #[.int .i64 σ2.b.last, .slice (some ⟨sg, soff, none⟩) σ2.b.stays.length sc, .slice ja σ2.b.jobs.length jc] 39 /\ Blk (w8.alloc (.cells #[.int .i64 x1, .int .i64 x2, .bool true, .int .i64 x3, .int .i64 x4, .int .i64 vi, .bool q1, .bool q2, .bool q3] 46)) XB #[.int .i64 vt, .int .i64 vi, .int .i64 va, .int .i64 vb, .int .i64 vc, .int .i64 vx, .int .i64 vy, .int .i64 vz] 67 /\ Blk (w8.alloc (.cells #[.int .i64 x1, .int .i64 x2, .bool true, .int .i64 x3, .int .i64 x4, .int .i64 vi, .bool q1, .bool q2, .bool q3] 46)) w8.heap.size #[.int .i64 x1, .int .i64 x2, .bool true, .int .i64 x3, .int .i64 x4, .int .i64 vi, .bool q1, .bool q2, .bool q3] 46 /\ Below wr.heap.size wr (w8.alloc (.cells #[.int .i64 x1, .int .i64 x2, .bool true, .int .i64 x3, .int .i64 x4, .int .i64 vi, .bool q1, .bool q2, .bool q3] 46))) := ⟨⟨XI.out.1.1.below hB8, XI.out.1.2.trans (HFr.of_below hB8 XI.out.1.1.sz)⟩, XI.out.2.1.below hB8, XI.out.2.2.below hB8, Blk.new _ _ _, hB8⟩; go_wp2_with fail; obtain ⟨SB, hSB⟩ : ∃ SB, w8.heap.size = SB := ⟨_, rfl⟩
     obtain ⟨wa, hwa⟩ : ∃ wa, w8.alloc (.cells #[.int .i64 x1, .int .i64 x2, .bool true, .int .i64 x3, .int .i64 x4, .int .i64 vi, .bool q1, .bool q2, .bool q3] 46) = wa := ⟨_, rfl⟩
     simp only [hwa, hSB] at X8 ⊢; have HB88 := hidd (bookX2 X8.out.1.1); clear hwa hSB HSE b8 hB8 XI; refine HB88.out.mono ?_; rintro e w9 ⟨sa2, sc2, ja2, jc2, rfl, hat, b9⟩; rw [HJS.out] at hat ⊢; have hB9 := B.next b9 (B.new1 w9 (.cells #[.int .i64 τ.b.last, .slice sa2 τ.b.stays.length sc2, .slice ja2 0 jc2] 39)) b9.size; have X9 : Hid ((HX (w9.alloc (.cells #[.int .i64 τ.b.last, .slice sa2 τ.b.stays.length sc2, .slice ja2 0 jc2] 39)) w.heap.size pb mb db sb hb (rowsOf f len) τ (60 * k + 2500 + 400) /\ HFr w.heap.size w (w9.alloc (.cells #[.int .i64 τ.b.last, .slice sa2 τ.b.stays.length sc2, .slice ja2 0 jc2] 39))) /\ Blk (w9.alloc (.cells #[.int .i64 τ.b.last, .slice sa2 τ.b.stays.length sc2, .slice ja2 0 jc2] 39)) BB #[.int .i64 σ2.b.last, .slice (some ⟨sg, soff, none⟩) σ2.b.stays.length sc, .slice ja σ2.b.jobs.length jc] 39 /\ Blk (w9.alloc (.cells #[.int .i64 τ.b.last, .slice sa2 τ.b.stays.length sc2, .slice ja2 0 jc2] 39)) XB #[.int .i64 vt, .int .i64 vi, .int .i64 va, .int .i64 vb, .int .i64 vc, .int .i64 vx, .int .i64 vy, .int .i64 vz] 67 /\ Blk (w9.alloc (.cells #[.int .i64 τ.b.last, .slice sa2 τ.b.stays.length sc2, .slice ja2 0 jc2] 39)) SB #[.int .i64 x1, .int .i64 x2, .bool true, .int .i64 x3, .int .i64 x4, .int .i64 vi, .bool q1, .bool q2, .bool q3] 46 /\ Below wr.heap.size wr (w9.alloc (.cells #[.int .i64 τ.b.last, .slice sa2 τ.b.stays.length sc2, .slice ja2 0 jc2] 39)) /\ BkAt (w9.alloc (.cells #[.int .i64 τ.b.last, .slice sa2 τ.b.stays.length sc2, .slice ja2 0 jc2] 39)) w9.heap.size sa2 ja2 sc2 jc2 ⟨τ.b.last, τ.b.stays, []⟩) := ⟨⟨X8.out.1.1.below hB9, X8.out.1.2.trans (HFr.of_below hB9 X8.out.1.1.sz)⟩, X8.out.2.1.below hB9, X8.out.2.2.1.below hB9, X8.out.2.2.2.1.below hB9, B.next X8.out.2.2.2.2 hB9 X8.out.2.2.2.2.size, Blk.new _ _ _, hat.below (B.new1 _ _)⟩; have rBB := X9.out.2.1.cell; have rXB := X9.out.2.2.1.cell; have rSB := X9.out.2.2.2.1.cell; have HH9 := hidd (HHU.out _ X9.out.2.2.2.2.1); have h16 : τ.b.stays.length <= 16 := by have := HLEN.out; omega
     have e1 : (σ2.b.stays.length : Int) - 1 = (τ.b.stays.length : Int) := by have := HLEN.out; omega
     have HQ := hidd X9.out.1.2.b; obtain ⟨BB2, hBB2⟩ : ∃ BB2, w9.heap.size = BB2 := ⟨_, rfl⟩
     clear HB88 b9 hat hB9 X8 HHU; go_wp2_with fail; refine HH9.out.mono ?_; rintro e w10 ⟨rfl, rfl⟩; clear HH9 rBB rXB rSB; go_wp2_with fail; obtain ⟨wb, hwb⟩ : ∃ wb, w9.alloc (.cells #[.int .i64 τ.b.last, .slice sa2 τ.b.stays.length sc2, .slice ja2 0 jc2] 39) = wb := ⟨_, rfl⟩
     simp only [hwb, hBB2] at X9 HQ ⊢; have XW : Hid (Below wr.heap.size wr wb /\ BkAt wb BB2 sa2 ja2 sc2 jc2 ⟨τ.b.last, τ.b.stays, []⟩ /\ Below w.heap.size w wb) := ⟨X9.out.2.2.2.2.1, X9.out.2.2.2.2.2, HQ.out⟩; clear hwb hBB2 X9 HQ e1
     go_loopg [17] τ.b.stays.length (fun q iv9 wx => ∃ (i : Nat), i + q = τ.b.stays.length /\ iv9 = .int .i64 i /\ Hid (Below wr.heap.size wr wx /\ BkAt wx BB2 sa2 ja2 sc2 jc2 ⟨τ.b.last, τ.b.stays, []⟩ /\ Below w.heap.size w wx))
     case atStart => exact ⟨0, by omega, rfl, XW⟩
     case round =>
      clear XW; obtain ⟨i, hi, rfl, XI⟩ := hrel; have HI2 : Hid (i + gk = τ.b.stays.length) := hi; have d1 := XI.out.2.1.k.cell 1; clear hi
      by_cases hli : i < τ.b.stays.length
      ·have hli' : (i : Int) < (τ.b.stays.length : Int) := by omega
       obtain ⟨sg2, soff2, rfl, _⟩ := XI.out.2.1.stay i hli
       have HCC : ∀ p : BelowW wr, ∀ j u, (Stay.enc τ.b.stays[i]!)[j]? = some u -> p.wd.cell? ⟨sg2, soff2 + i * 8 + j, none⟩ = some u := fun p => by
        obtain ⟨g', o', e, hc⟩ := (XI.out.2.1.below p.hb).stay i hli; injection e with e; injection e with e1 e2 _; subst e1 e2; exact hc
       have t1 : ∀ p : BelowW wr, p.wd.cell? ⟨sg2, soff2 + i * 8 + 1, none⟩ = some (.int .i64 τ.b.stays[i]!.id) := fun p => HCC p 1 _ rfl
       have t5 : ∀ p : BelowW wr, p.wd.cell? ⟨sg2, soff2 + i * 8 + 5, none⟩ = some (.int .i64 τ.b.stays[i]!.x) := fun p => HCC p 5 _ rfl
       have t6 : ∀ p : BelowW wr, p.wd.cell? ⟨sg2, soff2 + i * 8 + 6, none⟩ = some (.int .i64 τ.b.stays[i]!.y) := fun p => HCC p 6 _ rfl
       have t7 : ∀ p : BelowW wr, p.wd.cell? ⟨sg2, soff2 + i * 8 + 7, none⟩ = some (.int .i64 τ.b.stays[i]!.z) := fun p => HCC p 7 _ rfl
       have f1 := fun p : BelowW wr => (XI.out.2.1.below p.hb).k.cell 1
       have HAP : Hid (∀ p : BelowW wr, Calls Tryz.prog 34 #[.pointer (some ⟨pb, 0, none⟩), .agg #[.int .i64 τ.b.stays[i]!.x, .int .i64 τ.b.stays[i]!.y, .int .i64 τ.b.stays[i]!.z]] p.wd fun e w' => e = .returned (.int .i64 τ.b.stays[i]!.id) /\ Below p.wd.heap.size p.wd w') := fun p => HAT.out i hli p.wd (B.next XI.out.1 p.hb XI.out.1.size)
       clear HCC; generalize τ.b.stays[i]!.id = ui at *; generalize τ.b.stays[i]!.x = ux at *; generalize τ.b.stays[i]!.y = uy at *; generalize τ.b.stays[i]!.z = uz at *; go_wp2_with fail; refine wp_region_below (by kernel_rfl) (by kernel_rfl) ?_
       repeat (go_big_quiet_step (first | (go_at_call 34; with_reducible exact Calls.wof (HAP.out _))))
       refine wpQuiet_nil ?_; rintro wz ⟨⟨_, NZ⟩, rfl⟩; have XZ := hidd (And.intro (B.next XI.out.1 NZ XI.out.1.size) (And.intro (XI.out.2.1.below NZ) (B.next XI.out.2.2 NZ XI.out.2.2.size))); clear t1 t5 t6 t7 f1 HAP NZ XI d1; go_wp2_with fail
       go_roundg (gk - 1)
       case measure => have := HI2.out; omega
       case rel => exact ⟨i + 1, by have := HI2.out; omega, by go_num, XZ⟩
      ·have hli' : ¬ (i : Int) < (τ.b.stays.length : Int) := by omega
       have HQ := hidd XI.out.2.2; clear XI HAT; go_wp2; go_returns; exact ⟨rfl, HQ.out⟩
end Hs
end Go.Proofs.YtopgllmjeliklaaGreatDoor
