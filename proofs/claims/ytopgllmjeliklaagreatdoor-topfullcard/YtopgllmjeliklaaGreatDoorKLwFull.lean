/- Chapter 11, the law TopFull: its walk. -/
import Derived.Test.YtopgllmjeliklaaGreatDoorKHsM
import Derived.Test.YtopgllmjeliklaaGreatDoorKHvM
import Derived.Test.YtopgllmjeliklaaGreatDoorKTopPickA
namespace Go.Proofs.YtopgllmjeliklaaGreatDoor
open Go.Shelf Go.Lib Go.ChangeShapes Go.WideShapes Go.ChangeAt Go.RowKit
set_option maxRecDepth 100000
set_option linter.unusedSimpArgs false
set_option linter.unusedVariables false
namespace Hs
open Bk Lg Pl Dk Tx Tn Ac
theorem numb_any (k : Int) (w : World) : Calls Tryz.prog 37 #[errV k] w fun e w' => e = .returned (.int .i64 k) ∧ w' = w := by
 by_cases hk : k = 0
 ·subst hk
  rw [errV0]
  go_enter Tryz.func37, Tryz.ntmps37
  go_wp2; go_returns; exact ⟨rfl, rfl⟩
 ·rw [errV_ne hk]
  have ta : ∀ w : World, Sem.run Tryz.prog (Instr.typeAssert (.iface 103 (.int .i64 k)) 50 103 true) w = .ok (.tuple #[.int .i64 k, .bool true]) w := fun _ => by kernel_rfl
  go_enter Tryz.func37, Tryz.ntmps37
  go_wp2; go_returns; exact ⟨rfl, rfl⟩
theorem arrive_two (ci : Int) (s : St) : (arriveE ci s = .nilIface ∧ arriveB ci s = true ∧ (arriveS ci s).ba = ci ∧ ci ≠ 0) ∨ ∃ k, arriveE ci s = .iface 103 (.int .i64 k) := by
 unfold arriveE arriveS
 by_cases h1 : 1 ≤ ci ∧ ci ≤ 999
 ·rw [if_pos h1]
  by_cases h2 : s.op = true ∧ s.ba = 0
  ·rw [if_pos h2]
   by_cases h3 : hasB s ci = true
   ·rw [if_pos h3]; exact Or.inr ⟨6, rfl⟩
   ·rw [if_neg h3]
    have hb : arriveB ci s = true := by
     unfold arriveB
     simp [h1.1, h1.2, h2.1, h2.2]
     simpa using h3
    exact Or.inl ⟨rfl, hb, by rw [if_pos hb], by omega⟩
  ·rw [if_neg h2]; exact Or.inr ⟨7, rfl⟩
 ·rw [if_neg h1]; exact Or.inr ⟨1, rfl⟩
theorem sizes_rows {w : World} {v : Value} {len : Nat} {f : Nat → Int × Int × Int} (h : SizesAt w v len f) : SizesAt w v len (fOf (rowsOf f len)) := by
 obtain ⟨a, cap, h1, h2, h3, h4⟩ := h; refine ⟨a, cap, h1, h2, h3, fun h0 => ?_⟩
 obtain ⟨b, off, ha, hb, hc⟩ := h4 h0; refine ⟨b, off, ha, hb, fun i hi => ?_⟩
 have e : fOf (rowsOf f len) i = f i := by
  unfold fOf rowsOf; rw [getElem!_pos _ _ (by simpa using hi)]
  simp
 rw [e]; exact hc i hi
set_option maxHeartbeats 16000000 in
theorem topFull_law (len : Nat) (f : Nat → Int × Int × Int) (lvv : Value) (alen : Nat) (g : Nat → ActC) (v : Value) (ci ca cb cc : Int) (w : World) (hs : SizesAt w lvv len f) (ha : ActsAt w v alen g) (G : Glob w) :
  Calls Tryz.prog 10 #[lvv, v, .agg #[.int .i64 ci, .int .i64 ca, .int .i64 cb, .int .i64 cc]] w fun e w' => e = .returned (.bool true) ∧ Below w.heap.size w w' := by
 have HW : Hid (∀ W, Below w.heap.size w W → Calls Tryz.prog 14 #[] W fun e w' => e = .returned (.bool true) ∧ Below W.heap.size W w') := fun W hB => works_any W (G.new hB)
 have HR : Hid (∀ W, Below w.heap.size w W → Calls Tryz.prog 15 #[lvv, v] W (ReadyPost len f alen g W)) := fun W hB => ready_any len f lvv alen g v W (hs.below hB) (ha.below hB) (G.new hB)
 have HG : Hid (∀ W, HFr w.heap.size w W → Glob W) := fun W hf => G.below hf.b G.hn
 have hbg : Hid (Tryz.prog.globals.size ≤ w.heap.size) := G.hn; have HA : Hid (∀ W, HFr w.heap.size w W → ActsAt W v alen g) := fun W hf => ha.below hf.b
 have HS : Hid (∀ W, HFr w.heap.size w W → SizesAt W lvv len f) := fun W hf => hs.below hf.b
 obtain ⟨a, cap, rfl, hl, hm, hok, hc⟩ := id ha; have HOK : Hid (∀ i, i < alen → (g i).Ok) := hok
 clear hs ha G hc hok hl; unfold maxLen at hm
 go_enter Tryz.func10, Tryz.ntmps10
 go_wp2_with fail; obtain ⟨w0, hw0⟩ : ∃ wx, w.alloc (.cells #[.int .i64 ci, .int .i64 ca, .int .i64 cb, .int .i64 cc] 34) = wx := ⟨_, rfl⟩
 have X0 : Hid (Below w.heap.size w w0 ∧ Blk w0 w.heap.size #[.int .i64 ci, .int .i64 ca, .int .i64 cb, .int .i64 cc] 34) := by
  show _ ∧ _
  rw [← hw0]; exact ⟨B.new1 _ _, Blk.new _ _ _⟩
 simp only [hw0]; clear hw0; refine (HW.out w0 X0.out.1).mono ?_; rintro e w1 ⟨rfl, b1⟩; have X1 : Hid (Below w.heap.size w w1) := B.next X0.out.1 b1 X0.out.1.size; have Y1 : Hid (Blk w1 w.heap.size #[.int .i64 ci, .int .i64 ca, .int .i64 cb, .int .i64 cc] 34) := X0.out.2.below b1; have HR1 := hidd (HR.out w1 X1.out); clear HW HR b1 X0; go_wp2_with fail; refine HR1.out.mono ?_; rintro e w2 ⟨b2, rfl | ⟨hlv, hlight, pb, mb, db, sb, hb, rfl, hx⟩⟩
 ·have X2 : Hid (Below w.heap.size w w2) := B.next X1.out b2 X1.out.size
  clear HR1 b2 X1 Y1 HG HA HS HOK; go_wp2; go_returns; exact ⟨rfl, X2.out⟩
 have Y2 : Hid (Blk w2 w.heap.size #[.int .i64 ci, .int .i64 ca, .int .i64 cb, .int .i64 cc] 34) := Y1.out.below b2; have F2 : Hid (HFr w.heap.size w w2) := (HFr.of_below X1.out (Nat.le_refl _)).trans (HFr.of_below b2 X1.out.size); have H2 : Hid (HX w2 w.heap.size pb mb db sb hb (rowsOf f len) ⟨newS len, ⟨0, [], []⟩, []⟩ (60 * 0)) := hx.down X1.out.size; have hal : Hid ((alen : Int) ≤ 60) := hlight.1; have HLV : Hid (levelsN len f = 0) := hlv; have hln : Hid (1 ≤ len ∧ len ≤ 4) := ⟨(levelsN_zero hlv).1, (levelsN_zero hlv).2.1⟩; have HWS : Hid (Good7 (rowsOf f len) ⟨newS len, ⟨0, [], []⟩, []⟩) := Good7.start f hln.out.1 hln.out.2; clear HR1 b2 X1 Y1 hx hlight hlv; go_wp2_with fail
 go_loopg [10, 11] alen (fun q hv9 iv9 wr => ∃ (k : Nat) (hb : Nat) (σ : Sg), k + q = alen ∧ iv9 = .int .i64 k ∧ hv9 = .pointer (some ⟨hb, 0, none⟩) ∧ Hid (HX wr w.heap.size pb mb db sb hb (rowsOf f len) σ (60 * k)) ∧ Hid (Good7 (rowsOf f len) σ) ∧ Hid (HFr w.heap.size w wr) ∧ Hid (Blk wr w.heap.size #[.int .i64 ci, .int .i64 ca, .int .i64 cb, .int .i64 cc] 34) ∧ Hid (σ.b.last ≤ (k : Int)))
 case atStart => exact ⟨0, hb, _, by omega, rfl, rfl, H2, HWS, F2, Y2, Int.le_refl _⟩
 case round =>
  clear H2 F2 HWS; obtain ⟨k, hb, σ, hk, rfl, rfl, HX1, HW1, HF1, Y1, LA1⟩ := hrel; have HK : Hid (k + gk = alen) := hk
  by_cases hlt : k < alen
  ·have hlt' : (k : Int) < (alen : Int) := by omega
   have hAc := HA.out wr HF1.out; obtain ⟨a', cap', hv, _, _, _, hc⟩ := hAc; obtain ⟨bq, off, hv2, hbl, hcell⟩ := hc (by omega); injection hv with e1 e2 e3; subst hv2; subst e1 e3; have c0 : wr.cell? ⟨bq, off + k * 12 + 0, none⟩ = some (.string (g k).kind) := hcell k hlt 0 (by omega); have c1 : wr.cell? ⟨bq, off + k * 12 + 1, none⟩ = some (.int .i64 (g k).a) := hcell k hlt 1 (by omega); have c2 : wr.cell? ⟨bq, off + k * 12 + 2, none⟩ = some (.int .i64 (g k).b) := hcell k hlt 2 (by omega); have c3 : wr.cell? ⟨bq, off + k * 12 + 3, none⟩ = some (.int .i64 (g k).c0) := hcell k hlt 3 (by omega); have c4 : wr.cell? ⟨bq, off + k * 12 + 4, none⟩ = some (.int .i64 (g k).c1) := hcell k hlt 4 (by omega); have c5 : wr.cell? ⟨bq, off + k * 12 + 5, none⟩ = some (.int .i64 (g k).c2) := hcell k hlt 5 (by omega); have c6 : wr.cell? ⟨bq, off + k * 12 + 6, none⟩ = some (.int .i64 (g k).c3) := hcell k hlt 6 (by omega); have c7 : wr.cell? ⟨bq, off + k * 12 + 7, none⟩ = some (.string (g k).s) := hcell k hlt 7 (by omega); have c8 : wr.cell? ⟨bq, off + k * 12 + 8, none⟩ = some (.int .u64 (g k).k) := hcell k hlt 8 (by omega); have c9 : wr.cell? ⟨bq, off + k * 12 + 9, none⟩ = some (.int .i64 (g k).last) := hcell k hlt 9 (by omega); have c10 : wr.cell? ⟨bq, off + k * 12 + 10, none⟩ = some (.slice (g k).sa (g k).sl (g k).sc) := hcell k hlt 10 (by omega); have c11 : wr.cell? ⟨bq, off + k * 12 + 11, none⟩ = some (.slice (g k).ja (g k).jl (g k).jc) := hcell k hlt 11 (by omega); have hx := HOK.out k hlt; have HPL := hidd (play_any w.heap.size pb mb db sb hb len f lvv σ (60 * k) (g k) wr HX1.out (HS.out wr HF1.out) HLV.out (by have := hal.out; unfold maxLen; omega) hx (HG.out wr HF1.out) hbg.out); clear hcell hc hk hx; simp only [Nat.add_zero] at c0; go_wp2_with fail; refine HPL.out.mono ?_; rintro e w3 ⟨hb', σ', rfl, f3, hp, hx3⟩; have HX3 : Hid (HX w3 w.heap.size pb mb db sb hb' (rowsOf f len) σ' (60 * (k + 1))) := by show HX _ _ _ _ _ _ _ _ _ _; rw [Nat.mul_succ]; exact hx3
   have HW3 : Hid (Good7 (rowsOf f len) σ') := HW1.out.play HX3.out.ok hp; have Y3 : Hid (Blk w3 w.heap.size #[.int .i64 ci, .int .i64 ca, .int .i64 cb, .int .i64 cc] 34) := f3.far _ _ _ (by decide) (by decide) (by decide) (by decide) (by decide) (by decide) Y1.out; have LA3 : Hid (σ'.b.last ≤ ((k + 1 : Nat) : Int)) := by show σ'.b.last ≤ _; have := hp.lastUp; have := LA1.out; omega
   have HF3 : Hid (HFr w.heap.size w w3) := HF1.out.trans f3; clear HPL Y1 LA1 f3 hp hx3 HX1 HW1 HF1 c0 c1 c2 c3 c4 c5 c6 c7 c8 c9 c10 c11 hbl; go_wp2_with fail
   go_roundg (gk - 1)
   case measure => have := HK.out; omega
   case rel => exact ⟨k + 1, hb', σ', by have := HK.out; omega, by go_num, rfl, HX3, HW3, HF3, Y3, LA3⟩
  ·have hlt' : ¬ (k : Int) < (alen : Int) := by omega
   have hk60 : Hid (k ≤ 60) := by show k ≤ 60; have := hal.out; have := HK.out; omega
   have HST := hidd (settle_any w.heap.size pb mb db sb hb (60 * k) (rowsOf f len) σ wr HX1.out (by have := hk60.out; unfold maxLen; omega) (HG.out wr HF1.out) hbg.out); clear hk HA HOK; go_wp2_with fail; refine HST.out.mono ?_; rintro e w3 ⟨rfl, f3, σ2, hend, hx3⟩; have HF3 : Hid (HFr w.heap.size w w3) := HF1.out.trans f3; have HX3 : Hid (HX w3 w.heap.size pb mb db sb hb (rowsOf f len) σ2 (60 * k + 2500)) := hx3; have Y3 : Hid (Blk w3 w.heap.size #[.int .i64 ci, .int .i64 ca, .int .i64 cb, .int .i64 cc] 34) := f3.far _ _ _ (by decide) (by decide) (by decide) (by decide) (by decide) (by decide) Y1.out; have LA3 : Hid (σ2.b.last < 999999) := by show σ2.b.last < _; have := hend.last; have := LA1.out; have := hk60.out; omega
   have HE3 : Hid (Fin σ2 ∧ Wf len σ2 ∧ Settled σ2.b σ2.s) := by
    have w0 := HW1.out.wf; have o0 := HW1.out.og; rw [rowsOf_len] at w0 o0 hend; exact hend.fin w0 o0
   clear HST Y1 LA1 f3 hend hx3 HX1 HW1 HF1; have HAR := hidd (arrive_any pb mb (60 * k + 2500) σ2.s ci w3 HX3.out.p HX3.out.iv); have d1 := Y3.out.cell; go_wp2_with fail; refine HAR.out.mono ?_; rintro e w4 ⟨rfl, p4, t4⟩; obtain ⟨hx4, f4⟩ := HX3.out.turned t4 p4 (HX3.out.iv.arrive ci); have HX4 : Hid (HX w4 w.heap.size pb mb db sb hb (rowsOf f len) ⟨arriveS ci σ2.s, σ2.b, σ2.gs⟩ (60 * k + 2500)) := hx4; have HF4 : Hid (HFr w.heap.size w w4) := HF3.out.trans f4; have Y4 : Hid (Blk w4 w.heap.size #[.int .i64 ci, .int .i64 ca, .int .i64 cb, .int .i64 cc] 34) := f4.far _ _ _ (by decide) (by decide) (by decide) (by decide) (by decide) (by decide) Y3.out; have HS4 : Hid (SizesAt w4 lvv len (fOf (rowsOf f len))) := sizes_rows (HS.out w4 HF4.out); have HG4 : Hid (Glob w4) := HG.out w4 HF4.out; clear HAR p4 t4 hx4 f4 HX3 HF3 Y3 d1 HS; have d4 := Y4.out.cell
   rcases arrive_two ci σ2.s with ⟨ea, hab, hba, hc0⟩ | ⟨kk, ea⟩
   case inr =>
    rw [ea]; have HQ := hidd HF4.out.b; clear HX4 HF4 Y4 HS4 HG HG4 HE3; go_wp2
    all_goals (go_returns; exact ⟨rfl, HQ.out⟩)
   rw [ea]; have HCC : Hid (Calls Tryz.prog 35 #[.agg #[.int .i64 ci, .int .i64 ca, .int .i64 cb, .int .i64 cc]] w4 fun e w' => e = .returned (errV (carN ci ca cb cc)) ∧ Below w4.heap.size w4 w') := checkCar_any ci ca cb cc w4
   have HAB : Hid (arriveB ci σ2.s = true ∧ (arriveS ci σ2.s).ba = ci ∧ ci ≠ 0) := ⟨hab, hba, hc0⟩; clear ea hab hba hc0; go_wp2_with fail; refine HCC.out.mono ?_; rintro e w5 ⟨rfl, b5⟩
   by_cases hcn : carN ci ca cb cc = 0
   case neg =>
    rw [errV_ne hcn]; have HQ := hidd (B.next HF4.out.b b5 HX4.out.sz); clear HX4 HF4 Y4 HS4 HG HG4 HE3 HCC HAB LA3 b5 d4; go_wp2; go_returns; exact ⟨rfl, HQ.out⟩
   rw [hcn, errV0]; have X5 : Hid (HX w5 w.heap.size pb mb db sb hb (rowsOf f len) ⟨arriveS ci σ2.s, σ2.b, σ2.gs⟩ (60 * k + 2500) ∧ HFr w.heap.size w w5 ∧ Blk w5 w.heap.size #[.int .i64 ci, .int .i64 ca, .int .i64 cb, .int .i64 cc] 34 ∧ SizesAt w5 lvv len (fOf (rowsOf f len))) := ⟨HX4.out.below b5, HF4.out.trans (HFr.of_below b5 HX4.out.sz), Y4.out.below b5, HS4.out.below b5⟩; obtain ⟨po, hpo⟩ : ∃ po, pickO σ2.b.book (fOf (rowsOf f len)) ca cb cc len = po := ⟨_, rfl⟩
   have HPK : Hid (parkN σ2.b.book (fOf (rowsOf f len)) (rowsOf f len).length ci ca cb cc = if po.isSome = false then 8 else 0) := by
    show _ = _
    rw [rowsOf_len, ← hpo]; exact full_park HE3.out.2.1 HE3.out.1 _ HAB.out.1 hcn LA3.out len
   have HPO : Hid (pickO σ2.b.book (fOf (rowsOf f len)) ca cb cc len = po) := hpo; have HBK := hidd (bookX2 X5.out.1); have hl0 : 0 ≤ σ2.b.last := X5.out.1.ok.lim.1; have hl9 : σ2.b.last + 1 ≤ 999999 := by have := LA3.out; omega
   clear HCC b5 HX4 HF4 Y4 HE3 d4 HG4 HS4 LA3 hpo hcn; go_wp2_with fail; refine HBK.out.mono ?_; rintro e w6 ⟨sa, sc, ja, jc, rfl, hat, b6⟩; have hB7 := B.next b6 (B.new1 w6 (.cells #[.int .i64 σ2.b.last, .slice sa σ2.b.stays.length sc, .slice ja σ2.b.jobs.length jc] 39)) b6.size; have X7 : Hid (HX (w6.alloc (.cells #[.int .i64 σ2.b.last, .slice sa σ2.b.stays.length sc, .slice ja σ2.b.jobs.length jc] 39)) w.heap.size pb mb db sb hb (rowsOf f len) ⟨arriveS ci σ2.s, σ2.b, σ2.gs⟩ (60 * k + 2500) ∧ HFr w.heap.size w (w6.alloc (.cells #[.int .i64 σ2.b.last, .slice sa σ2.b.stays.length sc, .slice ja σ2.b.jobs.length jc] 39)) ∧ Blk (w6.alloc (.cells #[.int .i64 σ2.b.last, .slice sa σ2.b.stays.length sc, .slice ja σ2.b.jobs.length jc] 39)) w.heap.size #[.int .i64 ci, .int .i64 ca, .int .i64 cb, .int .i64 cc] 34 ∧ BkAt (w6.alloc (.cells #[.int .i64 σ2.b.last, .slice sa σ2.b.stays.length sc, .slice ja σ2.b.jobs.length jc] 39)) w6.heap.size sa ja sc jc σ2.b) := ⟨X5.out.1.below hB7, X5.out.2.1.trans (HFr.of_below hB7 X5.out.1.sz), X5.out.2.2.1.below hB7, Blk.new _ _ _, hat.below (B.new1 _ _)⟩
   have HPI : Hid (Calls Tryz.prog 36 #[.agg #[.int .i64 σ2.b.last, .slice sa σ2.b.stays.length sc, .slice ja σ2.b.jobs.length jc], lvv, .agg #[.int .i64 ci, .int .i64 ca, .int .i64 cb, .int .i64 cc]] (w6.alloc (.cells #[.int .i64 σ2.b.last, .slice sa σ2.b.stays.length sc, .slice ja σ2.b.jobs.length jc] 39)) fun e w' => e = .returned (pickV po) ∧ Below (w6.alloc (.cells #[.int .i64 σ2.b.last, .slice sa σ2.b.stays.length sc, .slice ja σ2.b.jobs.length jc] 39)).heap.size (w6.alloc (.cells #[.int .i64 σ2.b.last, .slice sa σ2.b.stays.length sc, .slice ja σ2.b.jobs.length jc] 39)) w') := by
    have := pick_any ⟨σ2.b.last, sa, sc, ja, jc, σ2.b.stays, σ2.b.jobs⟩ lvv len (fOf (rowsOf f len)) ci ca cb cc _ X7.out.2.2.2.a (X5.out.2.2.2.below hB7) hln.out.1 hln.out.2; rw [show pickO ⟨σ2.b.last, sa, sc, ja, jc, σ2.b.stays, σ2.b.jobs⟩ (fOf (rowsOf f len)) ca cb cc len = po from HPO.out] at this
    exact this
   obtain ⟨BB, hBB⟩ : ∃ BB, w6.heap.size = BB := ⟨_, rfl⟩
   have rB := X7.out.2.2.2.k.cell; have rC := X7.out.2.2.1.cell; clear HBK hat b6 hB7 X5; go_wp2_with fail; refine HPI.out.mono ?_; rintro e w8 ⟨rfl, b8⟩
   have X8 : Hid (HX w8 w.heap.size pb mb db sb hb (rowsOf f len) ⟨arriveS ci σ2.s, σ2.b, σ2.gs⟩ (60 * k + 2500) ∧ HFr w.heap.size w w8 ∧ Blk w8 w.heap.size #[.int .i64 ci, .int .i64 ca, .int .i64 cb, .int .i64 cc] 34 ∧ BkAt w8 BB sa ja sc jc σ2.b) := by
    show _ ∧ _ ∧ _ ∧ _
    rw [← hBB]; exact ⟨X7.out.1.below b8, X7.out.2.1.trans (HFr.of_below b8 X7.out.1.sz), X7.out.2.2.1.below b8, X7.out.2.2.2.below b8⟩
   have HX9 : Hid (∀ o, HX (w8.alloc o) w.heap.size pb mb db sb hb (rowsOf f len) ⟨arriveS ci σ2.s, σ2.b, σ2.gs⟩ (60 * k + 2500) ∧ HFr w.heap.size w (w8.alloc o) ∧ Blk (w8.alloc o) w.heap.size #[.int .i64 ci, .int .i64 ca, .int .i64 cb, .int .i64 cc] 34 ∧ BkAt (w8.alloc o) BB sa ja sc jc σ2.b) := fun o => ⟨X8.out.1.below (B.new1 _ _), X8.out.2.1.trans (HFr.of_below (B.new1 _ _) X8.out.1.sz), X8.out.2.2.1.below (B.new1 _ _), X8.out.2.2.2.below (B.new1 _ _)⟩
   have HPX := hidd (fun o => parkX ci ca cb cc (HX9.out o).1 (HG.out _ (HX9.out o).2.1) hbg.out)
   have rC9 := fun o => (HX9.out o).2.2.1.cell
   simp only [hBB]; clear HPI b8 X7 hBB rB rC X8
   rcases po with _ | ⟨px, py, pz⟩
   ·unfold pickV
    go_wp2_with fail; refine (HPX.out _).mono ?_; rintro e w10 ⟨t, kk, rfl, f10, σ3, hpr, hx3⟩
    have hk8 : kk = 8 := by
     have hp := HPK.out; rw [if_pos (show (none : Option (Int × Int × Int)).isSome = false from rfl)] at hp
     rcases hpr with ⟨h1, h2, h3, h4⟩ | ⟨h1, _, _, _, h5, _⟩
     ·rcases h4 with ⟨h4, h5⟩ | ⟨_, _, h5⟩
      ·exfalso
       have e1 : (arriveS ci σ2.s).ba = ci := HAB.out.2.1; have e2 := HAB.out.2.2
       rcases h5 with h5 | h5
       ·exact e2 (by rw [← e1]; exact h5)
       ·exact h5 e1
      ·exact h5.symm.trans hp
     ·have h6 := h5.symm.trans hp
      cases h6
    subst hk8; have HNU := hidd (numb_any 8 w10); have HQ := hidd ((HX9.out _).2.1.trans f10).b; rw [errV_ne (by decide)] at HNU ⊢; clear HPX HX9 rC9 hpr hx3 f10 HG HPK HAB; go_wp2_with fail; refine HNU.out.mono ?_; rintro e w11 ⟨rfl, rfl⟩; go_wp2; go_returns; exact ⟨rfl, HQ.out⟩
   ·unfold pickV
    go_wp2_with fail; refine (HPX.out _).mono ?_; rintro e w10 ⟨t, kk, rfl, f10, σ3, hpr, hx3⟩
    have hk0 : kk = 0 ∧ t = σ2.b.last + 1 := by
     have hp := HPK.out; rw [if_neg (by simp)] at hp
     rcases hpr with ⟨h1, h2, h3, h4⟩ | ⟨h1, h2, _⟩
     ·exfalso
      rcases h4 with ⟨h4, h5⟩ | ⟨_, _, h5⟩
      ·have e1 : (arriveS ci σ2.s).ba = ci := HAB.out.2.1
       have e2 := HAB.out.2.2
       rcases h5 with h5 | h5
       ·exact e2 (by rw [← e1]; exact h5)
       ·exact h5 e1
      ·exact h1 (h5.symm.trans hp)
     ·exact ⟨h1, h2⟩
    obtain ⟨rfl, rfl⟩ := hk0; rw [errV0]; have HQ := hidd ((HX9.out _).2.1.trans f10).b; have HK10 := hidd (f10.far _ _ _ (by decide) (by decide) (by decide) (by decide) (by decide) (by decide) (HX9.out _).2.2.2.k); have r10 := HK10.out.cell 0; clear HPX HX9 rC9 hpr hx3 f10 HG HPK HAB HPO; generalize σ2.b.last = sl at *; go_wp2; go_returns; exact ⟨rfl, HQ.out⟩
end Hs
end Go.Proofs.YtopgllmjeliklaaGreatDoor
