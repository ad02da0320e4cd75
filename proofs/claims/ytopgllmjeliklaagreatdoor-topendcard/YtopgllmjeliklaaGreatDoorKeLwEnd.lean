/- Chapter 11, the law TopEnd: its walk. -/
import Derived.Test.YtopgllmjeliklaaGreatDoorKeCars
namespace Go.Proofs.YtopgllmjeliklaaGreatDoor
open Go.Shelf Go.Lib Go.ChangeShapes Go.WideShapes Go.ChangeAt Go.RowKit
set_option maxRecDepth 100000
set_option linter.unusedSimpArgs false
set_option linter.unusedVariables false
namespace Hs
open Bk Lg Pl Dk Tx Tn Ac
set_option maxHeartbeats 16000000 in
theorem topEnd_law (len : Nat) (f : Nat → Int × Int × Int) (lvv : Value) (alen : Nat) (g : Nat → ActC) (v : Value) (w : World) (hs : SizesAt w lvv len f) (ha : ActsAt w v alen g) (G : Glob w) :
  Calls Tryz.prog 3 #[lvv, v] w fun e w' => e = .returned (.bool true) ∧ Below w.heap.size w w' := by
 have HW : Hid (Calls Tryz.prog 14 #[] w fun e w' => e = .returned (.bool true) ∧ Below w.heap.size w w') := works_any w G
 have HR : Hid (∀ W, Below w.heap.size w W → Calls Tryz.prog 15 #[lvv, v] W (ReadyPost len f alen g W)) := fun W hB => ready_any len f lvv alen g v W (hs.below hB) (ha.below hB) (G.new hB)
 have HG : Hid (∀ W, HFr w.heap.size w W → Glob W) := fun W hf => G.below hf.b G.hn
 have hbg : Hid (Tryz.prog.globals.size ≤ w.heap.size) := G.hn; have HA : Hid (∀ W, HFr w.heap.size w W → ActsAt W v alen g) := fun W hf => ha.below hf.b
 have HS : Hid (∀ W, HFr w.heap.size w W → SizesAt W lvv len f) := fun W hf => hs.below hf.b
 obtain ⟨a, cap, rfl, hl, hm, hok, hc⟩ := id ha; have HOK : Hid (∀ i, i < alen → (g i).Ok) := hok
 clear hs ha G hc hok hl; unfold maxLen at hm
 go_enter Tryz.func3, Tryz.ntmps3
 go_wp2_with fail; refine HW.out.mono ?_; rintro e w1 ⟨rfl, b1⟩; have X1 : Hid (Below w.heap.size w w1) := b1; have HR1 := hidd (HR.out w1 b1); clear HW HR b1; go_wp2_with fail; refine HR1.out.mono ?_; rintro e w2 ⟨b2, rfl | ⟨hlv, hlight, pb, mb, db, sb, hb, rfl, hx⟩⟩
 ·have X2 : Hid (Below w.heap.size w w2) := B.next X1.out b2 X1.out.size
  clear HR1 b2 X1 HG HA HS HOK; go_wp2; go_returns; exact ⟨rfl, X2.out⟩
 have F2 : Hid (HFr w.heap.size w w2) := (HFr.of_below X1.out (Nat.le_refl _)).trans (HFr.of_below b2 X1.out.size); have H2 : Hid (HX w2 w.heap.size pb mb db sb hb (rowsOf f len) ⟨newS len, ⟨0, [], []⟩, []⟩ (60 * 0)) := hx.down X1.out.size; have hal : Hid ((alen : Int) ≤ 60) := hlight.1; have HLV : Hid (levelsN len f = 0) := hlv; have hln : Hid (1 ≤ len ∧ len ≤ 4) := ⟨(levelsN_zero hlv).1, (levelsN_zero hlv).2.1⟩; have HWS : Hid (Good7 (rowsOf f len) ⟨newS len, ⟨0, [], []⟩, []⟩) := Good7.start f hln.out.1 hln.out.2; clear HR1 b2 X1 hx hlight hlv; go_wp2_with fail
 go_loopg [8, 9] alen (fun q hv9 iv9 wr => ∃ (k : Nat) (hb : Nat) (σ : Sg), k + q = alen ∧ iv9 = .int .i64 k ∧ hv9 = .pointer (some ⟨hb, 0, none⟩) ∧ Hid (HX wr w.heap.size pb mb db sb hb (rowsOf f len) σ (60 * k)) ∧ Hid (Good7 (rowsOf f len) σ) ∧ Hid (HFr w.heap.size w wr))
 case atStart => exact ⟨0, hb, _, by omega, rfl, rfl, H2, HWS, F2⟩
 case round =>
  clear H2 F2 HWS; obtain ⟨k, hb, σ, hk, rfl, rfl, HX1, HW1, HF1⟩ := hrel; have HK : Hid (k + gk = alen) := hk
  by_cases hlt : k < alen
  ·have hlt' : (k : Int) < (alen : Int) := by omega
   have hAc := HA.out wr HF1.out; obtain ⟨a', cap', hv, _, _, _, hc⟩ := hAc; obtain ⟨bq, off, hv2, hbl, hcell⟩ := hc (by omega); injection hv with e1 e2 e3; subst hv2; subst e1 e3; have c0 : wr.cell? ⟨bq, off + k * 12 + 0, none⟩ = some (.string (g k).kind) := hcell k hlt 0 (by omega); have c1 : wr.cell? ⟨bq, off + k * 12 + 1, none⟩ = some (.int .i64 (g k).a) := hcell k hlt 1 (by omega); have c2 : wr.cell? ⟨bq, off + k * 12 + 2, none⟩ = some (.int .i64 (g k).b) := hcell k hlt 2 (by omega); have c3 : wr.cell? ⟨bq, off + k * 12 + 3, none⟩ = some (.int .i64 (g k).c0) := hcell k hlt 3 (by omega); have c4 : wr.cell? ⟨bq, off + k * 12 + 4, none⟩ = some (.int .i64 (g k).c1) := hcell k hlt 4 (by omega); have c5 : wr.cell? ⟨bq, off + k * 12 + 5, none⟩ = some (.int .i64 (g k).c2) := hcell k hlt 5 (by omega); have c6 : wr.cell? ⟨bq, off + k * 12 + 6, none⟩ = some (.int .i64 (g k).c3) := hcell k hlt 6 (by omega); have c7 : wr.cell? ⟨bq, off + k * 12 + 7, none⟩ = some (.string (g k).s) := hcell k hlt 7 (by omega); have c8 : wr.cell? ⟨bq, off + k * 12 + 8, none⟩ = some (.int .u64 (g k).k) := hcell k hlt 8 (by omega); have c9 : wr.cell? ⟨bq, off + k * 12 + 9, none⟩ = some (.int .i64 (g k).last) := hcell k hlt 9 (by omega); have c10 : wr.cell? ⟨bq, off + k * 12 + 10, none⟩ = some (.slice (g k).sa (g k).sl (g k).sc) := hcell k hlt 10 (by omega); have c11 : wr.cell? ⟨bq, off + k * 12 + 11, none⟩ = some (.slice (g k).ja (g k).jl (g k).jc) := hcell k hlt 11 (by omega); have hx := HOK.out k hlt; have HPL := hidd (play_any w.heap.size pb mb db sb hb len f lvv σ (60 * k) (g k) wr HX1.out (HS.out wr HF1.out) HLV.out (by have := hal.out; unfold maxLen; omega) hx (HG.out wr HF1.out) hbg.out); clear hcell hc hk hx; simp only [Nat.add_zero] at c0; go_wp2_with fail; refine HPL.out.mono ?_; rintro e w3 ⟨hb', σ', rfl, f3, hp, hx3⟩; have HX3 : Hid (HX w3 w.heap.size pb mb db sb hb' (rowsOf f len) σ' (60 * (k + 1))) := by show HX _ _ _ _ _ _ _ _ _ _; rw [Nat.mul_succ]; exact hx3
   have HW3 : Hid (Good7 (rowsOf f len) σ') := HW1.out.play HX3.out.ok hp; have HF3 : Hid (HFr w.heap.size w w3) := HF1.out.trans f3; clear HPL f3 hp hx3 HX1 HW1 HF1 c0 c1 c2 c3 c4 c5 c6 c7 c8 c9 c10 c11 hbl; go_wp2_with fail
   go_roundg (gk - 1)
   case measure => have := HK.out; omega
   case rel => exact ⟨k + 1, hb', σ', by have := HK.out; omega, by go_num, rfl, HX3, HW3, HF3⟩
  ·have hlt' : ¬ (k : Int) < (alen : Int) := by omega
   have hk60 : Hid (k ≤ 60) := by show k ≤ 60; have := hal.out; have := HK.out; omega
   have HST := hidd (settle_any w.heap.size pb mb db sb hb (60 * k) (rowsOf f len) σ wr HX1.out (by have := hk60.out; unfold maxLen; omega) (HG.out wr HF1.out) hbg.out); clear hk HA HOK; go_wp2_with fail; refine HST.out.mono ?_; rintro e w3 ⟨rfl, f3, σ2, hend, hx3⟩; have HF3 : Hid (HFr w.heap.size w w3) := HF1.out.trans f3; have HX3 : Hid (HX w3 w.heap.size pb mb db sb hb (rowsOf f len) σ2 (60 * k + 2500)) := hx3
   have HE3 : Hid (Fin σ2 ∧ Wf len σ2 ∧ Settled σ2.b σ2.s) := by
    have w0 := HW1.out.wf; have o0 := HW1.out.og; rw [rowsOf_len] at w0 o0 hend; exact hend.fin w0 o0
   clear HST f3 hend hx3 HX1 HW1 HF1; have HEN := hidd (ended_any w.heap.size pb mb db sb hb (60 * k + 2500) len f lvv σ2 w3 HX3.out (HS.out w3 HF3.out) HE3.out.2.1 HE3.out.1); have HB3 : Hid (∀ W, Below w3.heap.size w3 W → Below w.heap.size w W) := fun W hB => B.next HF3.out.b hB HX3.out.sz
   clear HS HG HX3 HF3 HE3; go_wp2_with fail; refine HEN.out.mono ?_; rintro e w4 ⟨rfl, b4⟩; have HQ := hidd (HB3.out w4 b4); clear HEN HB3 b4; go_wp2; go_returns; exact ⟨rfl, HQ.out⟩
end Hs
end Go.Proofs.YtopgllmjeliklaaGreatDoor
