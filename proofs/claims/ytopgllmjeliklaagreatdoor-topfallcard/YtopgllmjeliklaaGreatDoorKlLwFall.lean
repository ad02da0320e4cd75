/- Chapter 11, the law TopFall: its walk. -/
import Derived.Test.YtopgllmjeliklaaGreatDoorKlCars
import Derived.Test.YtopgllmjeliklaaGreatDoorKlHsP
import Derived.Deep.CutRange
namespace Go.Proofs.YtopgllmjeliklaaGreatDoor
open Go.Shelf Go.Lib Go.ChangeShapes Go.WideShapes Go.ChangeAt Go.RowKit
set_option maxRecDepth 100000
set_option linter.unusedSimpArgs false
set_option linter.unusedVariables false
namespace Hs
open Bk Lg Pl Dk Tx Tn Ac
set_option maxHeartbeats 16000000 in
theorem topFall_law (len : Nat) (f : Nat -> Int × Int × Int) (lvv : Value) (alen : Nat) (g : Nat -> ActC) (v : Value) (fuse K : Int) (w : World) (hs : SizesAt w lvv len f) (ha : ActsAt w v alen g) (G : Glob w) :
  Calls Tryz.prog 13 #[lvv, v, .int .i64 fuse, .int .u64 K] w fun e w' => e = .returned (.bool true) /\ Below w.heap.size w w' := by
 have HW : Hid (Calls Tryz.prog 14 #[] w fun e w' => e = .returned (.bool true) /\ Below w.heap.size w w') := works_any w G
 have HR : Hid (∀ W, Below w.heap.size w W -> Calls Tryz.prog 15 #[lvv, v] W (ReadyPost len f alen g W)) := fun W hB => ready_any len f lvv alen g v W (hs.below hB) (ha.below hB) (G.new hB)
 have HG : Hid (∀ W, HFr w.heap.size w W -> Glob W) := fun W hf => G.below hf.b G.hn
 have hbg : Hid (Tryz.prog.globals.size <= w.heap.size) := G.hn; have HA : Hid (∀ W, HFr w.heap.size w W -> ActsAt W v alen g) := fun W hf => ha.below hf.b
 have HS : Hid (∀ W, HFr w.heap.size w W -> SizesAt W lvv len f) := fun W hf => hs.below hf.b
 obtain ⟨a, cap, rfl, hl, hm, hok, hc⟩ := id ha; have HOK : Hid (∀ i, i < alen -> (g i).Ok) := hok
 clear hs ha G hc hok hl; unfold maxLen at hm
 go_enter Tryz.func13, Tryz.ntmps13
 go_wp2_with fail; refine HW.out.mono ?_; rintro e w1 ⟨rfl, b1⟩; have X1 : Hid (Below w.heap.size w w1) := b1; have HR1 := hidd (HR.out w1 b1); clear HW HR b1; go_wp2_with fail; refine HR1.out.mono ?_; rintro e w2 ⟨b2, rfl | ⟨hlv, hlight, pb, mb, db, sb, hb, rfl, hx⟩⟩
 ·have X2 : Hid (Below w.heap.size w w2) := B.next X1.out b2 X1.out.size
  clear HR1 b2 X1 HG HA HS HOK; go_wp2; go_returns; exact ⟨rfl, X2.out⟩
 have F2 : Hid (HFr w.heap.size w w2) := (HFr.of_below X1.out (Nat.le_refl _)).trans (HFr.of_below b2 X1.out.size); have H2 : Hid (HX w2 w.heap.size pb mb db sb hb (rowsOf f len) ⟨newS len, ⟨0, [], []⟩, []⟩ (60 * 0)) := hx.down X1.out.size; have hal : Hid ((alen : Int) <= 60) := hlight.1; have HLV : Hid (levelsN len f = 0) := hlv; have hln : Hid (1 <= len /\ len <= 4) := ⟨(levelsN_zero hlv).1, (levelsN_zero hlv).2.1⟩; have HWS : Hid (Good7 (rowsOf f len) ⟨newS len, ⟨0, [], []⟩, []⟩) := Good7.start f hln.out.1 hln.out.2; clear HR1 b2 X1 hx hlight hlv; have HAR := hidd (armF H2.out HWS.out.wf (min (max fuse (-1)) 500) (by omega)); go_wp2_with fail; refine HAR.out.mono ?_; rintro e w3 ⟨rfl, f3, L, armed, hu⟩; have HU3 : Hid ((UpF w3 w.heap.size pb mb db sb L hb armed (rowsOf f len) (60 * 0) \/ Rest1 w3 w.heap.size pb mb db sb (rowsOf f len).length true (60 * 0))) := Or.inl hu; have HF3 : Hid (HFr w.heap.size w w3) := F2.out.trans f3; clear HAR f3 hu H2 F2 HWS; go_wp2_with fail
 go_loopg [12, 13] alen (fun q hv9 iv9 wr => ∃ (k : Nat), k + q = alen /\ iv9 = .int .i64 k /\ hv9 = .pointer (some ⟨hb, 0, none⟩) /\ Hid ((UpF wr w.heap.size pb mb db sb L hb armed (rowsOf f len) (60 * k) \/ Rest1 wr w.heap.size pb mb db sb (rowsOf f len).length true (60 * k))) /\ Hid (HFr w.heap.size w wr))
 case atStart => exact ⟨0, by omega, rfl, rfl, HU3, HF3⟩
 case round =>
  clear HU3 HF3; obtain ⟨k, hk, rfl, rfl, HU1, HF1⟩ := hrel; have HK : Hid (k + gk = alen) := hk; have hk60 : Hid (k <= 60) := by show k <= 60; have := hal.out; omega
  have HEND : Hid (∀ down, Rest1 wr w.heap.size pb mb db sb (rowsOf f len).length down (60 * k) -> Calls Tryz.prog 42 #[.pointer (some ⟨db, 0, none⟩), .int .u64 K] wr fun e w' => e = .returned (.tuple #[]) /\ HFr w.heap.size wr w' /\ ∃ secs left s b, IsP w' pb mb (60 * k) s /\ Inv s /\ Wf (rowsOf f len).length ⟨s, b, []⟩ /\ DiskAt w' w.heap.size db sb secs 0 false left false /\ 22 <= secs.length /\ secs.length <= 1000 /\ left <= 9223372036854775807 /\ (∀ j, j < secs.length -> secs[j]!.wr = []) /\ openP secs (rowsOf f len).length = some b /\ w.heap.size <= pb /\ w.heap.size <= mb /\ w.heap.size <= w'.heap.size) := fun down hr => restartF K hr (by rw [rowsOf_len]; exact hln.out.2)
  by_cases hlt : k < alen /\ UpF wr w.heap.size pb mb db sb L hb armed (rowsOf f len) (60 * k)
  ·obtain ⟨hlt, hup⟩ := hlt
   have hlt' : (k : Int) < (alen : Int) := by omega
   have HUP : Hid (UpF wr w.heap.size pb mb db sb L hb armed (rowsOf f len) (60 * k)) := hup; have HDN := hidd (downF hup.rest); have hAc := HA.out wr HF1.out; obtain ⟨a', cap', hv, _, _, _, hc⟩ := hAc; obtain ⟨bq, off, hv2, hbl, hcell⟩ := hc (by omega); injection hv with e1 e2 e3; subst hv2; subst e1 e3; have c0 : wr.cell? ⟨bq, off + k * 12 + 0, none⟩ = some (.string (g k).kind) := hcell k hlt 0 (by omega); have c1 : wr.cell? ⟨bq, off + k * 12 + 1, none⟩ = some (.int .i64 (g k).a) := hcell k hlt 1 (by omega); have c2 : wr.cell? ⟨bq, off + k * 12 + 2, none⟩ = some (.int .i64 (g k).b) := hcell k hlt 2 (by omega); have c3 : wr.cell? ⟨bq, off + k * 12 + 3, none⟩ = some (.int .i64 (g k).c0) := hcell k hlt 3 (by omega); have c4 : wr.cell? ⟨bq, off + k * 12 + 4, none⟩ = some (.int .i64 (g k).c1) := hcell k hlt 4 (by omega); have c5 : wr.cell? ⟨bq, off + k * 12 + 5, none⟩ = some (.int .i64 (g k).c2) := hcell k hlt 5 (by omega); have c6 : wr.cell? ⟨bq, off + k * 12 + 6, none⟩ = some (.int .i64 (g k).c3) := hcell k hlt 6 (by omega); have c7 : wr.cell? ⟨bq, off + k * 12 + 7, none⟩ = some (.string (g k).s) := hcell k hlt 7 (by omega); have c8 : wr.cell? ⟨bq, off + k * 12 + 8, none⟩ = some (.int .u64 (g k).k) := hcell k hlt 8 (by omega); have c9 : wr.cell? ⟨bq, off + k * 12 + 9, none⟩ = some (.int .i64 (g k).last) := hcell k hlt 9 (by omega); have c10 : wr.cell? ⟨bq, off + k * 12 + 10, none⟩ = some (.slice (g k).sa (g k).sl (g k).sc) := hcell k hlt 10 (by omega); have c11 : wr.cell? ⟨bq, off + k * 12 + 11, none⟩ = some (.slice (g k).ja (g k).jl (g k).jc) := hcell k hlt 11 (by omega); have hx := HOK.out k hlt; have HPL : Hid (((g k).kind.toList == [111, 112, 101, 110]) = false -> Calls Tryz.prog 16 #[lvv, .pointer (some ⟨pb, 0, none⟩), .pointer (some ⟨db, 0, none⟩), .pointer (some ⟨hb, 0, none⟩), .agg (g k).vals] wr (PlayF w.heap.size pb mb db sb L hb armed (rowsOf f len) (60 * k) wr)) := fun hq => playF w.heap.size pb mb db sb L hb len armed f lvv (60 * k) (g k) wr HUP.out (HS.out wr HF1.out) (by have := hk60.out; unfold maxLen; omega) hx hq (HG.out wr HF1.out) hbg.out
   unfold ActC.vals at HPL; clear hcell hc hk hx hup HEND HU1; simp only [Nat.add_zero] at c0; go_wp2_with fail; refine HDN.out.mono ?_; rintro e w3 ⟨rfl, rfl⟩
   cases hq : ((g k).kind.toList == [111, 112, 101, 110])
   ·have HPL1 := hidd (HPL.out hq)
    clear HPL HDN; go_wp2_with fail; refine HPL1.out.mono ?_; rintro e w4 ⟨rfl, f4, hu⟩
    have HU4 : Hid ((UpF w4 w.heap.size pb mb db sb L hb armed (rowsOf f len) (60 * (k + 1)) \/ Rest1 w4 w.heap.size pb mb db sb (rowsOf f len).length true (60 * (k + 1)))) := by
     show _ \/ _
     rw [Nat.mul_succ]; exact hu
    have HF4 : Hid (HFr w.heap.size w w4) := HF1.out.trans f4; clear HPL1 f4 hu HUP HF1 c0 c1 c2 c3 c4 c5 c6 c7 c8 c9 c10 c11 hbl; go_wp2_with fail
    go_roundg (gk - 1)
    case measure => have := HK.out; omega
    case rel => exact ⟨k + 1, by have := HK.out; omega, by go_num, rfl, HU4, HF4⟩
   ·have HU4 : Hid ((UpF w3 w.heap.size pb mb db sb L hb armed (rowsOf f len) (60 * (k + 1)) \/ Rest1 w3 w.heap.size pb mb db sb (rowsOf f len).length true (60 * (k + 1)))) := Or.inl (HUP.out.le (by omega))
    clear HPL HDN HUP c1 c2 c3 c4 c5 c6 c7 c8 c9 c10 c11 hbl; go_wp2_with fail
    go_roundg (gk - 1)
    case measure => have := HK.out; omega
    case rel => exact ⟨k + 1, by have := HK.out; omega, by go_num, rfl, HU4, HF1⟩
  ·have HR : Hid (∃ down, Rest1 wr w.heap.size pb mb db sb (rowsOf f len).length down (60 * k) /\ (k < alen -> down = true)) := by
    rcases HU1.out with h | h
    ·exact ⟨false, h.rest, fun hq => absurd ⟨hq, h⟩ hlt⟩
    ·exact ⟨true, h, fun _ => rfl⟩
   obtain ⟨down, hr, hd⟩ := HR.out; have HDN := hidd (downF hr); have HE1 := hidd (HEND.out down hr)
   have hkk : Hid (k < alen -> down = true) := hd
   clear hk hlt HU1 HEND HR hr hd HA HOK
   by_cases hlt : k < alen
   ·have hlt' : (k : Int) < (alen : Int) := by omega
    obtain rfl := hkk.out hlt; go_wp2_with fail; refine HDN.out.mono ?_; rintro e w3 ⟨rfl, rfl⟩; clear HDN; go_wp2_with fail; refine HE1.out.mono ?_; rintro e w5 ⟨rfl, f5, secs, left, s9, b9, hp9, iv9, wf9, d9, h22, hfw, hlo, hwr, hop, hpb9, hmb9, hsz9⟩; have HF5 : Hid (HFr w.heap.size w w5) := HF1.out.trans f5; have HWF : Hid (Wf len ⟨s9, b9, []⟩) := by show Wf _ _; rwa [rowsOf_len] at wf9
    have hsz5 : Hid (w.heap.size <= w5.heap.size) := hsz9; have HNW := hidd (newF hp9 iv9 HWF.out d9 h22 hfw hlo hwr (by rwa [rowsOf_len] at hop) hpb9 hmb9 hsz9 (HS.out w5 HF5.out) HLV.out (HG.out w5 HF5.out)); clear HE1 f5 hp9 iv9 wf9 d9 h22 hfw hlo hwr hop hpb9 hmb9 hsz9 HF1; go_wp2_with fail; refine HNW.out.mono ?_; rintro e w6 ⟨hb6, rfl, b6, hx6⟩; have HF6 : Hid (HFr w.heap.size w w6) := HF5.out.trans (HFr.of_below b6 hsz5.out); have HST := hidd (settle_any w.heap.size pb mb db sb hb6 (60 * k) (rowsOf f len) ⟨s9, b9, []⟩ w6 hx6 (by have := hk60.out; unfold maxLen; omega) (HG.out w6 HF6.out) hbg.out); clear HNW b6 hx6 HF5; go_wp2_with fail; refine HST.out.mono ?_; rintro e w7 ⟨rfl, f7, σ2, hend, hx7⟩; have HF7 : Hid (HFr w.heap.size w w7) := HF6.out.trans f7; have HX7 : Hid (HX w7 w.heap.size pb mb db sb hb6 (rowsOf f len) σ2 (60 * k + 2500)) := hx7
    have HE3 : Hid (Fin σ2 /\ Wf len σ2 /\ Settled σ2.b σ2.s) := by
     rw [rowsOf_len] at hend; exact hend.fin HWF.out (Og.nil _)
    have HEN := hidd (ended_any w.heap.size pb mb db sb hb6 (60 * k + 2500) len f lvv σ2 w7 HX7.out (HS.out w7 HF7.out) HE3.out.2.1 HE3.out.1); have HB3 : Hid (∀ W, Below w7.heap.size w7 W -> Below w.heap.size w W) := fun W hB => B.next HF7.out.b hB HX7.out.sz
    clear HST f7 hend hx7 HF6 HS HG HX7 HF7 HE3; go_wp2_with fail; refine HEN.out.mono ?_; rintro e w8 ⟨rfl, b8⟩; have HQ := hidd (HB3.out w8 b8); clear HEN HB3 b8; go_wp2; go_returns; exact ⟨rfl, HQ.out⟩
   ·have hlt' : ¬ (k : Int) < (alen : Int) := by omega
    clear HDN; go_wp2_with fail; refine HE1.out.mono ?_; rintro e w5 ⟨rfl, f5, secs, left, s9, b9, hp9, iv9, wf9, d9, h22, hfw, hlo, hwr, hop, hpb9, hmb9, hsz9⟩; have HF5 : Hid (HFr w.heap.size w w5) := HF1.out.trans f5; have HWF : Hid (Wf len ⟨s9, b9, []⟩) := by show Wf _ _; rwa [rowsOf_len] at wf9
    have hsz5 : Hid (w.heap.size <= w5.heap.size) := hsz9; have HNW := hidd (newF hp9 iv9 HWF.out d9 h22 hfw hlo hwr (by rwa [rowsOf_len] at hop) hpb9 hmb9 hsz9 (HS.out w5 HF5.out) HLV.out (HG.out w5 HF5.out)); clear HE1 f5 hp9 iv9 wf9 d9 h22 hfw hlo hwr hop hpb9 hmb9 hsz9 HF1; go_wp2_with fail; refine HNW.out.mono ?_; rintro e w6 ⟨hb6, rfl, b6, hx6⟩; have HF6 : Hid (HFr w.heap.size w w6) := HF5.out.trans (HFr.of_below b6 hsz5.out); have HST := hidd (settle_any w.heap.size pb mb db sb hb6 (60 * k) (rowsOf f len) ⟨s9, b9, []⟩ w6 hx6 (by have := hk60.out; unfold maxLen; omega) (HG.out w6 HF6.out) hbg.out); clear HNW b6 hx6 HF5; go_wp2_with fail; refine HST.out.mono ?_; rintro e w7 ⟨rfl, f7, σ2, hend, hx7⟩; have HF7 : Hid (HFr w.heap.size w w7) := HF6.out.trans f7; have HX7 : Hid (HX w7 w.heap.size pb mb db sb hb6 (rowsOf f len) σ2 (60 * k + 2500)) := hx7
    have HE3 : Hid (Fin σ2 /\ Wf len σ2 /\ Settled σ2.b σ2.s) := by
     rw [rowsOf_len] at hend; exact hend.fin HWF.out (Og.nil _)
    have HEN := hidd (ended_any w.heap.size pb mb db sb hb6 (60 * k + 2500) len f lvv σ2 w7 HX7.out (HS.out w7 HF7.out) HE3.out.2.1 HE3.out.1); have HB3 : Hid (∀ W, Below w7.heap.size w7 W -> Below w.heap.size w W) := fun W hB => B.next HF7.out.b hB HX7.out.sz
    clear HST f7 hend hx7 HF6 HS HG HX7 HF7 HE3; go_wp2_with fail; refine HEN.out.mono ?_; rintro e w8 ⟨rfl, b8⟩; have HQ := hidd (HB3.out w8 b8); clear HEN HB3 b8; go_wp2; go_returns; exact ⟨rfl, HQ.out⟩
end Hs
end Go.Proofs.YtopgllmjeliklaaGreatDoor
