/- HsE. -/
import Derived.Test.YtopgllmjeliklaaGreatDoorKiWant
set_option maxRecDepth 100000
set_option linter.unusedSimpArgs false
set_option linter.unusedVariables false
namespace Go.Proofs.YtopgllmjeliklaaGreatDoor
open Go.Shelf Go.Lib Go.ChangeShapes Go.WideShapes Go.ChangeAt Go.RowKit
namespace Hs
open Bk Lg Pl Dk Tx
def fOf (lv : List (Int × Int × Int)) (i : Nat) : Int × Int × Int := lv[i]!
theorem own_sizes2 {w : World} {base : Nat} {v : Value} {lv : List (Int × Int × Int)} (h : OwnAt w base 32 3 Bk.encP v lv) : SizesAt w v lv.length (fOf lv) := by
 obtain ⟨a, cap, rfl, h1, h2, h3⟩ := h.rows; refine ⟨a, cap, rfl, h1, h2, fun h0 => ?_⟩
 obtain ⟨b, off, rfl, hb, hc⟩ := h3 h0; refine ⟨b, off, rfl, hb, fun i hi => ?_⟩
 have h := hc i hi; exact ⟨h 0 _ rfl, h 1 _ rfl, h 2 _ rfl⟩
def parkB (b : PB) (ci ca cb cc : Int) (po : Int × Int × Int) : PB := ⟨b.last + 1, b.stays ++ [⟨b.last + 1, ci, ca, cb, cc, po.1, po.2.1, po.2.2⟩], b.jobs ++ [⟨b.last + 1, false⟩]⟩
def HPark (base pb mb n db sb L hb : Nat) (secs : List Sec) (armed : Bool) (lv : List (Int × Int × Int)) (s : St) (b : PB) (gs : List (Int × Int)) (ci ca cb cc : Int) (w : World) (e : Ending) (w' : World) : Prop :=
 ((s.ba = 0 ∨ s.ba ≠ ci) ∧ e = .returned (.tuple #[.int .i64 0, .iface 103 (.int .i64 7)]) ∧ Below w.heap.size w w') ∨
 (s.ba ≠ 0 ∧ s.ba = ci ∧ ∃ k, k ≠ 0 ∧ parkN b.book (fOf lv) lv.length ci ca cb cc = k ∧ e = .returned (.tuple #[.int .i64 0, .iface 103 (.int .i64 k)]) ∧ Below w.heap.size w w') ∨
 (s.ba ≠ 0 ∧ s.ba = ci ∧ parkN b.book (fOf lv) lv.length ci ca cb cc = 0 ∧ ∃ po, pickO b.book (fOf lv) ca cb cc lv.length = some po ∧ ∃ v, HKeep base pb mb n db sb L hb secs armed lv s (parkB b ci ca cb cc po) gs w (.returned v) w' ∧
   ((v = .nilIface ∧ e = .returned (.tuple #[.int .i64 (b.last + 1), .nilIface])) ∨ (v = .iface 103 (.int .i64 9) ∧ e = .returned (.tuple #[.int .i64 0, .iface 103 (.int .i64 9)]))))
set_option maxHeartbeats 4000000 in
theorem hpark_any (base pb mb n db sb L hb : Nat) (secs : List Sec) (armed : Bool) (left : Int) (lv : List (Int × Int × Int)) (s : St) (b : PB) (gs : List (Int × Int)) (ci ca cb cc : Int) (w : World) (h : HouseS w base pb mb n db sb L hb secs armed left lv s b gs) (G : Glob w) (hbg : Tryz.prog.globals.size ≤ base) :
  Calls Tryz.prog 29 #[.pointer (some ⟨hb, 0, none⟩), .agg #[.int .i64 ci, .int .i64 ca, .int .i64 cb, .int .i64 cc]] w (HPark base pb mb n db sb L hb secs armed lv s b gs ci ca cb cc w) := by
 have H7 : Hid (s.ba = 0 ∨ s.ba ≠ ci → ∀ w', Below w.heap.size w w' → HPark base pb mb n db sb L hb secs armed lv s b gs ci ca cb cc w (.returned (.tuple #[.int .i64 0, .iface 103 (.int .i64 7)])) w') := fun h0 w' h1 => Or.inl ⟨h0, rfl, h1⟩
 have HNO : Hid (s.ba ≠ 0 → s.ba = ci → ∀ k w', k ≠ 0 → parkN b.book (fOf lv) lv.length ci ca cb cc = k → Below w.heap.size w w' → HPark base pb mb n db sb L hb secs armed lv s b gs ci ca cb cc w (.returned (.tuple #[.int .i64 0, .iface 103 (.int .i64 k)])) w') := fun a0 a1 k w' h0 h1 h2 => Or.inr (Or.inl ⟨a0, a1, k, h0, h1, rfl, h2⟩)
 have HYES : Hid (s.ba ≠ 0 → s.ba = ci → parkN b.book (fOf lv) lv.length ci ca cb cc = 0 → ∀ po, pickO b.book (fOf lv) ca cb cc lv.length = some po → ∀ W v w', Below w.heap.size w W → HKeep base pb mb n db sb L hb secs armed lv s (parkB b ci ca cb cc po) gs W (.returned v) w' → (v = .nilIface ∧ HPark base pb mb n db sb L hb secs armed lv s b gs ci ca cb cc w (.returned (.tuple #[.int .i64 (b.last + 1), .nilIface])) w') ∨ (v = .iface 103 (.int .i64 9) ∧ HPark base pb mb n db sb L hb secs armed lv s b gs ci ca cb cc w (.returned (.tuple #[.int .i64 0, .iface 103 (.int .i64 9)])) w')) := fun a0 a1 h0 po hpo W v w' h1 h2 => by
  have h3 := h2.front (DFr.of_below h1 h.hsz)
  rcases h2.value with e | e
  ·injection e with e; subst e
   exact Or.inl ⟨rfl, Or.inr (Or.inr ⟨a0, a1, h0, po, hpo, _, h3, Or.inl ⟨rfl, rfl⟩⟩)⟩
  ·injection e with e; subst e
   exact Or.inr ⟨rfl, Or.inr (Or.inr ⟨a0, a1, h0, po, hpo, _, h3, Or.inr ⟨rfl, rfl⟩⟩)⟩
 have HSE : Hid (∀ W, Below w.heap.size w W → Calls Tryz.prog 19 #[.pointer (some ⟨pb, 0, none⟩)] W fun e w' => e = .returned (senseV s) ∧ Below W.heap.size W w') := fun W hB => sense_any pb mb n s W (h.p.below hB) h.iv.ok
 have HBK : Hid (∀ W, Below w.heap.size w W → Calls Tryz.prog 20 #[.pointer (some ⟨hb, 0, none⟩)] W fun e w' => ∃ vs vj, e = .returned (.agg #[.int .i64 b.last, vs, vj]) ∧ OwnBook w' W.heap.size vs vj b.stays b.jobs ∧ Below W.heap.size W w') := fun W hB => hbook_any base pb mb n db sb L hb secs armed left lv s b gs W (h.below hB)
 obtain ⟨vl, vg, hH, hL, hG⟩ := h.h
 have HPK : Hid (∀ k0 vs vj W, Below w.heap.size w W → OwnBook W k0 vs vj b.stays b.jobs → Calls Tryz.prog 57 #[.agg #[.int .i64 b.last, vs, vj], vl, .agg #[.int .i64 ci, .int .i64 ca, .int .i64 cb, .int .i64 cc]] W fun e w' => ∃ l a1 n1 c1 a2 n2 c2 t x, e = .returned (.tuple #[.agg #[.int .i64 l, .slice a1 n1 c1, .slice a2 n2 c2], .int .i64 t, x]) ∧ Hid ((∃ k, k ≠ 0 ∧ parkN b.book (fOf lv) lv.length ci ca cb cc = k ∧ x = .iface 103 (.int .i64 k)) ∨ (parkN b.book (fOf lv) lv.length ci ca cb cc = 0 ∧ x = .nilIface ∧ t = b.last + 1 ∧ ∃ po, pickO b.book (fOf lv) ca cb cc lv.length = some po ∧ l = b.last + 1 ∧ OwnBook w' W.heap.size (.slice a1 n1 c1) (.slice a2 n2 c2) (parkB b ci ca cb cc po).stays (parkB b ci ca cb cc po).jobs)) ∧ Below W.heap.size W w') := fun k0 vs vj W hB ho => by
  obtain ⟨sa, sc, ja, jc, rfl, rfl, hat⟩ := own_at2 (last := b.last) ho; refine (park_any ⟨b.last, sa, sc, ja, jc, b.stays, b.jobs⟩ vl lv.length (fOf lv) ci ca cb cc W hat ((own_sizes2 hL).below hB) h.n1 h.n4 (by have := h.ok.fewS; show b.stays.length ≤ 20; omega) (by have := h.ok.fewJ; show b.jobs.length ≤ 12; omega) h.ok.lim.1).mono ?_
  rintro e w' (⟨⟨k, rfl, hk, hn⟩, hB2⟩ | ⟨hn, po, vs, vj, hpo, rfl, ho2, hB2⟩)
  ·exact ⟨_, _, _, _, _, _, _, _, _, rfl, Or.inl ⟨k, hk, hn, by rw [errV_ne hk]⟩, hB2⟩
  ·obtain ⟨sa2, sc2, ja2, jc2, rfl, rfl, _⟩ := own_at2 (last := 0) ho2
   exact ⟨_, _, _, _, _, _, _, _, _, rfl, Or.inr ⟨hn, rfl, rfl, po, hpo, rfl, ho2⟩, hB2⟩
 have HKP : Hid (parkN b.book (fOf lv) lv.length ci ca cb cc = 0 → ∀ po, pickO b.book (fOf lv) ca cb cc lv.length = some po → ∀ vs vj W, Below w.heap.size w W → OwnBook W base vs vj (parkB b ci ca cb cc po).stays (parkB b ci ca cb cc po).jobs → Calls Tryz.prog 53 #[.pointer (some ⟨L, 0, none⟩), .agg #[.int .i64 (b.last + 1), vs, vj]] W (HKeep base pb mb n db sb L hb secs armed lv s (parkB b ci ca cb cc po) gs W)) := fun h0 po hpo vs vj W hB ho => hkeep base pb mb n db sb L hb secs armed left lv s b (parkB b ci ca cb cc po) gs vs vj W (h.below hB) (G.new hB) hbg ho (BookOK.parked h.n1 h.n4 h.ok h0 hpo)
 have hsz : Hid (base ≤ w.heap.size) := h.hsz; have HH : Hid (∀ W, Below w.heap.size w W → Blk W hb #[vl, .pointer (some ⟨pb, 0, none⟩), .pointer (some ⟨L, 0, none⟩), vg] 96) := fun W hB => hH.below hB
 have hhb : Hid (hb < w.heap.size) := hH.lt; obtain ⟨la, lc, hvl, _⟩ := hL.rows; generalize HPark base pb mb n db sb L hb secs armed lv s b gs ci ca cb cc w = PP at *
 have HKQ : Hid (s.ba ≠ 0 → s.ba = ci → parkN b.book (fOf lv) lv.length ci ca cb cc = 0 → ∀ po, pickO b.book (fOf lv) ca cb cc lv.length = some po → ∀ vs vj W, Below w.heap.size w W → OwnBook W base vs vj (parkB b ci ca cb cc po).stays (parkB b ci ca cb cc po).jobs → Calls Tryz.prog 53 #[.pointer (some ⟨L, 0, none⟩), .agg #[.int .i64 (b.last + 1), vs, vj]] W fun e w' => ∃ v, e = .returned v ∧ LFr base W w' ∧ Hid ((v = .nilIface ∧ PP (.returned (.tuple #[.int .i64 (b.last + 1), .nilIface])) w') ∨ (v = .iface 103 (.int .i64 9) ∧ PP (.returned (.tuple #[.int .i64 0, .iface 103 (.int .i64 9)])) w'))) := fun a0 a1 h0 po hpo vs vj W hB ho => (HKP.out h0 po hpo vs vj W hB ho).mono (by
  intro e w' hk
  have hf := hk.fr
  rcases hk.value with rfl | rfl
  ·exact ⟨_, rfl, hf, HYES.out a0 a1 h0 po hpo W _ w' hB hk⟩
  ·exact ⟨_, rfl, hf, HYES.out a0 a1 h0 po hpo W _ w' hB hk⟩)
 have HSE2 : Hid (∃ x0 x1 x2 x3 x4 x6 x7 x8, ∀ W, Below w.heap.size w W → Calls Tryz.prog 19 #[.pointer (some ⟨pb, 0, none⟩)] W fun e w' => e = .returned (.agg #[.int .i64 x0, .int .i64 x1, .bool x2, .int .i64 x3, .int .i64 x4, .int .i64 s.ba, .bool x6, .bool x7, .bool x8]) ∧ Below W.heap.size W w') := ⟨_, _, _, _, _, _, _, _, HSE.out⟩
 obtain ⟨x0, x1, x2, x3, x4, x6, x7, x8, HSE3⟩ := HSE2.out; have HSE4 := hidd HSE3; clear HSE HSE2 HSE3 HKP HYES h hH hL hG G; subst hvl; generalize parkN b.book (fOf lv) lv.length ci ca cb cc = pn at *; generalize s.ba = ba at *; obtain ⟨w0, hw0⟩ : ∃ w0, w.alloc (.cells #[.int .i64 ci, .int .i64 ca, .int .i64 cb, .int .i64 cc] 34) = w0 := ⟨_, rfl⟩
 have N0 : Hid (Below w.heap.size w w0 ∧ Blk w0 w.heap.size #[.int .i64 ci, .int .i64 ca, .int .i64 cb, .int .i64 cc] 34) := by
  show _ ∧ _
  rw [← hw0]; exact ⟨B.new1 _ _, Blk.new _ _ _⟩
 have c0 := (HH.out w0 N0.out.1).cell; have hfd : ∀ W : World, (Instr.field 46 (.agg #[.int .i64 x0, .int .i64 x1, .bool x2, .int .i64 x3, .int .i64 x4, .int .i64 ba, .bool x6, .bool x7, .bool x8]) 5).run Tryz.prog W = .ok (.int .i64 ba) W := fun _ => by kernel_rfl
 go_enter Tryz.func29, Tryz.ntmps29
 go_wp2_with fail; clear hw0; refine (HSE4.out w0 N0.out.1).mono ?_; rintro e w1 ⟨rfl, b1⟩; have N1 : Hid (Below w.heap.size w w1 ∧ Blk w1 w.heap.size #[.int .i64 ci, .int .i64 ca, .int .i64 cb, .int .i64 cc] 34) := ⟨B.next N0.out.1 b1 N0.out.1.size, N0.out.2.below b1⟩; have r1 := N1.out.2.cell; clear HSE4 N0 c0 b1
 by_cases hb0 : ba = 0
 case pos =>
  subst hb0; have HF : Hid (PP (.returned (.tuple #[.int .i64 0, .iface 103 (.int .i64 7)])) w1) := H7.out (Or.inl rfl) w1 N1.out.1; clear H7 HNO HKQ HBK HPK HH N1; go_wp2; exact HF.out
 have hb0' : (ba == 0) = false := by simpa using hb0
 by_cases hb1 : ba = ci
 case neg =>
  have hb1' : (ba != ci) = true := by simpa using hb1
  have HF : Hid (PP (.returned (.tuple #[.int .i64 0, .iface 103 (.int .i64 7)])) w1) := H7.out (Or.inr hb1) w1 N1.out.1; clear H7 HNO HKQ HBK HPK HH N1 hb0 hb1; go_wp2; exact HF.out
 have hb1' : (ba != ci) = false := by simpa using hb1
 have HNO2 := hidd (HNO.out hb0 hb1); have HKQ2 := hidd (HKQ.out hb0 hb1); clear H7 HNO HKQ hb0 hb1; have HS : Hid (∀ W, Below w1.heap.size w1 W → W.cell? ⟨hb, 0, none⟩ = some (.slice la lv.length lc) ∧ W.cell? ⟨w.heap.size, 0, none⟩ = some (.int .i64 ci) ∧ W.cell? ⟨w.heap.size, 1, none⟩ = some (.int .i64 ca) ∧ W.cell? ⟨w.heap.size, 2, none⟩ = some (.int .i64 cb) ∧ W.cell? ⟨w.heap.size, 3, none⟩ = some (.int .i64 cc)) := fun W hB => ⟨(HH.out _ (B.next N1.out.1 hB N1.out.1.size)).cell 0, (N1.out.2.below hB).cell 0, (N1.out.2.below hB).cell 1, (N1.out.2.below hB).cell 2, (N1.out.2.below hB).cell 3⟩
 have D1 : Hid (Below w1.heap.size w1 w1.drew) := (Below.refl _ _).drew; have BA : Hid (∀ W, Below w1.heap.size w1 W → Below w1.heap.size w1 (W.alloc (.cells #[.int .i64 0, .slice none 0 0, .slice none 0 0] 39))) := fun W h => B.next h (B.new1 _ _) h.size
 have DA : Hid (Below w1.heap.size w1 (w1.alloc (.cells #[.int .i64 0, .slice none 0 0, .slice none 0 0] 39)).drew) := (B.new1 _ _).drew; have HBK1 := hidd (fun W (hB : Below w1.heap.size w1 W) => HBK.out W (B.next N1.out.1 hB N1.out.1.size))
 have HPK1 := hidd (fun k0 vs vj W (hB : Below w1.heap.size w1 W) => HPK.out k0 vs vj W (B.next N1.out.1 hB N1.out.1.size))
 clear HBK HPK
 go_upto_region 4 with fail
 go_region_held3 (fun W => W.cell? ⟨hb, 0, none⟩ = some (.slice la lv.length lc) ∧ W.cell? ⟨w.heap.size, 0, none⟩ = some (.int .i64 ci) ∧ W.cell? ⟨w.heap.size, 1, none⟩ = some (.int .i64 ca) ∧ W.cell? ⟨w.heap.size, 2, none⟩ = some (.int .i64 cb) ∧ W.cell? ⟨w.heap.size, 3, none⟩ = some (.int .i64 cc)) (first | with_reducible exact HS.out _ D1.out | with_reducible exact HS.out _ B2.out | with_reducible exact HS.out _ B3.out | with_reducible exact HS.out _ DA.out | with_reducible exact HS.out _ (BA.out _ B2.out) | with_reducible exact HS.out _ (B.next B3.out (B.new1 _ _) B3.out.size) | with_reducible exact HS.out _ (((B3.out.setCell (p := ⟨_, 0, none⟩) XL.out _).setCell (p := ⟨_, 1, none⟩) XL.out _).setCell (p := ⟨_, 2, none⟩) XL.out _) | fail)
  (first
    | (go_at_call 20; refine (HBK1.out _ (by first | exact D1.out | exact DA.out)).mono ?_; rintro e w2 ⟨vs, vj, rfl, ho, b2⟩; have C2 := hidd b2; have HO2 := hidd ho; have B2 : Hid (Below w1.heap.size w1 w2) := (by first | exact B.next D1.out b2 D1.out.size | exact B.next DA.out b2 DA.out.size); clear ho b2)
    | (go_at_call 57; refine (HPK1.out _ vs vj _ (by first | exact B2.out | exact BA.out _ B2.out) (by first | exact HO2.out | exact HO2.out.below (B.new1 _ _))).mono ?_; rintro e w3 ⟨l, a1, n1, c1, a2, n2, c2, t, x, rfl, hx, b3⟩; have C3 := hidd b3; have B3 : Hid (Below w1.heap.size w1 w3) := (by first | exact B.next B2.out b3 B2.out.size | exact B.next (BA.out _ B2.out) b3 (BA.out _ B2.out).size); clear b3; (first | (have RX : Hid (Blk w3 w2.heap.size #[.int .i64 0, .slice none 0 0, .slice none 0 0] 39) := (Blk.new w2 _ _).below C3.out; have XL : Hid (w1.heap.size ≤ w2.heap.size) := B2.out.size; have rX := RX.out.cell; have fX := RX.out.free) | (have RX : Hid (Blk w3 w1.heap.size #[.int .i64 0, .slice none 0 0, .slice none 0 0] 39) := ((Blk.new w1.drew _ _).below C2.out).below C3.out; have XL : Hid (w1.heap.size ≤ w1.heap.size) := Nat.le_refl _; have rX := RX.out.cell; have fX := RX.out.free) | skip)))
 ·have NE : Hid (Below w1.heap.size w1 (w3.alloc (.cells #[.int .i64 l, .slice a1 n1 c1, .slice a2 n2 c2] 39)) ∧ Blk (w3.alloc (.cells #[.int .i64 l, .slice a1 n1 c1, .slice a2 n2 c2] 39)) w3.heap.size #[.int .i64 l, .slice a1 n1 c1, .slice a2 n2 c2] 39) := ⟨B.next B3.out (B.new1 _ _) B3.out.size, Blk.new _ _ _⟩
  have HXE : Hid ((∃ k, k ≠ 0 ∧ pn = k ∧ x = .iface 103 (.int .i64 k)) ∨ (pn = 0 ∧ x = .nilIface ∧ t = b.last + 1 ∧ ∃ po, pickO b.book (fOf lv) ca cb cc lv.length = some po ∧ l = b.last + 1 ∧ OwnBook (w3.alloc (.cells #[.int .i64 l, .slice a1 n1 c1, .slice a2 n2 c2] 39)) base (.slice a1 n1 c1) (.slice a2 n2 c2) (parkB b ci ca cb cc po).stays (parkB b ci ca cb cc po).jobs)) := by
   rcases hx.out with h | ⟨q1, q2, q3, po, q4, q5, q6⟩
   ·exact Or.inl h
   ·exact Or.inr ⟨q1, q2, q3, po, q4, q5, bookDown (q6.below (B.new1 _ _)) (Nat.le_trans hsz.out (Nat.le_trans N1.out.1.size B2.out.size))⟩
  obtain ⟨wE, hwE⟩ : ∃ wE, w3.alloc (.cells #[.int .i64 l, .slice a1 n1 c1, .slice a2 n2 c2] 39) = wE := ⟨_, rfl⟩
  simp only [hwE]; rw [hwE] at NE HXE; have XE : Hid (Below w.heap.size w wE) := B.next N1.out.1 NE.out.1 N1.out.1.size; have HHE := HH.out wE XE.out; have HHE2 : Hid (Blk wE hb #[.slice la lv.length lc, .pointer (some ⟨pb, 0, none⟩), .pointer (some ⟨L, 0, none⟩), vg] 96 ∧ Blk wE w3.heap.size #[.int .i64 l, .slice a1 n1 c1, .slice a2 n2 c2] 39) := ⟨HHE, NE.out.2⟩; obtain ⟨X, hX⟩ : ∃ X, w3.heap.size = X := ⟨_, rfl⟩
  rw [hX] at HHE2; simp only [hX]; clear hX hwE hx NE HHE HS D1 DA BA HBK1 HPK1 HH N1 C2 C3 B2 B3 HO2 r1
  rcases HXE.out with ⟨k, hk, hpn, rfl⟩ | ⟨hpn, rfl, rfl, po, hpo, rfl, ho⟩
  ·have HF : Hid (PP (.returned (.tuple #[.int .i64 0, .iface 103 (.int .i64 k)])) wE) := HNO2.out k wE hk hpn XE.out
   clear HNO2 HKQ2 HXE hpn; go_wp2; exact HF.out
  ·have DE : Hid (Below wE.heap.size wE wE.drew) := (Below.refl _ _).drew
   have KE := hidd (HKQ2.out hpn po hpo _ _ wE.drew (B.next XE.out DE.out XE.out.size) (ho.below DE.out))
   have HS7 : Hid (∀ W, (∀ k arr T, T ≠ 124 → T ≠ 157 → T ≠ 194 → T ≠ 133 → Blk wE k arr T → Blk W k arr T) → W.cell? ⟨hb, 2, none⟩ = some (.pointer (some ⟨L, 0, none⟩)) ∧ W.cell? ⟨X, 0, none⟩ = some (.int .i64 (b.last + 1)) ∧ W.cell? ⟨X, 1, none⟩ = some (.slice a1 n1 c1) ∧ W.cell? ⟨X, 2, none⟩ = some (.slice a2 n2 c2)) := fun W hf => by
    have k1 := hf _ _ _ (by decide) (by decide) (by decide) (by decide) HHE2.out.1; have k2 := hf _ _ _ (by decide) (by decide) (by decide) (by decide) HHE2.out.2; exact ⟨k1.cell 2, k2.cell 0, k2.cell 1, k2.cell 2⟩
   have F0 : Hid (∀ k arr T, T ≠ 124 → T ≠ 157 → T ≠ 194 → T ≠ 133 → Blk wE k arr T → Blk wE.drew k arr T) := fun k arr T _ _ _ _ hk => hk.below DE.out
   clear HNO2 HKQ2 HXE hpn ho hpo HHE2 XE; generalize b.last + 1 = l1 at *
   go_upto_region 7 with fail
   go_region_held3 (fun W => W.cell? ⟨hb, 2, none⟩ = some (.pointer (some ⟨L, 0, none⟩)) ∧ W.cell? ⟨X, 0, none⟩ = some (.int .i64 l1) ∧ W.cell? ⟨X, 1, none⟩ = some (.slice a1 n1 c1) ∧ W.cell? ⟨X, 2, none⟩ = some (.slice a2 n2 c2)) (first | with_reducible exact HS7.out _ F0.out | with_reducible exact HS7.out _ F5.out | fail)
    (first | (go_at_call 53; refine KE.out.mono ?_; rintro e w5 ⟨v, rfl, hf, hq⟩; have F5 : Hid (∀ k arr T, T ≠ 124 → T ≠ 157 → T ≠ 194 → T ≠ 133 → Blk wE k arr T → Blk w5 k arr T) := fun k arr T h1 h2 h3 h4 hk => hf.far k arr T h1 h2 h3 h4 (F0.out k arr T h1 h2 h3 h4 hk); clear hf))
   clear KE HS7 F0 F5
   rcases hq.out with ⟨rfl, hp⟩ | ⟨rfl, hp⟩
   ·have HF := hidd hp
    clear hp hq; go_wp2; exact HF.out
   ·have HF := hidd hp
    clear hp hq; go_wp2; exact HF.out
 ·have NE : Hid (Below w1.heap.size w1 (((w3.setCell ⟨w2.heap.size, 0, none⟩ (.int .i64 l)).setCell ⟨w2.heap.size, 1, none⟩ (.slice a1 n1 c1)).setCell ⟨w2.heap.size, 2, none⟩ (.slice a2 n2 c2)) ∧ Blk (((w3.setCell ⟨w2.heap.size, 0, none⟩ (.int .i64 l)).setCell ⟨w2.heap.size, 1, none⟩ (.slice a1 n1 c1)).setCell ⟨w2.heap.size, 2, none⟩ (.slice a2 n2 c2)) w2.heap.size #[.int .i64 l, .slice a1 n1 c1, .slice a2 n2 c2] 39) := ⟨((B3.out.setCell (p := ⟨_, 0, none⟩) XL.out _).setCell (p := ⟨_, 1, none⟩) XL.out _).setCell (p := ⟨_, 2, none⟩) XL.out _, ((RX.out.set 0 _).set 1 _).set 2 _⟩
  have HXE : Hid ((∃ k, k ≠ 0 ∧ pn = k ∧ x = .iface 103 (.int .i64 k)) ∨ (pn = 0 ∧ x = .nilIface ∧ t = b.last + 1 ∧ ∃ po, pickO b.book (fOf lv) ca cb cc lv.length = some po ∧ l = b.last + 1 ∧ OwnBook (((w3.setCell ⟨w2.heap.size, 0, none⟩ (.int .i64 l)).setCell ⟨w2.heap.size, 1, none⟩ (.slice a1 n1 c1)).setCell ⟨w2.heap.size, 2, none⟩ (.slice a2 n2 c2)) base (.slice a1 n1 c1) (.slice a2 n2 c2) (parkB b ci ca cb cc po).stays (parkB b ci ca cb cc po).jobs)) := by
   rcases hx.out with h | ⟨q1, q2, q3, po, q4, q5, q6⟩
   ·exact Or.inl h
   ·exact Or.inr ⟨q1, q2, q3, po, q4, q5, bookDown (bookSet (bookSet (bookSet q6 _ (by simp)) _ (by simp)) _ (by simp)) (Nat.le_trans hsz.out (Nat.le_trans N1.out.1.size (BA.out _ B2.out).size))⟩
  obtain ⟨wE, hwE⟩ : ∃ wE, ((w3.setCell ⟨w2.heap.size, 0, none⟩ (.int .i64 l)).setCell ⟨w2.heap.size, 1, none⟩ (.slice a1 n1 c1)).setCell ⟨w2.heap.size, 2, none⟩ (.slice a2 n2 c2) = wE := ⟨_, rfl⟩
  simp only [hwE]; rw [hwE] at NE HXE; have XE : Hid (Below w.heap.size w wE) := B.next N1.out.1 NE.out.1 N1.out.1.size; have HHE := HH.out wE XE.out; have HHE2 : Hid (Blk wE hb #[.slice la lv.length lc, .pointer (some ⟨pb, 0, none⟩), .pointer (some ⟨L, 0, none⟩), vg] 96 ∧ Blk wE w2.heap.size #[.int .i64 l, .slice a1 n1 c1, .slice a2 n2 c2] 39) := ⟨HHE, NE.out.2⟩; obtain ⟨X, hX⟩ : ∃ X, w2.heap.size = X := ⟨_, rfl⟩
  rw [hX] at HHE2; simp only [hX]; clear hX hwE hx NE HHE HS D1 DA BA HBK1 HPK1 HH N1 C2 C3 B2 B3 HO2 r1
  rcases HXE.out with ⟨k, hk, hpn, rfl⟩ | ⟨hpn, rfl, rfl, po, hpo, rfl, ho⟩
  ·have HF : Hid (PP (.returned (.tuple #[.int .i64 0, .iface 103 (.int .i64 k)])) wE) := HNO2.out k wE hk hpn XE.out
   clear HNO2 HKQ2 HXE hpn; go_wp2; exact HF.out
  ·have DE : Hid (Below wE.heap.size wE wE.drew) := (Below.refl _ _).drew
   have KE := hidd (HKQ2.out hpn po hpo _ _ wE.drew (B.next XE.out DE.out XE.out.size) (ho.below DE.out))
   have HS7 : Hid (∀ W, (∀ k arr T, T ≠ 124 → T ≠ 157 → T ≠ 194 → T ≠ 133 → Blk wE k arr T → Blk W k arr T) → W.cell? ⟨hb, 2, none⟩ = some (.pointer (some ⟨L, 0, none⟩)) ∧ W.cell? ⟨X, 0, none⟩ = some (.int .i64 (b.last + 1)) ∧ W.cell? ⟨X, 1, none⟩ = some (.slice a1 n1 c1) ∧ W.cell? ⟨X, 2, none⟩ = some (.slice a2 n2 c2)) := fun W hf => by
    have k1 := hf _ _ _ (by decide) (by decide) (by decide) (by decide) HHE2.out.1; have k2 := hf _ _ _ (by decide) (by decide) (by decide) (by decide) HHE2.out.2; exact ⟨k1.cell 2, k2.cell 0, k2.cell 1, k2.cell 2⟩
   have F0 : Hid (∀ k arr T, T ≠ 124 → T ≠ 157 → T ≠ 194 → T ≠ 133 → Blk wE k arr T → Blk wE.drew k arr T) := fun k arr T _ _ _ _ hk => hk.below DE.out
   clear HNO2 HKQ2 HXE hpn ho hpo HHE2 XE; generalize b.last + 1 = l1 at *
   go_upto_region 7 with fail
   go_region_held3 (fun W => W.cell? ⟨hb, 2, none⟩ = some (.pointer (some ⟨L, 0, none⟩)) ∧ W.cell? ⟨X, 0, none⟩ = some (.int .i64 l1) ∧ W.cell? ⟨X, 1, none⟩ = some (.slice a1 n1 c1) ∧ W.cell? ⟨X, 2, none⟩ = some (.slice a2 n2 c2)) (first | with_reducible exact HS7.out _ F0.out | with_reducible exact HS7.out _ F5.out | fail)
    (first | (go_at_call 53; refine KE.out.mono ?_; rintro e w5 ⟨v, rfl, hf, hq⟩; have F5 : Hid (∀ k arr T, T ≠ 124 → T ≠ 157 → T ≠ 194 → T ≠ 133 → Blk wE k arr T → Blk w5 k arr T) := fun k arr T h1 h2 h3 h4 hk => hf.far k arr T h1 h2 h3 h4 (F0.out k arr T h1 h2 h3 h4 hk); clear hf))
   clear KE HS7 F0 F5
   rcases hq.out with ⟨rfl, hp⟩ | ⟨rfl, hp⟩
   ·have HF := hidd hp
    clear hp hq; go_wp2; exact HF.out
   ·have HF := hidd hp
    clear hp hq; go_wp2; exact HF.out
 ·have HX1 : Hid (w1.heap.size < w2.heap.size) := Nat.lt_of_lt_of_le (by simp) C2.out.size
  have NE : Hid (Below w1.heap.size w1 (((w3.setCell ⟨w1.heap.size, 0, none⟩ (.int .i64 l)).setCell ⟨w1.heap.size, 1, none⟩ (.slice a1 n1 c1)).setCell ⟨w1.heap.size, 2, none⟩ (.slice a2 n2 c2)) ∧ Blk (((w3.setCell ⟨w1.heap.size, 0, none⟩ (.int .i64 l)).setCell ⟨w1.heap.size, 1, none⟩ (.slice a1 n1 c1)).setCell ⟨w1.heap.size, 2, none⟩ (.slice a2 n2 c2)) w1.heap.size #[.int .i64 l, .slice a1 n1 c1, .slice a2 n2 c2] 39) := ⟨((B3.out.setCell (p := ⟨_, 0, none⟩) XL.out _).setCell (p := ⟨_, 1, none⟩) XL.out _).setCell (p := ⟨_, 2, none⟩) XL.out _, ((RX.out.set 0 _).set 1 _).set 2 _⟩
  have HXE : Hid ((∃ k, k ≠ 0 ∧ pn = k ∧ x = .iface 103 (.int .i64 k)) ∨ (pn = 0 ∧ x = .nilIface ∧ t = b.last + 1 ∧ ∃ po, pickO b.book (fOf lv) ca cb cc lv.length = some po ∧ l = b.last + 1 ∧ OwnBook (((w3.setCell ⟨w1.heap.size, 0, none⟩ (.int .i64 l)).setCell ⟨w1.heap.size, 1, none⟩ (.slice a1 n1 c1)).setCell ⟨w1.heap.size, 2, none⟩ (.slice a2 n2 c2)) base (.slice a1 n1 c1) (.slice a2 n2 c2) (parkB b ci ca cb cc po).stays (parkB b ci ca cb cc po).jobs)) := by
   rcases hx.out with h | ⟨q1, q2, q3, po, q4, q5, q6⟩
   ·exact Or.inl h
   ·exact Or.inr ⟨q1, q2, q3, po, q4, q5, bookDown (bookSet (bookSet (bookSet q6 _ HX1.out) _ HX1.out) _ HX1.out) (Nat.le_trans hsz.out (Nat.le_trans N1.out.1.size B2.out.size))⟩
  obtain ⟨wE, hwE⟩ : ∃ wE, ((w3.setCell ⟨w1.heap.size, 0, none⟩ (.int .i64 l)).setCell ⟨w1.heap.size, 1, none⟩ (.slice a1 n1 c1)).setCell ⟨w1.heap.size, 2, none⟩ (.slice a2 n2 c2) = wE := ⟨_, rfl⟩
  simp only [hwE]; rw [hwE] at NE HXE; have XE : Hid (Below w.heap.size w wE) := B.next N1.out.1 NE.out.1 N1.out.1.size; have HHE := HH.out wE XE.out; have HHE2 : Hid (Blk wE hb #[.slice la lv.length lc, .pointer (some ⟨pb, 0, none⟩), .pointer (some ⟨L, 0, none⟩), vg] 96 ∧ Blk wE w1.heap.size #[.int .i64 l, .slice a1 n1 c1, .slice a2 n2 c2] 39) := ⟨HHE, NE.out.2⟩; obtain ⟨X, hX⟩ : ∃ X, w1.heap.size = X := ⟨_, rfl⟩
  rw [hX] at HHE2; simp only [hX]; clear hX hwE hx NE HHE HS D1 DA BA HBK1 HPK1 HH N1 C2 C3 B2 B3 HO2 r1
  rcases HXE.out with ⟨k, hk, hpn, rfl⟩ | ⟨hpn, rfl, rfl, po, hpo, rfl, ho⟩
  ·have HF : Hid (PP (.returned (.tuple #[.int .i64 0, .iface 103 (.int .i64 k)])) wE) := HNO2.out k wE hk hpn XE.out
   clear HNO2 HKQ2 HXE hpn; go_wp2; exact HF.out
  ·have DE : Hid (Below wE.heap.size wE wE.drew) := (Below.refl _ _).drew
   have KE := hidd (HKQ2.out hpn po hpo _ _ wE.drew (B.next XE.out DE.out XE.out.size) (ho.below DE.out))
   have HS7 : Hid (∀ W, (∀ k arr T, T ≠ 124 → T ≠ 157 → T ≠ 194 → T ≠ 133 → Blk wE k arr T → Blk W k arr T) → W.cell? ⟨hb, 2, none⟩ = some (.pointer (some ⟨L, 0, none⟩)) ∧ W.cell? ⟨X, 0, none⟩ = some (.int .i64 (b.last + 1)) ∧ W.cell? ⟨X, 1, none⟩ = some (.slice a1 n1 c1) ∧ W.cell? ⟨X, 2, none⟩ = some (.slice a2 n2 c2)) := fun W hf => by
    have k1 := hf _ _ _ (by decide) (by decide) (by decide) (by decide) HHE2.out.1; have k2 := hf _ _ _ (by decide) (by decide) (by decide) (by decide) HHE2.out.2; exact ⟨k1.cell 2, k2.cell 0, k2.cell 1, k2.cell 2⟩
   have F0 : Hid (∀ k arr T, T ≠ 124 → T ≠ 157 → T ≠ 194 → T ≠ 133 → Blk wE k arr T → Blk wE.drew k arr T) := fun k arr T _ _ _ _ hk => hk.below DE.out
   clear HNO2 HKQ2 HXE hpn ho hpo HHE2 XE; generalize b.last + 1 = l1 at *
   go_upto_region 7 with fail
   go_region_held3 (fun W => W.cell? ⟨hb, 2, none⟩ = some (.pointer (some ⟨L, 0, none⟩)) ∧ W.cell? ⟨X, 0, none⟩ = some (.int .i64 l1) ∧ W.cell? ⟨X, 1, none⟩ = some (.slice a1 n1 c1) ∧ W.cell? ⟨X, 2, none⟩ = some (.slice a2 n2 c2)) (first | with_reducible exact HS7.out _ F0.out | with_reducible exact HS7.out _ F5.out | fail)
    (first | (go_at_call 53; refine KE.out.mono ?_; rintro e w5 ⟨v, rfl, hf, hq⟩; have F5 : Hid (∀ k arr T, T ≠ 124 → T ≠ 157 → T ≠ 194 → T ≠ 133 → Blk wE k arr T → Blk w5 k arr T) := fun k arr T h1 h2 h3 h4 hk => hf.far k arr T h1 h2 h3 h4 (F0.out k arr T h1 h2 h3 h4 hk); clear hf))
   clear KE HS7 F0 F5
   rcases hq.out with ⟨rfl, hp⟩ | ⟨rfl, hp⟩
   ·have HF := hidd hp
    clear hp hq; go_wp2; exact HF.out
   ·have HF := hidd hp
    clear hp hq; go_wp2; exact HF.out
end Hs
end Go.Proofs.YtopgllmjeliklaaGreatDoor
