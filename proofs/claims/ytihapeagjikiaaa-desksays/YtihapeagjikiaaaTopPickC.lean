/- Chapter 7: the walk of the statement 'TopPick' (E3): the place that is given is the first one that is free. -/
import Derived.Test.YtihapeagjikiaaaTopPickB
namespace Go.Proofs.Ytihapeagjikiaaa
open Go.Shelf Go.Lib Go.ChangeShapes Go.WideShapes Go.ChangeAt Go.RowKit
set_option maxRecDepth 100000
set_option linter.unusedSimpArgs false
set_option linter.unusedVariables false

namespace Bk
/-- What the loops of the statement hold. -/
structure TPI (w wr : World) (bk car : Array Value) (pb : Nat) (pv : Array Value) (g m : Nat) (fP : Nat → Int × Int × Int) : Prop where
  below : Below w.heap.size w wr
  b0 : Blk wr w.heap.size bk 25
  b1 : Blk wr (w.heap.size + 1) car 30
  b2 : Blk wr pb pv 38
  pl : PlacesAt wr g m fP
theorem TPI.next {w wr wx : World} {bk car : Array Value} {pb : Nat} {pv : Array Value} {g m : Nat} {fP : Nat → Int × Int × Int} (h : TPI w wr bk car pb pv g m fP) (hb : Below wr.heap.size wr wx) : TPI w wx bk car pb pv g m fP :=
  ⟨B.next h.below hb h.below.size, h.b0.below hb, h.b1.below hb, h.b2.below hb, h.pl.below hb⟩

theorem RowsAt.cellAt {α : Type} [Inhabited α] {W : World} {b off cap k : Nat} {enc : α → List Value} {zs : List α} (h : RowsAt W (some ⟨b, off, none⟩) cap k enc zs) (j : Nat) (hj : j < zs.length) (i : Nat) (v : Value) (hv : (enc zs[j]!)[i]? = some v) : W.cell? ⟨b, off + j * k + i, none⟩ = some v := by
  obtain ⟨_, _, hc⟩ := h
  obtain ⟨b', off', e, _, hcell⟩ := hc (by omega)
  cases e
  exact hcell j hj i v hv
theorem RowsAt.isSome {α : Type} [Inhabited α] {W : World} {a : Option Addr} {cap k : Nat} {enc : α → List Value} {zs : List α} (h : RowsAt W a cap k enc zs) (h0 : 0 < zs.length) : ∃ b off, a = some ⟨b, off, none⟩ := by
  obtain ⟨b, off, e, _⟩ := h.2.2 h0
  exact ⟨b, off, e⟩
/-- What Pick told, cell by cell. -/
def pickP (o : Option (Int × Int × Int)) : Int × Int × Int := o.getD (0, 0, 0)
theorem pickV_eq (o : Option (Int × Int × Int)) : pickV o = .tuple #[.agg #[.int .i64 (pickP o).1, .int .i64 (pickP o).2.1, .int .i64 (pickP o).2.2], .bool o.isSome] := by cases o <;> rfl

set_option maxHeartbeats 8000000 in
theorem topPick_run (b : Book) (lv : Value) (len : Nat) (f : Nat → Int × Int × Int) (ci ca cb cc : Int) (w : World) (hb : b.At w) (hs : SizesAt w lv len f) :
    Calls Try.prog 4 #[b.val, lv, .agg #[.int .i64 ci, .int .i64 ca, .int .i64 cb, .int .i64 cc]] w fun e w' => e = .returned (.bool true) ∧ Below w.heap.size w w' := by
  obtain ⟨last, sa, sc, ja, jc, stays, jobs⟩ := b
  simp only [Book.val] at *
  have HLB : Hid (∀ wx, Below w.heap.size w wx → Calls Try.prog 11 #[.agg #[.int .i64 last, .slice sa stays.length sc, .slice ja jobs.length jc]] wx fun e w' => e = .returned (.bool (lightB ⟨last, sa, sc, ja, jc, stays, jobs⟩)) ∧ Below wx.heap.size wx w') := fun wx h => lightBook_any ⟨last, sa, sc, ja, jc, stays, jobs⟩ wx (hb.below h)
  have HCH : Hid (∀ wx, Below w.heap.size w wx → Calls Try.prog 25 #[lv] wx fun e w' => e = .returned (errV (levelsN len f)) ∧ Below wx.heap.size wx w') := fun wx h => check_any lv len f wx (hs.below h)
  have HBC : Hid (1 ≤ len → len ≤ 4 → ∀ wx, Below w.heap.size w wx → Calls Try.prog 26 #[.agg #[.int .i64 last, .slice sa stays.length sc, .slice ja jobs.length jc], .int .i64 len] wx fun e w' => e = .returned (errV (bookN ⟨last, sa, sc, ja, jc, stays, jobs⟩ len)) ∧ Below wx.heap.size wx w') := fun h1 h4 wx h => bookCheck_any ⟨last, sa, sc, ja, jc, stays, jobs⟩ len wx (hb.below h) h1 h4
  have HPK : Hid (1 ≤ len → len ≤ 4 → ∀ wx, Below w.heap.size w wx → Calls Try.prog 14 #[.agg #[.int .i64 last, .slice sa stays.length sc, .slice ja jobs.length jc], lv, .agg #[.int .i64 ci, .int .i64 ca, .int .i64 cb, .int .i64 cc]] wx fun e w' => e = .returned (.tuple #[.agg #[.int .i64 (pickP (pickO ⟨last, sa, sc, ja, jc, stays, jobs⟩ f ca cb cc len)).1, .int .i64 (pickP (pickO ⟨last, sa, sc, ja, jc, stays, jobs⟩ f ca cb cc len)).2.1, .int .i64 (pickP (pickO ⟨last, sa, sc, ja, jc, stays, jobs⟩ f ca cb cc len)).2.2], .bool (pickO ⟨last, sa, sc, ja, jc, stays, jobs⟩ f ca cb cc len).isSome]) ∧ Below wx.heap.size wx w') := fun h1 h4 wx h => by
    rw [← pickV_eq]
    exact pick_any ⟨last, sa, sc, ja, jc, stays, jobs⟩ lv len f ci ca cb cc wx (hb.below h) (hs.below h) h1 h4
  have HSR : Hid (∀ wx, Below w.heap.size w wx → RowsAt wx sa sc 8 Stay.enc stays) := fun wx h => hb.1.below h
  have HJR : Hid (∀ wx, Below w.heap.size w wx → RowsAt wx ja jc 2 Job.enc jobs) := fun wx h => hb.2.below h
  have HSA : Hid (SizesAt w lv len f) := hs
  obtain ⟨la, lcap, rfl, hll, hlm, hlc⟩ := hs
  unfold maxLen at hlm
  have hm1 := hb.1.2.1; have hm0 := hb.1.1; have hm2 := hb.2.2.1; have hm3 := hb.2.1
  unfold maxLen at hm1 hm2
  obtain ⟨w0, hw0⟩ : ∃ w0, (w.alloc (.cells #[.int .i64 last, .slice sa stays.length sc, .slice ja jobs.length jc] 25)).alloc (.cells #[.int .i64 ci, .int .i64 ca, .int .i64 cb, .int .i64 cc] 30) = w0 := ⟨_, rfl⟩
  have N0 : Hid (Below w.heap.size w w0 ∧ Blk w0 w.heap.size #[.int .i64 last, .slice sa stays.length sc, .slice ja jobs.length jc] 25 ∧ Blk w0 (w.heap.size + 1) #[.int .i64 ci, .int .i64 ca, .int .i64 cb, .int .i64 cc] 30) := by
    show _ ∧ _ ∧ _
    rw [← hw0]
    exact ⟨(B.new1 _ _).alloc (by simp) _, (Blk.new _ _ _).old _, Blk.new1 (by simp) _ _⟩
  have HLC : Hid (0 < len → ∃ b off, la = some ⟨b, off, none⟩ ∧ b < w.heap.size ∧ ∀ i, i < len → w.cell? ⟨b, off + i * 3, none⟩ = some (.int .i64 (f i).1) ∧ w.cell? ⟨b, off + i * 3 + 1, none⟩ = some (.int .i64 (f i).2.1) ∧ w.cell? ⟨b, off + i * 3 + 2, none⟩ = some (.int .i64 (f i).2.2)) := hlc
  clear hb hlc
  go_enter Try.func4, Try.ntmps4
  go_wp2_with fail
  refine (one_any _).mono ?_
  rintro e w1 ⟨v, rfl, s1, b1⟩
  have N1 : Hid (Below w.heap.size w w1 ∧ Blk w1 w.heap.size #[.int .i64 last, .slice sa stays.length sc, .slice ja jobs.length jc] 25 ∧ Blk w1 (w.heap.size + 1) #[.int .i64 ci, .int .i64 ca, .int .i64 cb, .int .i64 cc] 30) := ⟨B.next N0.out.1 b1 N0.out.1.size, N0.out.2.1.below b1, N0.out.2.2.below b1⟩
  have HP : Hid (SizesAt w1 v 1 (fun _ => (99, 99, 99))) := s1
  clear s1 b1 N0
  go_wp2_with fail
  refine (pick_none v w1 HP.out).mono ?_
  rintro e w2 ⟨rfl, b2⟩
  have N2 : Hid (Below w.heap.size w w2 ∧ Blk w2 w.heap.size #[.int .i64 last, .slice sa stays.length sc, .slice ja jobs.length jc] 25 ∧ Blk w2 (w.heap.size + 1) #[.int .i64 ci, .int .i64 ca, .int .i64 cb, .int .i64 cc] 30) := ⟨B.next N1.out.1 b2 N1.out.1.size, N1.out.2.1.below b2, N1.out.2.2.below b2⟩
  clear N1 HP b2 hw0
  obtain ⟨w3, hw3⟩ : ∃ w3, w2.alloc (.cells #[.int .i64 1, .int .i64 0, .int .i64 1] 38) = w3 := ⟨_, rfl⟩
  have N3 : Hid (Below w.heap.size w w3 ∧ Blk w3 w.heap.size #[.int .i64 last, .slice sa stays.length sc, .slice ja jobs.length jc] 25 ∧ Blk w3 (w.heap.size + 1) #[.int .i64 ci, .int .i64 ca, .int .i64 cb, .int .i64 cc] 30 ∧ Blk w3 w2.heap.size #[.int .i64 1, .int .i64 0, .int .i64 1] 38) := by
    show _ ∧ _ ∧ _ ∧ _
    rw [← hw3]
    exact ⟨B.next N2.out.1 (B.new1 _ _) N2.out.1.size, N2.out.2.1.old _, N2.out.2.2.old _, Blk.new _ _ _⟩
  have hpb : w.heap.size + 1 < w2.heap.size := N2.out.2.2.lt
  have r1 := N3.out.2.2.2.cell
  have r0 := N3.out.2.1.cell
  go_wp2_with fail
  clear hw3 N2
  generalize w2.heap.size = pb at *
  refine (HLB.out _ N3.out.1).mono ?_
  rintro e w4 ⟨rfl, b4⟩
  have N4 : Hid (Below w.heap.size w w4 ∧ Blk w4 w.heap.size #[.int .i64 last, .slice sa stays.length sc, .slice ja jobs.length jc] 25 ∧ Blk w4 (w.heap.size + 1) #[.int .i64 ci, .int .i64 ca, .int .i64 cb, .int .i64 cc] 30 ∧ Blk w4 pb #[.int .i64 1, .int .i64 0, .int .i64 1] 38) := ⟨B.next N3.out.1 b4 N3.out.1.size, N3.out.2.1.below b4, N3.out.2.2.1.below b4, N3.out.2.2.2.below b4⟩
  clear N3 b4 r0 r1 HLB
  cases lightB ⟨last, sa, sc, ja, jc, stays, jobs⟩
  · go_wp2
    go_returns
    exact ⟨rfl, N4.out.1⟩
  by_cases h6 : 6 < len
  · have h6z : (6 : Int) < (len : Int) := by omega
    go_wp2
    go_returns
    exact ⟨rfl, N4.out.1⟩
  have h6z : ¬ (6 : Int) < (len : Int) := by omega
  go_wp2_with fail
  refine (HCH.out _ N4.out.1).mono ?_
  rintro e w5 ⟨rfl, b5⟩
  have N5 : Hid (Below w.heap.size w w5 ∧ Blk w5 w.heap.size #[.int .i64 last, .slice sa stays.length sc, .slice ja jobs.length jc] 25 ∧ Blk w5 (w.heap.size + 1) #[.int .i64 ci, .int .i64 ca, .int .i64 cb, .int .i64 cc] 30 ∧ Blk w5 pb #[.int .i64 1, .int .i64 0, .int .i64 1] 38) := ⟨B.next N4.out.1 b5 N4.out.1.size, N4.out.2.1.below b5, N4.out.2.2.1.below b5, N4.out.2.2.2.below b5⟩
  clear N4 b5 HCH
  by_cases hlv : levelsN len f = 0
  case neg =>
    rw [errV_ne hlv]
    clear hlv
    go_wp2
    go_returns
    exact ⟨rfl, N5.out.1⟩
  have h14 : 1 ≤ len ∧ len ≤ 4 := by
    by_cases h : 1 ≤ len ∧ len ≤ 4
    · exact h
    · simp [levelsN, h] at hlv
  obtain ⟨hl1, hl4⟩ := h14
  rw [hlv, errV0]
  clear hlv h6 h6z
  have r0 := N5.out.2.1.cell
  go_wp2_with fail
  refine (HBC.out hl1 hl4 _ N5.out.1).mono ?_
  rintro e w6 ⟨rfl, b6⟩
  have N6 : Hid (Below w.heap.size w w6 ∧ Blk w6 w.heap.size #[.int .i64 last, .slice sa stays.length sc, .slice ja jobs.length jc] 25 ∧ Blk w6 (w.heap.size + 1) #[.int .i64 ci, .int .i64 ca, .int .i64 cb, .int .i64 cc] 30 ∧ Blk w6 pb #[.int .i64 1, .int .i64 0, .int .i64 1] 38) := ⟨B.next N5.out.1 b6 N5.out.1.size, N5.out.2.1.below b6, N5.out.2.2.1.below b6, N5.out.2.2.2.below b6⟩
  clear N5 b6 HBC r0
  by_cases hbk : bookN ⟨last, sa, sc, ja, jc, stays, jobs⟩ len = 0
  case neg =>
    rw [errV_ne hbk]
    clear hbk
    go_wp2
    go_returns
    exact ⟨rfl, N6.out.1⟩
  rw [hbk, errV0]
  clear hbk
  have r0 := N6.out.2.1.cell
  have r1 := N6.out.2.2.1.cell
  go_wp2_with fail
  refine (HPK.out hl1 hl4 _ N6.out.1).mono ?_
  rintro e w7 ⟨rfl, b7⟩
  have N7 : Hid (Below w.heap.size w w7 ∧ Blk w7 w.heap.size #[.int .i64 last, .slice sa stays.length sc, .slice ja jobs.length jc] 25 ∧ Blk w7 (w.heap.size + 1) #[.int .i64 ci, .int .i64 ca, .int .i64 cb, .int .i64 cc] 30 ∧ Blk w7 pb #[.int .i64 1, .int .i64 0, .int .i64 1] 38) := ⟨B.next N6.out.1 b7 N6.out.1.size, N6.out.2.1.below b7, N6.out.2.2.1.below b7, N6.out.2.2.2.below b7⟩
  clear N6 b7 r0 r1 HPK
  obtain ⟨po, HPO⟩ : ∃ po, Hid (pickP (pickO ⟨last, sa, sc, ja, jc, stays, jobs⟩ f ca cb cc len) = po) := ⟨_, rfl⟩
  obtain ⟨ps, HPS⟩ : ∃ ps, Hid ((pickO ⟨last, sa, sc, ja, jc, stays, jobs⟩ f ca cb cc len).isSome = ps) := ⟨_, rfl⟩
  rw [HPO.out, HPS.out]
  obtain ⟨w8, hw8⟩ : ∃ w8, ((w7.setCell ⟨pb, 0, none⟩ (.int .i64 po.1)).setCell ⟨pb, 1, none⟩ (.int .i64 po.2.1)).setCell ⟨pb, 2, none⟩ (.int .i64 po.2.2) = w8 := ⟨_, rfl⟩
  have N8 : Hid (Below w.heap.size w w8 ∧ Blk w8 w.heap.size #[.int .i64 last, .slice sa stays.length sc, .slice ja jobs.length jc] 25 ∧ Blk w8 (w.heap.size + 1) #[.int .i64 ci, .int .i64 ca, .int .i64 cb, .int .i64 cc] 30 ∧ Blk w8 pb #[.int .i64 po.1, .int .i64 po.2.1, .int .i64 po.2.2] 38) := by
    show _ ∧ _ ∧ _ ∧ _
    rw [← hw8]
    refine ⟨((N7.out.1.setCell (p := ⟨pb, 0, none⟩) (by show w.heap.size ≤ pb; omega) _).setCell (p := ⟨pb, 1, none⟩) (by show w.heap.size ≤ pb; omega) _).setCell (p := ⟨pb, 2, none⟩) (by show w.heap.size ≤ pb; omega) _, ?_, ?_, ?_⟩
    · exact ((N7.out.2.1.other (by omega) _ _).other (by omega) _ _).other (by omega) _ _
    · exact ((N7.out.2.2.1.other (by omega) _ _).other (by omega) _ _).other (by omega) _ _
    · exact ((N7.out.2.2.2.set 0 _).set 1 _).set 2 _
  have r2 := N7.out.2.2.2.cell
  have f2 := N7.out.2.2.2.free
  have hplen := places_len len hl1 hl4
  have HG : Hid (∀ i, i < 4 * len - 2 → goodAt len i (fun k => (placesTo len (2 * len)).getD k (0, 0, 0))) := places_good len hl1 hl4
  have KP : Hid (pickO ⟨last, sa, sc, ja, jc, stays, jobs⟩ f ca cb cc len = (placesTo len (2 * len)).find? (okP ⟨last, sa, sc, ja, jc, stays, jobs⟩ f ca cb cc)) := rfl
  have HM : Hid (∀ wx, Calls Try.prog 27 #[.int .i64 len] wx fun e w' => ∃ v, e = .returned v ∧ PlacesOwn wx w' v (placesTo len (2 * len))) := fun wx => places_any len wx hl1 hl4
  generalize hpl : placesTo len (2 * len) = pl at *
  clear hpl
  obtain ⟨m, hm⟩ : ∃ m, m = pl.length := ⟨_, rfl⟩
  have HM1 : Hid (pl.length = m) := hm.symm
  have HG' : Hid (∀ i, i < m → 1 ≤ (pl.getD i (0, 0, 0)).1 ∧ (pl.getD i (0, 0, 0)).1 ≤ len) := fun i hi => by
    have := (HG.out i (by omega)).1
    simp only [placeB, decide_eq_true_eq] at this
    exact ⟨this.1, this.2.1⟩
  have mm1 : 1 ≤ m := by omega
  have m14 : m ≤ 14 := by omega
  clear hm hplen HG
  go_wp2_with fail
  refine (HM.out _).mono ?_
  rintro e w9 ⟨v9, rfl, ho⟩
  obtain ⟨g, cap, rfl, pa⟩ := ho.at (by rw [HM1.out]; omega)
  rw [HM1.out] at pa ⊢
  have P9 : Hid (TPI w w9 #[.int .i64 last, .slice sa stays.length sc, .slice ja jobs.length jc] #[.int .i64 ci, .int .i64 ca, .int .i64 cb, .int .i64 cc] pb #[.int .i64 po.1, .int .i64 po.2.1, .int .i64 po.2.2] g m (fun k => pl.getD k (0, 0, 0))) := ⟨B.next N8.out.1 ho.2 N8.out.1.size, N8.out.2.1.below ho.2, N8.out.2.2.1.below ho.2, N8.out.2.2.2.below ho.2, pa⟩
  clear ho pa N8 N7 r2 f2 hw8 HM
  go_wp2_with fail
  obtain ⟨lb, loff, rfl, hlb, hcell⟩ := HLC.out (by omega)
  have HL : Hid (∀ j, j < len → ∀ wx, Below w.heap.size w wx → wx.cell? ⟨lb, loff + j * 3, none⟩ = some (.int .i64 (f j).1) ∧ wx.cell? ⟨lb, loff + j * 3 + 1, none⟩ = some (.int .i64 (f j).2.1) ∧ wx.cell? ⟨lb, loff + j * 3 + 2, none⟩ = some (.int .i64 (f j).2.2)) := fun j hj wx hbx => ⟨(hbx.cell (p := ⟨lb, _, none⟩) hlb).trans (hcell j hj).1, (hbx.cell (p := ⟨lb, _, none⟩) hlb).trans (hcell j hj).2.1, (hbx.cell (p := ⟨lb, _, none⟩) hlb).trans (hcell j hj).2.2⟩
  clear HLC hcell HSA hlb
  go_loopg [10] m (fun gg s10 wr => ∃ kk : Nat, kk ≤ m ∧ m - kk ≤ gg ∧ s10 = .int .i64 kk ∧ Hid (TPI w wr #[.int .i64 last, .slice sa stays.length sc, .slice ja jobs.length jc] #[.int .i64 ci, .int .i64 ca, .int .i64 cb, .int .i64 cc] pb #[.int .i64 po.1, .int .i64 po.2.1, .int .i64 po.2.2] g m (fun k => pl.getD k (0, 0, 0))) ∧ Hid (∀ j, j < kk → okP ⟨last, sa, sc, ja, jc, stays, jobs⟩ f ca cb cc (pl.getD j (0, 0, 0)) = false))
  case atStart => exact ⟨0, Nat.zero_le _, by omega, rfl, P9, fun j hj => absurd hj (Nat.not_lt_zero _)⟩
  case round =>
    clear P9
    obtain ⟨kk, hkk, hg, rfl, P, A⟩ := hrel
    by_cases hlt : kk < m
    · have hltz : (kk : Int) < (m : Int) := by omega
      have HPC : Hid (∀ wx, TPI w wx #[.int .i64 last, .slice sa stays.length sc, .slice ja jobs.length jc] #[.int .i64 ci, .int .i64 ca, .int .i64 cb, .int .i64 cc] pb #[.int .i64 po.1, .int .i64 po.2.1, .int .i64 po.2.2] g m (fun k => pl.getD k (0, 0, 0)) → wx.cell? ⟨g, kk * 3, none⟩ = some (.int .i64 (pl.getD kk (0, 0, 0)).1) ∧ wx.cell? ⟨g, kk * 3 + 1, none⟩ = some (.int .i64 (pl.getD kk (0, 0, 0)).2.1) ∧ wx.cell? ⟨g, kk * 3 + 2, none⟩ = some (.int .i64 (pl.getD kk (0, 0, 0)).2.2)) := fun wx h => h.pl.2 kk hlt
      obtain ⟨g1, g2⟩ := HG'.out kk hlt
      obtain ⟨j, HJ⟩ : ∃ j : Nat, Hid ((pl.getD kk (0, 0, 0)).1 = (j : Int) + 1 ∧ j < len) := ⟨((pl.getD kk (0, 0, 0)).1 - 1).toNat, by show _ ∧ _; omega⟩
      clear g1 g2
      have hj := HJ.out.2
      have hjz : (j : Int) < (len : Int) := by omega
      have wj : IntKind.i64.wrap (j : Int) = (j : Int) := by rw [IntKind.wrap_i64]; omega
      have KO : Hid (freeTo ⟨last, sa, sc, ja, jc, stays, jobs⟩ (pl.getD kk (0, 0, 0)) (fitsB ca cb cc (f j).1 (f j).2.1 (f j).2.2) stays.length = okP ⟨last, sa, sc, ja, jc, stays, jobs⟩ f ca cb cc (pl.getD kk (0, 0, 0))) := freeTo_ok ⟨last, sa, sc, ja, jc, stays, jobs⟩ f ca cb cc _ j (by have := HJ.out.1; omega)
      have KH : Hid (okP ⟨last, sa, sc, ja, jc, stays, jobs⟩ f ca cb cc (pl.getD kk (0, 0, 0)) = true → po = pl.getD kk (0, 0, 0) ∧ ps = true) := fun h => by
        rw [← HPO.out, ← HPS.out, KP.out, find_hit (okP ⟨last, sa, sc, ja, jc, stays, jobs⟩ f ca cb cc) (0, 0, 0) pl kk (by rw [HM1.out]; exact hlt) h A.out]
        exact ⟨rfl, rfl⟩
      obtain ⟨y, hy⟩ : ∃ y, (pl.getD kk (0, 0, 0)).2.1 = y := ⟨_, rfl⟩
      obtain ⟨z, hz⟩ : ∃ z, (pl.getD kk (0, 0, 0)).2.2 = z := ⟨_, rfl⟩
      have HX : Hid (pl.getD kk (0, 0, 0) = ((j : Int) + 1, y, z)) := by show _ = _; rw [← HJ.out.1, ← hy, ← hz]
      rw [HX.out] at HPC KO KH
      simp only at HPC
      clear hy hz HJ
      have HL1 : Hid (∀ wx, Below w.heap.size w wx → wx.cell? ⟨lb, loff + j * 3, none⟩ = some (.int .i64 (f j).1) ∧ wx.cell? ⟨lb, loff + j * 3 + 1, none⟩ = some (.int .i64 (f j).2.1) ∧ wx.cell? ⟨lb, loff + j * 3 + 2, none⟩ = some (.int .i64 (f j).2.2)) := HL.out j hj
      obtain ⟨q1, HQ1⟩ : ∃ q1, Hid (fitsB ca cb cc (f j).1 (f j).2.1 (f j).2.2 = q1) := ⟨_, rfl⟩
      rw [HQ1.out] at KO
      have HF : Hid (∀ wx, Calls Try.prog 28 #[.agg #[.int .i64 ca, .int .i64 cb, .int .i64 cc], .agg #[.int .i64 (f j).1, .int .i64 (f j).2.1, .int .i64 (f j).2.2]] wx fun e w' => e = .returned (.bool q1) ∧ Below wx.heap.size wx w') := fun wx => by rw [← HQ1.out]; exact fits_any _ _ _ _ _ _ _
      generalize f j = sz at HL1 HF
      have f3 := fun p : BelowW wr => (P.out.b1.below p.hb).cell 1
      have f4 := fun p : BelowW wr => (P.out.b1.below p.hb).cell 2
      have f5 := fun p : BelowW wr => (P.out.b1.below p.hb).cell 3
      have l0 := fun p : BelowW wr => (HL1.out p.wd (B.next P.out.below p.hb P.out.below.size)).1
      have l1 := fun p : BelowW wr => (HL1.out p.wd (B.next P.out.below p.hb P.out.below.size)).2.1
      have l2 := fun p : BelowW wr => (HL1.out p.wd (B.next P.out.below p.hb P.out.below.size)).2.2
      have p0 := fun p : BelowW wr => (HPC.out p.wd (P.out.next p.hb)).1
      clear HL1 HQ1
      go_wp2_with fail
      refine wp_region_below (by kernel_rfl) (by kernel_rfl) ?_
      repeat (go_big_quiet_step (first | (go_at_call 28; exact Calls.wof (HF.out _))))
      refine wpQuiet_nil ?_
      rintro wb ⟨⟨_, NQ⟩, rfl⟩
      have PB : Hid (TPI w wb #[.int .i64 last, .slice sa stays.length sc, .slice ja jobs.length jc] #[.int .i64 ci, .int .i64 ca, .int .i64 cb, .int .i64 cc] pb #[.int .i64 po.1, .int .i64 po.2.1, .int .i64 po.2.2] g m (fun k => pl.getD k (0, 0, 0))) := P.out.next NQ
      clear f3 f4 f5 l0 l1 l2 p0 NQ P HF
      go_wp2_with fail
      have AO : Hid (m - kk ≤ gk ∧ kk ≤ m) := ⟨hg, hkk⟩
      go_loopg [11, 12] stays.length (fun gg s11 s12 wr => ∃ k : Nat, k ≤ stays.length ∧ stays.length - k ≤ gg ∧ s12 = .int .i64 k ∧ s11 = .bool (freeTo ⟨last, sa, sc, ja, jc, stays, jobs⟩ ((j : Int) + 1, y, z) q1 k) ∧ Hid (TPI w wr #[.int .i64 last, .slice sa stays.length sc, .slice ja jobs.length jc] #[.int .i64 ci, .int .i64 ca, .int .i64 cb, .int .i64 cc] pb #[.int .i64 po.1, .int .i64 po.2.1, .int .i64 po.2.2] g m (fun k => pl.getD k (0, 0, 0))))
      case atStart => exact ⟨0, Nat.zero_le _, by omega, rfl, rfl, PB⟩
      case round =>
        clear PB
        obtain ⟨k, hk, hgk, rfl, rfl, P⟩ := hrel
        have r0 := P.out.b0.cell
        by_cases hlk : k < stays.length
        · have hlkz : (k : Int) < (stays.length : Int) := by omega
          obtain ⟨sb, soff, rfl⟩ := (HSR.out _ P.out.below).isSome (by omega)
          have HSC : Hid (∀ wx, Below w.heap.size w wx → wx.cell? ⟨sb, soff + k * 8, none⟩ = some (.int .i64 stays[k]!.t) ∧ wx.cell? ⟨sb, soff + k * 8 + 5, none⟩ = some (.int .i64 stays[k]!.x) ∧ wx.cell? ⟨sb, soff + k * 8 + 6, none⟩ = some (.int .i64 stays[k]!.y) ∧ wx.cell? ⟨sb, soff + k * 8 + 7, none⟩ = some (.int .i64 stays[k]!.z)) := fun wx h => ⟨(HSR.out wx h).cellAt k hlk 0 _ rfl, (HSR.out wx h).cellAt k hlk 5 _ rfl, (HSR.out wx h).cellAt k hlk 6 _ rfl, (HSR.out wx h).cellAt k hlk 7 _ rfl⟩
          have KF : Hid (freeTo ⟨last, some ⟨sb, soff, none⟩, sc, ja, jc, stays, jobs⟩ ((j : Int) + 1, y, z) q1 (k + 1) = jobsTo jobs stays[k]! ((j : Int) + 1, y, z) (freeTo ⟨last, some ⟨sb, soff, none⟩, sc, ja, jc, stays, jobs⟩ ((j : Int) + 1, y, z) q1 k && !eqP stays[k]!.x stays[k]!.y stays[k]!.z ((j : Int) + 1) y z && !eqP stays[k]!.x stays[k]!.y stays[k]!.z ((j : Int) + 1) y 0) jobs.length) := rfl
          generalize freeTo ⟨last, some ⟨sb, soff, none⟩, sc, ja, jc, stays, jobs⟩ ((j : Int) + 1, y, z) q1 k = q at KF ⊢
          generalize stays[k]! = s at KF HSC
          obtain ⟨st, sid, sq1, sq2, sq3, sx, sy, sz'⟩ := s
          simp only at KF HSC
          have d5 := (HSC.out wr P.out.below).2.1
          have d6 := (HSC.out wr P.out.below).2.2.1
          have d7 := (HSC.out wr P.out.below).2.2.2
          obtain ⟨wa, hwa⟩ : ∃ wa, wr.alloc (.cells #[.int .i64 sx, .int .i64 sy, .int .i64 sz'] 38) = wa := ⟨_, rfl⟩
          have NA : Hid (Below wr.heap.size wr wa) := by show Below _ _ _; rw [← hwa]; exact B.new1 _ _
          have KA : Hid (Blk wa wr.heap.size #[.int .i64 sx, .int .i64 sy, .int .i64 sz'] 38) := by show Blk _ _ _ _; rw [← hwa]; exact Blk.new _ _ _
          have PA : Hid (TPI w wa #[.int .i64 last, .slice (some ⟨sb, soff, none⟩) stays.length sc, .slice ja jobs.length jc] #[.int .i64 ci, .int .i64 ca, .int .i64 cb, .int .i64 cc] pb #[.int .i64 po.1, .int .i64 po.2.1, .int .i64 po.2.2] g m (fun k => pl.getD k (0, 0, 0))) := P.out.next NA.out
          have h0 := fun p : BelowW wa => (KA.out.below p.hb).cell 0
          have h1 := fun p : BelowW wa => (KA.out.below p.hb).cell 1
          have h2 := fun p : BelowW wa => (KA.out.below p.hb).cell 2
          have p0 := fun p : BelowW wa => (HPC.out p.wd (PA.out.next p.hb)).1
          have p1 := fun p : BelowW wa => (HPC.out p.wd (PA.out.next p.hb)).2.1
          have p2 := fun p : BelowW wa => (HPC.out p.wd (PA.out.next p.hb)).2.2
          have e1 := neqP_run sx sy sz' ((j : Int) + 1) y z
          have e2 := neqP_run sx sy sz' ((j : Int) + 1) y 0
          have g1 := eqP_guard sx sy sz' ((j : Int) + 1) y z
          have g2 := eqP_guard sx sy sz' ((j : Int) + 1) y 0
          have HFR : Hid (∀ wx, Calls Try.prog 29 #[.agg #[.int .i64 ((j : Int) + 1), .int .i64 y, .int .i64 z]] wx fun e w' => e = .returned (.agg #[.int .i64 ((j : Int) + 1), .int .i64 y, .int .i64 0]) ∧ Below wx.heap.size wx w') := fun wx => front_any _ _ _ wx
          generalize eqP sx sy sz' ((j : Int) + 1) y z = a1 at KF e1
          generalize eqP sx sy sz' ((j : Int) + 1) y 0 = a2 at KF e2
          obtain ⟨Q, HQ⟩ : ∃ Q, Hid (Q = (q && !a1 && !a2)) := ⟨_, rfl⟩
          rw [← HQ.out] at KF
          have hS : (stays.length : Int) = stays.length := rfl
          clear hS
          rcases (show q = false ∨ (q = true ∧ a1 = true) ∨ (q = true ∧ a1 = false) from by cases q <;> cases a1 <;> simp) with rfl | ⟨rfl, rfl⟩ | ⟨rfl, rfl⟩
          all_goals
            go_wp2_with fail
            refine wp_region_below (by kernel_rfl) (by kernel_rfl) ?_
            repeat (go_big_quiet_step (first | (go_at_call 29; exact Calls.wof (HFR.out _))))
            refine wpQuiet_nil ?_
            rintro wb ⟨⟨_, NQ⟩, rfl⟩
            have PB : Hid ((TPI w wb #[.int .i64 last, .slice (some ⟨sb, soff, none⟩) stays.length sc, .slice ja jobs.length jc] #[.int .i64 ci, .int .i64 ca, .int .i64 cb, .int .i64 cc] pb #[.int .i64 po.1, .int .i64 po.2.1, .int .i64 po.2.2] g m (fun k => pl.getD k (0, 0, 0))) ∧ Blk wb wr.heap.size #[.int .i64 sx, .int .i64 sy, .int .i64 sz'] 38) := ⟨PA.out.next NQ, KA.out.below NQ⟩
            clear h0 h1 h2 p0 p1 p2 e1 e2 g1 g2 d5 d6 d7 r0 NQ PA KA NA HFR hwa P
            go_wp2_with fail
            generalize wr.heap.size = hbk at *
            go_loopg [11, 14] jobs.length (fun gg s11 s14 wr => ∃ n : Nat, n ≤ jobs.length ∧ jobs.length - n ≤ gg ∧ s14 = .int .i64 n ∧ s11 = .bool (jobsTo jobs ⟨st, sid, sq1, sq2, sq3, sx, sy, sz'⟩ ((j : Int) + 1, y, z) Q n) ∧ Hid ((TPI w wr #[.int .i64 last, .slice (some ⟨sb, soff, none⟩) stays.length sc, .slice ja jobs.length jc] #[.int .i64 ci, .int .i64 ca, .int .i64 cb, .int .i64 cc] pb #[.int .i64 po.1, .int .i64 po.2.1, .int .i64 po.2.2] g m (fun k => pl.getD k (0, 0, 0))) ∧ Blk wr hbk #[.int .i64 sx, .int .i64 sy, .int .i64 sz'] 38))
            case atStart => exact ⟨0, Nat.zero_le _, by omega, rfl, by rw [HQ.out]; rfl, PB⟩
            case round =>
              clear PB
              obtain ⟨n, hn, hgn, rfl, rfl, P⟩ := hrel
              by_cases hln : n < jobs.length
              · have hlnz : (n : Int) < (jobs.length : Int) := by omega
                obtain ⟨jb, joff, rfl⟩ := (HJR.out _ P.out.1.below).isSome (by omega)
                have HJC : Hid (∀ wx, Below w.heap.size w wx → wx.cell? ⟨jb, joff + n * 2, none⟩ = some (.int .i64 jobs[n]!.t) ∧ wx.cell? ⟨jb, joff + n * 2 + 1, none⟩ = some (.bool jobs[n]!.f)) := fun wx h => ⟨(HJR.out wx h).cellAt n hln 0 _ rfl, (HJR.out wx h).cellAt n hln 1 _ rfl⟩
                have KJ : Hid (jobsTo jobs ⟨st, sid, sq1, sq2, sq3, sx, sy, sz'⟩ ((j : Int) + 1, y, z) Q (n + 1) = (jobsTo jobs ⟨st, sid, sq1, sq2, sq3, sx, sy, sz'⟩ ((j : Int) + 1, y, z) Q n && (noJob jobs[n]!.t jobs[n]!.f st || !eqP sx sy 0 ((j : Int) + 1) y z))) := rfl
                generalize jobsTo jobs ⟨st, sid, sq1, sq2, sq3, sx, sy, sz'⟩ ((j : Int) + 1, y, z) Q n = r at KJ ⊢
                generalize jobs[n]! = jo at KJ HJC
                obtain ⟨jt, jf⟩ := jo
                simp only at KJ HJC
                have b1 := fun p : BelowW wr => (P.out.1.b0.below p.hb).cell 1
                have b2 := fun p : BelowW wr => (P.out.1.b0.below p.hb).cell 2
                have h0 := fun p : BelowW wr => (P.out.2.below p.hb).cell 0
                have h1 := fun p : BelowW wr => (P.out.2.below p.hb).cell 1
                have h2 := fun p : BelowW wr => (P.out.2.below p.hb).cell 2
                have p0 := fun p : BelowW wr => (HPC.out p.wd (P.out.1.next p.hb)).1
                have p1 := fun p : BelowW wr => (HPC.out p.wd (P.out.1.next p.hb)).2.1
                have p2 := fun p : BelowW wr => (HPC.out p.wd (P.out.1.next p.hb)).2.2
                have j0 := fun p : BelowW wr => (HJC.out p.wd (P.out.1.next p.hb).below).1
                have j1 := fun p : BelowW wr => (HJC.out p.wd (P.out.1.next p.hb).below).2
                have s0 := fun p : BelowW wr => (HSC.out p.wd (P.out.1.next p.hb).below).1
                have e3 := neqJ_run jt st jf
                have g3 := neqJ_guard jt st jf
                have e4 := neqP_run sx sy 0 ((j : Int) + 1) y z
                have g4 := eqP_guard sx sy 0 ((j : Int) + 1) y z
                have HFR : Hid (∀ wx, Calls Try.prog 29 #[.agg #[.int .i64 sx, .int .i64 sy, .int .i64 sz']] wx fun e w' => e = .returned (.agg #[.int .i64 sx, .int .i64 sy, .int .i64 0]) ∧ Below wx.heap.size wx w') := fun wx => front_any _ _ _ wx
                generalize noJob jt jf st = a3 at KJ e3
                generalize eqP sx sy 0 ((j : Int) + 1) y z = a4 at KJ e4
                rcases (show r = false ∨ (r = true ∧ a3 = true) ∨ (r = true ∧ a3 = false) from by cases r <;> cases a3 <;> simp) with rfl | ⟨rfl, rfl⟩ | ⟨rfl, rfl⟩
                all_goals
                  have r0 := P.out.1.b0.cell
                  go_wp2_with fail
                  clear r0
                  refine wp_region_below (by kernel_rfl) (by kernel_rfl) ?_
                  repeat (go_big_quiet_step (first | (go_at_call 29; exact Calls.wof (HFR.out _))))
                  refine wpQuiet_nil ?_
                  rintro wb ⟨⟨_, NQ⟩, rfl⟩
                  have PB : Hid ((TPI w wb #[.int .i64 last, .slice (some ⟨sb, soff, none⟩) stays.length sc, .slice (some ⟨jb, joff, none⟩) jobs.length jc] #[.int .i64 ci, .int .i64 ca, .int .i64 cb, .int .i64 cc] pb #[.int .i64 po.1, .int .i64 po.2.1, .int .i64 po.2.2] g m (fun k => pl.getD k (0, 0, 0))) ∧ Blk wb hbk #[.int .i64 sx, .int .i64 sy, .int .i64 sz'] 38) := ⟨P.out.1.next NQ, P.out.2.below NQ⟩
                  clear b1 b2 h0 h1 h2 p0 p1 p2 j0 j1 s0 e3 g3 e4 g4 NQ HFR P
                  go_wp2
                  go_roundg (jobs.length - (n + 1))
                  case measure => omega
                  case rel => exact ⟨n + 1, by omega, by omega, by go_num, by rw [KJ.out]; rfl, PB⟩
              · have hlnz : ¬ (n : Int) < (jobs.length : Int) := by omega
                have hne : n = jobs.length := by omega
                subst hne
                rw [← KF.out]
                have r0 := P.out.1.b0.cell
                go_wp2
                go_roundg (stays.length - (k + 1))
                case measure => omega
                case rel => exact ⟨k + 1, by omega, by omega, by go_num, rfl, P.out.1⟩
        · have hlkz : ¬ (k : Int) < (stays.length : Int) := by omega
          have hke : k = stays.length := by omega
          subst hke
          rw [KO.out]
          cases hok : okP ⟨last, sa, sc, ja, jc, stays, jobs⟩ f ca cb cc ((j : Int) + 1, y, z)
          · have HOK : Hid (okP ⟨last, sa, sc, ja, jc, stays, jobs⟩ f ca cb cc ((j : Int) + 1, y, z) = false) := hok
            clear hok
            go_wp2
            go_roundg (m - (kk + 1))
            case measure => omega
            case rel =>
              refine ⟨kk + 1, by omega, by omega, by go_num, P, (show Hid _ from fun i hi => ?_)⟩
              by_cases e : i = kk
              · subst e
                rw [HX.out]; exact HOK.out
              · exact A.out i (by omega)
          · obtain ⟨rfl, rfl⟩ := KH.out hok
            clear hok
            simp only at P
            have h0 := fun p : BelowW wr => (P.out.b2.below p.hb).cell 0
            have h1 := fun p : BelowW wr => (P.out.b2.below p.hb).cell 1
            have h2 := fun p : BelowW wr => (P.out.b2.below p.hb).cell 2
            have p0 := fun p : BelowW wr => (HPC.out p.wd (P.out.next p.hb)).1
            have p1 := fun p : BelowW wr => (HPC.out p.wd (P.out.next p.hb)).2.1
            have p2 := fun p : BelowW wr => (HPC.out p.wd (P.out.next p.hb)).2.2
            have e1 := eqP_run ((j : Int) + 1) y z ((j : Int) + 1) y z
            have g1 := eqP_guard ((j : Int) + 1) y z ((j : Int) + 1) y z
            rw [show eqP ((j : Int) + 1) y z ((j : Int) + 1) y z = true from by simp [eqP]] at e1
            go_wp2_with fail
            refine wp_region_below (by kernel_rfl) (by kernel_rfl) ?_
            repeat (go_big_quiet_step (fail))
            refine wpQuiet_nil ?_
            rintro wb ⟨⟨_, NQ⟩, rfl⟩
            have PB : Hid (Below w.heap.size w wb) := B.next P.out.below NQ P.out.below.size
            clear h0 h1 h2 p0 p1 p2 e1 g1 NQ
            go_wp2
            go_returns
            exact ⟨rfl, PB.out⟩
    · have hk : kk = m := by omega
      have hltz : ¬ (kk : Int) < (m : Int) := by omega
      have HV : Hid (po = (0, 0, 0) ∧ ps = false) := by
        show _ ∧ _
        rw [← HPO.out, ← HPS.out, KP.out, find_miss (okP ⟨last, sa, sc, ja, jc, stays, jobs⟩ f ca cb cc) (0, 0, 0) pl (by rw [HM1.out, ← hk]; exact A.out)]
        exact ⟨rfl, rfl⟩
      obtain ⟨rfl, rfl⟩ := HV.out
      have r2 := P.out.b2.cell
      simp only at r2
      clear hk
      go_wp2
      go_returns
      exact ⟨rfl, P.out.below⟩

end Bk
end Go.Proofs.Ytihapeagjikiaaa
