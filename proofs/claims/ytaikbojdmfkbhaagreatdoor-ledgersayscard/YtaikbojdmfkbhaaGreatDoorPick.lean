/- Chapter 7: which place is given (E3); contracts for the laws. -/
import Derived.Test.YtaikbojdmfkbhaaGreatDoorDesk
import Derived.Test.YtaikbojdmfkbhaaGreatDoorTopPlaces
namespace Go.Proofs.YtaikbojdmfkbhaaGreatDoor
open Go.Shelf Go.Lib Go.ChangeShapes Go.WideShapes Go.ChangeAt Go.RowKit
set_option maxRecDepth 100000
set_option linter.unusedSimpArgs false
set_option linter.unusedVariables false

namespace Bk
/-- A place that may be given. -/
def okP (b : Book) (f : Nat → Int × Int × Int) (ca cb cc : Int) (p : Int × Int × Int) : Bool :=
  fitsB ca cb cc (f (p.1 - 1).toNat).1 (f (p.1 - 1).toNat).2.1 (f (p.1 - 1).toNat).2.2 && !barredB p.1 p.2.1 p.2.2 b
def pickO (b : Book) (f : Nat → Int × Int × Int) (ca cb cc : Int) (n : Nat) : Option (Int × Int × Int) := (placesTo n (2 * n)).find? (okP b f ca cb cc)
def pickV : Option (Int × Int × Int) → Value
  | none => .tuple #[.agg #[.int .i64 0, .int .i64 0, .int .i64 0], .bool false]
  | some p => .tuple #[.agg #[.int .i64 p.1, .int .i64 p.2.1, .int .i64 p.2.2], .bool true]

theorem find_hit {α : Type} (p : α → Bool) (d : α) : ∀ (l : List α) (k : Nat), k < l.length → p (l.getD k d) = true → (∀ j, j < k → p (l.getD j d) = false) → l.find? p = some (l.getD k d)
  | [], k, h, _, _ => absurd h (Nat.not_lt_zero _)
  | a :: l, 0, _, h, _ => by
    have h' : p a = true := h
    simp [List.find?, h']
  | a :: l, k + 1, hk, h, hn => by
    have h' : p a = false := hn 0 (Nat.succ_pos _)
    have := find_hit p d l k (by simpa using hk) (by simpa using h) (fun j hj => by simpa using hn (j + 1) (by omega))
    simp only [List.find?, h']
    rw [this]
    simp
theorem find_miss {α : Type} (p : α → Bool) (d : α) : ∀ (l : List α), (∀ j, j < l.length → p (l.getD j d) = false) → l.find? p = none
  | [], _ => rfl
  | a :: l, hn => by
    have h' : p a = false := hn 0 (Nat.succ_pos _)
    have := find_miss p d l (fun j hj => by simpa using hn (j + 1) (by simpa using hj))
    simp only [List.find?, h']
    exact this

/-- What the loop of Pick holds. -/
structure PickI (w wr : World) (bk car : Array Value) (g m : Nat) (fP : Nat → Int × Int × Int) : Prop where
  below : Below w.heap.size w wr
  b0 : Blk wr w.heap.size bk 38
  b1 : Blk wr (w.heap.size + 1) car 42
  b2 : Blk wr (w.heap.size + 1 + 1) #[.int .i64 0, .int .i64 0, .int .i64 0] 82
  pl : PlacesAt wr g m fP
theorem PickI.next {w wr wx : World} {bk car : Array Value} {g m : Nat} {fP : Nat → Int × Int × Int} (h : PickI w wr bk car g m fP) (hb : Below wr.heap.size wr wx) : PickI w wx bk car g m fP :=
  ⟨B.next h.below hb h.below.size, h.b0.below hb, h.b1.below hb, h.b2.below hb, h.pl.below hb⟩

set_option maxHeartbeats 4000000 in
theorem pick_any (b : Book) (lv : Value) (len : Nat) (f : Nat → Int × Int × Int) (ci ca cb cc : Int) (w : World) (hb : b.At w) (hs : SizesAt w lv len f) (h1 : 1 ≤ len) (h4 : len ≤ 4) :
    Calls Tryz.prog 50 #[b.val, lv, .agg #[.int .i64 ci, .int .i64 ca, .int .i64 cb, .int .i64 cc]] w fun e w' => e = .returned (pickV (pickO b f ca cb cc len)) ∧ Below w.heap.size w w' := by
  have HBA : Hid (∀ x y z wx, Below w.heap.size w wx → Calls Tryz.prog 84 #[.agg #[.int .i64 b.last, .slice b.sa b.stays.length b.sc, .slice b.ja b.jobs.length b.jc], .agg #[.int .i64 x, .int .i64 y, .int .i64 z]] wx fun e w' => e = .returned (.bool (barredB x y z b)) ∧ Below wx.heap.size wx w') := fun x y z wx hbx => barred_any x y z b wx (hb.below hbx)
  obtain ⟨la, lcap, rfl, hll, hlm, hlc⟩ := hs
  obtain ⟨lb, loff, rfl, hlb, hcell⟩ := hlc (by omega)
  have HL : Hid (∀ j, j < len → ∀ wx, Below w.heap.size w wx → wx.cell? ⟨lb, loff + j * 3, none⟩ = some (.int .i64 (f j).1) ∧ wx.cell? ⟨lb, loff + j * 3 + 1, none⟩ = some (.int .i64 (f j).2.1) ∧ wx.cell? ⟨lb, loff + j * 3 + 2, none⟩ = some (.int .i64 (f j).2.2)) := fun j hj wx hbx => ⟨(hbx.cell (p := ⟨lb, _, none⟩) hlb).trans (hcell j hj).1, (hbx.cell (p := ⟨lb, _, none⟩) hlb).trans (hcell j hj).2.1, (hbx.cell (p := ⟨lb, _, none⟩) hlb).trans (hcell j hj).2.2⟩
  unfold maxLen at hlm
  unfold Book.val
  clear hlc hcell hb
  obtain ⟨w0, hw0⟩ : ∃ w0, ((w.alloc (.cells #[.int .i64 b.last, .slice b.sa b.stays.length b.sc, .slice b.ja b.jobs.length b.jc] 38)).alloc (.cells #[.int .i64 ci, .int .i64 ca, .int .i64 cb, .int .i64 cc] 42)).alloc (.cells #[.int .i64 0, .int .i64 0, .int .i64 0] 82) = w0 := ⟨_, rfl⟩
  have NB : Below w.heap.size w w0 := by rw [← hw0]; exact ((B.new1 _ _).alloc (by simp) _).alloc (by simp; omega) _
  have K0 : Blk w0 w.heap.size #[.int .i64 b.last, .slice b.sa b.stays.length b.sc, .slice b.ja b.jobs.length b.jc] 38 := by rw [← hw0]; exact ((Blk.new _ _ _).old _).old _
  have K1 : Blk w0 (w.heap.size + 1) #[.int .i64 ci, .int .i64 ca, .int .i64 cb, .int .i64 cc] 42 := by rw [← hw0]; exact (Blk.new1 (by simp) _ _).old _
  have K2 : Blk w0 (w.heap.size + 1 + 1) #[.int .i64 0, .int .i64 0, .int .i64 0] 82 := by rw [← hw0]; exact Blk.new1 (by simp) _ _
  have hplen := places_len len h1 h4
  have HG : Hid (∀ i, i < 4 * len - 2 → goodAt len i (fun k => (placesTo len (2 * len)).getD k (0, 0, 0))) := places_good len h1 h4
  have KP : Hid (pickO b f ca cb cc len = (placesTo len (2 * len)).find? (okP b f ca cb cc)) := rfl
  have HM : Hid (∀ wx, Calls Tryz.prog 83 #[.int .i64 len] wx fun e w' => ∃ v, e = .returned v ∧ PlacesOwn wx w' v (placesTo len (2 * len))) := fun wx => places_any len wx h1 h4
  generalize hpl : placesTo len (2 * len) = pl at *
  clear hpl
  obtain ⟨m, hm⟩ : ∃ m, m = pl.length := ⟨_, rfl⟩
  have HM1 : Hid (pl.length = m) := hm.symm
  have HG' : Hid (∀ i, i < m → 1 ≤ (pl.getD i (0, 0, 0)).1 ∧ (pl.getD i (0, 0, 0)).1 ≤ len) := fun i hi => by
    have := (HG.out i (by omega)).1
    simp only [placeB, decide_eq_true_eq] at this
    exact ⟨this.1, this.2.1⟩
  have m1 : 1 ≤ m := by omega
  have m14 : m ≤ 14 := by omega
  clear hm hplen HG
  go_enter Tryz.func50, Tryz.ntmps50
  go_wp2_with fail
  refine (HM.out _).mono ?_
  rintro e w1 ⟨v, rfl, ho⟩
  obtain ⟨g, cap, rfl, pa⟩ := ho.at (by rw [HM1.out]; omega)
  rw [HM1.out] at pa ⊢
  have P1 : Hid (PickI w w1 #[.int .i64 b.last, .slice b.sa b.stays.length b.sc, .slice b.ja b.jobs.length b.jc] #[.int .i64 ci, .int .i64 ca, .int .i64 cb, .int .i64 cc] g m (fun k => pl.getD k (0, 0, 0))) := ⟨B.next NB ho.2 NB.size, K0.below ho.2, K1.below ho.2, K2.below ho.2, pa⟩
  clear ho pa NB K0 K1 K2 hw0 w0 HM
  go_wp2_with fail
  go_loopg [14] m (fun gg s14 wr => ∃ kk : Nat, kk ≤ m ∧ m - kk ≤ gg ∧ s14 = .int .i64 kk ∧ Hid (PickI w wr #[.int .i64 b.last, .slice b.sa b.stays.length b.sc, .slice b.ja b.jobs.length b.jc] #[.int .i64 ci, .int .i64 ca, .int .i64 cb, .int .i64 cc] g m (fun k => pl.getD k (0, 0, 0))) ∧ Hid (∀ j, j < kk → okP b f ca cb cc (pl.getD j (0, 0, 0)) = false))
  case atStart => exact ⟨0, Nat.zero_le _, by omega, rfl, P1, fun j hj => absurd hj (Nat.not_lt_zero _)⟩
  case round =>
    clear P1
    obtain ⟨kk, hkk, hg, rfl, P, A⟩ := hrel
    by_cases hlt : kk < m
    · have hltz : (kk : Int) < (m : Int) := by omega
      obtain ⟨c0, c1, c2⟩ := P.out.pl.2 kk hlt
      obtain ⟨g1, g2⟩ := HG'.out kk hlt
      obtain ⟨j, HJ⟩ : ∃ j : Nat, Hid ((pl.getD kk (0, 0, 0)).1 = (j : Int) + 1 ∧ j < len) := ⟨((pl.getD kk (0, 0, 0)).1 - 1).toNat, by show _ ∧ _; omega⟩
      clear g1 g2
      have KO : Hid (okP b f ca cb cc (pl.getD kk (0, 0, 0)) = (fitsB ca cb cc (f j).1 (f j).2.1 (f j).2.2 && !barredB (pl.getD kk (0, 0, 0)).1 (pl.getD kk (0, 0, 0)).2.1 (pl.getD kk (0, 0, 0)).2.2 b)) := by
        show _ = _
        unfold okP
        rw [show ((pl.getD kk (0, 0, 0)).1 - 1).toNat = j from by have := HJ.out.1; omega]
      have hj := HJ.out.2
      have hjz : (j : Int) < (len : Int) := by omega
      have wj : IntKind.i64.wrap (j : Int) = (j : Int) := by rw [IntKind.wrap_i64]; omega
      have HX : Hid (pl.getD kk (0, 0, 0) = ((j : Int) + 1, (pl.getD kk (0, 0, 0)).2.1, (pl.getD kk (0, 0, 0)).2.2)) := by show _ = _; rw [← HJ.out.1]
      rw [HJ.out.1] at c0 KO
      generalize hyy : (pl.getD kk (0, 0, 0)).2.1 = y at *
      generalize hzz : (pl.getD kk (0, 0, 0)).2.2 = z at *
      clear hyy hzz
      have HBX : Hid (∀ wx, Below wr.heap.size wr wx → Calls Tryz.prog 84 #[.agg #[.int .i64 b.last, .slice b.sa b.stays.length b.sc, .slice b.ja b.jobs.length b.jc], .agg #[.int .i64 ((j : Int) + 1), .int .i64 y, .int .i64 z]] wx fun e w' => e = .returned (.bool (barredB ((j : Int) + 1) y z b)) ∧ Below wx.heap.size wx w') := fun wx hb => HBA.out _ _ _ wx (B.next P.out.below hb P.out.below.size)
      have HLX : Hid (∀ wx, Below wr.heap.size wr wx → wx.cell? ⟨lb, loff + j * 3, none⟩ = some (.int .i64 (f j).1) ∧ wx.cell? ⟨lb, loff + j * 3 + 1, none⟩ = some (.int .i64 (f j).2.1) ∧ wx.cell? ⟨lb, loff + j * 3 + 2, none⟩ = some (.int .i64 (f j).2.2)) := fun wx hb => HL.out j hj wx (B.next P.out.below hb P.out.below.size)
      clear HBA HL HJ
      generalize f j = s at *
      obtain ⟨q1, HQ1⟩ : ∃ q1, Hid (fitsB ca cb cc s.1 s.2.1 s.2.2 = q1) := ⟨_, rfl⟩
      rw [HQ1.out] at KO
      generalize barredB ((j : Int) + 1) y z b = q2 at *
      obtain ⟨wa, hwa⟩ : ∃ wa, wr.alloc (.cells #[.int .i64 ((j : Int) + 1), .int .i64 y, .int .i64 z] 82) = wa := ⟨_, rfl⟩
      have NA : Hid (Below wr.heap.size wr wa) := by show Below _ _ _; rw [← hwa]; exact B.new1 _ _
      have KA : Hid (Blk wa wr.heap.size #[.int .i64 ((j : Int) + 1), .int .i64 y, .int .i64 z] 82) := by show Blk _ _ _ _; rw [← hwa]; exact Blk.new _ _ _
      have PA : Hid (PickI w wa #[.int .i64 b.last, .slice b.sa b.stays.length b.sc, .slice b.ja b.jobs.length b.jc] #[.int .i64 ci, .int .i64 ca, .int .i64 cb, .int .i64 cc] g m (fun k => pl.getD k (0, 0, 0))) := P.out.next NA.out
      have NX : Hid (∀ p : BelowW wa, Below wr.heap.size wr p.wd) := fun p => B.next NA.out p.hb NA.out.size
      have f0 := fun p : BelowW wa => (PA.out.b0.below p.hb).cell 0
      have f1 := fun p : BelowW wa => (PA.out.b0.below p.hb).cell 1
      have f2 := fun p : BelowW wa => (PA.out.b0.below p.hb).cell 2
      have f3 := fun p : BelowW wa => (PA.out.b1.below p.hb).cell 1
      have f4 := fun p : BelowW wa => (PA.out.b1.below p.hb).cell 2
      have f5 := fun p : BelowW wa => (PA.out.b1.below p.hb).cell 3
      have f6 := fun p : BelowW wa => (KA.out.below p.hb).cell 0
      have f7 := fun p : BelowW wa => (KA.out.below p.hb).cell 1
      have f8 := fun p : BelowW wa => (KA.out.below p.hb).cell 2
      have l0 := fun p : BelowW wa => (HLX.out p.wd (NX.out p)).1
      have l1 := fun p : BelowW wa => (HLX.out p.wd (NX.out p)).2.1
      have l2 := fun p : BelowW wa => (HLX.out p.wd (NX.out p)).2.2
      clear HLX
      have HF : Hid (∀ wx, Calls Tryz.prog 47 #[.agg #[.int .i64 ca, .int .i64 cb, .int .i64 cc], .agg #[.int .i64 s.1, .int .i64 s.2.1, .int .i64 s.2.2]] wx fun e w' => e = .returned (.bool q1) ∧ Below wx.heap.size wx w') := fun wx => by rw [← HQ1.out]; exact fits_any _ _ _ _ _ _ _
      clear HQ1
      cases q1
      · go_wp2_with fail
        refine wp_region_below (by kernel_rfl) (by kernel_rfl) ?_
        repeat (quiet_step (first | (go_at_call 47; exact Calls.wof (HF.out _))))
        refine wpQuiet_nil ?_
        rintro wb ⟨⟨_, NQ⟩, rfl⟩
        have PB : Hid (PickI w wb #[.int .i64 b.last, .slice b.sa b.stays.length b.sc, .slice b.ja b.jobs.length b.jc] #[.int .i64 ci, .int .i64 ca, .int .i64 cb, .int .i64 cc] g m (fun k => pl.getD k (0, 0, 0))) := PA.out.next NQ
        clear f0 f1 f2 f3 f4 f5 f6 f7 f8 l0 l1 l2
        go_wp2
        go_roundg (m - (kk + 1))
        case measure => omega
        case rel =>
          refine ⟨kk + 1, by omega, by omega, by go_num, PB, (show Hid _ from fun j hj => ?_)⟩
          by_cases e : j = kk
          · subst e
            rw [KO.out]; rfl
          · exact A.out j (by omega)
      · cases q2
        · go_wp2_with fail
          refine wp_region_below (by kernel_rfl) (by kernel_rfl) ?_
          repeat (quiet_step (first | (go_at_call 47; exact Calls.wof (HF.out _)) | (go_at_call 84; exact Calls.wof (HBX.out _ (NX.out _)))))
          refine wpQuiet_nil ?_
          rintro wb ⟨⟨_, NQ⟩, rfl⟩
          have PB : Hid (PickI w wb #[.int .i64 b.last, .slice b.sa b.stays.length b.sc, .slice b.ja b.jobs.length b.jc] #[.int .i64 ci, .int .i64 ca, .int .i64 cb, .int .i64 cc] g m (fun k => pl.getD k (0, 0, 0))) := PA.out.next NQ
          have KB := KA.out.below NQ
          clear f0 f1 f2 f3 f4 f5 f6 f7 f8 l0 l1 l2
          have r0 := KB.cell
          have gg := PB.out.b2.cell
          have ff := PB.out.b2.free
          have HV : Hid (pickV (pickO b f ca cb cc len) = .tuple #[.agg #[.int .i64 ((j : Int) + 1), .int .i64 y, .int .i64 z], .bool true]) := by
            show _ = _
            rw [KP.out, find_hit (okP b f ca cb cc) (0, 0, 0) pl kk (by rw [HM1.out]; exact hlt) KO.out A.out, HX.out]
            rfl
          go_wp2
          (try simp only [Exit.inBlock, Exit.then])
          refine bodyPost_ret (by simp [results, Tryz.results50, go_sem, set3_0 gg, set3_1 gg, set3_2 gg]; try rfl) rfl ?_
          refine ⟨by rw [HV.out], ?_⟩
          exact ((PB.out.below.setCell (p := ⟨w.heap.size + 1 + 1, 0, none⟩) (by show w.heap.size ≤ w.heap.size + 1 + 1; omega) _).setCell (p := ⟨w.heap.size + 1 + 1, 1, none⟩) (by show w.heap.size ≤ w.heap.size + 1 + 1; omega) _).setCell (p := ⟨w.heap.size + 1 + 1, 2, none⟩) (by show w.heap.size ≤ w.heap.size + 1 + 1; omega) _
        · go_wp2_with fail
          refine wp_region_below (by kernel_rfl) (by kernel_rfl) ?_
          repeat (quiet_step (first | (go_at_call 47; exact Calls.wof (HF.out _)) | (go_at_call 84; exact Calls.wof (HBX.out _ (NX.out _)))))
          refine wpQuiet_nil ?_
          rintro wb ⟨⟨_, NQ⟩, rfl⟩
          have PB : Hid (PickI w wb #[.int .i64 b.last, .slice b.sa b.stays.length b.sc, .slice b.ja b.jobs.length b.jc] #[.int .i64 ci, .int .i64 ca, .int .i64 cb, .int .i64 cc] g m (fun k => pl.getD k (0, 0, 0))) := PA.out.next NQ
          clear f0 f1 f2 f3 f4 f5 f6 f7 f8 l0 l1 l2
          go_wp2
          go_roundg (m - (kk + 1))
          case measure => omega
          case rel =>
            refine ⟨kk + 1, by omega, by omega, by go_num, PB, (show Hid _ from fun j hj => ?_)⟩
            by_cases e : j = kk
            · subst e
              rw [KO.out]; rfl
            · exact A.out j (by omega)
    · have hk : kk = m := by omega
      have hltz : ¬ (kk : Int) < (m : Int) := by omega
      have gg := P.out.b2.cell
      have ff := P.out.b2.free
      have HV : Hid (pickV (pickO b f ca cb cc len) = .tuple #[.agg #[.int .i64 0, .int .i64 0, .int .i64 0], .bool false]) := by
        show _ = _
        rw [KP.out, find_miss (okP b f ca cb cc) (0, 0, 0) pl (by rw [HM1.out, ← hk]; exact A.out)]
        rfl
      clear hk
      go_wp2
      (try simp only [Exit.inBlock, Exit.then])
      refine bodyPost_ret (by simp [results, Tryz.results50, go_sem, set3_0 gg, set3_1 gg, set3_2 gg]; try rfl) rfl ?_
      refine ⟨by rw [HV.out], ?_⟩
      exact ((P.out.below.setCell (p := ⟨w.heap.size + 1 + 1, 0, none⟩) (by show w.heap.size ≤ w.heap.size + 1 + 1; omega) _).setCell (p := ⟨w.heap.size + 1 + 1, 1, none⟩) (by show w.heap.size ≤ w.heap.size + 1 + 1; omega) _).setCell (p := ⟨w.heap.size + 1 + 1, 2, none⟩) (by show w.heap.size ≤ w.heap.size + 1 + 1; omega) _

end Bk
end Go.Proofs.YtaikbojdmfkbhaaGreatDoor
