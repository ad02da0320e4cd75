/- Chapter 10, the document's words: what blocks the way; contract for the laws. -/
import Derived.Test.YtihapeagjikiaaaJPick
import Derived.Test.YtihapeagjikiaaaJViewE
import Derived.Test.YtihapeagjikiaaaJRefPlantI
import Derived.Deep.LoopGhost
namespace Go.Proofs.Ytihapeagjikiaaa
open Go.Shelf Go.Lib Go.ChangeShapes Go.WideShapes Go.ChangeAt Go.RowKit
set_option maxRecDepth 100000
set_option linter.unusedSimpArgs false
set_option linter.unusedVariables false

namespace Tn
open Bk Pl
/-- Block hb is the document's house over machine s and book b. -/
structure HouseAt (w : World) (hb rb : Nat) (s : St) (b : Book) (la : Option Addr) (ll lc : Nat) : Prop where
  h : Blk w hb #[.slice la ll lc, .pointer (some ⟨rb, 0, none⟩), .int .i64 b.last, .slice b.sa b.stays.length b.sc, .slice b.ja b.jobs.length b.jc, .slice none 0 0] 106
  r : IsR w rb s
  k : b.At w
theorem HouseAt.next {w wx : World} {hb rb : Nat} {s : St} {b : Book} {la : Option Addr} {ll lc : Nat} (h : HouseAt w hb rb s b la ll lc) (hx : Below w.heap.size w wx) : HouseAt wx hb rb s b la ll lc := ⟨h.h.below hx, h.r.below hx, h.k.below hx⟩
def yO (b : Book) (t : Int) : Stay := (stayO b t 0).getD zS
theorem stayA_eq (o : Option Stay) : stayA o = (fun y : Stay => #[.int .i64 y.t, .int .i64 y.id, .int .i64 y.a, .int .i64 y.b, .int .i64 y.c, .int .i64 y.x, .int .i64 y.y, .int .i64 y.z]) (o.getD zS) := by cases o <;> rfl
/-- Does a car whose stay is x belong in front of the one that a job fetches, which is there? -/
def rblocksB (D : DataW Unit) (y x : Stay) (jf : Bool) : Bool := jf && y.z == 1 && eqP y.x y.y 0 x.x x.y x.z && carOf D y.x y.y y.z == y.id

set_option maxHeartbeats 4000000 in
theorem rblocks_any (hb rb : Nat) (s : St) (b : Book) (la : Option Addr) (ll lc : Nat) (x : Stay) (jt : Int) (jf : Bool) (w : World) (h : HouseAt w hb rb s b la ll lc) (iv : Inv s) (hy : sOk (yO b jt)) :
    Calls Try.prog 109 #[.pointer (some ⟨hb, 0, none⟩), .agg #[.int .i64 x.t, .int .i64 x.id, .int .i64 x.a, .int .i64 x.b, .int .i64 x.c, .int .i64 x.x, .int .i64 x.y, .int .i64 x.z], .agg #[.int .i64 jt, .bool jf]] w fun e w' => e = .returned (.bool (rblocksB s.D (yO b jt) x jf)) ∧ Below w.heap.size w w' := by
  have HSO : Hid (∀ wx, Below w.heap.size w wx → Calls Try.prog 62 #[.agg #[.int .i64 b.last, .slice b.sa b.stays.length b.sc, .slice b.ja b.jobs.length b.jc], .int .i64 jt, .int .i64 0] wx fun e w' => ∃ q, e = .returned (.tuple #[.agg #[.int .i64 (yO b jt).t, .int .i64 (yO b jt).id, .int .i64 (yO b jt).a, .int .i64 (yO b jt).b, .int .i64 (yO b jt).c, .int .i64 (yO b jt).x, .int .i64 (yO b jt).y, .int .i64 (yO b jt).z], .bool q]) ∧ Below wx.heap.size wx w') := fun wx hx => (rstayOf_any b jt 0 wx (h.k.below hx)).mono (by
    rintro e w' ⟨rfl, hb'⟩
    exact ⟨(stayO b jt 0).isSome, by rw [stayA_eq]; rfl, hb'⟩)
  have HAT : Hid (∀ wx, Below w.heap.size w wx → Calls Try.prog 107 #[.pointer (some ⟨rb, 0, none⟩), .agg #[.int .i64 (yO b jt).x, .int .i64 (yO b jt).y, .int .i64 (yO b jt).z]] wx fun e w' => e = .returned (.int .i64 (carOf s.D (yO b jt).x (yO b jt).y (yO b jt).z)) ∧ Below wx.heap.size wx w') := fun wx hx => rAt_any rb s _ _ _ wx (h.r.below hx) iv (wfI (by have := hy.1; have := hy.2.1; omega)) (wfI (by have := hy.2.2.1; have := hy.2.2.2.1; omega)) (wfI (by have := hy.2.2.2.2.1; have := hy.2.2.2.2.2; omega))
  have HH : Hid (∀ wx, Below w.heap.size w wx → Blk wx hb #[.slice la ll lc, .pointer (some ⟨rb, 0, none⟩), .int .i64 b.last, .slice b.sa b.stays.length b.sc, .slice b.ja b.jobs.length b.jc, .slice none 0 0] 106) := fun wx hx => h.h.below hx
  generalize hPP : (fun (e : Ending) (w' : World) => e = .returned (.bool (rblocksB s.D (yO b jt) x jf)) ∧ Below w.heap.size w w') = PP
  have HP0 : Hid (∀ (q : Bool) w', q = rblocksB s.D (yO b jt) x jf → Below w.heap.size w w' → PP (.returned (.bool q)) w') := fun q w' h1 h2 => by rw [← hPP]; subst h1; exact ⟨rfl, h2⟩
  clear hPP h hy
  have KB0 : Hid (rblocksB s.D (yO b jt) x jf = (jf && (yO b jt).z == 1 && eqP (yO b jt).x (yO b jt).y 0 x.x x.y x.z && carOf s.D (yO b jt).x (yO b jt).y (yO b jt).z == (yO b jt).id)) := rfl
  obtain ⟨bb, hbb⟩ : ∃ bb, rblocksB s.D (yO b jt) x jf = bb := ⟨_, rfl⟩
  rw [hbb] at HP0 KB0
  obtain ⟨y, hy⟩ : ∃ y, yO b jt = y := ⟨_, rfl⟩
  rw [hy] at HSO HAT KB0
  obtain ⟨cv, hcv⟩ : ∃ cv, carOf s.D y.x y.y y.z = cv := ⟨_, rfl⟩
  rw [hcv] at HAT KB0
  clear hbb hy hcv
  obtain ⟨w0, hw0⟩ : ∃ w0, (w.alloc (.cells #[.int .i64 x.t, .int .i64 x.id, .int .i64 x.a, .int .i64 x.b, .int .i64 x.c, .int .i64 x.x, .int .i64 x.y, .int .i64 x.z] 62)).alloc (.cells #[.int .i64 jt, .bool jf] 32) = w0 := ⟨_, rfl⟩
  have N0 : Hid (Below w.heap.size w w0 ∧ Blk w0 w.heap.size #[.int .i64 x.t, .int .i64 x.id, .int .i64 x.a, .int .i64 x.b, .int .i64 x.c, .int .i64 x.x, .int .i64 x.y, .int .i64 x.z] 62 ∧ Blk w0 (w.heap.size + 1) #[.int .i64 jt, .bool jf] 32) := by
    show _ ∧ _ ∧ _
    rw [← hw0]
    exact ⟨(B.new1 _ _).alloc (by simp) _, (Blk.new _ _ _).old _, Blk.new1 (by simp) _ _⟩
  go_enter Try.func109, Try.ntmps109
  go_upto_region 1 with fail
  clear hw0
  have HBW : Hid (∀ W, Below w0.heap.size w0 W → Below w.heap.size w W) := fun W hx => B.next N0.out.1 hx N0.out.1.size
  have HS : Hid (∀ W, Below w0.heap.size w0 W → W.cell? ⟨hb, 2, none⟩ = some (.int .i64 b.last) ∧ W.cell? ⟨hb, 3, none⟩ = some (.slice b.sa b.stays.length b.sc) ∧ W.cell? ⟨hb, 4, none⟩ = some (.slice b.ja b.jobs.length b.jc) ∧ W.cell? ⟨w.heap.size + 1, 0, none⟩ = some (.int .i64 jt)) := fun W hx => ⟨(HH.out W (HBW.out W hx)).cell 2, (HH.out W (HBW.out W hx)).cell 3, (HH.out W (HBW.out W hx)).cell 4, (N0.out.2.2.below hx).cell 0⟩
  have D0 : Hid (Below w0.heap.size w0 w0.drew) := (Below.refl _ _).drew
  obtain ⟨wz, hwz⟩ : ∃ wz, w0.drew.alloc (.cells #[.int .i64 0, .int .i64 0, .int .i64 0, .int .i64 0, .int .i64 0, .int .i64 0, .int .i64 0, .int .i64 0] 62) = wz := ⟨_, rfl⟩
  have DZ : Hid (Below w0.heap.size w0 wz ∧ Blk wz w0.heap.size #[.int .i64 0, .int .i64 0, .int .i64 0, .int .i64 0, .int .i64 0, .int .i64 0, .int .i64 0, .int .i64 0] 62) := by
    show _ ∧ _
    rw [← hwz]
    exact ⟨D0.out.alloc (Nat.le_refl _) _, Blk.new1 (w := w0.drew) rfl _ _⟩
  have HR8 : Hid (∀ W, Below w0.heap.size w0 W → (fun W : World => W.cell? ⟨hb, 2, none⟩ = some (.int .i64 b.last) ∧ W.cell? ⟨hb, 3, none⟩ = some (.slice b.sa b.stays.length b.sc) ∧ W.cell? ⟨hb, 4, none⟩ = some (.slice b.ja b.jobs.length b.jc) ∧ W.cell? ⟨w.heap.size + 1, 0, none⟩ = some (.int .i64 jt)) ((((((((W.setCell ⟨w0.heap.size, 0, none⟩ (.int .i64 y.t)).setCell ⟨w0.heap.size, 1, none⟩ (.int .i64 y.id)).setCell ⟨w0.heap.size, 2, none⟩ (.int .i64 y.a)).setCell ⟨w0.heap.size, 3, none⟩ (.int .i64 y.b)).setCell ⟨w0.heap.size, 4, none⟩ (.int .i64 y.c)).setCell ⟨w0.heap.size, 5, none⟩ (.int .i64 y.x)).setCell ⟨w0.heap.size, 6, none⟩ (.int .i64 y.y)).setCell ⟨w0.heap.size, 7, none⟩ (.int .i64 y.z))) := fun W hx => HS.out _ (below_set (below_set (below_set (below_set (below_set (below_set (below_set (below_set hx (Nat.le_refl _) _ _) (Nat.le_refl _) _ _) (Nat.le_refl _) _ _) (Nat.le_refl _) _ _) (Nat.le_refl _) _ _) (Nat.le_refl _) _ _) (Nat.le_refl _) _ _) (Nat.le_refl _) _ _)
  go_cut [7] (fun s7 wx => ∃ yb : Nat, s7 = .pointer (some ⟨yb, 0, none⟩) ∧ Hid (Below w0.heap.size w0 wx ∧ Blk wx yb #[.int .i64 y.t, .int .i64 y.id, .int .i64 y.a, .int .i64 y.b, .int .i64 y.c, .int .i64 y.x, .int .i64 y.y, .int .i64 y.z] 62))
  case first =>
    clear HAT KB0 HP0
    go_region_held3 (fun W => W.cell? ⟨hb, 2, none⟩ = some (.int .i64 b.last) ∧ W.cell? ⟨hb, 3, none⟩ = some (.slice b.sa b.stays.length b.sc) ∧ W.cell? ⟨hb, 4, none⟩ = some (.slice b.ja b.jobs.length b.jc) ∧ W.cell? ⟨w.heap.size + 1, 0, none⟩ = some (.int .i64 jt)) (first | with_reducible exact HS.out _ D0.out | with_reducible exact HS.out _ DZ.out.1 | with_reducible exact HS.out _ BQ.out | with_reducible exact HS.out _ (BQ.out.alloc BQ.out.size _) | with_reducible exact HS.out _ BR.out.1 | with_reducible exact HR8.out _ BR.out.1 | go_keep)
      (first
        | (go_at_call 62; refine (HSO.out w0.drew (HBW.out _ D0.out)).mono ?_; rintro e wq ⟨q, rfl, bq⟩; have BQ : Hid (Below w0.heap.size w0 wq) := B.next D0.out bq D0.out.size; clear bq)
        | (go_at_call 62; refine (HSO.out wz (HBW.out _ DZ.out.1)).mono ?_; rintro e wq ⟨q, rfl, bq⟩; have BR : Hid (Below w0.heap.size w0 wq ∧ Blk wq w0.heap.size #[.int .i64 0, .int .i64 0, .int .i64 0, .int .i64 0, .int .i64 0, .int .i64 0, .int .i64 0, .int .i64 0] 62) := ⟨B.next DZ.out.1 bq DZ.out.1.size, DZ.out.2.below bq⟩; have gz := BR.out.2.cell; have fz := BR.out.2.free; clear bq))
    · go_wp2
      go_meet
      exact ⟨_, rfl, BQ.out.alloc BQ.out.size _, Blk.new _ _ _⟩
    · go_wp2
      go_meet
      exact ⟨_, rfl, (below_set (below_set (below_set (below_set (below_set (below_set (below_set (below_set BR.out.1 (Nat.le_refl _) _ _) (Nat.le_refl _) _ _) (Nat.le_refl _) _ _) (Nat.le_refl _) _ _) (Nat.le_refl _) _ _) (Nat.le_refl _) _ _) (Nat.le_refl _) _ _) (Nat.le_refl _) _ _), Blk.cast ((((((((BR.out.2.set 0 (.int .i64 y.t)).set 1 (.int .i64 y.id)).set 2 (.int .i64 y.a)).set 3 (.int .i64 y.b)).set 4 (.int .i64 y.c)).set 5 (.int .i64 y.x)).set 6 (.int .i64 y.y)).set 7 (.int .i64 y.z)) (by kernel_rfl)⟩
  case rest =>
  obtain ⟨yb, rfl, N1⟩ := hcut
  clear HS D0 hwz DZ HR8 HSO
  have KB := KB0
  have HP := HP0
  clear KB0 HP0
  have r1 := N1.out.2.cell
  obtain ⟨w7, hw7⟩ : ∃ w7, wc.alloc (.cells #[.int .i64 y.x, .int .i64 y.y, .int .i64 0] 38) = w7 := ⟨_, rfl⟩
  obtain ⟨fb, hfb⟩ : ∃ fb, wc.heap.size = fb := ⟨_, rfl⟩
  have N7 : Hid (Below w.heap.size w w7 ∧ Blk w7 w.heap.size #[.int .i64 x.t, .int .i64 x.id, .int .i64 x.a, .int .i64 x.b, .int .i64 x.c, .int .i64 x.x, .int .i64 x.y, .int .i64 x.z] 62 ∧ Blk w7 (w.heap.size + 1) #[.int .i64 jt, .bool jf] 32 ∧ Blk w7 yb #[.int .i64 y.t, .int .i64 y.id, .int .i64 y.a, .int .i64 y.b, .int .i64 y.c, .int .i64 y.x, .int .i64 y.y, .int .i64 y.z] 62 ∧ Blk w7 fb #[.int .i64 y.x, .int .i64 y.y, .int .i64 0] 38) := by
    show _ ∧ _ ∧ _ ∧ _ ∧ _
    rw [← hw7]
    have b7 := N1.out.1.alloc N1.out.1.size (.cells #[.int .i64 y.x, .int .i64 y.y, .int .i64 0] 38)
    exact ⟨HBW.out _ b7, N0.out.2.1.below b7, N0.out.2.2.below b7, N1.out.2.old _, Blk.new1 hfb.symm _ _⟩
  have HW7 : Hid (wc.alloc (.cells #[.int .i64 y.x, .int .i64 y.y, .int .i64 0] 38) = w7) := hw7
  clear hw7 N0 HBW N1
  go_upto_region 4 with fail
  simp only [HW7.out, hfb]
  clear HW7 hfb r1
  have HAQ : Hid (∀ p : BelowW w7, Calls Try.prog 107 #[.pointer (some ⟨rb, 0, none⟩), .agg #[.int .i64 y.x, .int .i64 y.y, .int .i64 y.z]] p.wd fun e w' => e = .returned (.int .i64 cv) ∧ Below p.wd.heap.size p.wd w') := fun p => HAT.out _ (B.next N7.out.1 p.hb N7.out.1.size)
  have HHC : Hid (∀ p : BelowW w7, Blk p.wd hb #[.slice la ll lc, .pointer (some ⟨rb, 0, none⟩), .int .i64 b.last, .slice b.sa b.stays.length b.sc, .slice b.ja b.jobs.length b.jc, .slice none 0 0] 106) := fun p => HH.out _ (B.next N7.out.1 p.hb N7.out.1.size)
  have h1 := fun p : BelowW w7 => (HHC.out p).cell 1
  have j1 := fun p : BelowW w7 => (N7.out.2.2.1.below p.hb).cell 1
  have x5 := fun p : BelowW w7 => (N7.out.2.1.below p.hb).cell 5
  have x6 := fun p : BelowW w7 => (N7.out.2.1.below p.hb).cell 6
  have x7 := fun p : BelowW w7 => (N7.out.2.1.below p.hb).cell 7
  have y1 := fun p : BelowW w7 => (N7.out.2.2.2.1.below p.hb).cell 1
  have y5 := fun p : BelowW w7 => (N7.out.2.2.2.1.below p.hb).cell 5
  have y6 := fun p : BelowW w7 => (N7.out.2.2.2.1.below p.hb).cell 6
  have y7 := fun p : BelowW w7 => (N7.out.2.2.2.1.below p.hb).cell 7
  have f0 := fun p : BelowW w7 => (N7.out.2.2.2.2.below p.hb).cell 0
  have f1 := fun p : BelowW w7 => (N7.out.2.2.2.2.below p.hb).cell 1
  have f2 := fun p : BelowW w7 => (N7.out.2.2.2.2.below p.hb).cell 2
  have e1 := eqP_run y.x y.y 0 x.x x.y x.z
  have g1 := eqP_guard y.x y.y 0 x.x x.y x.z
  generalize eqP y.x y.y 0 x.x x.y x.z = qe at e1 KB
  clear HHC HH HAT
  cases jf
  · refine wp_region_below (by kernel_rfl) (by kernel_rfl) ?_
    repeat (go_big_quiet_step (first | (go_at_call 107; exact Calls.wof (HAQ.out _))))
    refine wpQuiet_nil ?_
    rintro wb ⟨⟨_, NQ⟩, rfl⟩
    go_wp2
    exact HP.out _ _ (by rw [KB.out]; simp) (B.next N7.out.1 NQ N7.out.1.size)
  · cases c3 : (y.z == 1)
    · rw [c3] at KB
      refine wp_region_below (by kernel_rfl) (by kernel_rfl) ?_
      repeat (go_big_quiet_step (first | (go_at_call 107; exact Calls.wof (HAQ.out _))))
      refine wpQuiet_nil ?_
      rintro wb ⟨⟨_, NQ⟩, rfl⟩
      go_wp2
      exact HP.out _ _ (by rw [KB.out]; simp) (B.next N7.out.1 NQ N7.out.1.size)
    · rw [c3] at KB
      cases qe
      · refine wp_region_below (by kernel_rfl) (by kernel_rfl) ?_
        repeat (go_big_quiet_step (first | (go_at_call 107; exact Calls.wof (HAQ.out _))))
        refine wpQuiet_nil ?_
        rintro wb ⟨⟨_, NQ⟩, rfl⟩
        go_wp2
        exact HP.out _ _ (by rw [KB.out]; simp) (B.next N7.out.1 NQ N7.out.1.size)
      · refine wp_region_below (by kernel_rfl) (by kernel_rfl) ?_
        repeat (go_big_quiet_step (first | (go_at_call 107; exact Calls.wof (HAQ.out _))))
        refine wpQuiet_nil ?_
        rintro wb ⟨⟨_, NQ⟩, rfl⟩
        go_wp2
        exact HP.out _ _ (by rw [KB.out]; simp) (B.next N7.out.1 NQ N7.out.1.size)

end Tn
end Go.Proofs.Ytihapeagjikiaaa

namespace Go.Proofs.Ytihapeagjikiaaa
open Go.Shelf Go.Lib Go.ChangeShapes Go.WideShapes Go.ChangeAt Go.RowKit
set_option maxRecDepth 100000
set_option linter.unusedSimpArgs false
set_option linter.unusedVariables false

namespace Tn
open Bk Pl
/-- A job that puts away the car in the bay. -/
def bayJ (b : Book) (ba : Int) (j : Job) : Bool := !j.f && (yO b j.t).id == ba
def rfirstJ (b : Book) (s : St) : Job := (b.jobs.find? (bayJ b s.ba)).getD (b.jobs.getD 0 ⟨0, false⟩)
theorem set2_0 {w : World} {b : Nat} {a0 a1 : Value} (g : ∀ o, w.cell? ⟨b, o, none⟩ = #[a0, a1][o]?) (x y : Value) : ((w.setCell ⟨b, 0, none⟩ x).setCell ⟨b, 1, none⟩ y).cell? ⟨b, 0, none⟩ = some x := by
  have h0 : w.cell? ⟨b, 0, none⟩ = some a0 := g 0
  have h1 : w.cell? ⟨b, 1, none⟩ = some a1 := g 1
  simp [World.cell?_setCell_same', World.cell?_setCell_other, h0, h1]
theorem set2_1 {w : World} {b : Nat} {a0 a1 : Value} (g : ∀ o, w.cell? ⟨b, o, none⟩ = #[a0, a1][o]?) (x y : Value) : ((w.setCell ⟨b, 0, none⟩ x).setCell ⟨b, 1, none⟩ y).cell? ⟨b, 1, none⟩ = some y := by
  have h0 : w.cell? ⟨b, 0, none⟩ = some a0 := g 0
  have h1 : w.cell? ⟨b, 1, none⟩ = some a1 := g 1
  simp [World.cell?_setCell_same', World.cell?_setCell_other, h0, h1]

set_option maxHeartbeats 4000000 in
theorem rfirst_any (hb rb : Nat) (s : St) (b : Book) (la : Option Addr) (ll lc : Nat) (w : World) (h : HouseAt w hb rb s b la ll lc) :
    Calls Try.prog 105 #[.pointer (some ⟨hb, 0, none⟩)] w fun e w' => e = .returned (.tuple #[.agg #[.int .i64 (rfirstJ b s).t, .bool (rfirstJ b s).f], .bool (decide (b.jobs ≠ []))]) ∧ Below w.heap.size w w' := by
  have HSO : Hid (∀ t wx, Below w.heap.size w wx → Calls Try.prog 62 #[.agg #[.int .i64 b.last, .slice b.sa b.stays.length b.sc, .slice b.ja b.jobs.length b.jc], .int .i64 t, .int .i64 0] wx fun e w' => ∃ q, e = .returned (.tuple #[.agg #[.int .i64 (yO b t).t, .int .i64 (yO b t).id, .int .i64 (yO b t).a, .int .i64 (yO b t).b, .int .i64 (yO b t).c, .int .i64 (yO b t).x, .int .i64 (yO b t).y, .int .i64 (yO b t).z], .bool q]) ∧ Below wx.heap.size wx w') := fun t wx hx => (rstayOf_any b t 0 wx (h.k.below hx)).mono (by
    rintro e w' ⟨rfl, hb'⟩
    exact ⟨(stayO b t 0).isSome, by rw [stayA_eq]; rfl, hb'⟩)
  have HH : Hid (∀ wx, Below w.heap.size w wx → Blk wx hb #[.slice la ll lc, .pointer (some ⟨rb, 0, none⟩), .int .i64 b.last, .slice b.sa b.stays.length b.sc, .slice b.ja b.jobs.length b.jc, .slice none 0 0] 106) := fun wx hx => h.h.below hx
  have HRB : Hid (∀ wx, Below w.heap.size w wx → wx.cell? ⟨rb, 6, none⟩ = some (.int .i64 s.ba)) := fun wx hx => (h.r.below hx).cell 6
  have H3 : Hid (∀ wx, Below w.heap.size w wx → RowsAt wx b.ja b.jc 2 Job.enc b.jobs) := fun wx hx => h.k.2.below hx
  have hm3 : b.jc ≤ maxLen := h.k.2.2.1
  have hn3 : b.jobs.length ≤ b.jc := h.k.2.1
  unfold maxLen at hm3
  generalize hPP : (fun (e : Ending) (w' : World) => e = .returned (.tuple #[.agg #[.int .i64 (rfirstJ b s).t, .bool (rfirstJ b s).f], .bool (decide (b.jobs ≠ []))]) ∧ Below w.heap.size w w') = PP
  have HP : Hid (∀ (j : Job) (q : Bool) w', rfirstJ b s = j → decide (b.jobs ≠ []) = q → Below w.heap.size w w' → PP (.returned (.tuple #[.agg #[.int .i64 j.t, .bool j.f], .bool q])) w') := fun j q w' h1 h2 h3 => by rw [← hPP]; subst h1 h2; exact ⟨rfl, h3⟩
  clear hPP h
  obtain ⟨w0, hw0⟩ : ∃ w0, w.alloc (.cells #[.int .i64 0, .bool false] 32) = w0 := ⟨_, rfl⟩
  have N0 : Hid (Below w.heap.size w w0 ∧ Blk w0 w.heap.size #[.int .i64 0, .bool false] 32) := by
    show _ ∧ _
    rw [← hw0]
    exact ⟨B.new1 _ _, Blk.new _ _ _⟩
  go_enter Try.func105, Try.ntmps105
  go_wp2_with fail
  clear hw0
  go_loopg [4] b.jobs.length (fun gg s4 wr => ∃ i : Nat, i ≤ b.jobs.length ∧ b.jobs.length - i ≤ gg ∧ s4 = .int .i64 i ∧ Hid (∀ k, k < i → bayJ b s.ba (b.jobs.getD k ⟨0, false⟩) = false) ∧ Hid (Below w.heap.size w wr ∧ Blk wr w.heap.size #[.int .i64 0, .bool false] 32))
  case atStart => exact ⟨0, Nat.zero_le _, by omega, rfl, fun k hk => absurd hk (Nat.not_lt_zero _), N0⟩
  case round =>
    clear N0
    obtain ⟨i, hi, hg, rfl, A, M⟩ := hrel
    have rh := (HH.out _ M.out.1).cell
    by_cases hlt : i < b.jobs.length
    · have hltz : (i : Int) < (b.jobs.length : Int) := by omega
      have hne : b.jobs ≠ [] := fun e => by rw [e] at hlt; exact absurd hlt (Nat.not_lt_zero _)
      obtain ⟨jx, joff, hja⟩ := rows_some (H3.out _ M.out.1) (by omega)
      have hrr := H3.out _ M.out.1
      rw [hja] at hrr rh
      have j0 := rows_cell hrr i hlt 0 _ rfl
      have j1 := rows_cell hrr i hlt 1 _ rfl
      simp only [Nat.add_zero] at j0
      clear hrr
      have egd : b.jobs.getD i ⟨0, false⟩ = b.jobs[i]! := by rw [getElem!_pos b.jobs i hlt]; simp [List.getD, hlt]
      have AF : Hid (bayJ b s.ba b.jobs[i]! = true → rfirstJ b s = b.jobs[i]!) := fun hb' => by
        unfold rfirstJ
        rw [find_hit (bayJ b s.ba) ⟨0, false⟩ b.jobs i hlt (by rw [egd]; exact hb') A.out, egd]
        rfl
      have AN : Hid (bayJ b s.ba b.jobs[i]! = false → ∀ k, k < i + 1 → bayJ b s.ba (b.jobs.getD k ⟨0, false⟩) = false) := fun hb' k hk => by
        by_cases e : k < i
        · exact A.out k e
        · have : k = i := by omega
          subst this; rw [egd]; exact hb'
      clear A egd
      obtain ⟨jv, hjv⟩ : ∃ jv, b.jobs[i]! = jv := ⟨_, rfl⟩
      rw [hjv] at AF AN j0 j1
      clear hjv
      obtain ⟨w1, hw1⟩ : ∃ w1, wr.alloc (.cells #[.int .i64 jv.t, .bool jv.f] 32) = w1 := ⟨_, rfl⟩
      obtain ⟨jb, hjb⟩ : ∃ jb, wr.heap.size = jb := ⟨_, rfl⟩
      have N1 : Hid ((Below w.heap.size w w1 ∧ Blk w1 w.heap.size #[.int .i64 0, .bool false] 32) ∧ Blk w1 jb #[.int .i64 jv.t, .bool jv.f] 32) := by
        show _ ∧ _
        rw [← hw1]
        exact ⟨⟨M.out.1.alloc M.out.1.size _, M.out.2.old _⟩, Blk.new1 hjb.symm _ _⟩
      have HW1 : Hid (wr.alloc (.cells #[.int .i64 jv.t, .bool jv.f] 32) = w1) := hw1
      clear hw1 M
      go_upto_region 5 with fail
      simp only [HW1.out, hjb]
      clear HW1 hjb rh j0 j1 hja
      have HSJ : Hid (∀ wx, Below w.heap.size w wx → Calls Try.prog 62 #[.agg #[.int .i64 b.last, .slice b.sa b.stays.length b.sc, .slice b.ja b.jobs.length b.jc], .int .i64 jv.t, .int .i64 0] wx fun e w' => ∃ q, e = .returned (.tuple #[.agg #[.int .i64 (yO b jv.t).t, .int .i64 (yO b jv.t).id, .int .i64 (yO b jv.t).a, .int .i64 (yO b jv.t).b, .int .i64 (yO b jv.t).c, .int .i64 (yO b jv.t).x, .int .i64 (yO b jv.t).y, .int .i64 (yO b jv.t).z], .bool q]) ∧ Below wx.heap.size wx w') := HSO.out jv.t
      have KY : Hid (bayJ b s.ba jv = (!jv.f && (yO b jv.t).id == s.ba)) := rfl
      obtain ⟨y, hy⟩ : ∃ y, yO b jv.t = y := ⟨_, rfl⟩
      rw [hy] at HSJ KY
      clear hy
      have HBW : Hid (∀ W, Below w1.heap.size w1 W → Below w.heap.size w W) := fun W hx => B.next N1.out.1.1 hx N1.out.1.1.size
      have HS : Hid (∀ W, Below w1.heap.size w1 W → W.cell? ⟨hb, 2, none⟩ = some (.int .i64 b.last) ∧ W.cell? ⟨hb, 3, none⟩ = some (.slice b.sa b.stays.length b.sc) ∧ W.cell? ⟨hb, 4, none⟩ = some (.slice b.ja b.jobs.length b.jc) ∧ W.cell? ⟨jb, 0, none⟩ = some (.int .i64 jv.t)) := fun W hx => ⟨(HH.out W (HBW.out W hx)).cell 2, (HH.out W (HBW.out W hx)).cell 3, (HH.out W (HBW.out W hx)).cell 4, (N1.out.2.below hx).cell 0⟩
      have D0 : Hid (Below w1.heap.size w1 w1.drew) := (Below.refl _ _).drew
      obtain ⟨wz, hwz⟩ : ∃ wz, w1.drew.alloc (.cells #[.int .i64 0, .int .i64 0, .int .i64 0, .int .i64 0, .int .i64 0, .int .i64 0, .int .i64 0, .int .i64 0] 62) = wz := ⟨_, rfl⟩
      have DZ : Hid (Below w1.heap.size w1 wz ∧ Blk wz w1.heap.size #[.int .i64 0, .int .i64 0, .int .i64 0, .int .i64 0, .int .i64 0, .int .i64 0, .int .i64 0, .int .i64 0] 62) := by
        show _ ∧ _
        rw [← hwz]
        exact ⟨D0.out.alloc (Nat.le_refl _) _, Blk.new1 (w := w1.drew) rfl _ _⟩
      have HR8 : Hid (∀ W, Below w1.heap.size w1 W → (fun W : World => W.cell? ⟨hb, 2, none⟩ = some (.int .i64 b.last) ∧ W.cell? ⟨hb, 3, none⟩ = some (.slice b.sa b.stays.length b.sc) ∧ W.cell? ⟨hb, 4, none⟩ = some (.slice b.ja b.jobs.length b.jc) ∧ W.cell? ⟨jb, 0, none⟩ = some (.int .i64 jv.t)) ((((((((W.setCell ⟨w1.heap.size, 0, none⟩ (.int .i64 y.t)).setCell ⟨w1.heap.size, 1, none⟩ (.int .i64 y.id)).setCell ⟨w1.heap.size, 2, none⟩ (.int .i64 y.a)).setCell ⟨w1.heap.size, 3, none⟩ (.int .i64 y.b)).setCell ⟨w1.heap.size, 4, none⟩ (.int .i64 y.c)).setCell ⟨w1.heap.size, 5, none⟩ (.int .i64 y.x)).setCell ⟨w1.heap.size, 6, none⟩ (.int .i64 y.y)).setCell ⟨w1.heap.size, 7, none⟩ (.int .i64 y.z))) := fun W hx => HS.out _ (below_set (below_set (below_set (below_set (below_set (below_set (below_set (below_set hx (Nat.le_refl _) _ _) (Nat.le_refl _) _ _) (Nat.le_refl _) _ _) (Nat.le_refl _) _ _) (Nat.le_refl _) _ _) (Nat.le_refl _) _ _) (Nat.le_refl _) _ _) (Nat.le_refl _) _ _)
      go_cut [6] (fun s6 wx => ∃ yb : Nat, s6 = .pointer (some ⟨yb, 0, none⟩) ∧ Hid (Below w1.heap.size w1 wx ∧ Blk wx yb #[.int .i64 y.t, .int .i64 y.id, .int .i64 y.a, .int .i64 y.b, .int .i64 y.c, .int .i64 y.x, .int .i64 y.y, .int .i64 y.z] 62))
      case first =>
        clear AF AN KY HP HSO H3 HRB
        go_region_held3 (fun W => W.cell? ⟨hb, 2, none⟩ = some (.int .i64 b.last) ∧ W.cell? ⟨hb, 3, none⟩ = some (.slice b.sa b.stays.length b.sc) ∧ W.cell? ⟨hb, 4, none⟩ = some (.slice b.ja b.jobs.length b.jc) ∧ W.cell? ⟨jb, 0, none⟩ = some (.int .i64 jv.t)) (first | with_reducible exact HS.out _ D0.out | with_reducible exact HS.out _ DZ.out.1 | with_reducible exact HS.out _ BQ.out | with_reducible exact HS.out _ (BQ.out.alloc BQ.out.size _) | with_reducible exact HS.out _ BR.out.1 | with_reducible exact HR8.out _ BR.out.1 | go_keep)
          (first
            | (go_at_call 62; refine (HSJ.out w1.drew (HBW.out _ D0.out)).mono ?_; rintro e wq ⟨q, rfl, bq⟩; have BQ : Hid (Below w1.heap.size w1 wq) := B.next D0.out bq D0.out.size; clear bq)
            | (go_at_call 62; refine (HSJ.out wz (HBW.out _ DZ.out.1)).mono ?_; rintro e wq ⟨q, rfl, bq⟩; have BR : Hid (Below w1.heap.size w1 wq ∧ Blk wq w1.heap.size #[.int .i64 0, .int .i64 0, .int .i64 0, .int .i64 0, .int .i64 0, .int .i64 0, .int .i64 0, .int .i64 0] 62) := ⟨B.next DZ.out.1 bq DZ.out.1.size, DZ.out.2.below bq⟩; have gz := BR.out.2.cell; have fz := BR.out.2.free; clear bq))
        · go_wp2
          go_meet
          exact ⟨_, rfl, BQ.out.alloc BQ.out.size _, Blk.new _ _ _⟩
        · go_wp2
          go_meet
          exact ⟨_, rfl, (below_set (below_set (below_set (below_set (below_set (below_set (below_set (below_set BR.out.1 (Nat.le_refl _) _ _) (Nat.le_refl _) _ _) (Nat.le_refl _) _ _) (Nat.le_refl _) _ _) (Nat.le_refl _) _ _) (Nat.le_refl _) _ _) (Nat.le_refl _) _ _) (Nat.le_refl _) _ _), Blk.cast ((((((((BR.out.2.set 0 (.int .i64 y.t)).set 1 (.int .i64 y.id)).set 2 (.int .i64 y.a)).set 3 (.int .i64 y.b)).set 4 (.int .i64 y.c)).set 5 (.int .i64 y.x)).set 6 (.int .i64 y.y)).set 7 (.int .i64 y.z)) (by kernel_rfl)⟩
      case rest =>
      obtain ⟨yb, rfl, N2⟩ := hcut
      clear HS D0 hwz DZ HR8 HSJ
      have N3 : Hid ((Below w.heap.size w wc ∧ Blk wc w.heap.size #[.int .i64 0, .bool false] 32) ∧ Blk wc jb #[.int .i64 jv.t, .bool jv.f] 32 ∧ Blk wc yb #[.int .i64 y.t, .int .i64 y.id, .int .i64 y.a, .int .i64 y.b, .int .i64 y.c, .int .i64 y.x, .int .i64 y.y, .int .i64 y.z] 62) := ⟨⟨HBW.out _ N2.out.1, N1.out.1.2.below N2.out.1⟩, N1.out.2.below N2.out.1, N2.out.2⟩
      clear N1 N2 HBW
      have HHC : Hid (∀ p : BelowW wc, Blk p.wd hb #[.slice la ll lc, .pointer (some ⟨rb, 0, none⟩), .int .i64 b.last, .slice b.sa b.stays.length b.sc, .slice b.ja b.jobs.length b.jc, .slice none 0 0] 106) := fun p => HH.out _ (B.next N3.out.1.1 p.hb N3.out.1.1.size)
      have h1 := fun p : BelowW wc => (HHC.out p).cell 1
      have rb6 := fun p : BelowW wc => HRB.out p.wd (B.next N3.out.1.1 p.hb N3.out.1.1.size)
      have j1 := fun p : BelowW wc => (N3.out.2.1.below p.hb).cell 1
      have y1 := fun p : BelowW wc => (N3.out.2.2.below p.hb).cell 1
      obtain ⟨qa, hqa⟩ : ∃ qa, bayJ b s.ba jv = qa := ⟨_, rfl⟩
      rw [hqa] at AF AN KY
      clear hqa
      obtain ⟨jt, jf⟩ := jv
      simp only at KY h1 j1 y1
      go_upto_region 6 with fail
      go_cut [51] (fun s51 wx => s51 = .bool qa ∧ Hid ((Below w.heap.size w wx ∧ Blk wx w.heap.size #[.int .i64 0, .bool false] 32) ∧ Blk wx jb #[.int .i64 jt, .bool jf] 32))
      case first =>
        clear AF AN HP HSO H3 HRB HHC HH
        cases jf
        · cases c1 : (y.id == s.ba)
          · rw [c1] at KY
            refine wp_region_below (by kernel_rfl) (by kernel_rfl) ?_
            repeat (go_big_quiet_step (fail))
            refine wpQuiet_nil ?_
            rintro wb ⟨⟨_, NQ⟩, rfl⟩
            go_wp2
            go_meet
            exact ⟨congrArg Value.bool (by rw [KY.out]; rfl), ⟨B.next N3.out.1.1 NQ N3.out.1.1.size, N3.out.1.2.below NQ⟩, N3.out.2.1.below NQ⟩
          · rw [c1] at KY
            refine wp_region_below (by kernel_rfl) (by kernel_rfl) ?_
            repeat (go_big_quiet_step (fail))
            refine wpQuiet_nil ?_
            rintro wb ⟨⟨_, NQ⟩, rfl⟩
            go_wp2
            go_meet
            exact ⟨congrArg Value.bool (by rw [KY.out]; rfl), ⟨B.next N3.out.1.1 NQ N3.out.1.1.size, N3.out.1.2.below NQ⟩, N3.out.2.1.below NQ⟩
        · refine wp_region_below (by kernel_rfl) (by kernel_rfl) ?_
          repeat (go_big_quiet_step (fail))
          refine wpQuiet_nil ?_
          rintro wb ⟨⟨_, NQ⟩, rfl⟩
          go_wp2
          go_meet
          exact ⟨congrArg Value.bool (by rw [KY.out]; rfl), ⟨B.next N3.out.1.1 NQ N3.out.1.1.size, N3.out.1.2.below NQ⟩, N3.out.2.1.below NQ⟩
      case rest =>
      clear h1 rb6 j1 y1 HHC N3 KY
      obtain ⟨rfl, N4⟩ := hcut
      cases qa
      · go_wp2
        go_roundg (b.jobs.length - (i + 1))
        case measure => omega
        case rel => exact ⟨i + 1, by omega, by omega, by go_num, AN.out (by trivial), N4.out.1⟩
      · have hF : rfirstJ b s = ⟨jt, jf⟩ := AF.out (by trivial)
        clear AF AN
        have N := N4.out.1.2
        have rj := N4.out.2.cell
        have gg := N.cell
        have ff := N.free
        go_wp2
        (try simp only [Exit.inBlock, Exit.then])
        refine bodyPost_ret (v := .tuple #[.agg #[.int .i64 jt, .bool jf], .bool true]) (by simp [results, Try.results105, go_sem, set2_0 gg, set2_1 gg]; try rfl) rfl ?_
        exact HP.out ⟨jt, jf⟩ true _ hF (by simp [hne]) (below_set (below_set N4.out.1.1 (Nat.le_refl _) _ _) (Nat.le_refl _) _ _)
    · have hltz : ¬ (i : Int) < (b.jobs.length : Int) := by omega
      have hil : i = b.jobs.length := by omega
      have hfn : b.jobs.find? (bayJ b s.ba) = none := find_miss (bayJ b s.ba) ⟨0, false⟩ b.jobs (by rw [← hil]; exact A.out)
      by_cases hj0 : b.jobs.length = 0
      · have hnil : b.jobs = [] := List.length_eq_zero_iff.1 hj0
        have hF : rfirstJ b s = ⟨0, false⟩ := by unfold rfirstJ; rw [hfn, hnil]; rfl
        have hz : (b.jobs.length : Int) = 0 := by omega
        rw [hj0] at rh hltz
        clear hil hfn A
        have N := M.out.2
        have gg := N.cell
        have ff := N.free
        go_wp2
        (try simp only [Exit.inBlock, Exit.then])
        refine bodyPost_ret (v := .tuple #[.agg #[.int .i64 0, .bool false], .bool false]) (by simp [results, Try.results105, go_sem, set2_0 gg, set2_1 gg]; try rfl) rfl ?_
        exact HP.out ⟨0, false⟩ false _ hF (by simp [hnil]) (below_set (below_set M.out.1 (Nat.le_refl _) _ _) (Nat.le_refl _) _ _)
      · have hz : ¬ (b.jobs.length : Int) = 0 := by omega
        have hne : b.jobs ≠ [] := fun e => hj0 (by rw [e]; rfl)
        have hjp : (0 : Int) < (b.jobs.length : Int) := by omega
        have hjn : 0 < b.jobs.length := by omega
        obtain ⟨jx, joff, hja⟩ := rows_some (H3.out _ M.out.1) hjn
        have hrr := H3.out _ M.out.1
        rw [hja] at hrr rh
        have j0 := rows_cell hrr 0 hjn 0 _ rfl
        have j1 := rows_cell hrr 0 hjn 1 _ rfl
        simp only [Nat.add_zero, Nat.zero_mul] at j0 j1
        have hF : rfirstJ b s = b.jobs[0]! := by unfold rfirstJ; rw [hfn, getElem!_pos b.jobs 0 hjn]; simp [List.getD, hjn]
        obtain ⟨jv, hjv⟩ : ∃ jv, b.jobs[0]! = jv := ⟨_, rfl⟩
        rw [hjv] at hF j0 j1
        clear hjv hil hfn A hrr hja
        have N := M.out.2
        have gg := N.cell
        have ff := N.free
        go_wp2
        (try simp only [Exit.inBlock, Exit.then])
        refine bodyPost_ret (v := .tuple #[.agg #[.int .i64 jv.t, .bool jv.f], .bool true]) (by simp [results, Try.results105, go_sem, set2_0 gg, set2_1 gg]; try rfl) rfl ?_
        exact HP.out jv true _ hF (by simp [hne]) (below_set (below_set M.out.1 (Nat.le_refl _) _ _) (Nat.le_refl _) _ _)

end Tn
end Go.Proofs.Ytihapeagjikiaaa
