/- Park. -/
import Derived.Test.YtopgllmjeliklaaGreatDoorKiHsB
set_option maxRecDepth 100000
set_option linter.unusedSimpArgs false
set_option linter.unusedVariables false
namespace Go.Proofs.YtopgllmjeliklaaGreatDoor
open Go.Shelf Go.Lib Go.ChangeShapes Go.WideShapes Go.ChangeAt Go.RowKit
namespace Bk
def parkN (b : Book) (f : Nat → Int × Int × Int) (len : Nat) (ci ca cb cc : Int) : Int :=
 if carN ci ca cb cc ≠ 0 then carN ci ca cb cc else if 0 ≤ ofI b ci then 6 else if (pickO b f ca cb cc len).isSome = false ∨ 999999 ≤ b.last ∨ 8 ≤ b.jobs.length then 8 else 0
def ParkPost (b : Book) (f : Nat → Int × Int × Int) (len : Nat) (ci ca cb cc : Int) (w : World) (e : Ending) (w' : World) : Prop :=
 (∃ k, e = .returned (.tuple #[.agg #[.int .i64 0, .slice none 0 0, .slice none 0 0], .int .i64 0, errV k]) ∧ k ≠ 0 ∧ parkN b f len ci ca cb cc = k) ∧ Below w.heap.size w w' ∨
 (parkN b f len ci ca cb cc = 0 ∧ ∃ po vs vj, pickO b f ca cb cc len = some po ∧ e = .returned (.tuple #[.agg #[.int .i64 (b.last + 1), vs, vj], .int .i64 (b.last + 1), .nilIface]) ∧ OwnBook w' w.heap.size vs vj (b.stays ++ [⟨b.last + 1, ci, ca, cb, cc, po.1, po.2.1, po.2.2⟩]) (b.jobs ++ [⟨b.last + 1, false⟩]) ∧ Below w.heap.size w w')
structure ParkI (w wx : World) (b0 X Y : Nat) (car pl nx : Array Value) (vs vj : Value) (S : List Stay) (J : List Job) : Prop where
 below : Below w.heap.size w wx
 cb : Blk wx (w.heap.size + 1) car 34
 rb : Blk wx (w.heap.size + 2) #[.int .i64 0, .slice none 0 0, .slice none 0 0] 39
 pb : Blk wx Y pl 65
 nb : Blk wx X nx 39
 s : OwnAt wx b0 67 8 Stay.enc vs S
 j : OwnAt wx b0 88 2 Job.enc vj J
theorem ParkI.ownbook {w wx : World} {b0 X Y : Nat} {car pl nx : Array Value} {vs vj : Value} {S : List Stay} {J : List Job} (h : ParkI w wx b0 X Y car pl nx vs vj S J) (hb : w.heap.size ≤ b0) : OwnBook wx w.heap.size vs vj S J := by
 refine ⟨h.s.base hb, h.j.base hb, fun g e e' => ?_⟩
 rcases h.j with ⟨rfl, _⟩ | ⟨g', cap, cur, rfl, hg, hk, _⟩
 ·simp [Value.ownBlock] at e'
 ·simp [Value.ownBlock] at e'
  subst e'; exact own_ne h.s hk (by decide) e
theorem ParkI.next {w wx wy : World} {b0 X Y : Nat} {car pl nx : Array Value} {vs vj : Value} {S : List Stay} {J : List Job} (h : ParkI w wx b0 X Y car pl nx vs vj S J) (hb : Below wx.heap.size wx wy) : ParkI w wy b0 X Y car pl nx vs vj S J :=
 ⟨B.next h.below hb h.below.size, h.cb.below hb, h.rb.below hb, h.pb.below hb, h.nb.below hb, h.s.below hb, h.j.below hb⟩
theorem ParkI.set {w wx : World} {b0 X Y : Nat} {car pl nx : Array Value} {vs vj : Value} {S : List Stay} {J : List Job} (h : ParkI w wx b0 X Y car pl nx vs vj S J) (hX : w.heap.size + 2 < X) (hY : Y ≠ X) (o : Nat) (v : Value) : ParkI w (wx.setCell ⟨X, o, none⟩ v) b0 X Y car pl (nx.setIfInBounds o v) vs vj S J := by
 refine ⟨h.below.setCell (p := ⟨X, o, none⟩) (by show w.heap.size ≤ X; omega) _, h.cb.other (by omega) _ _, h.rb.other (by omega) _ _, h.pb.other (Ne.symm hY) _ _, h.nb.set o _, ?_, ?_⟩
 ·have hn := own_ne h.s h.nb (by decide)
  rcases h.s with h' | ⟨g, cap, cur, rfl, hg, hk, r⟩
  ·exact Or.inl h'
  ·exact Or.inr ⟨g, cap, cur, rfl, hg, hk.other (fun e => hn (by rw [e]; rfl)) _ _, r⟩
 ·have hn := own_ne h.j h.nb (by decide)
  rcases h.j with h' | ⟨g, cap, cur, rfl, hg, hk, r⟩
  ·exact Or.inl h'
  ·exact Or.inr ⟨g, cap, cur, rfl, hg, hk.other (fun e => hn (by rw [e]; rfl)) _ _, r⟩
theorem ParkI.grownS {w wx wy : World} {b0 X Y : Nat} {car pl nx : Array Value} {vs vj vs' : Value} {S S' : List Stay} {J : List Job} (h : ParkI w wx b0 X Y car pl nx vs vj S J) (hb : w.heap.size ≤ b0) (g : wx.grownBy wy vs.ownBlock) (ho : OwnAt wy b0 67 8 Stay.enc vs' S') : ParkI w wy b0 X Y car pl nx vs' vj S' J := by
 have kb : ∀ {n : Nat} {a : Array Value} {T : TypeId}, Blk wx n a T → 67 ≠ T → Blk wy n a T := fun hk hT => (g.block _ hk.lt (fun e => own_ne h.s hk hT e.symm)).trans hk
 refine ⟨grown_below' h.below g (fun n e => Nat.le_trans hb (h.s.block n e).1) h.below.size, kb h.cb (by decide), kb h.rb (by decide), kb h.pb (by decide), kb h.nb (by decide), ho, ?_⟩
 rcases h.j with h' | ⟨n, cap, cur, rfl, hg, hk, r⟩
 ·exact Or.inl h'
 ·exact Or.inr ⟨n, cap, cur, rfl, hg, kb hk (by decide), r⟩
theorem ParkI.grownJ {w wx wy : World} {b0 X Y : Nat} {car pl nx : Array Value} {vs vj vj' : Value} {S : List Stay} {J J' : List Job} (h : ParkI w wx b0 X Y car pl nx vs vj S J) (hb : w.heap.size ≤ b0) (g : wx.grownBy wy vj.ownBlock) (ho : OwnAt wy b0 88 2 Job.enc vj' J') : ParkI w wy b0 X Y car pl nx vs vj' S J' := by
 have kb : ∀ {n : Nat} {a : Array Value} {T : TypeId}, Blk wx n a T → 88 ≠ T → Blk wy n a T := fun hk hT => (g.block _ hk.lt (fun e => own_ne h.j hk hT e.symm)).trans hk
 refine ⟨grown_below' h.below g (fun n e => Nat.le_trans hb (h.j.block n e).1) h.below.size, kb h.cb (by decide), kb h.rb (by decide), kb h.pb (by decide), kb h.nb (by decide), ?_, ho⟩
 rcases h.s with h' | ⟨n, cap, cur, rfl, hg, hk, r⟩
 ·exact Or.inl h'
 ·exact Or.inr ⟨n, cap, cur, rfl, hg, kb hk (by decide), r⟩
theorem ParkI.result {w wx : World} {b0 X Y : Nat} {car pl nx : Array Value} {vs vj : Value} {S : List Stay} {J : List Job} (h : ParkI w wx b0 X Y car pl nx vs vj S J) (hb : w.heap.size ≤ b0) (a b c : Value) :
  OwnBook (((wx.setCell ⟨w.heap.size + 2, 0, none⟩ a).setCell ⟨w.heap.size + 2, 1, none⟩ b).setCell ⟨w.heap.size + 2, 2, none⟩ c) w.heap.size vs vj S J ∧ Below w.heap.size w (((wx.setCell ⟨w.heap.size + 2, 0, none⟩ a).setCell ⟨w.heap.size + 2, 1, none⟩ b).setCell ⟨w.heap.size + 2, 2, none⟩ c) := by
 have ho := h.ownbook hb; have h1 := own_ne h.s h.rb (by decide); have h2 := own_ne h.j h.rb (by decide); refine ⟨⟨?_, ?_, ho.ne⟩, ((h.below.setCell (p := ⟨w.heap.size + 2, 0, none⟩) (Nat.le_add_right _ _) _).setCell (p := ⟨w.heap.size + 2, 1, none⟩) (Nat.le_add_right _ _) _).setCell (p := ⟨w.heap.size + 2, 2, none⟩) (Nat.le_add_right _ _) _⟩
 ·rcases ho.s with h' | ⟨g, cap, cur, rfl, hg, hk, r⟩
  ·exact Or.inl h'
  ·have hn : w.heap.size + 2 ≠ g := fun e => h1 (by rw [e]; rfl)
   exact Or.inr ⟨g, cap, cur, rfl, hg, ((hk.other hn _ _).other hn _ _).other hn _ _, r⟩
 ·rcases ho.j with h' | ⟨g, cap, cur, rfl, hg, hk, r⟩
  ·exact Or.inl h'
  ·have hn : w.heap.size + 2 ≠ g := fun e => h2 (by rw [e]; rfl)
   exact Or.inr ⟨g, cap, cur, rfl, hg, ((hk.other hn _ _).other hn _ _).other hn _ _, r⟩
set_option maxHeartbeats 8000000 in
theorem park_any (b : Book) (lv : Value) (len : Nat) (f : Nat → Int × Int × Int) (ci ca cb cc : Int) (w : World) (hb : b.At w) (hs : SizesAt w lv len f) (h1 : 1 ≤ len) (h4 : len ≤ 4) (hst : b.stays.length ≤ 20) (hjb : b.jobs.length ≤ 12) (h0 : 0 ≤ b.last) :
  Calls Tryz.prog 57 #[b.val, lv, .agg #[.int .i64 ci, .int .i64 ca, .int .i64 cb, .int .i64 cc]] w (ParkPost b f len ci ca cb cc w) := by
 obtain ⟨last, sa, sc, ja, jc, stays, jobs⟩ := b; simp only [Book.val] at *; have HOF : Hid (∀ wx, Below w.heap.size w wx → Calls Tryz.prog 91 #[.agg #[.int .i64 last, .slice sa stays.length sc, .slice ja jobs.length jc], .int .i64 ci] wx fun e w' => e = .returned (.int .i64 (ofI ⟨last, sa, sc, ja, jc, stays, jobs⟩ ci)) ∧ Below wx.heap.size wx w') := fun wx h => of_any ⟨last, sa, sc, ja, jc, stays, jobs⟩ ci wx (hb.below h)
 have HPK : Hid (∀ wx, Below w.heap.size w wx → Calls Tryz.prog 36 #[.agg #[.int .i64 last, .slice sa stays.length sc, .slice ja jobs.length jc], lv, .agg #[.int .i64 ci, .int .i64 ca, .int .i64 cb, .int .i64 cc]] wx fun e w' => e = .returned (.tuple #[.agg #[.int .i64 (pickP (pickO ⟨last, sa, sc, ja, jc, stays, jobs⟩ f ca cb cc len)).1, .int .i64 (pickP (pickO ⟨last, sa, sc, ja, jc, stays, jobs⟩ f ca cb cc len)).2.1, .int .i64 (pickP (pickO ⟨last, sa, sc, ja, jc, stays, jobs⟩ f ca cb cc len)).2.2], .bool (pickO ⟨last, sa, sc, ja, jc, stays, jobs⟩ f ca cb cc len).isSome]) ∧ Below wx.heap.size wx w') := fun wx h => by
  rw [← pickV_eq]; exact pick_any ⟨last, sa, sc, ja, jc, stays, jobs⟩ lv len f ci ca cb cc wx (hb.below h) (hs.below h) h1 h4
 have HCP : Hid (∀ wx, Below w.heap.size w wx → Calls Tryz.prog 77 #[.agg #[.int .i64 last, .slice sa stays.length sc, .slice ja jobs.length jc]] wx fun e w' => ∃ vs vj, e = .returned (.agg #[.int .i64 last, vs, vj]) ∧ OwnBook w' wx.heap.size vs vj stays jobs ∧ Below wx.heap.size wx w') := fun wx h => copy_any ⟨last, sa, sc, ja, jc, stays, jobs⟩ wx (hb.below h) (by show stays.length ≤ 1000; omega) (by show jobs.length ≤ 1000; omega)
 have KP : Hid (parkN ⟨last, sa, sc, ja, jc, stays, jobs⟩ f len ci ca cb cc = if carN ci ca cb cc ≠ 0 then carN ci ca cb cc else if 0 ≤ ofI ⟨last, sa, sc, ja, jc, stays, jobs⟩ ci then 6 else if (pickO ⟨last, sa, sc, ja, jc, stays, jobs⟩ f ca cb cc len).isSome = false ∨ 999999 ≤ last ∨ 8 ≤ jobs.length then 8 else 0) := rfl
 obtain ⟨iS, hiS, hzS0, hzS1, hzS2⟩ := Tryz.infoStay; obtain ⟨iJ, hiJ, hzJ0, hzJ1, hzJ2⟩ := Tryz.infoJob; have HIS : Hid (Tryz.prog.info? 67 = some iS) := hiS; have HIJ : Hid (Tryz.prog.info? 88 = some iJ) := hiJ; have HZS : Hid (iS.zero = some (.agg #[.int .i64 0, .int .i64 0, .int .i64 0, .int .i64 0, .int .i64 0, .int .i64 0, .int .i64 0, .int .i64 0]) ∧ iS.size = 8 ∧ iS.bytes = 64) := ⟨hzS0, hzS1, hzS2⟩; have HZJ : Hid (iJ.zero = some (.agg #[.int .i64 0, .bool false]) ∧ iJ.size = 2 ∧ iJ.bytes = 16) := ⟨hzJ0, hzJ1, hzJ2⟩; clear hiS hiJ hzS0 hzS1 hzS2 hzJ0 hzJ1 hzJ2; have hm2 := hb.2.2.1; have hm3 := hb.2.1; unfold maxLen at hm2; obtain ⟨w0, hw0⟩ : ∃ w0, ((w.alloc (.cells #[.int .i64 last, .slice sa stays.length sc, .slice ja jobs.length jc] 39)).alloc (.cells #[.int .i64 ci, .int .i64 ca, .int .i64 cb, .int .i64 cc] 34)).alloc (.cells #[.int .i64 0, .slice none 0 0, .slice none 0 0] 39) = w0 := ⟨_, rfl⟩
 have N0 : Hid (Below w.heap.size w w0 ∧ Blk w0 w.heap.size #[.int .i64 last, .slice sa stays.length sc, .slice ja jobs.length jc] 39 ∧ Blk w0 (w.heap.size + 1) #[.int .i64 ci, .int .i64 ca, .int .i64 cb, .int .i64 cc] 34 ∧ Blk w0 (w.heap.size + 2) #[.int .i64 0, .slice none 0 0, .slice none 0 0] 39) := by
  show _ ∧ _ ∧ _ ∧ _
  rw [← hw0]; exact ⟨((B.new1 _ _).alloc (by simp) _).alloc (by simp; omega) _, ((Blk.new _ _ _).old _).old _, (Blk.new1 (by simp) _ _).old _, Blk.new1 (by simp) _ _⟩
 have HCar : Hid (carN ci ca cb cc = 0 ∨ carN ci ca cb cc = 1) := by show _ ∨ _; unfold carN faultN; split <;> simp
 have r0 := N0.out.2.2.1.cell; clear hb hs
 go_enter Tryz.func57, Tryz.ntmps57
 go_wp2_with fail; clear r0 hw0; refine (checkCar_any ci ca cb cc _).mono ?_; rintro e w1 ⟨rfl, b1⟩; have N1 : Hid (Below w.heap.size w w1 ∧ Blk w1 w.heap.size #[.int .i64 last, .slice sa stays.length sc, .slice ja jobs.length jc] 39 ∧ Blk w1 (w.heap.size + 1) #[.int .i64 ci, .int .i64 ca, .int .i64 cb, .int .i64 cc] 34 ∧ Blk w1 (w.heap.size + 2) #[.int .i64 0, .slice none 0 0, .slice none 0 0] 39) := ⟨B.next N0.out.1 b1 N0.out.1.size, N0.out.2.1.below b1, N0.out.2.2.1.below b1, N0.out.2.2.2.below b1⟩; clear b1 N0
 rcases HCar.out with hcar | hcar
 case inr =>
  have HK : Hid (parkN ⟨last, sa, sc, ja, jc, stays, jobs⟩ f len ci ca cb cc = 1) := by show _ = _; rw [KP.out, if_pos (by rw [hcar]; decide), hcar]
  rw [hcar, errV_ne (by decide)]; clear hcar HCar KP; have gg := N1.out.2.2.2.cell; have ff := N1.out.2.2.2.free; go_wp2
  (try simp only [Exit.inBlock, Exit.then])
  refine bodyPost_ret (v := .tuple #[.agg #[.int .i64 0, .slice none 0 0, .slice none 0 0], .int .i64 0, .iface 103 (.int .i64 1)]) (by simp [results, Tryz.results57, go_sem, set3_0 gg, set3_1 gg, set3_2 gg]; try rfl) rfl ?_; exact Or.inl ⟨⟨1, rfl, by decide, HK.out⟩, (((N1.out.1.setCell (p := ⟨w.heap.size + 2, 0, none⟩) (Nat.le_add_right _ _) _).setCell (p := ⟨w.heap.size + 2, 1, none⟩) (Nat.le_add_right _ _) _).setCell (p := ⟨w.heap.size + 2, 2, none⟩) (Nat.le_add_right _ _) _)⟩
 rw [hcar, errV0]; have HK1 : Hid (carN ci ca cb cc = 0) := hcar; clear hcar HCar; have r1 := N1.out.2.1.cell; have r1c := N1.out.2.2.1.cell; go_wp2_with fail; clear r1 r1c; refine (HOF.out _ N1.out.1).mono ?_; rintro e w2 ⟨rfl, b2⟩; have N2 : Hid (Below w.heap.size w w2 ∧ Blk w2 w.heap.size #[.int .i64 last, .slice sa stays.length sc, .slice ja jobs.length jc] 39 ∧ Blk w2 (w.heap.size + 1) #[.int .i64 ci, .int .i64 ca, .int .i64 cb, .int .i64 cc] 34 ∧ Blk w2 (w.heap.size + 2) #[.int .i64 0, .slice none 0 0, .slice none 0 0] 39) := ⟨B.next N1.out.1 b2 N1.out.1.size, N1.out.2.1.below b2, N1.out.2.2.1.below b2, N1.out.2.2.2.below b2⟩; clear b2 N1 HOF
 by_cases hof : 0 ≤ ofI ⟨last, sa, sc, ja, jc, stays, jobs⟩ ci
 ·have HK : Hid (parkN ⟨last, sa, sc, ja, jc, stays, jobs⟩ f len ci ca cb cc = 6) := by show _ = _; rw [KP.out, if_neg (by rw [HK1.out]; decide), if_pos hof]
  generalize ofI ⟨last, sa, sc, ja, jc, stays, jobs⟩ ci = qo at *; clear KP HK1; have gg := N2.out.2.2.2.cell; have ff := N2.out.2.2.2.free; go_wp2
  (try simp only [Exit.inBlock, Exit.then])
  refine bodyPost_ret (v := .tuple #[.agg #[.int .i64 0, .slice none 0 0, .slice none 0 0], .int .i64 0, .iface 103 (.int .i64 6)]) (by simp [results, Tryz.results57, go_sem, set3_0 gg, set3_1 gg, set3_2 gg]; try rfl) rfl ?_; exact Or.inl ⟨⟨6, rfl, by decide, HK.out⟩, (((N2.out.1.setCell (p := ⟨w.heap.size + 2, 0, none⟩) (Nat.le_add_right _ _) _).setCell (p := ⟨w.heap.size + 2, 1, none⟩) (Nat.le_add_right _ _) _).setCell (p := ⟨w.heap.size + 2, 2, none⟩) (Nat.le_add_right _ _) _)⟩
 have KP2 : Hid (parkN ⟨last, sa, sc, ja, jc, stays, jobs⟩ f len ci ca cb cc = if (pickO ⟨last, sa, sc, ja, jc, stays, jobs⟩ f ca cb cc len).isSome = false ∨ 999999 ≤ last ∨ 8 ≤ jobs.length then 8 else 0) := by show _ = _; rw [KP.out, if_neg (by rw [HK1.out]; decide), if_neg hof]
 clear KP HK1; generalize ofI ⟨last, sa, sc, ja, jc, stays, jobs⟩ ci = qo at *; have r2 := N2.out.2.1.cell; have r2c := N2.out.2.2.1.cell; go_wp2_with fail; clear r2 r2c; refine (HPK.out _ N2.out.1).mono ?_; rintro e w3 ⟨rfl, b3⟩; have N3 : Hid (Below w.heap.size w w3 ∧ Blk w3 w.heap.size #[.int .i64 last, .slice sa stays.length sc, .slice ja jobs.length jc] 39 ∧ Blk w3 (w.heap.size + 1) #[.int .i64 ci, .int .i64 ca, .int .i64 cb, .int .i64 cc] 34 ∧ Blk w3 (w.heap.size + 2) #[.int .i64 0, .slice none 0 0, .slice none 0 0] 39) := ⟨B.next N2.out.1 b3 N2.out.1.size, N2.out.2.1.below b3, N2.out.2.2.1.below b3, N2.out.2.2.2.below b3⟩; obtain ⟨po, HPO⟩ : ∃ po, Hid (pickP (pickO ⟨last, sa, sc, ja, jc, stays, jobs⟩ f ca cb cc len) = po) := ⟨_, rfl⟩
 obtain ⟨ps, HPS⟩ : ∃ ps, Hid ((pickO ⟨last, sa, sc, ja, jc, stays, jobs⟩ f ca cb cc len).isSome = ps) := ⟨_, rfl⟩
 rw [HPO.out, HPS.out]; rw [HPS.out] at KP2; clear b3 N2 HPK hof; obtain ⟨w4, hw4⟩ : ∃ w4, w3.alloc (.cells #[.int .i64 po.1, .int .i64 po.2.1, .int .i64 po.2.2] 65) = w4 := ⟨_, rfl⟩
 have N4 : Hid ((Below w.heap.size w w4 ∧ Blk w4 w.heap.size #[.int .i64 last, .slice sa stays.length sc, .slice ja jobs.length jc] 39 ∧ Blk w4 (w.heap.size + 1) #[.int .i64 ci, .int .i64 ca, .int .i64 cb, .int .i64 cc] 34 ∧ Blk w4 (w.heap.size + 2) #[.int .i64 0, .slice none 0 0, .slice none 0 0] 39) ∧ Blk w4 w3.heap.size #[.int .i64 po.1, .int .i64 po.2.1, .int .i64 po.2.2] 65 ∧ w.heap.size + 2 < w3.heap.size) := by
  show _ ∧ _ ∧ _
  rw [← hw4]; exact ⟨⟨B.next N3.out.1 (B.new1 _ _) N3.out.1.size, N3.out.2.1.old _, N3.out.2.2.1.old _, N3.out.2.2.2.old _⟩, Blk.new _ _ _, N3.out.2.2.2.lt⟩
 clear N3; have r4 := N4.out.1.2.1.cell; have NN : Hid (Below w.heap.size w w4 ∧ Blk w4 w.heap.size #[.int .i64 last, .slice sa stays.length sc, .slice ja jobs.length jc] 39 ∧ Blk w4 (w.heap.size + 1) #[.int .i64 ci, .int .i64 ca, .int .i64 cb, .int .i64 cc] 34 ∧ Blk w4 (w.heap.size + 2) #[.int .i64 0, .slice none 0 0, .slice none 0 0] 39) := N4.out.1
 cases ps
 ·have HK : Hid (parkN ⟨last, sa, sc, ja, jc, stays, jobs⟩ f len ci ca cb cc = 8) := by show _ = _; rw [KP2.out, if_pos (Or.inl rfl)]
  have gg := NN.out.2.2.2.cell; have ff := NN.out.2.2.2.free; go_wp2
  (try simp only [Exit.inBlock, Exit.then])
  refine bodyPost_ret (v := .tuple #[.agg #[.int .i64 0, .slice none 0 0, .slice none 0 0], .int .i64 0, .iface 103 (.int .i64 8)]) (by simp [results, Tryz.results57, go_sem, set3_0 gg, set3_1 gg, set3_2 gg]; try rfl) rfl ?_; exact Or.inl ⟨⟨8, rfl, by decide, HK.out⟩, (((NN.out.1.setCell (p := ⟨w.heap.size + 2, 0, none⟩) (Nat.le_add_right _ _) _).setCell (p := ⟨w.heap.size + 2, 1, none⟩) (Nat.le_add_right _ _) _).setCell (p := ⟨w.heap.size + 2, 2, none⟩) (Nat.le_add_right _ _) _)⟩
 by_cases hla : 999999 ≤ last
 ·have HK : Hid (parkN ⟨last, sa, sc, ja, jc, stays, jobs⟩ f len ci ca cb cc = 8) := by show _ = _; rw [KP2.out, if_pos (Or.inr (Or.inl hla))]
  have gg := NN.out.2.2.2.cell; have ff := NN.out.2.2.2.free; go_wp2
  (try simp only [Exit.inBlock, Exit.then])
  refine bodyPost_ret (v := .tuple #[.agg #[.int .i64 0, .slice none 0 0, .slice none 0 0], .int .i64 0, .iface 103 (.int .i64 8)]) (by simp [results, Tryz.results57, go_sem, set3_0 gg, set3_1 gg, set3_2 gg]; try rfl) rfl ?_; exact Or.inl ⟨⟨8, rfl, by decide, HK.out⟩, (((NN.out.1.setCell (p := ⟨w.heap.size + 2, 0, none⟩) (Nat.le_add_right _ _) _).setCell (p := ⟨w.heap.size + 2, 1, none⟩) (Nat.le_add_right _ _) _).setCell (p := ⟨w.heap.size + 2, 2, none⟩) (Nat.le_add_right _ _) _)⟩
 by_cases hjo : 8 ≤ jobs.length
 ·have HK : Hid (parkN ⟨last, sa, sc, ja, jc, stays, jobs⟩ f len ci ca cb cc = 8) := by show _ = _; rw [KP2.out, if_pos (Or.inr (Or.inr hjo))]
  have hjz : (8 : Int) ≤ (jobs.length : Int) := by omega
  have gg := NN.out.2.2.2.cell; have ff := NN.out.2.2.2.free; go_wp2
  (try simp only [Exit.inBlock, Exit.then])
  refine bodyPost_ret (v := .tuple #[.agg #[.int .i64 0, .slice none 0 0, .slice none 0 0], .int .i64 0, .iface 103 (.int .i64 8)]) (by simp [results, Tryz.results57, go_sem, set3_0 gg, set3_1 gg, set3_2 gg]; try rfl) rfl ?_; exact Or.inl ⟨⟨8, rfl, by decide, HK.out⟩, (((NN.out.1.setCell (p := ⟨w.heap.size + 2, 0, none⟩) (Nat.le_add_right _ _) _).setCell (p := ⟨w.heap.size + 2, 1, none⟩) (Nat.le_add_right _ _) _).setCell (p := ⟨w.heap.size + 2, 2, none⟩) (Nat.le_add_right _ _) _)⟩
 have HK : Hid (parkN ⟨last, sa, sc, ja, jc, stays, jobs⟩ f len ci ca cb cc = 0) := by show _ = _; rw [KP2.out, if_neg (by simp; omega)]
 have HSM : Hid (pickO ⟨last, sa, sc, ja, jc, stays, jobs⟩ f ca cb cc len = some po) := by
  show _ = _
  have h1 := HPO.out; have h2 := HPS.out
  cases hq : pickO ⟨last, sa, sc, ja, jc, stays, jobs⟩ f ca cb cc len with
  | none => rw [hq] at h2; cases h2
  | some q => rw [hq] at h1; simp [pickP] at h1; rw [h1]
 have hjz : ¬ (8 : Int) ≤ (jobs.length : Int) := by omega
 clear NN KP2 HPO HPS; go_wp2_with fail; clear r4 hw4; refine (HCP.out _ N4.out.1.1).mono ?_; rintro e w5 ⟨vs, vj, rfl, o5, b5⟩; obtain ⟨sa1, sc1, hvs, _⟩ := o5.s.rows; obtain ⟨ja1, jc1, hvj, _⟩ := o5.j.rows; subst hvs hvj; have hb0 : Hid (w.heap.size ≤ w4.heap.size ∧ w3.heap.size < w4.heap.size) := ⟨N4.out.1.1.size, N4.out.2.1.lt⟩; obtain ⟨w6, hw6⟩ : ∃ w6, w5.alloc (.cells #[.int .i64 last, .slice sa1 stays.length sc1, .slice ja1 jobs.length jc1] 39) = w6 := ⟨_, rfl⟩
 have P6 : Hid (ParkI w w6 w4.heap.size w5.heap.size w3.heap.size #[.int .i64 ci, .int .i64 ca, .int .i64 cb, .int .i64 cc] #[.int .i64 po.1, .int .i64 po.2.1, .int .i64 po.2.2] #[.int .i64 last, .slice sa1 stays.length sc1, .slice ja1 jobs.length jc1] (.slice sa1 stays.length sc1) (.slice ja1 jobs.length jc1) stays jobs) := by
  show ParkI _ _ _ _ _ _ _ _ _ _ _ _
  rw [← hw6]; exact ⟨B.next (B.next N4.out.1.1 b5 N4.out.1.1.size) (B.new1 _ _) (Nat.le_trans N4.out.1.1.size b5.size), (N4.out.1.2.2.1.below b5).old _, (N4.out.1.2.2.2.below b5).old _, (N4.out.2.1.below b5).old _, Blk.new _ _ _, o5.s.below (B.new1 _ _), o5.j.below (B.new1 _ _)⟩
 have hX : w.heap.size + 2 < w5.heap.size := by have := N4.out.2.2; have := N4.out.2.1.lt; have := b5.size; omega
 have hY : w3.heap.size ≠ w5.heap.size := by have := N4.out.2.1.lt; have := b5.size; omega
 have hb5 : Hid (w4.heap.size ≤ w5.heap.size) := b5.size; have m1 : IntKind.i64.wrap (last + 1) = last + 1 := by rw [IntKind.wrap_i64]; omega
 clear o5 b5 N4 HCP; obtain ⟨w7, hw7⟩ : ∃ w7, w6.setCell ⟨w5.heap.size, 0, none⟩ (.int .i64 (last + 1)) = w7 := ⟨_, rfl⟩
 have P7 : Hid (ParkI w w7 w4.heap.size w5.heap.size w3.heap.size #[.int .i64 ci, .int .i64 ca, .int .i64 cb, .int .i64 cc] #[.int .i64 po.1, .int .i64 po.2.1, .int .i64 po.2.2] #[.int .i64 (last + 1), .slice sa1 stays.length sc1, .slice ja1 jobs.length jc1] (.slice sa1 stays.length sc1) (.slice ja1 jobs.length jc1) stays jobs) := by
  show ParkI _ _ _ _ _ _ _ _ _ _ _ _
  rw [← hw7]; exact P6.out.set hX hY 0 _
 have r6 := P6.out.nb.cell; have f6 := P6.out.nb.free; have r7 := P7.out.nb.cell; have r7c := P7.out.cb.cell; have r7p := P7.out.pb.cell; generalize w4.heap.size = b0 at *; obtain ⟨wA, hwA⟩ : ∃ wA, w7.alloc (.cells #[.int .i64 (last + 1), .int .i64 ci, .int .i64 ca, .int .i64 cb, .int .i64 cc, .int .i64 po.1, .int .i64 po.2.1, .int .i64 po.2.2] 67) = wA := ⟨_, rfl⟩
 have PA : Hid (ParkI w wA b0 w5.heap.size w3.heap.size #[.int .i64 ci, .int .i64 ca, .int .i64 cb, .int .i64 cc] #[.int .i64 po.1, .int .i64 po.2.1, .int .i64 po.2.2] #[.int .i64 (last + 1), .slice sa1 stays.length sc1, .slice ja1 jobs.length jc1] (.slice sa1 stays.length sc1) (.slice ja1 jobs.length jc1) stays jobs) := by
  show ParkI _ _ _ _ _ _ _ _ _ _ _ _
  rw [← hwA]; exact P7.out.next (B.new1 _ _)
 have OA : Hid (wA.ownsRow b0 67 8 (.slice sa1 stays.length sc1) stays.length (stays.flatMap Stay.enc)) := PA.out.s.to_owns stay_len
 have NW : Hid (∀ j u, ([.int .i64 (last + 1), .int .i64 ci, .int .i64 ca, .int .i64 cb, .int .i64 cc, .int .i64 po.1, .int .i64 po.2.1, .int .i64 po.2.2] : List Value)[j]? = some u → wA.cell? ((⟨w7.heap.size, 0, none⟩ : Addr).add j) = some u) := by
  show ∀ _ _, _
  rw [← hwA]; exact news_cells rfl [.int .i64 (last + 1), .int .i64 ci, .int .i64 ca, .int .i64 cb, .int .i64 cc, .int .i64 po.1, .int .i64 po.2.1, .int .i64 po.2.2] 67
 have HB : Hid (b0 ≤ wA.heap.size) := by
  show _ ≤ _
  have h1 := P6.out.s; have : b0 ≤ w5.heap.size := hb5.out; have h2 := PA.out.nb.lt
  omega
 have HEF : Hid (stays.flatMap Stay.enc ++ [.int .i64 (last + 1), .int .i64 ci, .int .i64 ca, .int .i64 cb, .int .i64 cc, .int .i64 po.1, .int .i64 po.2.1, .int .i64 po.2.2] = (stays ++ [(⟨last + 1, ci, ca, cb, cc, po.1, po.2.1, po.2.2⟩ : Stay)]).flatMap Stay.enc) := by show _ = _; rw [List.flatMap_append]; rfl
 clear P6 P7; obtain ⟨S8, HS8⟩ : ∃ S8, Hid (stays ++ [(⟨last + 1, ci, ca, cb, cc, po.1, po.2.1, po.2.2⟩ : Stay)] = S8) := ⟨_, rfl⟩
 obtain ⟨J8, HJ8⟩ : ∃ J8, Hid (jobs ++ [(⟨last + 1, false⟩ : Job)] = J8) := ⟨_, rfl⟩
 have HES8 : Hid (S8.length = stays.length + 1) := by show _ = _; rw [← HS8.out]; simp
 have HEJ8 : Hid (J8.length = jobs.length + 1) := by show _ = _; rw [← HJ8.out]; simp
 rw [HS8.out] at HEF; have HEG : Hid (jobs.flatMap Job.enc ++ [.int .i64 (last + 1), .bool false] = J8.flatMap Job.enc) := by show _ = _; rw [← HJ8.out, List.flatMap_append]; rfl
 go_wp2_with (first
  | (at_builtin; refine wpList_append_own _ rfl _ _ 36 rfl b0 67 iS _ 8 64 Tryz.underlying36 HIS.out HZS.out.1 HZS.out.2.1 HZS.out.2.2 rfl (by decide) _ stays.length (stays.flatMap Stay.enc) rfl OA.out ⟨w7.heap.size, 0, none⟩ 1 1 [.int .i64 (last + 1), .int .i64 ci, .int .i64 ca, .int .i64 cb, .int .i64 cc, .int .i64 po.1, .int .i64 po.2.1, .int .i64 po.2.2] rfl rfl NW.out (by intro u hu; simp only [List.mem_cons, List.not_mem_nil, or_false] at hu; rcases hu with rfl | rfl | rfl | rfl | rfl | rfl | rfl | rfl <;> rfl) (by unfold maxLen; omega) (by omega) HB.out ?_
     intro v8 w8 ho8 hg8 hn8
     rw [HEF.out, ← HES8.out] at ho8; have o8 : OwnAt w8 b0 67 8 Stay.enc v8 S8 := OwnAt.of_owns stay_len ho8; have P8 : Hid (ParkI w w8 b0 w5.heap.size w3.heap.size #[.int .i64 ci, .int .i64 ca, .int .i64 cb, .int .i64 cc] #[.int .i64 po.1, .int .i64 po.2.1, .int .i64 po.2.2] #[.int .i64 (last + 1), .slice sa1 stays.length sc1, .slice ja1 jobs.length jc1] v8 (.slice ja1 jobs.length jc1) S8 jobs) := PA.out.grownS hb0.out.1 hg8 o8; obtain ⟨sa8, sc8, hv8, _⟩ := o8.rows; subst hv8; have r8 := P8.out.nb.cell; have f8 := P8.out.nb.free; obtain ⟨w9, hw9⟩ : ∃ w9, w8.setCell ⟨w5.heap.size, 1, none⟩ (.slice sa8 S8.length sc8) = w9 := ⟨_, rfl⟩
     have P9 : Hid (ParkI w w9 b0 w5.heap.size w3.heap.size #[.int .i64 ci, .int .i64 ca, .int .i64 cb, .int .i64 cc] #[.int .i64 po.1, .int .i64 po.2.1, .int .i64 po.2.2] #[.int .i64 (last + 1), .slice sa8 S8.length sc8, .slice ja1 jobs.length jc1] (.slice sa8 S8.length sc8) (.slice ja1 jobs.length jc1) S8 jobs) := by
      show ParkI _ _ _ _ _ _ _ _ _ _ _ _
      rw [← hw9]; exact P8.out.set hX hY 1 _
     have r9 := P9.out.nb.cell; obtain ⟨wB, hwB⟩ : ∃ wB, w9.alloc (.cells #[.int .i64 (last + 1), .bool false] 88) = wB := ⟨_, rfl⟩
     have PB : Hid (ParkI w wB b0 w5.heap.size w3.heap.size #[.int .i64 ci, .int .i64 ca, .int .i64 cb, .int .i64 cc] #[.int .i64 po.1, .int .i64 po.2.1, .int .i64 po.2.2] #[.int .i64 (last + 1), .slice sa8 S8.length sc8, .slice ja1 jobs.length jc1] (.slice sa8 S8.length sc8) (.slice ja1 jobs.length jc1) S8 jobs) := by
      show ParkI _ _ _ _ _ _ _ _ _ _ _ _
      rw [← hwB]; exact P9.out.next (B.new1 _ _)
     have OB : Hid (wB.ownsRow b0 88 2 (.slice ja1 jobs.length jc1) jobs.length (jobs.flatMap Job.enc)) := PB.out.j.to_owns job_len
     have NB : Hid (∀ j u, ([.int .i64 (last + 1), .bool false] : List Value)[j]? = some u → wB.cell? ((⟨w9.heap.size, 0, none⟩ : Addr).add j) = some u) := by
      show ∀ _ _, _
      rw [← hwB]; exact news_cells rfl [.int .i64 (last + 1), .bool false] 88
     have HBB : Hid (b0 ≤ wB.heap.size) := by
      show _ ≤ _
      have : b0 ≤ w5.heap.size := hb5.out; have h2 := PB.out.nb.lt
      omega
     clear ho8 hg8 hn8 o8 P8)
  | (at_builtin; refine wpList_append_own _ rfl _ _ 37 rfl b0 88 iJ _ 2 16 Tryz.underlying37 HIJ.out HZJ.out.1 HZJ.out.2.1 HZJ.out.2.2 rfl (by decide) _ jobs.length (jobs.flatMap Job.enc) rfl OB.out ⟨w9.heap.size, 0, none⟩ 1 1 [.int .i64 (last + 1), .bool false] rfl rfl NB.out (by intro u hu; simp only [List.mem_cons, List.not_mem_nil, or_false] at hu; rcases hu with rfl | rfl <;> rfl) (by unfold maxLen; omega) (by omega) HBB.out ?_
     intro v10 w10 ho10 hg10 hn10
     rw [HEG.out, ← HEJ8.out] at ho10; have o10 : OwnAt w10 b0 88 2 Job.enc v10 J8 := OwnAt.of_owns job_len ho10; have P10 : Hid (ParkI w w10 b0 w5.heap.size w3.heap.size #[.int .i64 ci, .int .i64 ca, .int .i64 cb, .int .i64 cc] #[.int .i64 po.1, .int .i64 po.2.1, .int .i64 po.2.2] #[.int .i64 (last + 1), .slice sa8 S8.length sc8, .slice ja1 jobs.length jc1] (.slice sa8 S8.length sc8) v10 S8 J8) := PB.out.grownJ hb0.out.1 hg10 o10; obtain ⟨ja10, jc10, hv10, _⟩ := o10.rows; subst hv10; have r10 := P10.out.nb.cell; have f10 := P10.out.nb.free; obtain ⟨w11, hw11⟩ : ∃ w11, w10.setCell ⟨w5.heap.size, 2, none⟩ (.slice ja10 J8.length jc10) = w11 := ⟨_, rfl⟩
     have P11 : Hid (ParkI w w11 b0 w5.heap.size w3.heap.size #[.int .i64 ci, .int .i64 ca, .int .i64 cb, .int .i64 cc] #[.int .i64 po.1, .int .i64 po.2.1, .int .i64 po.2.2] #[.int .i64 (last + 1), .slice sa8 S8.length sc8, .slice ja10 J8.length jc10] (.slice sa8 S8.length sc8) (.slice ja10 J8.length jc10) S8 J8) := by
      show ParkI _ _ _ _ _ _ _ _ _ _ _ _
      rw [← hw11]; exact P10.out.set hX hY 2 _
     have r11 := P11.out.nb.cell; have gg := P11.out.rb.cell; have ff := P11.out.rb.free; have hne : ¬ w5.heap.size = w.heap.size + 2 := by omega
     have hne2 : ¬ w.heap.size + 2 = w5.heap.size := by omega
     have hne3 : ¬ w.heap.size + 1 + 1 = w5.heap.size := by omega
     have hne4 : ¬ w5.heap.size = w.heap.size + 1 + 1 := by omega
     clear ho10 hg10 hn10 o10 P10))
 clear hw6 hw7 hwA hw9 hwB hw11 r6 f6 r7 r7c r7p r8 f8 r9 r10 f10
 go_region
 all_goals go_wp2
 all_goals (try simp only [Exit.inBlock, Exit.then])
 all_goals
  refine bodyPost_ret (v := .tuple #[.agg #[.int .i64 (last + 1), .slice sa8 S8.length sc8, .slice ja10 J8.length jc10], .int .i64 (last + 1), .nilIface]) (by simp [results, Tryz.results57, go_sem, set3_0 gg, set3_1 gg, set3_2 gg]; try rfl) rfl ?_; have hq := P11.out.result hb0.out.1 (.int .i64 (last + 1)) (.slice sa8 S8.length sc8) (.slice ja10 J8.length jc10); refine Or.inr ⟨HK.out, po, _, _, HSM.out, rfl, ?_, ?_⟩
  ·simp only
   rw [HS8.out, HJ8.out]; exact hq.1.below (Below.refl _ _).drew
  ·exact hq.2.drew
end Bk
end Go.Proofs.YtopgllmjeliklaaGreatDoor
