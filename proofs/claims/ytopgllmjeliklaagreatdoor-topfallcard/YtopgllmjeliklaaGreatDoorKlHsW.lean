/- HsW. -/
import Derived.Test.YtopgllmjeliklaaGreatDoorKlHsH
import Derived.Test.YtopgllmjeliklaaGreatDoorKlKeepD
set_option maxRecDepth 100000
set_option linter.unusedSimpArgs false
set_option linter.unusedVariables false
namespace Go.Proofs.YtopgllmjeliklaaGreatDoor
open Go.Shelf Go.Lib Go.ChangeShapes Go.WideShapes Go.ChangeAt Go.RowKit
namespace Hs
open Bk Lg Pl Dk Tx Tn
structure HouseD (w : World) (base pb mb n db sb L hb : Nat) (secs : List Sec) (bit : Int) (armed : Bool) (left : Int) (lv : List (Int × Int × Int)) (s : St) (b : PB) : Prop where
 h : ∃ vl ad cap, Blk w hb #[vl, .pointer (some ⟨pb, 0, none⟩), .pointer (some ⟨L, 0, none⟩), .slice ad 0 cap] 96 /\ OwnAt w base 32 3 Bk.encP vl lv
 p : IsP w pb mb n s
 iv : Inv s
 l : ∃ vs vj, Blk w L #[.pointer (some ⟨db, 0, none⟩), .int .i64 lv.length, .int .i64 b.last, vs, vj] 133 /\ OwnBook w base vs vj b.stays b.jobs
 d : DiskAt w base db sb secs bit armed left true
 wr : ∀ j, j < secs.length -> secs[j]!.wr.length <= 1000
 len : 22 <= secs.length
 few : secs.length <= 1000
 hsz : base <= w.heap.size
 n1 : 1 <= lv.length
 n4 : lv.length <= 4
 ok : BookOK b.last lv.length b.stays b.jobs
section
variable {w w' : World} {base pb mb n db sb L hb : Nat} {secs : List Sec} {bit : Int} {armed : Bool} {left : Int} {lv : List (Int × Int × Int)} {s : St} {b : PB}
theorem HouseD.below (h : HouseD w base pb mb n db sb L hb secs bit armed left lv s b) (hB : Below w.heap.size w w') : HouseD w' base pb mb n db sb L hb secs bit armed left lv s b := by
 obtain ⟨vl, ad, cap, h1, h2⟩ := h.h; obtain ⟨vs, vj, l1, l2⟩ := h.l; exact ⟨⟨vl, ad, cap, h1.below hB, h2.below hB⟩, h.p.below hB, h.iv, ⟨vs, vj, l1.below hB, l2.below hB⟩, h.d.below hB, h.wr, h.len, h.few, Nat.le_trans h.hsz hB.size, h.n1, h.n4, h.ok⟩
theorem HouseS.fell {secs' : List Sec} {bit' : Int} {left' : Int} {t : ByteArray} (h : HouseS w base pb mb n db sb L hb secs armed left lv s b []) (f : LFr base w w') (hL : ∀ k arr, Blk w k arr 133 -> Blk w' k arr 133) (hp : IsP w' pb mb n s) (hd : DiskAt w' base db sb secs' bit' armed left' true) (hf : Fell secs secs' (nxN secs) t) : HouseD w' base pb mb n db sb L hb secs' bit' armed left' lv s b := by
 obtain ⟨vl, vg, h1, h2, ad, cap, hv, _⟩ := h.h; obtain ⟨vs, vj, l1, l2⟩ := h.l.l; simp only [List.length_nil] at hv; subst hv; have := h.l.len; have := h.l.few; exact ⟨⟨vl, ad, cap, f.far _ _ _ (by decide) (by decide) (by decide) (by decide) h1, OwnAt.far2 h2 fun _ _ hk => f.far _ _ _ (by decide) (by decide) (by decide) (by decide) hk⟩, hp, h.iv, ⟨vs, vj, hL _ _ l1, bookFar l2 f⟩, hd, fun j hj => by have := hf.few j (by rw [<- hf.len]; exact hj); omega, by rw [hf.len]; exact h.l.len, by rw [hf.len]; exact h.l.few, Nat.le_trans h.hsz f.b.size, h.n1, h.n4, h.ok⟩
end
set_option maxHeartbeats 2000000 in
theorem hbookD (base pb mb n db sb L hb : Nat) (secs : List Sec) (bit : Int) (armed : Bool) (left : Int) (lv : List (Int × Int × Int)) (s : St) (b : PB) (w : World) (h : HouseD w base pb mb n db sb L hb secs bit armed left lv s b) :
  Calls Tryz.prog 20 #[.pointer (some ⟨hb, 0, none⟩)] w fun e w' => ∃ vs vj, e = .returned (.agg #[.int .i64 b.last, vs, vj]) /\ OwnBook w' w.heap.size vs vj b.stays b.jobs /\ Below w.heap.size w w' := by
 obtain ⟨w0, hw0⟩ : ∃ w0, w.alloc (.cells #[.int .i64 0, .slice none 0 0, .slice none 0 0] 39) = w0 := ⟨_, rfl⟩
 obtain ⟨vl, ad, cap, h1, h2⟩ := h.h
 have N0 : Hid (Below w.heap.size w w0 /\ Blk w0 w.heap.size #[.int .i64 0, .slice none 0 0, .slice none 0 0] 39 /\ Blk w0 hb #[vl, .pointer (some ⟨pb, 0, none⟩), .pointer (some ⟨L, 0, none⟩), .slice ad 0 cap] 96) := by
  show _ /\ _ /\ _
  rw [<- hw0]; exact ⟨B.new1 _ _, Blk.new _ _ _, h1.old _⟩
 have HC : Hid (Calls Tryz.prog 51 #[.pointer (some ⟨L, 0, none⟩)] w0 fun e w' => ∃ vs vj, e = .returned (.agg #[.int .i64 b.last, vs, vj]) /\ OwnBook w' w0.heap.size vs vj b.stays b.jobs /\ Below w0.heap.size w0 w') := by
  obtain ⟨vs, vj, hL, ho⟩ := h.l; obtain ⟨sa, sc, hvs, hrs⟩ := ho.s.rows; obtain ⟨ja, jc, hvj, hrj⟩ := ho.j.rows; subst hvs hvj; exact book_any db L lv.length b.last sa sc ja jc b.stays b.jobs w0 (hL.below N0.out.1) ⟨hrs.below N0.out.1, hrj.below N0.out.1⟩ (by have := h.ok.fewS; omega) (by have := h.ok.fewJ; omega)
 have c0 := N0.out.2.2.cell; generalize hPP : (fun (e : Ending) (w' : World) => ∃ vs vj, e = .returned (.agg #[.int .i64 b.last, vs, vj]) /\ OwnBook w' w.heap.size vs vj b.stays b.jobs /\ Below w.heap.size w w') = PP
 have HP : Hid (∀ vs vj w', OwnBook w' w.heap.size vs vj b.stays b.jobs -> Below w.heap.size w w' -> PP (.returned (.agg #[.int .i64 b.last, vs, vj])) w') := fun vs vj w' ho hb => by rw [<- hPP]; exact ⟨vs, vj, rfl, ho, hb⟩
 clear hPP h h1 h2; generalize b.last = last at *; generalize b.stays = stays at *; generalize b.jobs = jobs at *
 go_enter Tryz.func20, Tryz.ntmps20
 go_wp2_with fail; clear hw0; refine HC.out.mono ?_; rintro e w1 ⟨vs, vj, rfl, ho, b1⟩; have N1 : Hid (Below w.heap.size w w1 /\ Blk w1 w.heap.size #[.int .i64 0, .slice none 0 0, .slice none 0 0] 39) := ⟨B.next N0.out.1 b1 N0.out.1.size, N0.out.2.1.below b1⟩; have r1 := N1.out.2.cell; have f1 := N1.out.2.free
 have HF : Hid (PP (.returned (.agg #[.int .i64 last, vs, vj])) (((w1.setCell ⟨w.heap.size, 0, none⟩ (.int .i64 last)).setCell ⟨w.heap.size, 1, none⟩ vs).setCell ⟨w.heap.size, 2, none⟩ vj)) := by
  have hlt : w.heap.size < w0.heap.size := N0.out.2.1.lt; exact HP.out vs vj _ (bookDown (bookSet (bookSet (bookSet ho _ hlt) _ hlt) _ hlt) (Nat.le_of_lt hlt)) (((N1.out.1.setCell (p := ⟨w.heap.size, 0, none⟩) (Nat.le_refl _) _).setCell (p := ⟨w.heap.size, 1, none⟩) (Nat.le_refl _) _).setCell (p := ⟨w.heap.size, 2, none⟩) (Nat.le_refl _) _)
 obtain ⟨sx, cx, hvs, _⟩ := ho.s.rows; obtain ⟨jx, dx, hvj, _⟩ := ho.j.rows; subst hvs hvj; clear N0 N1 b1 ho HP HC c0; go_wp2
 (try simp only [Exit.inBlock, Exit.then])
 refine bodyPost_ret (v := .agg #[.int .i64 last, .slice sx stays.length cx, .slice jx jobs.length dx]) (by simp [results, Tryz.results20, go_sem, set3_0 r1, set3_1 r1, set3_2 r1]; try rfl) rfl ?_; exact HF.out
theorem nextC_only {b : PB} {s : St} {m : Nat} {l : List (Int × Int)} (hc : nextC b s m) (k : nextL b s m l) : False := by
 obtain ⟨c', d', e', f'⟩ := hc
 rcases k with ⟨c, _⟩ | ⟨_, d, _⟩ | ⟨_, _, e, _⟩ | ⟨_, _, _, f, _⟩
 ·exact c c'
 ·rw [d] at d'; cases d'
 ·rw [e] at e'; cases e'
 ·rw [f] at f'; cases f'
set_option maxHeartbeats 8000000 in
theorem tickD (base pb mb n db sb L hb : Nat) (secs : List Sec) (bit : Int) (armed : Bool) (left : Int) (lv : List (Int × Int × Int)) (s : St) (b : PB) (w : World) (h : HouseD w base pb mb n db sb L hb secs bit armed left lv s b) (hnc : nextC b s lv.length) (G : Glob w) :
  Calls Tryz.prog 21 #[.pointer (some ⟨hb, 0, none⟩)] w fun e w' => e = .returned (.iface 103 (.int .i64 9)) /\ Below w.heap.size w w' := by
 have HBK : Hid (∀ W, Below w.heap.size w W -> Calls Tryz.prog 20 #[.pointer (some ⟨hb, 0, none⟩)] W fun e w' => ∃ vs vj, e = .returned (.agg #[.int .i64 b.last, vs, vj]) /\ OwnBook w' W.heap.size vs vj b.stays b.jobs /\ Below W.heap.size W w') := fun W hB => hbookD base pb mb n db sb L hb secs bit armed left lv s b W (h.below hB)
 have HNX : Hid (∀ k0 vs vj W, Below w.heap.size w W -> OwnBook W k0 vs vj b.stays b.jobs -> Calls Tryz.prog 52 #[.agg #[.int .i64 b.last, vs, vj], .int .i64 lv.length, .pointer (some ⟨pb, 0, none⟩)] W fun e w' => ∃ ga gn gc l a1 n1 c1 a2 n2 c2 ch, e = .returned (.tuple #[.slice ga gn gc, .agg #[.int .i64 l, .slice a1 n1 c1, .slice a2 n2 c2], .bool ch]) /\ Hid (ch = true /\ l = b.last /\ OwnBook w' W.heap.size (.slice a1 n1 c1) (.slice a2 n2 c2) (overB2 b s).stays (overB2 b s).jobs) /\ Below W.heap.size W w') := fun k0 vs vj W hB ho => by
  obtain ⟨sa, sc, ja, jc, rfl, rfl, hat⟩ := own_at2 (last := b.last) ho; refine (tnext_any ⟨b.last, sa, sc, ja, jc, b.stays, b.jobs⟩ lv.length pb mb n s W (h.p.below hB) hat h.iv ⟨by have := h.n1; omega, by have := h.n4; omega⟩ (fun x hx => stay_in h.ok.s h.n4 hx) (by have := h.ok.fewS; show b.stays.length <= 1000; omega) (by have := h.ok.fewJ; show b.jobs.length <= 1000; omega)).mono ?_
  rintro e w' (⟨v, gl, rfl, hl, hg, hB2⟩ | ⟨hc, xs, xj, rfl, ho2, hB2⟩)
  ·exact (nextC_only hnc (show nextL b s lv.length gl from hl)).elim
  ·obtain ⟨sa2, sc2, ja2, jc2, rfl, rfl, _⟩ := own_at2 (last := 0) ho2
   exact ⟨_, _, _, _, _, _, _, _, _, _, _, rfl, ⟨rfl, rfl, ho2⟩, hB2⟩
 have HKD : Hid (∀ vs vj W, Below w.heap.size w W -> OwnBook W base vs vj (overB2 b s).stays (overB2 b s).jobs -> Calls Tryz.prog 53 #[.pointer (some ⟨L, 0, none⟩), .agg #[.int .i64 b.last, vs, vj]] W fun e w' => e = .returned (.iface 103 (.int .i64 9)) /\ Below W.heap.size W w') := fun vs vj W hB ho => by
  obtain ⟨sa, sc, ja, jc, rfl, rfl, hat⟩ := own_at2 (last := b.last) ho; obtain ⟨xs, xj, hL, _⟩ := h.l; exact keepD base db sb secs bit armed left L lv.length b.last xs xj ⟨b.last, sa, sc, ja, jc, (overB2 b s).stays, (overB2 b s).jobs⟩ W (h.d.below hB) h.wr (by have := h.len; omega) h.few (G.new hB) (hL.below hB) hat ((bookN_zero _ _).2 (h.ok.done _ _ _ (fun e => by rw [e]; rfl))) h.n1 h.n4
 have hsz : Hid (base <= w.heap.size) := h.hsz; obtain ⟨vl, ad, cap, hH, hLv⟩ := h.h; obtain ⟨la, lc, hvl, _⟩ := hLv.rows; subst hvl; have HHB : Hid (∀ W, Below w.heap.size w W -> Blk W hb #[.slice la lv.length lc, .pointer (some ⟨pb, 0, none⟩), .pointer (some ⟨L, 0, none⟩), .slice ad 0 cap] 96) := fun W hB => hH.below hB
 have hhb : Hid (hb < w.heap.size) := hH.lt; have r := hH.cell; have HS : Hid (∀ W, Below w.heap.size w W -> W.cell? ⟨hb, 0, none⟩ = some (.slice la lv.length lc) /\ W.cell? ⟨hb, 1, none⟩ = some (.pointer (some ⟨pb, 0, none⟩))) := fun W hB => ⟨(hH.below hB).cell 0, (hH.below hB).cell 1⟩
 clear h hH hLv G; have D1 : Hid (Below w.heap.size w w.drew) := (Below.refl _ _).drew; have BA : Hid (∀ W, Below w.heap.size w W -> Below w.heap.size w (W.alloc (.cells #[.int .i64 0, .slice none 0 0, .slice none 0 0] 39))) := fun W h => B.next h (B.new1 _ _) h.size
 have DA : Hid (Below w.heap.size w (w.alloc (.cells #[.int .i64 0, .slice none 0 0, .slice none 0 0] 39)).drew) := (B.new1 _ _).drew
 go_enter Tryz.func21, Tryz.ntmps21
 go_upto_region 2 with fail
 go_cut [3, 4, 5] from 12 to 27 (fun s3 s4 s5 wx => ∃ ga gn gc X a1 n1 c1 a2 n2 c2, s3 = .slice ga gn gc /\ s4 = .pointer (some ⟨X, 0, none⟩) /\ s5 = .bool true /\ Hid (Below w.heap.size w wx /\ Blk wx X #[.int .i64 b.last, .slice a1 n1 c1, .slice a2 n2 c2] 39 /\ OwnBook wx base (.slice a1 n1 c1) (.slice a2 n2 c2) (overB2 b s).stays (overB2 b s).jobs))
 case first =>
  go_region_held3 (fun W => W.cell? ⟨hb, 0, none⟩ = some (.slice la lv.length lc) /\ W.cell? ⟨hb, 1, none⟩ = some (.pointer (some ⟨pb, 0, none⟩))) (first | with_reducible exact HS.out _ D1.out | with_reducible exact HS.out _ B2.out | with_reducible exact HS.out _ B3.out | with_reducible exact HS.out _ DA.out | with_reducible exact HS.out _ (BA.out _ B2.out) | with_reducible exact HS.out _ (B.next B3.out (B.new1 _ _) B3.out.size) | with_reducible exact HS.out _ (((B3.out.setCell (p := ⟨_, 0, none⟩) XL.out _).setCell (p := ⟨_, 1, none⟩) XL.out _).setCell (p := ⟨_, 2, none⟩) XL.out _) | fail)
   (first
     | (go_at_call 20; refine (HBK.out _ (by first | exact D1.out | exact DA.out)).mono ?_; rintro e w2 ⟨vs, vj, rfl, ho, b2⟩; have C2 := hidd b2; have HO2 := hidd ho; have B2 : Hid (Below w.heap.size w w2) := (by first | exact B.next D1.out b2 D1.out.size | exact B.next DA.out b2 DA.out.size); clear ho b2)
     | (go_at_call 52; refine (HNX.out _ vs vj _ (by first | exact B2.out | exact BA.out _ B2.out) (by first | exact HO2.out | exact HO2.out.below (B.new1 _ _))).mono ?_; rintro e w3 ⟨ga, gn, gc, l, a1, n1, c1, a2, n2, c2, ch, rfl, hx, b3⟩; have C3 := hidd b3; have B3 : Hid (Below w.heap.size w w3) := (by first | exact B.next B2.out b3 B2.out.size | exact B.next (BA.out _ B2.out) b3 (BA.out _ B2.out).size); clear b3; (first | (have RX : Hid (Blk w3 w2.heap.size #[.int .i64 0, .slice none 0 0, .slice none 0 0] 39) := (Blk.new w2 _ _).below C3.out; have XL : Hid (w.heap.size <= w2.heap.size) := B2.out.size; have rX := RX.out.cell; have fX := RX.out.free) | (have RX : Hid (Blk w3 w.heap.size #[.int .i64 0, .slice none 0 0, .slice none 0 0] 39) := ((Blk.new w.drew _ _).below C2.out).below C3.out; have XL : Hid (w.heap.size <= w.heap.size) := Nat.le_refl _; have rX := RX.out.cell; have fX := RX.out.free) | skip)))
  ·obtain ⟨rfl, rfl, q6⟩ := Hid.out hx
   have NE : Hid (Below w.heap.size w (w3.alloc (.cells #[.int .i64 b.last, .slice a1 n1 c1, .slice a2 n2 c2] 39)) /\ Blk (w3.alloc (.cells #[.int .i64 b.last, .slice a1 n1 c1, .slice a2 n2 c2] 39)) w3.heap.size #[.int .i64 b.last, .slice a1 n1 c1, .slice a2 n2 c2] 39 /\ OwnBook (w3.alloc (.cells #[.int .i64 b.last, .slice a1 n1 c1, .slice a2 n2 c2] 39)) base (.slice a1 n1 c1) (.slice a2 n2 c2) (overB2 b s).stays (overB2 b s).jobs) := ⟨B.next B3.out (B.new1 _ _) B3.out.size, Blk.new _ _ _, bookDown (q6.below (B.new1 _ _)) (Nat.le_trans hsz.out B2.out.size)⟩; clear HNX HBK HKD HS HHB r; go_wp2_with fail
   go_meet
   exact ⟨_, _, _, _, _, _, _, _, _, _, rfl, rfl, rfl, NE⟩
  ·obtain ⟨rfl, rfl, q6⟩ := Hid.out hx
   have NE : Hid (Below w.heap.size w (((w3.setCell ⟨w2.heap.size, 0, none⟩ (.int .i64 b.last)).setCell ⟨w2.heap.size, 1, none⟩ (.slice a1 n1 c1)).setCell ⟨w2.heap.size, 2, none⟩ (.slice a2 n2 c2)) /\ Blk (((w3.setCell ⟨w2.heap.size, 0, none⟩ (.int .i64 b.last)).setCell ⟨w2.heap.size, 1, none⟩ (.slice a1 n1 c1)).setCell ⟨w2.heap.size, 2, none⟩ (.slice a2 n2 c2)) w2.heap.size #[.int .i64 b.last, .slice a1 n1 c1, .slice a2 n2 c2] 39 /\ OwnBook (((w3.setCell ⟨w2.heap.size, 0, none⟩ (.int .i64 b.last)).setCell ⟨w2.heap.size, 1, none⟩ (.slice a1 n1 c1)).setCell ⟨w2.heap.size, 2, none⟩ (.slice a2 n2 c2)) base (.slice a1 n1 c1) (.slice a2 n2 c2) (overB2 b s).stays (overB2 b s).jobs) := ⟨((B3.out.setCell (p := ⟨_, 0, none⟩) XL.out _).setCell (p := ⟨_, 1, none⟩) XL.out _).setCell (p := ⟨_, 2, none⟩) XL.out _, ((RX.out.set 0 _).set 1 _).set 2 _, bookDown (bookSet (bookSet (bookSet q6 _ (by simp)) _ (by simp)) _ (by simp)) (Nat.le_trans hsz.out (BA.out _ B2.out).size)⟩; clear HNX HBK HKD HS HHB r; go_wp2_with fail
   go_meet
   exact ⟨_, _, _, _, _, _, _, _, _, _, rfl, rfl, rfl, NE⟩
  ·have HX1 : Hid (w.heap.size < w2.heap.size) := Nat.lt_of_lt_of_le (by simp) C2.out.size
   obtain ⟨rfl, rfl, q6⟩ := Hid.out hx; have NE : Hid (Below w.heap.size w (((w3.setCell ⟨w.heap.size, 0, none⟩ (.int .i64 b.last)).setCell ⟨w.heap.size, 1, none⟩ (.slice a1 n1 c1)).setCell ⟨w.heap.size, 2, none⟩ (.slice a2 n2 c2)) /\ Blk (((w3.setCell ⟨w.heap.size, 0, none⟩ (.int .i64 b.last)).setCell ⟨w.heap.size, 1, none⟩ (.slice a1 n1 c1)).setCell ⟨w.heap.size, 2, none⟩ (.slice a2 n2 c2)) w.heap.size #[.int .i64 b.last, .slice a1 n1 c1, .slice a2 n2 c2] 39 /\ OwnBook (((w3.setCell ⟨w.heap.size, 0, none⟩ (.int .i64 b.last)).setCell ⟨w.heap.size, 1, none⟩ (.slice a1 n1 c1)).setCell ⟨w.heap.size, 2, none⟩ (.slice a2 n2 c2)) base (.slice a1 n1 c1) (.slice a2 n2 c2) (overB2 b s).stays (overB2 b s).jobs) := ⟨((B3.out.setCell (p := ⟨_, 0, none⟩) XL.out _).setCell (p := ⟨_, 1, none⟩) XL.out _).setCell (p := ⟨_, 2, none⟩) XL.out _, ((RX.out.set 0 _).set 1 _).set 2 _, bookDown (bookSet (bookSet (bookSet q6 _ HX1.out) _ HX1.out) _ HX1.out) (Nat.le_trans hsz.out B2.out.size)⟩; clear HNX HBK HKD HS HHB r; go_wp2_with fail
   go_meet
   exact ⟨_, _, _, _, _, _, _, _, _, _, rfl, rfl, rfl, NE⟩
 case rest =>
 obtain ⟨ga, gn, gc, X, a1, n1, c1, a2, n2, c2, rfl, rfl, rfl, XE⟩ := hcut; have HK0 : Hid (∀ p : BelowW wc, Calls Tryz.prog 53 #[.pointer (some ⟨L, 0, none⟩), .agg #[.int .i64 b.last, .slice a1 n1 c1, .slice a2 n2 c2]] p.wd fun e w' => e = .returned (.iface 103 (.int .i64 9)) /\ Below p.wd.heap.size p.wd w') := fun p => HKD.out _ _ p.wd (B.next XE.out.1 p.hb XE.out.1.size) (XE.out.2.2.below p.hb)
 have h2 := fun p : BelowW wc => ((HHB.out wc XE.out.1).below p.hb).cell 2
 have x0 := fun p : BelowW wc => (XE.out.2.1.below p.hb).cell 0
 have x1 := fun p : BelowW wc => (XE.out.2.1.below p.hb).cell 1
 have x2 := fun p : BelowW wc => (XE.out.2.1.below p.hb).cell 2
 clear HNX HBK HKD HS HHB r D1 DA BA; go_wp2_with fail; refine wp_region_below (by kernel_rfl) (by kernel_rfl) ?_
 repeat (go_big_quiet_step (first | (go_at_call 53; with_reducible exact Calls.wof (HK0.out _))))
 refine wpQuiet_nil ?_; rintro wz ⟨⟨_, NZ⟩, rfl⟩; have HQ : Hid (Below w.heap.size w wz) := B.next XE.out.1 NZ XE.out.1.size; clear HK0 h2 x0 x1 x2 NZ XE; go_wp2; go_returns; exact ⟨rfl, HQ.out⟩
end Hs
end Go.Proofs.YtopgllmjeliklaaGreatDoor
