/- HsG. -/
import Derived.Test.YtopgllmjeliklaaGreatDoorKiViewG
set_option maxRecDepth 100000
set_option linter.unusedSimpArgs false
set_option linter.unusedVariables false
namespace Go.Proofs.YtopgllmjeliklaaGreatDoor
open Go.Shelf Go.Lib Go.ChangeShapes Go.WideShapes Go.ChangeAt Go.RowKit
namespace Hs
open Bk Lg Pl Dk Tx Tn
theorem stay_in {last : Int} {n : Nat} {l : List Stay} (h : StaysOK last n l) (hn : n ≤ 4) {s : Stay} (hs : s ∈ l) : sIn s := by
 obtain ⟨h1, h2, h3, _⟩ := h.each s hs; simp only [placeB, decide_eq_true_eq] at h2; exact ⟨h2.1, by omega, h2.2.2.1, h2.2.2.2.1, h2.2.2.2.2.1, h2.2.2.2.2.2⟩
def overB2 (b : PB) (s : St) : PB := ⟨b.last, doneStays (vJ b.book s).t ((vJ b.book s).f || !hasB s (vS b.book s).id) b.stays, doneJobs (vJ b.book s).t (vJ b.book s).f ((vJ b.book s).f || !hasB s (vS b.book s).id) b.jobs⟩
def nextL (b : PB) (s : St) (m : Nat) (l : List (Int × Int)) : Prop := NextL b.book s m (vB b.book) (vJ b.book s).t (vJ b.book s).f (vS b.book s) l
def nextC (b : PB) (s : St) (m : Nat) : Prop := NextC b.book s m (vB b.book) (vJ b.book s).f (vS b.book s)
def TickPost (base pb mb n db sb L hb : Nat) (secs : List Sec) (armed : Bool) (left : Int) (lv : List (Int × Int × Int)) (s : St) (b : PB) (gs : List (Int × Int)) (w : World) (e : Ending) (w' : World) : Prop :=
 (gs ≠ [] ∧ e = .returned .nilIface ∧ HouseS w' base pb mb (n + 1) db sb L hb secs armed left lv (followS gs s).2 b (followS gs s).1 ∧ HFr base w w') ∨
 (gs = [] ∧ ∃ l, nextL b s lv.length l ∧ e = .returned .nilIface ∧ HouseS w' base pb mb (n + 1) db sb L hb secs armed left lv (followS l s).2 b (followS l s).1 ∧ HFr base w w') ∨
 (gs = [] ∧ nextC b s lv.length ∧ HKeep base pb mb n db sb L hb secs armed lv s (overB2 b s) [] w e w')
set_option maxHeartbeats 8000000 in
theorem tick_any (base pb mb n db sb L hb : Nat) (secs : List Sec) (armed : Bool) (left : Int) (lv : List (Int × Int × Int)) (s : St) (b : PB) (gs : List (Int × Int)) (w : World) (h : HouseS w base pb mb n db sb L hb secs armed left lv s b gs) (hn : n < maxLen) (G : Glob w) (hbg : Tryz.prog.globals.size ≤ base) :
  Calls Tryz.prog 21 #[.pointer (some ⟨hb, 0, none⟩)] w (TickPost base pb mb n db sb L hb secs armed left lv s b gs w) := by
 by_cases hgs : gs ≠ []
 ·have HFO : Hid (Calls Tryz.prog 54 #[.pointer (some ⟨hb, 0, none⟩)] w (FollowPost base pb mb n db sb L hb secs armed left lv b (followS gs s) w)) := follow_any base pb mb n db sb L hb secs armed left lv s b gs w h hn
  have HP : Hid (∀ e w', FollowPost base pb mb n db sb L hb secs armed left lv b (followS gs s) w e w' → e = .returned (.tuple #[]) ∧ TickPost base pb mb n db sb L hb secs armed left lv s b gs w (.returned .nilIface) w') := fun e w' hp => ⟨hp.1, Or.inl ⟨hgs, rfl, hp.2.1, hp.2.2⟩⟩
  obtain ⟨vl, vg, hH, _, ad, cap, hv, hl1, hl2, hl3, hc⟩ := h.h; have hl0 : (0 : Int) < (gs.length : Int) := by have := List.length_pos_iff.2 hgs; omega
  have hl0' : ((gs.length : Int) == 0) = false := by simp; omega
  subst hv; have r := hH.cell; generalize TickPost base pb mb n db sb L hb secs armed left lv s b gs w = PP at *; clear h hc hH
  go_enter Tryz.func21, Tryz.ntmps21
  go_wp2_with fail; refine HFO.out.mono ?_; rintro e w1 hf; obtain ⟨rfl, hp⟩ := HP.out e w1 hf; have HQ : Hid (PP (.returned .nilIface) w1) := hp; clear HFO HP hf hp r; go_wp2; exact HQ.out
 obtain rfl : gs = [] := Classical.byContradiction hgs; clear hgs; have HFO : Hid (∀ l W, HouseS W base pb mb n db sb L hb secs armed left lv s b l → Calls Tryz.prog 54 #[.pointer (some ⟨hb, 0, none⟩)] W (FollowPost base pb mb n db sb L hb secs armed left lv b (followS l s) W)) := fun l W h => follow_any base pb mb n db sb L hb secs armed left lv s b l W h hn
 have HL : Hid (∀ l, nextL b s lv.length l → ∀ W e w', HFr base w W → FollowPost base pb mb n db sb L hb secs armed left lv b (followS l s) W e w' → e = .returned (.tuple #[]) ∧ TickPost base pb mb n db sb L hb secs armed left lv s b [] w (.returned .nilIface) w') := fun l h1 W e w' hf h2 => ⟨h2.1, Or.inr (Or.inl ⟨rfl, l, h1, rfl, h2.2.1, hf.trans h2.2.2⟩)⟩
 have HBK : Hid (∀ W, Below w.heap.size w W → Calls Tryz.prog 20 #[.pointer (some ⟨hb, 0, none⟩)] W fun e w' => ∃ vs vj, e = .returned (.agg #[.int .i64 b.last, vs, vj]) ∧ OwnBook w' W.heap.size vs vj b.stays b.jobs ∧ Below W.heap.size W w') := fun W hB => hbook_any base pb mb n db sb L hb secs armed left lv s b [] W (h.below hB)
 have HNX : Hid (∀ k0 vs vj W, Below w.heap.size w W → OwnBook W k0 vs vj b.stays b.jobs → Calls Tryz.prog 52 #[.agg #[.int .i64 b.last, vs, vj], .int .i64 lv.length, .pointer (some ⟨pb, 0, none⟩)] W fun e w' => ∃ ga gn gc l a1 n1 c1 a2 n2 c2 ch, e = .returned (.tuple #[.slice ga gn gc, .agg #[.int .i64 l, .slice a1 n1 c1, .slice a2 n2 c2], .bool ch]) ∧ Hid ((ch = false ∧ ∃ gl, nextL b s lv.length gl ∧ GoalsH w' (.slice ga gn gc) gl) ∨ (ch = true ∧ nextC b s lv.length ∧ l = b.last ∧ OwnBook w' W.heap.size (.slice a1 n1 c1) (.slice a2 n2 c2) (overB2 b s).stays (overB2 b s).jobs)) ∧ Below W.heap.size W w') := fun k0 vs vj W hB ho => by
  obtain ⟨sa, sc, ja, jc, rfl, rfl, hat⟩ := own_at2 (last := b.last) ho; refine (tnext_any ⟨b.last, sa, sc, ja, jc, b.stays, b.jobs⟩ lv.length pb mb n s W (h.p.below hB) hat h.iv ⟨by have := h.n1; omega, by have := h.n4; omega⟩ (fun x hx => stay_in h.ok.s h.n4 hx) (by have := h.ok.fewS; show b.stays.length ≤ 1000; omega) (by have := h.ok.fewJ; show b.jobs.length ≤ 1000; omega)).mono ?_
  rintro e w' (⟨v, gl, rfl, hl, hg, hB2⟩ | ⟨hc, xs, xj, rfl, ho2, hB2⟩)
  ·obtain ⟨ad, cap, hv, hr⟩ := id (goalsH_of hg)
   subst hv; exact ⟨_, _, _, _, _, _, _, _, _, _, _, rfl, Or.inl ⟨rfl, gl, hl, goalsH_of hg⟩, hB2⟩
  ·obtain ⟨sa2, sc2, ja2, jc2, rfl, rfl, _⟩ := own_at2 (last := 0) ho2
   exact ⟨_, _, _, _, _, _, _, _, _, _, _, rfl, Or.inr ⟨rfl, hc, rfl, ho2⟩, hB2⟩
 have HKQ : Hid (nextC b s lv.length → ∀ vs vj W, Below w.heap.size w W → OwnBook W base vs vj (overB2 b s).stays (overB2 b s).jobs → Calls Tryz.prog 53 #[.pointer (some ⟨L, 0, none⟩), .agg #[.int .i64 b.last, vs, vj]] W fun e w' => ∃ v, e = .returned v ∧ LFr base W w' ∧ Hid (TickPost base pb mb n db sb L hb secs armed left lv s b [] w (.returned v) w')) := fun hc vs vj W hB ho => (hkeep base pb mb n db sb L hb secs armed left lv s b (overB2 b s) [] vs vj W (h.below hB) (G.new hB) hbg ho (h.ok.done _ _ _ (fun e => by rw [e]; rfl))).mono (by
  intro e w' hk
  have hf := hk.fr; have h3 := hk.front (DFr.of_below hB h.hsz)
  rcases hk.value with rfl | rfl
  ·exact ⟨_, rfl, hf, Or.inr (Or.inr ⟨rfl, hc, h3⟩)⟩
  ·exact ⟨_, rfl, hf, Or.inr (Or.inr ⟨rfl, hc, h3⟩)⟩)
 have HH : Hid (∀ W, Below w.heap.size w W → HouseS W base pb mb n db sb L hb secs armed left lv s b []) := fun W hB => h.below hB
 have hsz : Hid (base ≤ w.heap.size) := h.hsz; obtain ⟨vl, vg, hH, hLv, ad, cap, hv, hl1, hl2, hl3, hc⟩ := h.h; simp only [List.length_nil] at hv; subst hv; obtain ⟨la, lc, hvl, _⟩ := hLv.rows; subst hvl; have HHB : Hid (∀ W, Below w.heap.size w W → Blk W hb #[.slice la lv.length lc, .pointer (some ⟨pb, 0, none⟩), .pointer (some ⟨L, 0, none⟩), .slice ad 0 cap] 96) := fun W hB => hH.below hB
 have hhb : Hid (hb < w.heap.size) := hH.lt; have r := hH.cell; generalize TickPost base pb mb n db sb L hb secs armed left lv s b [] w = PP at *; have HS : Hid (∀ W, Below w.heap.size w W → W.cell? ⟨hb, 0, none⟩ = some (.slice la lv.length lc) ∧ W.cell? ⟨hb, 1, none⟩ = some (.pointer (some ⟨pb, 0, none⟩))) := fun W hB => ⟨(hH.below hB).cell 0, (hH.below hB).cell 1⟩
 clear h hc hH hLv hl1 hl2 hl3 G; have D1 : Hid (Below w.heap.size w w.drew) := (Below.refl _ _).drew; have BA : Hid (∀ W, Below w.heap.size w W → Below w.heap.size w (W.alloc (.cells #[.int .i64 0, .slice none 0 0, .slice none 0 0] 39))) := fun W h => B.next h (B.new1 _ _) h.size
 have DA : Hid (Below w.heap.size w (w.alloc (.cells #[.int .i64 0, .slice none 0 0, .slice none 0 0] 39)).drew) := (B.new1 _ _).drew
 go_enter Tryz.func21, Tryz.ntmps21
 go_upto_region 2 with fail
 go_cut [3, 4, 5] from 12 to 27 (fun s3 s4 s5 wx => ∃ ga gn gc X l a1 n1 c1 a2 n2 c2 ch, s3 = .slice ga gn gc ∧ s4 = .pointer (some ⟨X, 0, none⟩) ∧ s5 = .bool ch ∧ Hid (Below w.heap.size w wx ∧ Blk wx X #[.int .i64 l, .slice a1 n1 c1, .slice a2 n2 c2] 39) ∧ Hid ((ch = false ∧ ∃ gl, nextL b s lv.length gl ∧ GoalsH wx (.slice ga gn gc) gl) ∨ (ch = true ∧ nextC b s lv.length ∧ l = b.last ∧ OwnBook wx base (.slice a1 n1 c1) (.slice a2 n2 c2) (overB2 b s).stays (overB2 b s).jobs)))
 case first =>
  go_region_held3 (fun W => W.cell? ⟨hb, 0, none⟩ = some (.slice la lv.length lc) ∧ W.cell? ⟨hb, 1, none⟩ = some (.pointer (some ⟨pb, 0, none⟩))) (first | with_reducible exact HS.out _ D1.out | with_reducible exact HS.out _ B2.out | with_reducible exact HS.out _ B3.out | with_reducible exact HS.out _ DA.out | with_reducible exact HS.out _ (BA.out _ B2.out) | with_reducible exact HS.out _ (B.next B3.out (B.new1 _ _) B3.out.size) | with_reducible exact HS.out _ (((B3.out.setCell (p := ⟨_, 0, none⟩) XL.out _).setCell (p := ⟨_, 1, none⟩) XL.out _).setCell (p := ⟨_, 2, none⟩) XL.out _) | fail)
   (first
     | (go_at_call 20; refine (HBK.out _ (by first | exact D1.out | exact DA.out)).mono ?_; rintro e w2 ⟨vs, vj, rfl, ho, b2⟩; have C2 := hidd b2; have HO2 := hidd ho; have B2 : Hid (Below w.heap.size w w2) := (by first | exact B.next D1.out b2 D1.out.size | exact B.next DA.out b2 DA.out.size); clear ho b2)
     | (go_at_call 52; refine (HNX.out _ vs vj _ (by first | exact B2.out | exact BA.out _ B2.out) (by first | exact HO2.out | exact HO2.out.below (B.new1 _ _))).mono ?_; rintro e w3 ⟨ga, gn, gc, l, a1, n1, c1, a2, n2, c2, ch, rfl, hx, b3⟩; have C3 := hidd b3; have B3 : Hid (Below w.heap.size w w3) := (by first | exact B.next B2.out b3 B2.out.size | exact B.next (BA.out _ B2.out) b3 (BA.out _ B2.out).size); clear b3; (first | (have RX : Hid (Blk w3 w2.heap.size #[.int .i64 0, .slice none 0 0, .slice none 0 0] 39) := (Blk.new w2 _ _).below C3.out; have XL : Hid (w.heap.size ≤ w2.heap.size) := B2.out.size; have rX := RX.out.cell; have fX := RX.out.free) | (have RX : Hid (Blk w3 w.heap.size #[.int .i64 0, .slice none 0 0, .slice none 0 0] 39) := ((Blk.new w.drew _ _).below C2.out).below C3.out; have XL : Hid (w.heap.size ≤ w.heap.size) := Nat.le_refl _; have rX := RX.out.cell; have fX := RX.out.free) | skip)))
  ·have NE : Hid (Below w.heap.size w (w3.alloc (.cells #[.int .i64 l, .slice a1 n1 c1, .slice a2 n2 c2] 39)) ∧ Blk (w3.alloc (.cells #[.int .i64 l, .slice a1 n1 c1, .slice a2 n2 c2] 39)) w3.heap.size #[.int .i64 l, .slice a1 n1 c1, .slice a2 n2 c2] 39) := ⟨B.next B3.out (B.new1 _ _) B3.out.size, Blk.new _ _ _⟩
   have HXE : Hid ((ch = false ∧ ∃ gl, nextL b s lv.length gl ∧ GoalsH (w3.alloc (.cells #[.int .i64 l, .slice a1 n1 c1, .slice a2 n2 c2] 39)) (.slice ga gn gc) gl) ∨ (ch = true ∧ nextC b s lv.length ∧ l = b.last ∧ OwnBook (w3.alloc (.cells #[.int .i64 l, .slice a1 n1 c1, .slice a2 n2 c2] 39)) base (.slice a1 n1 c1) (.slice a2 n2 c2) (overB2 b s).stays (overB2 b s).jobs)) := by
    rcases hx.out with ⟨q1, gl, q2, q6⟩ | ⟨q1, q2, q3, q6⟩
    ·exact Or.inl ⟨q1, gl, q2, q6.far fun _ _ hk => hk.below (B.new1 _ _)⟩
    ·exact Or.inr ⟨q1, q2, q3, bookDown (q6.below (B.new1 _ _)) (Nat.le_trans hsz.out B2.out.size)⟩
   clear HFO HL HKQ HNX HBK HHB HH HS r; go_wp2_with fail
   go_meet
   exact ⟨_, _, _, _, _, _, _, _, _, _, _, _, rfl, rfl, rfl, NE, HXE⟩
  ·have NE : Hid (Below w.heap.size w (((w3.setCell ⟨w2.heap.size, 0, none⟩ (.int .i64 l)).setCell ⟨w2.heap.size, 1, none⟩ (.slice a1 n1 c1)).setCell ⟨w2.heap.size, 2, none⟩ (.slice a2 n2 c2)) ∧ Blk (((w3.setCell ⟨w2.heap.size, 0, none⟩ (.int .i64 l)).setCell ⟨w2.heap.size, 1, none⟩ (.slice a1 n1 c1)).setCell ⟨w2.heap.size, 2, none⟩ (.slice a2 n2 c2)) w2.heap.size #[.int .i64 l, .slice a1 n1 c1, .slice a2 n2 c2] 39) := ⟨((B3.out.setCell (p := ⟨_, 0, none⟩) XL.out _).setCell (p := ⟨_, 1, none⟩) XL.out _).setCell (p := ⟨_, 2, none⟩) XL.out _, ((RX.out.set 0 _).set 1 _).set 2 _⟩
   have HXE : Hid ((ch = false ∧ ∃ gl, nextL b s lv.length gl ∧ GoalsH (((w3.setCell ⟨w2.heap.size, 0, none⟩ (.int .i64 l)).setCell ⟨w2.heap.size, 1, none⟩ (.slice a1 n1 c1)).setCell ⟨w2.heap.size, 2, none⟩ (.slice a2 n2 c2)) (.slice ga gn gc) gl) ∨ (ch = true ∧ nextC b s lv.length ∧ l = b.last ∧ OwnBook (((w3.setCell ⟨w2.heap.size, 0, none⟩ (.int .i64 l)).setCell ⟨w2.heap.size, 1, none⟩ (.slice a1 n1 c1)).setCell ⟨w2.heap.size, 2, none⟩ (.slice a2 n2 c2)) base (.slice a1 n1 c1) (.slice a2 n2 c2) (overB2 b s).stays (overB2 b s).jobs)) := by
    rcases hx.out with ⟨q1, gl, q2, q6⟩ | ⟨q1, q2, q3, q6⟩
    ·exact Or.inl ⟨q1, gl, q2, q6.far fun _ _ hk => ((hk.other (fun e => absurd (blk_typeD hk (e ▸ RX.out)) (by decide)) _ _).other (fun e => absurd (blk_typeD hk (e ▸ RX.out)) (by decide)) _ _).other (fun e => absurd (blk_typeD hk (e ▸ RX.out)) (by decide)) _ _⟩
    ·exact Or.inr ⟨q1, q2, q3, bookDown (bookSet (bookSet (bookSet q6 _ (by simp)) _ (by simp)) _ (by simp)) (Nat.le_trans hsz.out (BA.out _ B2.out).size)⟩
   clear HFO HL HKQ HNX HBK HHB HH HS r; go_wp2_with fail
   go_meet
   exact ⟨_, _, _, _, _, _, _, _, _, _, _, _, rfl, rfl, rfl, NE, HXE⟩
  ·have HX1 : Hid (w.heap.size < w2.heap.size) := Nat.lt_of_lt_of_le (by simp) C2.out.size
   have NE : Hid (Below w.heap.size w (((w3.setCell ⟨w.heap.size, 0, none⟩ (.int .i64 l)).setCell ⟨w.heap.size, 1, none⟩ (.slice a1 n1 c1)).setCell ⟨w.heap.size, 2, none⟩ (.slice a2 n2 c2)) ∧ Blk (((w3.setCell ⟨w.heap.size, 0, none⟩ (.int .i64 l)).setCell ⟨w.heap.size, 1, none⟩ (.slice a1 n1 c1)).setCell ⟨w.heap.size, 2, none⟩ (.slice a2 n2 c2)) w.heap.size #[.int .i64 l, .slice a1 n1 c1, .slice a2 n2 c2] 39) := ⟨((B3.out.setCell (p := ⟨_, 0, none⟩) XL.out _).setCell (p := ⟨_, 1, none⟩) XL.out _).setCell (p := ⟨_, 2, none⟩) XL.out _, ((RX.out.set 0 _).set 1 _).set 2 _⟩
   have HXE : Hid ((ch = false ∧ ∃ gl, nextL b s lv.length gl ∧ GoalsH (((w3.setCell ⟨w.heap.size, 0, none⟩ (.int .i64 l)).setCell ⟨w.heap.size, 1, none⟩ (.slice a1 n1 c1)).setCell ⟨w.heap.size, 2, none⟩ (.slice a2 n2 c2)) (.slice ga gn gc) gl) ∨ (ch = true ∧ nextC b s lv.length ∧ l = b.last ∧ OwnBook (((w3.setCell ⟨w.heap.size, 0, none⟩ (.int .i64 l)).setCell ⟨w.heap.size, 1, none⟩ (.slice a1 n1 c1)).setCell ⟨w.heap.size, 2, none⟩ (.slice a2 n2 c2)) base (.slice a1 n1 c1) (.slice a2 n2 c2) (overB2 b s).stays (overB2 b s).jobs)) := by
    rcases hx.out with ⟨q1, gl, q2, q6⟩ | ⟨q1, q2, q3, q6⟩
    ·exact Or.inl ⟨q1, gl, q2, q6.far fun _ _ hk => ((hk.other (fun e => absurd (blk_typeD hk (e ▸ RX.out)) (by decide)) _ _).other (fun e => absurd (blk_typeD hk (e ▸ RX.out)) (by decide)) _ _).other (fun e => absurd (blk_typeD hk (e ▸ RX.out)) (by decide)) _ _⟩
    ·exact Or.inr ⟨q1, q2, q3, bookDown (bookSet (bookSet (bookSet q6 _ HX1.out) _ HX1.out) _ HX1.out) (Nat.le_trans hsz.out B2.out.size)⟩
   clear HFO HL HKQ HNX HBK HHB HH HS r; go_wp2_with fail
   go_meet
   exact ⟨_, _, _, _, _, _, _, _, _, _, _, _, rfl, rfl, rfl, NE, HXE⟩
 case rest =>
 obtain ⟨ga, gn, gc, X, l, a1, n1, c1, a2, n2, c2, ch, rfl, rfl, rfl, NE, HXE⟩ := hcut; have HHE := HHB.out wc NE.out.1; have HHE2 : Hid (Blk wc hb #[.slice la lv.length lc, .pointer (some ⟨pb, 0, none⟩), .pointer (some ⟨L, 0, none⟩), .slice ad 0 cap] 96 ∧ Blk wc X #[.int .i64 l, .slice a1 n1 c1, .slice a2 n2 c2] 39) := ⟨HHE, NE.out.2⟩; have XE : Hid (Below w.heap.size w wc) := NE.out.1; have hHE : Hid (HouseS wc base pb mb n db sb L hb secs armed left lv s b []) := HH.out wc NE.out.1; have rE := HHE.cell; have fE := HHE.free; clear NE HHE HS D1 DA BA HBK HNX HHB HH r
 rcases HXE.out with ⟨rfl, gl, hgl, hG⟩ | ⟨rfl, hc, rfl, ho⟩
 ·have HG2 : Hid (HouseS (wc.setCell ⟨hb, 3, none⟩ (.slice ga gn gc)) base pb mb n db sb L hb secs armed left lv s b gl ∧ HFr base wc (wc.setCell ⟨hb, 3, none⟩ (.slice ga gn gc))) := hHE.out.goals hG
  have HFO2 := hidd (HFO.out gl _ HG2.out.1); have HL2 := hidd (HL.out gl hgl (wc.setCell ⟨hb, 3, none⟩ (.slice ga gn gc))); have F2 : Hid (HFr base w (wc.setCell ⟨hb, 3, none⟩ (.slice ga gn gc))) := (HFr.of_below XE.out hsz.out).trans HG2.out.2; clear HFO HL HKQ HXE hgl hG hHE HG2 HHE2 XE; go_wp2_with fail; refine HFO2.out.mono ?_; rintro e w5 hf; obtain ⟨rfl, hp⟩ := HL2.out e w5 F2.out hf; have HQ : Hid (PP (.returned .nilIface) w5) := hp; clear HFO2 HL2 hf hp F2; go_wp2; exact HQ.out
 ·have DE : Hid (Below wc.heap.size wc wc.drew) := (Below.refl _ _).drew
  have KE := hidd (HKQ.out hc _ _ wc.drew (B.next XE.out DE.out XE.out.size) (ho.below DE.out))
  have HS7 : Hid (∀ W, (∀ k arr T, T ≠ 124 → T ≠ 157 → T ≠ 194 → T ≠ 133 → Blk wc k arr T → Blk W k arr T) → W.cell? ⟨hb, 2, none⟩ = some (.pointer (some ⟨L, 0, none⟩)) ∧ W.cell? ⟨X, 0, none⟩ = some (.int .i64 b.last) ∧ W.cell? ⟨X, 1, none⟩ = some (.slice a1 n1 c1) ∧ W.cell? ⟨X, 2, none⟩ = some (.slice a2 n2 c2)) := fun W hf => by
   have k1 := hf _ _ _ (by decide) (by decide) (by decide) (by decide) HHE2.out.1; have k2 := hf _ _ _ (by decide) (by decide) (by decide) (by decide) HHE2.out.2; exact ⟨k1.cell 2, k2.cell 0, k2.cell 1, k2.cell 2⟩
  have F0 : Hid (∀ k arr T, T ≠ 124 → T ≠ 157 → T ≠ 194 → T ≠ 133 → Blk wc k arr T → Blk wc.drew k arr T) := fun k arr T _ _ _ _ hk => hk.below DE.out
  clear HFO HL HKQ HXE hc ho HHE2 XE hHE rE fE; generalize b.last = l1 at *
  go_upto_region 4 with fail
  go_region_held3 (fun W => W.cell? ⟨hb, 2, none⟩ = some (.pointer (some ⟨L, 0, none⟩)) ∧ W.cell? ⟨X, 0, none⟩ = some (.int .i64 l1) ∧ W.cell? ⟨X, 1, none⟩ = some (.slice a1 n1 c1) ∧ W.cell? ⟨X, 2, none⟩ = some (.slice a2 n2 c2)) (first | with_reducible exact HS7.out _ F0.out | with_reducible exact HS7.out _ F5.out | fail)
   (first | (go_at_call 53; refine KE.out.mono ?_; rintro e w5 ⟨v, rfl, hf, hq⟩; have F5 : Hid (∀ k arr T, T ≠ 124 → T ≠ 157 → T ≠ 194 → T ≠ 133 → Blk wc k arr T → Blk w5 k arr T) := fun k arr T h1 h2 h3 h4 hk => hf.far k arr T h1 h2 h3 h4 (F0.out k arr T h1 h2 h3 h4 hk); clear hf))
  clear KE HS7 F0 F5; go_wp2; exact hq.out
end Hs
end Go.Proofs.YtopgllmjeliklaaGreatDoor
