/- HsP. -/
import Derived.Test.YtopgllmjeliklaaGreatDoorKlHsW
import Derived.Test.YtopgllmjeliklaaGreatDoorKlHsX
set_option maxRecDepth 100000
set_option linter.unusedSimpArgs false
set_option linter.unusedVariables false
namespace Go.Proofs.YtopgllmjeliklaaGreatDoor
open Go.Shelf Go.Lib Go.ChangeShapes Go.WideShapes Go.ChangeAt Go.RowKit
namespace Hs
open Bk Lg Pl Dk Tx Tn Ac
def RdyD (w : World) (base db sb m : Nat) (down : Bool) (b b' : PB) : Prop :=
 ∃ secs bit armed left, DiskAt w base db sb secs bit armed left down /\ 22 <= secs.length /\ secs.length <= 1000 /\ left <= 9223372036854775807 /\ (∀ i, i < secs.length -> secs[i]!.wr.length <= 1000) /\ (∀ i, i < secs.length -> ∀ y ∈ secs[i]!.wr, 0 <= y.bit /\ y.bit < 64) /\
  ∀ K, openP (stl K secs secs.length) m = some b \/ openP (stl K secs secs.length) m = some b'
theorem stl_wr' (K : Int) (secs : List Sec) : ∀ j, j < (stl K secs secs.length).length -> (stl K secs secs.length)[j]!.wr = [] := fun j hj => by
 rw [stl_len] at hj; rw [stl_get K secs j hj _ (Nat.le_refl _), if_pos hj]
 rfl
theorem stl_now' (K : Int) (secs : List Sec) (j : Nat) (hj : j < secs.length) : (stl K secs secs.length)[j]!.now = settleC K secs[j]!.kept secs[j]!.wr := by
 rw [stl_get K secs j hj _ (Nat.le_refl _), if_pos hj]
 rfl
theorem LedS.rdy {w : World} {base db sb : Nat} {secs : List Sec} {armed : Bool} {left : Int} {L m : Nat} {b : PB} (h : LedS w base db sb secs armed left L m b) : RdyD w base db sb m false b b := by
 refine ⟨secs, 0, armed, left, h.d, h.len, h.few, h.lo.hi, fun i hi => by rw [h.wr i hi]; simp, fun i hi y hy => by rw [h.wr i hi] at hy; simp at hy, fun K => Or.inl ?_⟩
 rw [open_same (stl_len K secs _) h.len (fun j hj _ => ?_) m, h.op]
 rw [stl_now' K secs j hj]; unfold Sec.now; rw [h.wr j hj]
 rfl
theorem LedS.fellRdy {w w' : World} {base db sb : Nat} {secs secs' : List Sec} {armed armed' : Bool} {left left' bit' : Int} {L m : Nat} {b b2 : PB} (h : LedS w base db sb secs armed left L m b) (hd : DiskAt w' base db sb secs' bit' armed' left' true) (hlo : LeftOk armed' left') (hf : Fell secs secs' (nxN secs) ⟨(textL b2.last b2.stays b2.jobs).toArray⟩) (hok : BookOK b2.last m b2.stays b2.jobs) (n4 : m <= 4) : RdyD w' base db sb m true b b2 := by
 have h5 := text_500 n4 hok; have hl := hf.len; have h22 := h.len; have hfw := h.few; refine ⟨secs', bit', armed', left', hd, by omega, by omega, hlo.hi, fun i hi => ?_, fun i hi => hf.bits i (by omega), fun K => ?_⟩
 ·have := hf.few i (by omega); omega
 ·have := open_fell (secs'' := stl K secs' secs'.length) (K := K) h.wr hf h22 (by rw [stl_len, hl]) (fun j hj => stl_now' K secs' j (by omega)) (by show (textL b2.last b2.stays b2.jobs).toArray.size <= _; rw [List.size_toArray]; omega) (text_no0 n4 hok) m
  rw [h.op, parse_text n4 hok] at this; exact this
def Rest1 (w : World) (base pb mb db sb m : Nat) (down : Bool) (n : Nat) : Prop :=
 ∃ s b b', IsP w pb mb n s /\ Inv s /\ RdyD w base db sb m down b b' /\ Wf m ⟨s, b, []⟩ /\ Wf m ⟨s, b', []⟩ /\ base <= pb /\ base <= mb /\ base <= w.heap.size
theorem Rest1.below {w w' : World} {base pb mb db sb m n : Nat} {down : Bool} (h : Rest1 w base pb mb db sb m down n) (hB : Below w.heap.size w w') : Rest1 w' base pb mb db sb m down n := by
 obtain ⟨s, b, b', h1, h2, ⟨secs, bit, armed, left, d, r⟩, h4, h5, h6, h7, h8⟩ := h; exact ⟨s, b, b', h1.below hB, h2, ⟨secs, bit, armed, left, d.below hB, r⟩, h4, h5, h6, h7, Nat.le_trans h8 hB.size⟩
theorem Rest1.le {w : World} {base pb mb db sb m n n' : Nat} {down : Bool} (h : Rest1 w base pb mb db sb m down n) (hn : n <= n') : Rest1 w base pb mb db sb m down n' := by
 obtain ⟨s, b, b', h1, r⟩ := h; exact ⟨s, b, b', h1.le hn, r⟩
def UpF (w : World) (base pb mb db sb L hb : Nat) (armed : Bool) (lv : List (Int × Int × Int)) (n : Nat) : Prop :=
 ∃ σ secs left, HouseS w base pb mb n db sb L hb secs armed left lv σ.s σ.b σ.gs /\ Wf lv.length σ
theorem UpF.below {w w' : World} {base pb mb db sb L hb n : Nat} {armed : Bool} {lv : List (Int × Int × Int)} (h : UpF w base pb mb db sb L hb armed lv n) (hB : Below w.heap.size w w') : UpF w' base pb mb db sb L hb armed lv n := by
 obtain ⟨σ, secs, left, h1, h2⟩ := h; exact ⟨σ, secs, left, h1.below hB, h2⟩
theorem UpF.le {w : World} {base pb mb db sb L hb n n' : Nat} {armed : Bool} {lv : List (Int × Int × Int)} (h : UpF w base pb mb db sb L hb armed lv n) (hn : n <= n') : UpF w base pb mb db sb L hb armed lv n' := by
 obtain ⟨σ, secs, left, h1, h2⟩ := h; exact ⟨σ, secs, left, h1.le hn, h2⟩
theorem UpF.rest {w : World} {base pb mb db sb L hb n : Nat} {armed : Bool} {lv : List (Int × Int × Int)} (h : UpF w base pb mb db sb L hb armed lv n) : Rest1 w base pb mb db sb lv.length false n := by
 obtain ⟨σ, secs, left, h1, h2⟩ := h; exact ⟨σ.s, σ.b, σ.b, h1.p, h1.iv, LedS.rdy h1.l, h2.anew, h2.anew, h1.hpb, h1.hmb, h1.hsz⟩
def DnF (w : World) (base pb mb db sb L hb : Nat) (lv : List (Int × Int × Int)) (n : Nat) : Prop :=
 Rest1 w base pb mb db sb lv.length true n /\ ∃ s b secs bit armed left, HouseD w base pb mb n db sb L hb secs bit armed left lv s b /\ nextC b s lv.length
theorem HouseD.le {w : World} {base pb mb n n' db sb L hb : Nat} {secs : List Sec} {bit : Int} {armed : Bool} {left : Int} {lv : List (Int × Int × Int)} {s : St} {b : PB} (h : HouseD w base pb mb n db sb L hb secs bit armed left lv s b) (hn : n <= n') : HouseD w base pb mb n' db sb L hb secs bit armed left lv s b :=
 ⟨h.h, h.p.le hn, h.iv, h.l, h.d, h.wr, h.len, h.few, h.hsz, h.n1, h.n4, h.ok⟩
theorem HKeep.two {base pb mb n db sb L hb : Nat} {secs : List Sec} {armed : Bool} {left : Int} {lv : List (Int × Int × Int)} {s : St} {b b' : PB} {gs : List (Int × Int)} {w : World} {e : Ending} {w' : World} (h : HouseS w base pb mb n db sb L hb secs armed left lv s b gs) (k : HKeep base pb mb n db sb L hb secs armed lv s b' gs w e w') (wf : Wf lv.length ⟨s, b, gs⟩) (wf' : Wf lv.length ⟨s, b', gs⟩) : HFr base w w' /\ (UpF w' base pb mb db sb L hb armed lv n \/ Rest1 w' base pb mb db sb lv.length true n) := by
 rcases k with ⟨_, f, s', l', k1, _⟩ | ⟨_, _, f, _, hp, s', b2, l', k1, k2, k3⟩
 ·exact ⟨HFr.of_l f, Or.inl ⟨⟨s, b', gs⟩, s', l', k1, wf'⟩⟩
 ·exact ⟨HFr.of_l f, Or.inr ⟨s, b, b', hp, h.iv, LedS.fellRdy h.l k2 k1 k3 wf'.ok h.n4, wf.anew, wf'.anew, h.hpb, h.hmb, Nat.le_trans h.hsz f.b.size⟩⟩
def TickF (base pb mb db sb L hb : Nat) (armed : Bool) (lv : List (Int × Int × Int)) (n : Nat) (w : World) (e : Ending) (w' : World) : Prop :=
 (∃ v, e = .returned v) /\ HFr base w w' /\ (UpF w' base pb mb db sb L hb armed lv (n + 1) \/ DnF w' base pb mb db sb L hb lv (n + 1))
theorem tickUD {base pb mb db sb L hb n : Nat} {armed : Bool} {lv : List (Int × Int × Int)} {w : World} (h : UpF w base pb mb db sb L hb armed lv n \/ DnF w base pb mb db sb L hb lv n) (hn : n < maxLen) (G : Glob w) (hbg : Tryz.prog.globals.size <= base) :
  Calls Tryz.prog 21 #[.pointer (some ⟨hb, 0, none⟩)] w (TickF base pb mb db sb L hb armed lv n w) := by
 rcases h with ⟨σ, secs, left, h, wf⟩ | ⟨hr, s, b, secs, bit, ar, left, h, hc⟩
 ·obtain ⟨s, b, gs⟩ := σ
  refine (tick_any base pb mb n db sb L hb secs armed left lv s b gs w h hn G hbg).mono ?_; rintro e w' (⟨h1, rfl, h2, h3⟩ | ⟨h1, l, h2, rfl, h3, h4⟩ | ⟨h1, h2, hk⟩)
  ·exact ⟨⟨_, rfl⟩, h3, Or.inl ⟨_, _, _, h2, wf.tick (Or.inl ⟨h1, rfl⟩)⟩⟩
  ·exact ⟨⟨_, rfl⟩, h4, Or.inl ⟨_, _, _, h3, wf.tick (Or.inr (Or.inl ⟨h1, l, h2, rfl⟩))⟩⟩
  ·have h1' : gs = [] := h1
   subst h1'; have wf' : Wf lv.length ⟨s, overB2 b s, []⟩ := wf.tick (Or.inr (Or.inr ⟨rfl, h2, rfl⟩)); obtain ⟨f, hu⟩ := HKeep.two h hk wf wf'; refine ⟨?_, f, ?_⟩
   ·rcases hk.value with rfl | rfl <;> exact ⟨_, rfl⟩
   ·rcases hk with ⟨_, f1, s', l', k1, _⟩ | ⟨_, _, f1, hL, hp, s', b2, l', k1, k2, k3⟩
    ·exact Or.inl ⟨⟨s, overB2 b s, []⟩, s', l', k1.le (Nat.le_succ n), wf'⟩
    ·refine Or.inr ⟨?_, s, b, s', b2, armed, l', ?_, h2⟩
     ·exact ⟨s, b, overB2 b s, hp.le (Nat.le_succ n), h.iv, LedS.fellRdy h.l k2 k1 k3 wf'.ok h.n4, wf.anew, wf'.anew, h.hpb, h.hmb, Nat.le_trans h.hsz f1.b.size⟩
     ·exact h.fell f1 hL hp k2 k3 |>.le (Nat.le_succ n)
 ·refine (tickD base pb mb n db sb L hb secs bit ar left lv s b w h hc G).mono ?_
  rintro e w' ⟨rfl, hB⟩; exact ⟨⟨_, rfl⟩, HFr.of_below hB h.hsz, Or.inr ⟨(hr.below hB).le (Nat.le_succ n), s, b, secs, bit, ar, left, (h.below hB).le (Nat.le_succ n), hc⟩⟩
def PlayF (base pb mb db sb L hb : Nat) (armed : Bool) (lv : List (Int × Int × Int)) (n : Nat) (w : World) (e : Ending) (w' : World) : Prop :=
 e = .returned (.pointer (some ⟨hb, 0, none⟩)) /\ HFr base w w' /\ (UpF w' base pb mb db sb L hb armed lv (n + 60) \/ Rest1 w' base pb mb db sb lv.length true (n + 60))
set_option maxHeartbeats 8000000 in
theorem playF (base pb mb db sb L hb len : Nat) (armed : Bool) (f : Nat -> Int × Int × Int) (lvv : Value) (n : Nat) (x : ActC) (w : World) (h : UpF w base pb mb db sb L hb armed (rowsOf f len) n) (hs : SizesAt w lvv len f) (hn : n + 60 < maxLen) (hxo : x.Ok) (hop : (x.kind.toList == [111, 112, 101, 110]) = false) (G : Glob w) (hbg : Tryz.prog.globals.size <= base) :
  Calls Tryz.prog 16 #[lvv, .pointer (some ⟨pb, 0, none⟩), .pointer (some ⟨db, 0, none⟩), .pointer (some ⟨hb, 0, none⟩), .agg x.vals] w (PlayF base pb mb db sb L hb armed (rowsOf f len) n w) := by
 have hbs : base <= w.heap.size := by obtain ⟨_, _, _, h1, _⟩ := h; exact h1.hsz
 have HF : Hid (∀ w', HFr base w w' -> (UpF w' base pb mb db sb L hb armed (rowsOf f len) (n + 60) \/ Rest1 w' base pb mb db sb (rowsOf f len).length true (n + 60)) -> PlayF base pb mb db sb L hb armed (rowsOf f len) n w (.returned (.pointer (some ⟨hb, 0, none⟩))) w') := fun w' h1 h2 => ⟨rfl, h1, h2⟩
 generalize PlayF base pb mb db sb L hb armed (rowsOf f len) n w = PP at *; have HF2 : Hid (∀ w', HFr base w w' -> (UpF w' base pb mb db sb L hb armed (rowsOf f len) n \/ Rest1 w' base pb mb db sb (rowsOf f len).length true n) -> PP (.returned (.pointer (some ⟨hb, 0, none⟩))) w') := fun w' h1 h2 => HF.out w' h1 (h2.imp (fun k => k.le (by omega)) (fun k => k.le (by omega)))
 have H0 : Hid (∀ o, UpF (w.alloc o) base pb mb db sb L hb armed (rowsOf f len) n) := fun o => h.below (B.new1 w o)
 have G0 : Hid (∀ o, Glob (w.alloc o)) := fun o => G.new (B.new1 w o)
 have F0 : Hid (∀ o w', HFr base (w.alloc o) w' -> HFr base w w') := fun o w' hf => (HFr.of_below (B.new1 w o) hbs).trans hf
 have KP : Hid (∀ o, Calls Tryz.prog 29 #[.pointer (some ⟨hb, 0, none⟩), .agg #[.int .i64 x.c0, .int .i64 x.c1, .int .i64 x.c2, .int .i64 x.c3]] (w.alloc o) fun e w' => (∃ t v, e = .returned (.tuple #[.int .i64 t, v])) /\ HFr base (w.alloc o) w' /\ (UpF w' base pb mb db sb L hb armed (rowsOf f len) n \/ Rest1 w' base pb mb db sb (rowsOf f len).length true n)) := fun o => by
  obtain ⟨⟨s, b, gs⟩, secs, left, h1, wf⟩ := H0.out o; refine (hpark_any base pb mb n db sb L hb secs armed left (rowsOf f len) s b gs x.c0 x.c1 x.c2 x.c3 (w.alloc o) h1 (G0.out o) hbg).mono ?_; rintro e w' (⟨_, rfl, h2⟩ | ⟨_, _, k, _, _, rfl, h2⟩ | ⟨h2, h3, h4, po, h5, v, hk, h6⟩)
  ·exact ⟨⟨_, _, rfl⟩, HFr.of_below h2 h1.hsz, Or.inl ⟨_, _, _, h1.below h2, wf⟩⟩
  ·exact ⟨⟨_, _, rfl⟩, HFr.of_below h2 h1.hsz, Or.inl ⟨_, _, _, h1.below h2, wf⟩⟩
  ·have wf' : Wf (rowsOf f len).length ⟨s, parkB b x.c0 x.c1 x.c2 x.c3 po, gs⟩ := wf.park rfl (Or.inr ⟨rfl, rfl, h2, h3, h4, po, h5, rfl⟩) (BookOK.parked h1.n1 h1.n4 h1.ok h4 h5)
   obtain ⟨f1, hu⟩ := HKeep.two h1 hk wf wf'; refine ⟨?_, f1, hu⟩
   rcases h6 with ⟨_, rfl⟩ | ⟨_, rfl⟩ <;> exact ⟨_, _, rfl⟩
 have KW : Hid (∀ o, Calls Tryz.prog 38 #[.pointer (some ⟨hb, 0, none⟩), .int .i64 x.a] (w.alloc o) fun e w' => (∃ v, e = .returned v) /\ HFr base (w.alloc o) w' /\ (UpF w' base pb mb db sb L hb armed (rowsOf f len) n \/ Rest1 w' base pb mb db sb (rowsOf f len).length true n)) := fun o => by
  obtain ⟨⟨s, b, gs⟩, secs, left, h1, wf⟩ := H0.out o; refine (hwant_any base pb mb n db sb L hb secs armed left (rowsOf f len) s b gs x.a (w.alloc o) h1 (G0.out o) hbg).mono ?_; rintro e w' (⟨k, _, _, rfl, h2⟩ | ⟨h2, hk⟩)
  ·exact ⟨⟨_, rfl⟩, HFr.of_below h2 h1.hsz, Or.inl ⟨_, _, _, h1.below h2, wf⟩⟩
  ·have wf' : Wf (rowsOf f len).length ⟨s, ⟨b.last, b.stays, b.jobs ++ [⟨x.a, true⟩]⟩, gs⟩ := wf.want (t := x.a) (k := 0) ⟨h2.symm, by rw [if_pos rfl]⟩ (ok_wanted h1.ok h2)
   obtain ⟨f1, hu⟩ := HKeep.two h1 hk wf wf'; refine ⟨?_, f1, hu⟩
   rcases hk.value with rfl | rfl <;> exact ⟨_, rfl⟩
 have KO : Hid ((x.kind.toList == [115, 116, 101, 112]) = false -> ∀ o, Calls Tryz.prog 47 #[.pointer (some ⟨pb, 0, none⟩), .agg x.vals] (w.alloc o) fun e w' => e = .returned (.tuple #[]) /\ UpF w' base pb mb db sb L hb armed (rowsOf f len) (n + 60) /\ HFr base (w.alloc o) w') := fun hk o => by
  obtain ⟨⟨s, b, gs⟩, secs, left, h1, wf⟩ := H0.out o; refine (out_any pb mb n s x (w.alloc o) h1.p h1.iv (by omega)).mono ?_; rintro e w' ⟨rfl, p1, t1⟩; exact ⟨rfl, ⟨⟨outS x s, b, gs⟩, secs, left, (h1.turned t1 p1 (h1.iv.out x)).le (by omega), wf.outs x hk⟩, HFr.of_turn h1.p h1.hpb h1.hmb h1.hsz t1⟩
 have KT : Hid (∀ j W, (UpF W base pb mb db sb L hb armed (rowsOf f len) (n + j) \/ DnF W base pb mb db sb L hb (rowsOf f len) (n + j)) -> j < 60 -> HFr base w W -> Calls Tryz.prog 21 #[.pointer (some ⟨hb, 0, none⟩)] W fun e w' => (∃ v, e = .returned v) /\ HFr base w w' /\ HFr base W w' /\ (UpF w' base pb mb db sb L hb armed (rowsOf f len) (n + (j + 1)) \/ DnF w' base pb mb db sb L hb (rowsOf f len) (n + (j + 1)))) := fun j W hW hj hf => (tickUD hW (by omega) (LFr.glob G hbg hf) hbg).mono (by
  rintro e w' ⟨hv, hf2, hu⟩; exact ⟨hv, hf.trans hf2, hf2, hu⟩)
 have ha : Hid (Lit.wf (.int .i64 x.a) = true) := hxo.a; clear h hs hn hxo G; unfold ActC.vals at KO; unfold ActC.vals
 go_enter Tryz.func16, Tryz.ntmps16
 go_wp2_with fail
 ·refine (KP.out _).mono ?_
  rintro e w1 ⟨⟨t, ev, rfl⟩, hf, hu⟩; have HQ : Hid (PP (.returned (.pointer (some ⟨hb, 0, none⟩))) w1) := HF2.out w1 (F0.out _ _ hf) hu; clear HF HF2 H0 G0 F0 KP KW KO KT hu hf ha; go_wp2; exact HQ.out
 ·refine (KW.out _).mono ?_
  rintro e w1 ⟨⟨ev, rfl⟩, hf, hu⟩; have HQ : Hid (PP (.returned (.pointer (some ⟨hb, 0, none⟩))) w1) := HF2.out w1 (F0.out _ _ hf) hu; clear HF HF2 H0 G0 F0 KP KW KO KT hu hf ha; go_wp2; exact HQ.out
 ·have hk : (x.kind.toList == [115, 116, 101, 112]) = false := by
   have a := ‹(x.kind.toList == [119, 97, 108, 107]) = true›; rw [beq_iff_eq] at a; rw [a]
   rfl
  refine (KO.out hk _).mono ?_; rintro e w1 ⟨rfl, hu, hf⟩; have HQ : Hid (PP (.returned (.pointer (some ⟨hb, 0, none⟩))) w1) := HF.out w1 (F0.out _ _ hf) (Or.inl hu); clear HF HF2 H0 G0 F0 KP KW KO KT hu hf ha hk; go_wp2; exact HQ.out
 ·exfalso
  have a := ‹(x.kind.toList == [119, 97, 108, 107]) = true›; have b := ‹(x.kind.toList == [119, 97, 108, 107]) = false›; rw [a] at b
  cases b
 ·have hk : (x.kind.toList == [115, 116, 101, 112]) = false := by
   have a := ‹(x.kind.toList == [97, 114, 114, 105, 118, 101]) = true›; rw [beq_iff_eq] at a; rw [a]
   rfl
  refine (KO.out hk _).mono ?_; rintro e w1 ⟨rfl, hu, hf⟩; have HQ : Hid (PP (.returned (.pointer (some ⟨hb, 0, none⟩))) w1) := HF.out w1 (F0.out _ _ hf) (Or.inl hu); clear HF HF2 H0 G0 F0 KP KW KO KT hu hf ha hk; go_wp2; exact HQ.out
 ·exfalso
  have a := ‹(x.kind.toList == [97, 114, 114, 105, 118, 101]) = true›; have b := ‹(x.kind.toList == [97, 114, 114, 105, 118, 101]) = false›; rw [a] at b
  cases b
 ·have hk : (x.kind.toList == [115, 116, 101, 112]) = false := by
   have a := ‹(x.kind.toList == [108, 101, 97, 118, 101]) = true›; rw [beq_iff_eq] at a; rw [a]
   rfl
  refine (KO.out hk _).mono ?_; rintro e w1 ⟨rfl, hu, hf⟩; have HQ : Hid (PP (.returned (.pointer (some ⟨hb, 0, none⟩))) w1) := HF.out w1 (F0.out _ _ hf) (Or.inl hu); clear HF HF2 H0 G0 F0 KP KW KO KT hu hf ha hk; go_wp2; exact HQ.out
 ·exfalso
  have a := ‹(x.kind.toList == [108, 101, 97, 118, 101]) = true›; have b := ‹(x.kind.toList == [108, 101, 97, 118, 101]) = false›; rw [a] at b
  cases b
 ·have hk : (x.kind.toList == [115, 116, 101, 112]) = false := by
   have a := ‹(x.kind.toList == [115, 116, 97, 108, 108]) = true›; rw [beq_iff_eq] at a; rw [a]
   rfl
  refine (KO.out hk _).mono ?_; rintro e w1 ⟨rfl, hu, hf⟩; have HQ : Hid (PP (.returned (.pointer (some ⟨hb, 0, none⟩))) w1) := HF.out w1 (F0.out _ _ hf) (Or.inl hu); clear HF HF2 H0 G0 F0 KP KW KO KT hu hf ha hk; go_wp2; exact HQ.out
 ·obtain ⟨w0, hw0⟩ : ∃ w0, w.alloc (.cells #[.string x.kind, .int .i64 x.a, .int .i64 x.b, .int .i64 x.c0, .int .i64 x.c1, .int .i64 x.c2, .int .i64 x.c3, .string x.s, .int .u64 x.k, .int .i64 x.last, .slice x.sa x.sl x.sc, .slice x.ja x.jl x.jc] 41) = w0 := ⟨_, rfl⟩
  have HW0 : Hid ((UpF w0 base pb mb db sb L hb armed (rowsOf f len) (n + 0) \/ DnF w0 base pb mb db sb L hb (rowsOf f len) (n + 0)) /\ HFr base w w0 /\ Blk w0 w.heap.size #[.string x.kind, .int .i64 x.a, .int .i64 x.b, .int .i64 x.c0, .int .i64 x.c1, .int .i64 x.c2, .int .i64 x.c3, .string x.s, .int .u64 x.k, .int .i64 x.last, .slice x.sa x.sl x.sc, .slice x.ja x.jl x.jc] 41) := by
   show _ /\ _ /\ _
   rw [<- hw0]; exact ⟨Or.inl (H0.out _), HFr.of_below (B.new1 w _) hbs, Blk.new _ _ _⟩
  have z0 := ‹(x.kind.toList == [112, 97, 114, 107]) = false›; have z1 := ‹(x.kind.toList == [119, 97, 110, 116]) = false›; have z2 := ‹(x.kind.toList == [111, 112, 101, 110]) = false›; have z3 := ‹(x.kind.toList == [119, 97, 108, 107]) = false›; have z4 := ‹(x.kind.toList == [97, 114, 114, 105, 118, 101]) = false›; have z5 := ‹(x.kind.toList == [108, 101, 97, 118, 101]) = false›; have z6 := ‹(x.kind.toList == [115, 116, 97, 108, 108]) = false›; simp only [hw0, z0, z1, z2, z3, z4, z5, z6]; clear hw0 z0 z1 z2 z3 z4 z5 z6 H0 G0 F0 KP KW KO hop
  go_loopg [13] 60 (fun q i wr => ∃ (j : Nat), j + q = 60 /\ i = .int .i64 j /\ Hid (UpF wr base pb mb db sb L hb armed (rowsOf f len) (n + j) \/ DnF wr base pb mb db sb L hb (rowsOf f len) (n + j)) /\ Hid (HFr base w wr) /\ Hid (Blk wr w.heap.size #[.string x.kind, .int .i64 x.a, .int .i64 x.b, .int .i64 x.c0, .int .i64 x.c1, .int .i64 x.c2, .int .i64 x.c3, .string x.s, .int .u64 x.k, .int .i64 x.last, .slice x.sa x.sl x.sc, .slice x.ja x.jl x.jc] 41))
  case atStart => exact ⟨0, by omega, rfl, HW0.out.1, HW0.out.2.1, HW0.out.2.2⟩
  case round =>
   clear HW0; obtain ⟨j, hj, rfl, HX1, HF1, HB1⟩ := hrel; have HJ : Hid (j + gk = 60) := hj; have r := HB1.out.cell; have HEND : Hid (PP (.returned (.pointer (some ⟨hb, 0, none⟩))) wr) := HF.out wr HF1.out (HX1.out.imp (fun k => k.le (by omega)) (fun k => k.1.le (by omega)))
   by_cases c1 : (j : Int) < x.a
   ·by_cases c2 : j < 60
    ·have c2' : (j : Int) < 60 := by omega
     have KT1 := hidd (KT.out j wr HX1.out c2 HF1.out); clear hj HEND KT; go_wp2_with fail; refine KT1.out.mono ?_; rintro e w2 ⟨⟨ev, rfl⟩, f2, f2', hu⟩; have HX2 : Hid (UpF w2 base pb mb db sb L hb armed (rowsOf f len) (n + (j + 1)) \/ DnF w2 base pb mb db sb L hb (rowsOf f len) (n + (j + 1))) := hu; have HF2 : Hid (HFr base w w2) := f2; have HB2 : Hid (Blk w2 w.heap.size #[.string x.kind, .int .i64 x.a, .int .i64 x.b, .int .i64 x.c0, .int .i64 x.c1, .int .i64 x.c2, .int .i64 x.c3, .string x.s, .int .u64 x.k, .int .i64 x.last, .slice x.sa x.sl x.sc, .slice x.ja x.jl x.jc] 41) := f2'.far _ _ _ (by decide) (by decide) (by decide) (by decide) (by decide) (by decide) HB1.out; clear f2 f2' hu KT1 HX1 HF1 HB1 r; go_wp2_with fail
     go_roundg (gk - 1)
     case measure => have := HJ.out; omega
     case rel => exact ⟨j + 1, by have := HJ.out; omega, by go_num, HX2, HF2, HB2⟩
    ·have c2' : ¬ (j : Int) < 60 := by omega
     clear hj KT HX1 HF1 HB1; go_wp2; exact HEND.out
   ·clear hj KT HX1 HF1 HB1
    go_wp2; exact HEND.out
theorem armF {base pb mb db sb hb n : Nat} {lv : List (Int × Int × Int)} {σ : Sg} {w : World} (h : HX w base pb mb db sb hb lv σ n) (wf : Wf lv.length σ) (k : Int) (hk : k <= 9223372036854775807) :
  Calls Tryz.prog 40 #[.pointer (some ⟨db, 0, none⟩), .int .i64 k] w fun e w' => e = .returned (.tuple #[]) /\ HFr base w w' /\ ∃ L armed, UpF w' base pb mb db sb L hb armed lv n := by
 obtain ⟨L, secs, left, h⟩ := h; refine (arm_any base db sb secs 0 false left false k w h.l.d).mono ?_; rintro e w' ⟨rfl, d, f⟩; obtain ⟨vl, vg, h1, h2, h3⟩ := h.h; obtain ⟨vs, vj, l1, l2⟩ := h.l.l; have fl := LFr.of_dfr f; refine ⟨rfl, HFr.of_l fl, L, decide (0 <= k), σ, secs, k, ⟨⟨vl, vg, f.far _ _ _ (by decide) (by decide) (by decide) h1, OwnAt.far2 h2 fun _ _ hk => f.far _ _ _ (by decide) (by decide) (by decide) hk, h3.far fun _ _ hk => f.far _ _ _ (by decide) (by decide) (by decide) hk⟩, isP_l h.p fl, h.iv, ⟨d, h.l.len, h.l.few, h.l.wr, ⟨?_, hk⟩, ⟨vs, vj, f.far _ _ _ (by decide) (by decide) (by decide) l1, bookFar l2 fl⟩, h.l.hL, h.l.op⟩, h.hpb, h.hmb, h.hhb, Nat.le_trans h.hsz f.b.size, h.n1, h.n4, h.ok⟩, wf⟩
 by_cases h0 : 0 <= k
 ·exact Or.inl h0
 ·right; simp; omega
theorem downF {base pb mb db sb m n : Nat} {down : Bool} {w : World} (h : Rest1 w base pb mb db sb m down n) :
  Calls Tryz.prog 41 #[.pointer (some ⟨db, 0, none⟩)] w fun e w' => e = .returned (.bool down) /\ w' = w := by
 obtain ⟨s, b, b', _, _, ⟨secs, bit, armed, left, d, _⟩, _⟩ := h; exact down_any base db sb secs bit armed left down w d
theorem restartF {base pb mb db sb m n : Nat} {down : Bool} {w : World} (K : Int) (h : Rest1 w base pb mb db sb m down n) (m4 : m <= 4) :
  Calls Tryz.prog 42 #[.pointer (some ⟨db, 0, none⟩), .int .u64 K] w fun e w' => e = .returned (.tuple #[]) /\ HFr base w w' /\ ∃ secs left s b, IsP w' pb mb n s /\ Inv s /\ Wf m ⟨s, b, []⟩ /\ DiskAt w' base db sb secs 0 false left false /\ 22 <= secs.length /\ secs.length <= 1000 /\ left <= 9223372036854775807 /\ (∀ j, j < secs.length -> secs[j]!.wr = []) /\ openP secs m = some b /\ base <= pb /\ base <= mb /\ base <= w'.heap.size := by
 obtain ⟨s, b, b', hp, iv, ⟨secs, bit, armed, left, d, h22, hfew, hlo, hln, hbits, hop⟩, wf, wf', hpb, hmb, hsz⟩ := h; refine (restart_any base db sb secs bit armed left down K w d hsz hln hbits hfew).mono ?_
 rintro e w' ⟨rfl, d', f⟩; have fl := LFr.of_dfr f; have hl := stl_len K secs secs.length
 rcases hop K with ho | ho
 ·exact ⟨rfl, HFr.of_l fl, _, _, s, b, isP_l hp fl, iv, wf, d', by rw [hl]; exact h22, by rw [hl]; exact hfew, hlo, stl_wr' K secs, ho, hpb, hmb, Nat.le_trans hsz f.b.size⟩
 ·exact ⟨rfl, HFr.of_l fl, _, _, s, b', isP_l hp fl, iv, wf', d', by rw [hl]; exact h22, by rw [hl]; exact hfew, hlo, stl_wr' K secs, ho, hpb, hmb, Nat.le_trans hsz f.b.size⟩
theorem newF {base pb mb db sb n len : Nat} {f : Nat -> Int × Int × Int} {lvv : Value} {secs : List Sec} {left : Int} {s : St} {b : PB} {w : World} (hp : IsP w pb mb n s) (iv : Inv s) (wf : Wf len ⟨s, b, []⟩) (d : DiskAt w base db sb secs 0 false left false) (h22 : 22 <= secs.length) (hn : secs.length <= 1000) (hlo : left <= 9223372036854775807) (hw : ∀ j, j < secs.length -> secs[j]!.wr = []) (hop : openP secs len = some b) (hpb : base <= pb) (hmb : base <= mb) (hsz : base <= w.heap.size) (hs : SizesAt w lvv len f) (hlv : levelsN len f = 0) (G : Glob w) :
  Calls Tryz.prog 39 #[lvv, .pointer (some ⟨pb, 0, none⟩), .pointer (some ⟨db, 0, none⟩)] w fun e w' => ∃ hb', e = .returned (.tuple #[.pointer (some ⟨hb', 0, none⟩), .nilIface]) /\ Below w.heap.size w w' /\ HX w' base pb mb db sb hb' (rowsOf f len) ⟨s, b, []⟩ n := by
 refine (hnew_any base pb mb n db sb secs false left len f lvv s b w hs hlv hp iv hpb hmb hsz d h22 hn hw ⟨Or.inr rfl, hlo⟩ hop wf.ok G).mono ?_; rintro e w' ⟨hB, L', hb', rfl, hH⟩; exact ⟨hb', rfl, hB, L', secs, left, hH⟩
end Hs
end Go.Proofs.YtopgllmjeliklaaGreatDoor
