/- HsK HsR HsS HvW HsU. -/
import Derived.Test.YtopgllmjeliklaaGreatDoorKtHsH
set_option maxRecDepth 100000
set_option linter.unusedSimpArgs false
set_option linter.unusedVariables false
namespace Go.Proofs.YtopgllmjeliklaaGreatDoor
open Go.Shelf Go.Lib Go.ChangeShapes Go.WideShapes Go.ChangeAt Go.RowKit
namespace Hs
open Bk Lg Pl Dk Tx Tn Ac
def Ticks (m : Nat) : Nat → Sg → Sg → Prop
 | 0, σ, σ' => σ' = σ
 | j + 1, σ, σ' => ∃ τ, Ticks m j σ τ ∧ TickR m τ σ'
def PlayR (lv : List (Int × Int × Int)) (x : ActC) (σ σ' : Sg) : Prop :=
 ((x.kind.toList == [112, 97, 114, 107]) = true ∧ ∃ t k, ParkR lv x.c0 x.c1 x.c2 x.c3 σ σ' t k) ∨
 (∃ k, WantR x.a σ σ' k) ∨ σ' = ⟨σ.s, σ.b, []⟩ ∨
 ((x.kind.toList == [115, 116, 101, 112]) = false ∧ σ' = ⟨outS x σ.s, σ.b, σ.gs⟩) ∨ ∃ j, j ≤ 60 ∧ Ticks lv.length j σ σ'
theorem LFr.glob {base : Nat} {w w' : World} (G : Glob w) (hb : Tryz.prog.globals.size ≤ base) (f : HFr base w w') : Glob w' := G.below f.b hb
def PlayPost (base pb mb db sb : Nat) (lv : List (Int × Int × Int)) (σ : Sg) (n : Nat) (x : ActC) (w : World) (e : Ending) (w' : World) : Prop :=
 ∃ hb' σ', e = .returned (.pointer (some ⟨hb', 0, none⟩)) ∧ HFr base w w' ∧ PlayR lv x σ σ' ∧ HX w' base pb mb db sb hb' lv σ' (n + 60)
set_option maxHeartbeats 8000000 in
theorem play_any (base pb mb db sb hb len : Nat) (f : Nat → Int × Int × Int) (lvv : Value) (σ : Sg) (n : Nat) (x : ActC) (w : World) (h : HX w base pb mb db sb hb (rowsOf f len) σ n) (hs : SizesAt w lvv len f) (hlv : levelsN len f = 0) (hn : n + 60 < maxLen) (hxo : x.Ok) (G : Glob w) (hbg : Tryz.prog.globals.size ≤ base) :
  Calls Tryz.prog 16 #[lvv, .pointer (some ⟨pb, 0, none⟩), .pointer (some ⟨db, 0, none⟩), .pointer (some ⟨hb, 0, none⟩), .agg x.vals] w (PlayPost base pb mb db sb (rowsOf f len) σ n x w) := by
 have hbs : base ≤ w.heap.size := h.sz; have HF : Hid (∀ hb' σ' w', HFr base w w' → PlayR (rowsOf f len) x σ σ' → HX w' base pb mb db sb hb' (rowsOf f len) σ' (n + 60) → PlayPost base pb mb db sb (rowsOf f len) σ n x w (.returned (.pointer (some ⟨hb', 0, none⟩))) w') := fun hb' σ' w' h1 h2 h3 => ⟨hb', σ', rfl, h1, h2, h3⟩
 generalize PlayPost base pb mb db sb (rowsOf f len) σ n x w = PP at *; have H0 : Hid (∀ o, HX (w.alloc o) base pb mb db sb hb (rowsOf f len) σ n) := fun o => h.below (B.new1 w o)
 have G0 : Hid (∀ o, Glob (w.alloc o)) := fun o => G.new (B.new1 w o)
 have F0 : Hid (∀ o w', HFr base (w.alloc o) w' → HFr base w w') := fun o w' hf => (HFr.of_below (B.new1 w o) hbs).trans hf
 have KP : Hid (∀ o, Calls Tryz.prog 29 #[.pointer (some ⟨hb, 0, none⟩), .agg #[.int .i64 x.c0, .int .i64 x.c1, .int .i64 x.c2, .int .i64 x.c3]] (w.alloc o) fun e w' => ∃ t k, e = .returned (.tuple #[.int .i64 t, errV k]) ∧ HFr base (w.alloc o) w' ∧ ∃ σ', ParkR (rowsOf f len) x.c0 x.c1 x.c2 x.c3 σ σ' t k ∧ HX w' base pb mb db sb hb (rowsOf f len) σ' n) := fun o => parkX x.c0 x.c1 x.c2 x.c3 (H0.out o) (G0.out o) hbg
 have KW : Hid (∀ o, Calls Tryz.prog 38 #[.pointer (some ⟨hb, 0, none⟩), .int .i64 x.a] (w.alloc o) fun e w' => ∃ k, e = .returned (errV k) ∧ HFr base (w.alloc o) w' ∧ ∃ σ', WantR x.a σ σ' k ∧ HX w' base pb mb db sb hb (rowsOf f len) σ' n) := fun o => wantX x.a (H0.out o) (G0.out o) hbg
 have KN : Hid (∀ o, Calls Tryz.prog 39 #[lvv, .pointer (some ⟨pb, 0, none⟩), .pointer (some ⟨db, 0, none⟩)] (w.alloc o) fun e w' => ∃ hb', e = .returned (.tuple #[.pointer (some ⟨hb', 0, none⟩), .nilIface]) ∧ Below (w.alloc o).heap.size (w.alloc o) w' ∧ HX w' base pb mb db sb hb' (rowsOf f len) ⟨σ.s, σ.b, []⟩ n) := fun o => newX len f lvv (H0.out o) (hs.below (B.new1 w o)) hlv (G0.out o)
 have KO : Hid (∀ o, Calls Tryz.prog 47 #[.pointer (some ⟨pb, 0, none⟩), .agg x.vals] (w.alloc o) fun e w' => e = .returned (.tuple #[]) ∧ HX w' base pb mb db sb hb (rowsOf f len) ⟨outS x σ.s, σ.b, σ.gs⟩ (n + 1) ∧ HFr base (w.alloc o) w') := fun o => (out_any pb mb n σ.s x (w.alloc o) (H0.out o).p h.iv (by omega)).mono (by
  rintro e w' ⟨rfl, p1, t1⟩; obtain ⟨a1, a2⟩ := (H0.out o).turned t1 p1 (h.iv.out x); exact ⟨rfl, a1, a2⟩)
 have KT : Hid (∀ τ j W, HX W base pb mb db sb hb (rowsOf f len) τ (n + j) → j < 60 → HFr base w W → Calls Tryz.prog 21 #[.pointer (some ⟨hb, 0, none⟩)] W fun e w' => e = .returned .nilIface ∧ HFr base w w' ∧ HFr base W w' ∧ ∃ σ', TickR (rowsOf f len).length τ σ' ∧ HX w' base pb mb db sb hb (rowsOf f len) σ' (n + (j + 1))) := fun τ j W hW hj hf => (tickX hW (by omega) (LFr.glob G hbg hf) hbg).mono (by
  rintro e w' ⟨rfl, hf2, σ', ht, hx⟩; exact ⟨rfl, hf.trans hf2, hf2, σ', ht, hx⟩)
 have ha : Hid (Lit.wf (.int .i64 x.a) = true) := hxo.a; clear h hs hlv hn hxo G; unfold ActC.vals at KO; unfold ActC.vals
 go_enter Tryz.func16, Tryz.ntmps16
 go_wp2_with fail
 ·refine (KP.out _).mono ?_
  rintro e w1 ⟨t, k, rfl, hf, σ', hr, hx⟩; have HQ : Hid (PP (.returned (.pointer (some ⟨hb, 0, none⟩))) w1) := HF.out hb σ' w1 (F0.out _ _ hf) (Or.inl ⟨‹_›, t, k, hr⟩) (hx.le (by omega)); clear HF H0 G0 F0 KP KW KN KO KT hr hx hf ha; generalize errV k = ev; go_wp2; exact HQ.out
 ·refine (KW.out _).mono ?_
  rintro e w1 ⟨k, rfl, hf, σ', hr, hx⟩; have HQ : Hid (PP (.returned (.pointer (some ⟨hb, 0, none⟩))) w1) := HF.out hb σ' w1 (F0.out _ _ hf) (Or.inr (Or.inl ⟨k, hr⟩)) (hx.le (by omega)); clear HF H0 G0 F0 KP KW KN KO KT hr hx hf ha; generalize errV k = ev; go_wp2; exact HQ.out
 ·refine (KN.out _).mono ?_
  rintro e w1 ⟨hb', rfl, hB, hx⟩; have HQ : Hid (PP (.returned (.pointer (some ⟨hb', 0, none⟩))) w1) := HF.out hb' _ w1 (F0.out _ _ (HFr.of_below hB (H0.out _).sz)) (Or.inr (Or.inr (Or.inl rfl))) (hx.le (by omega)); clear HF H0 G0 F0 KP KW KN KO KT hx hB ha; go_wp2; exact HQ.out
 ·refine (KO.out _).mono ?_
  rintro e w1 ⟨rfl, hx, hf⟩
  have hk : (x.kind.toList == [115, 116, 101, 112]) = false := by
   have a := ‹(x.kind.toList == [119, 97, 108, 107]) = true›; rw [beq_iff_eq] at a; rw [a]
   rfl
  have HQ : Hid (PP (.returned (.pointer (some ⟨hb, 0, none⟩))) w1) := HF.out hb _ w1 (F0.out _ _ hf) (Or.inr (Or.inr (Or.inr (Or.inl ⟨hk, rfl⟩)))) (hx.le (by omega)); clear HF H0 G0 F0 KP KW KN KO KT hx hf ha hk; go_wp2; exact HQ.out
 ·exfalso
  have a := ‹(x.kind.toList == [119, 97, 108, 107]) = true›; have b := ‹(x.kind.toList == [119, 97, 108, 107]) = false›; rw [a] at b
  cases b
 ·refine (KO.out _).mono ?_
  rintro e w1 ⟨rfl, hx, hf⟩
  have hk : (x.kind.toList == [115, 116, 101, 112]) = false := by
   have a := ‹(x.kind.toList == [97, 114, 114, 105, 118, 101]) = true›; rw [beq_iff_eq] at a; rw [a]
   rfl
  have HQ : Hid (PP (.returned (.pointer (some ⟨hb, 0, none⟩))) w1) := HF.out hb _ w1 (F0.out _ _ hf) (Or.inr (Or.inr (Or.inr (Or.inl ⟨hk, rfl⟩)))) (hx.le (by omega)); clear HF H0 G0 F0 KP KW KN KO KT hx hf ha hk; go_wp2; exact HQ.out
 ·exfalso
  have a := ‹(x.kind.toList == [97, 114, 114, 105, 118, 101]) = true›; have b := ‹(x.kind.toList == [97, 114, 114, 105, 118, 101]) = false›; rw [a] at b
  cases b
 ·refine (KO.out _).mono ?_
  rintro e w1 ⟨rfl, hx, hf⟩
  have hk : (x.kind.toList == [115, 116, 101, 112]) = false := by
   have a := ‹(x.kind.toList == [108, 101, 97, 118, 101]) = true›; rw [beq_iff_eq] at a; rw [a]
   rfl
  have HQ : Hid (PP (.returned (.pointer (some ⟨hb, 0, none⟩))) w1) := HF.out hb _ w1 (F0.out _ _ hf) (Or.inr (Or.inr (Or.inr (Or.inl ⟨hk, rfl⟩)))) (hx.le (by omega)); clear HF H0 G0 F0 KP KW KN KO KT hx hf ha hk; go_wp2; exact HQ.out
 ·exfalso
  have a := ‹(x.kind.toList == [108, 101, 97, 118, 101]) = true›; have b := ‹(x.kind.toList == [108, 101, 97, 118, 101]) = false›; rw [a] at b
  cases b
 ·refine (KO.out _).mono ?_
  rintro e w1 ⟨rfl, hx, hf⟩
  have hk : (x.kind.toList == [115, 116, 101, 112]) = false := by
   have a := ‹(x.kind.toList == [115, 116, 97, 108, 108]) = true›; rw [beq_iff_eq] at a; rw [a]
   rfl
  have HQ : Hid (PP (.returned (.pointer (some ⟨hb, 0, none⟩))) w1) := HF.out hb _ w1 (F0.out _ _ hf) (Or.inr (Or.inr (Or.inr (Or.inl ⟨hk, rfl⟩)))) (hx.le (by omega)); clear HF H0 G0 F0 KP KW KN KO KT hx hf ha hk; go_wp2; exact HQ.out
 ·obtain ⟨w0, hw0⟩ : ∃ w0, w.alloc (.cells #[.string x.kind, .int .i64 x.a, .int .i64 x.b, .int .i64 x.c0, .int .i64 x.c1, .int .i64 x.c2, .int .i64 x.c3, .string x.s, .int .u64 x.k, .int .i64 x.last, .slice x.sa x.sl x.sc, .slice x.ja x.jl x.jc] 41) = w0 := ⟨_, rfl⟩
  have HW0 : Hid (HX w0 base pb mb db sb hb (rowsOf f len) σ (n + 0) ∧ HFr base w w0 ∧ Blk w0 w.heap.size #[.string x.kind, .int .i64 x.a, .int .i64 x.b, .int .i64 x.c0, .int .i64 x.c1, .int .i64 x.c2, .int .i64 x.c3, .string x.s, .int .u64 x.k, .int .i64 x.last, .slice x.sa x.sl x.sc, .slice x.ja x.jl x.jc] 41) := by
   show _ ∧ _ ∧ _
   rw [← hw0]; exact ⟨H0.out _, HFr.of_below (B.new1 w _) hbs, Blk.new _ _ _⟩
  have z0 := ‹(x.kind.toList == [112, 97, 114, 107]) = false›; have z1 := ‹(x.kind.toList == [119, 97, 110, 116]) = false›; have z2 := ‹(x.kind.toList == [111, 112, 101, 110]) = false›; have z3 := ‹(x.kind.toList == [119, 97, 108, 107]) = false›; have z4 := ‹(x.kind.toList == [97, 114, 114, 105, 118, 101]) = false›; have z5 := ‹(x.kind.toList == [108, 101, 97, 118, 101]) = false›; have z6 := ‹(x.kind.toList == [115, 116, 97, 108, 108]) = false›; simp only [hw0, z0, z1, z2, z3, z4, z5, z6]; clear hw0 z0 z1 z2 z3 z4 z5 z6 H0 G0 F0 KP KW KN KO
  go_loopg [13] 60 (fun q i wr => ∃ (j : Nat) (τ : Sg), j + q = 60 ∧ i = .int .i64 j ∧ Hid (HX wr base pb mb db sb hb (rowsOf f len) τ (n + j)) ∧ Hid (Ticks (rowsOf f len).length j σ τ) ∧ Hid (HFr base w wr) ∧ Hid (Blk wr w.heap.size #[.string x.kind, .int .i64 x.a, .int .i64 x.b, .int .i64 x.c0, .int .i64 x.c1, .int .i64 x.c2, .int .i64 x.c3, .string x.s, .int .u64 x.k, .int .i64 x.last, .slice x.sa x.sl x.sc, .slice x.ja x.jl x.jc] 41))
  case atStart => exact ⟨0, σ, by omega, rfl, HW0.out.1, rfl, HW0.out.2.1, HW0.out.2.2⟩
  case round =>
   clear HW0; obtain ⟨j, τ, hj, rfl, HX1, HT1, HF1, HB1⟩ := hrel; have HJ : Hid (j + gk = 60) := hj; have r := HB1.out.cell; have HEND : Hid (PP (.returned (.pointer (some ⟨hb, 0, none⟩))) wr) := HF.out hb τ wr HF1.out (Or.inr (Or.inr (Or.inr (Or.inr ⟨j, by omega, HT1.out⟩)))) (HX1.out.le (by omega))
   by_cases c1 : (j : Int) < x.a
   ·by_cases c2 : j < 60
    ·have c2' : (j : Int) < 60 := by omega
     have KT1 := hidd (KT.out τ j wr HX1.out c2 HF1.out); clear hj HEND KT; go_wp2_with fail; refine KT1.out.mono ?_; rintro e w2 ⟨rfl, f2, f2', σ', ht, hx⟩; have HX2 : Hid (HX w2 base pb mb db sb hb (rowsOf f len) σ' (n + (j + 1))) := hx; have HT2 : Hid (Ticks (rowsOf f len).length (j + 1) σ σ') := ⟨τ, HT1.out, ht⟩; have HF2 : Hid (HFr base w w2) := f2; have HB2 : Hid (Blk w2 w.heap.size #[.string x.kind, .int .i64 x.a, .int .i64 x.b, .int .i64 x.c0, .int .i64 x.c1, .int .i64 x.c2, .int .i64 x.c3, .string x.s, .int .u64 x.k, .int .i64 x.last, .slice x.sa x.sl x.sc, .slice x.ja x.jl x.jc] 41) := f2'.far _ _ _ (by decide) (by decide) (by decide) (by decide) (by decide) (by decide) HB1.out; clear f2 f2' ht hx KT1 HX1 HT1 HF1 HB1 r; go_wp2_with fail
     go_roundg (gk - 1)
     case measure => have := HJ.out; omega
     case rel => exact ⟨j + 1, σ', by have := HJ.out; omega, by go_num, HX2, HT2, HF2, HB2⟩
    ·have c2' : ¬ (j : Int) < 60 := by omega
     clear hj KT HX1 HT1 HF1 HB1; go_wp2; exact HEND.out
   ·clear hj KT HX1 HT1 HF1 HB1
    go_wp2; exact HEND.out
end Hs
namespace Hs
open Bk Lg Pl Dk Tx Tn Ac
def ReadyPost (len : Nat) (f : Nat → Int × Int × Int) (alen : Nat) (g : Nat → ActC) (w : World) (e : Ending) (w' : World) : Prop :=
 Below w.heap.size w w' ∧ (e = .returned (.tuple #[.pointer none, .pointer none, .pointer none, .bool false]) ∨
  (levelsN len f = 0 ∧ Light alen g 60 ∧ ∃ pb mb db sb hb, e = .returned (.tuple #[.pointer (some ⟨pb, 0, none⟩), .pointer (some ⟨db, 0, none⟩), .pointer (some ⟨hb, 0, none⟩), .bool true]) ∧ HX w' w.heap.size pb mb db sb hb (rowsOf f len) ⟨newS len, ⟨0, [], []⟩, []⟩ 0))
theorem HX.down {w : World} {base base' pb mb db sb hb n : Nat} {lv : List (Int × Int × Int)} {σ : Sg} (h : HX w base pb mb db sb hb lv σ n) (hb' : base' ≤ base) : HX w base' pb mb db sb hb lv σ n := by
 obtain ⟨L, secs, left, h⟩ := h; obtain ⟨vl, vg, h1, h2, h3⟩ := h.h; obtain ⟨vs, vj, l1, l2⟩ := h.l.l; exact ⟨L, secs, left, ⟨vl, vg, h1, h2.base hb', h3⟩, h.p, h.iv, ⟨DiskAt.down h.l.d hb', h.l.len, h.l.few, h.l.wr, h.l.lo, ⟨vs, vj, l1, bookDown l2 hb'⟩, Nat.le_trans hb' h.l.hL, h.l.op⟩, Nat.le_trans hb' h.hpb, Nat.le_trans hb' h.hmb, Nat.le_trans hb' h.hhb, Nat.le_trans hb' h.hsz, h.n1, h.n4, h.ok⟩
set_option maxHeartbeats 4000000 in
theorem ready_any (len : Nat) (f : Nat → Int × Int × Int) (lvv : Value) (alen : Nat) (g : Nat → ActC) (v : Value) (w : World) (hs : SizesAt w lvv len f) (ha : ActsAt w v alen g) (G : Glob w) :
  Calls Tryz.prog 15 #[lvv, v] w (ReadyPost len f alen g w) := by
 have HNO : Hid (∀ w', Below w.heap.size w w' → ReadyPost len f alen g w (.returned (.tuple #[.pointer none, .pointer none, .pointer none, .bool false])) w') := fun w' h => ⟨h, Or.inl rfl⟩
 have HYES : Hid (levelsN len f = 0 → Light alen g 60 → ∀ pb mb db sb hb w', Below w.heap.size w w' → HX w' w.heap.size pb mb db sb hb (rowsOf f len) ⟨newS len, ⟨0, [], []⟩, []⟩ 0 → ReadyPost len f alen g w (.returned (.tuple #[.pointer (some ⟨pb, 0, none⟩), .pointer (some ⟨db, 0, none⟩), .pointer (some ⟨hb, 0, none⟩), .bool true])) w') := fun h1 h2 pb mb db sb hb w' h3 h4 => ⟨h3, Or.inr ⟨h1, h2, pb, mb, db, sb, hb, rfl, h4⟩⟩
 generalize ReadyPost len f alen g w = PP at *; have HC : Hid (Calls Tryz.prog 45 #[lvv] w fun e w' => e = .returned (errV (levelsN len f)) ∧ Below w.heap.size w w') := check_any lvv len f w hs
 have HL : Hid (∀ W, Below w.heap.size w W → Calls Tryz.prog 46 #[v, .int .i64 60] W fun e w' => LightPost alen g 60 W e w') := fun W hB => light_any v alen g 60 W (ha.below hB)
 have HH : Hid (levelsN len f = 0 → ∀ W, Below w.heap.size w W → Calls Tryz.prog 43 #[lvv] W fun e w' => Below W.heap.size W w' ∧ ∃ pb mb db sb hb, e = .returned (.tuple #[.pointer (some ⟨pb, 0, none⟩), .pointer (some ⟨db, 0, none⟩), .pointer (some ⟨hb, 0, none⟩), .bool true]) ∧ HX w' W.heap.size pb mb db sb hb (rowsOf f len) ⟨newS len, ⟨0, [], []⟩, []⟩ 0) := fun h0 W hB => housedX len f lvv W (hs.below hB) h0 (G.new hB)
 obtain ⟨a, cap, rfl, hl, hm, hc⟩ := hs; clear hc ha G hl hm
 by_cases c1 : (6 : Int) < (len : Int)
 ·have HQ : Hid (PP (.returned (.tuple #[.pointer none, .pointer none, .pointer none, .bool false])) w) := HNO.out w (Below.refl _ _)
  clear HNO HYES HC HL HH
  go_enter Tryz.func15, Tryz.ntmps15
  go_wp2; go_returns; exact HQ.out
 go_enter Tryz.func15, Tryz.ntmps15
 go_wp2_with fail; refine HC.out.mono ?_; rintro e w1 ⟨rfl, b1⟩; have X1 : Hid (Below w.heap.size w w1) := b1
 by_cases c2 : levelsN len f = 0
 case neg =>
  rw [errV_ne c2]; have HQ : Hid (PP (.returned (.tuple #[.pointer none, .pointer none, .pointer none, .bool false])) w1) := HNO.out w1 X1.out; clear HNO HYES HC HL HH b1 X1 c2; go_wp2; go_returns; exact HQ.out
 rw [c2, errV0]; have HL1 := hidd (HL.out w1 X1.out); have HH1 := hidd (HH.out c2); have HY1 := hidd (HYES.out c2); clear HC HL HH HYES b1 c2; go_wp2_with fail; refine HL1.out.mono ?_; rintro e w2 ⟨q, rfl, hq, rfl⟩; have HQ2 : Hid (q = true → Light alen g 60) := hq; clear hq HL1
 cases q
 ·have HQ : Hid (PP (.returned (.tuple #[.pointer none, .pointer none, .pointer none, .bool false])) w2) := HNO.out w2 X1.out
  clear HNO HH1 HY1 X1; go_wp2; go_returns; exact HQ.out
 ·have HHW := hidd (HH1.out w2 X1.out)
  clear HNO HH1; go_wp2_with fail; refine HHW.out.mono ?_; rintro e w3 ⟨b3, pb, mb, db, sb, hb, rfl, hx⟩; have HQ : Hid (PP (.returned (.tuple #[.pointer (some ⟨pb, 0, none⟩), .pointer (some ⟨db, 0, none⟩), .pointer (some ⟨hb, 0, none⟩), .bool true])) w3) := HY1.out (by have h := HQ2.out; simpa using h) pb mb db sb hb w3 (B.next X1.out b3 X1.out.size) (hx.down X1.out.size); clear HHW HY1 HQ2 b3 hx X1; go_wp2; go_returns; exact HQ.out
end Hs
namespace Hs
open Bk Lg Pl Dk Tx Tn Ac
end Hs
end Go.Proofs.YtopgllmjeliklaaGreatDoor
namespace Go.Proofs.YtopgllmjeliklaaGreatDoor
open Go.Shelf Go.Lib Go.ChangeShapes Go.WideShapes Go.ChangeAt Go.RowKit Go.Maps
namespace Hs
open Bk Lg Pl Dk Tx Tn Ac
def tickF (m : Nat) (σ : Sg) : Option Sg :=
 match σ.gs with
 | g :: l => some ⟨(followS (g :: l) σ.s).2, σ.b, (followS (g :: l) σ.s).1⟩
 | [] =>
   if σ.s.li ≠ 0 then some ⟨(followS (unloadG σ.b.book σ.s (vB σ.b.book) (vJ σ.b.book σ.s).t (vJ σ.b.book σ.s).f (vS σ.b.book σ.s) m 1 0) σ.s).2, σ.b, (followS (unloadG σ.b.book σ.s (vB σ.b.book) (vJ σ.b.book σ.s).t (vJ σ.b.book σ.s).f (vS σ.b.book σ.s) m 1 0) σ.s).1⟩
   else if spareB σ.b.book σ.s m (vB σ.b.book) (vJ σ.b.book σ.s).f (vS σ.b.book σ.s) = true then none
   else if vB σ.b.book = false then some ⟨(followS (welG σ.s) σ.s).2, σ.b, (followS (welG σ.s) σ.s).1⟩
   else if overB σ.s (vJ σ.b.book σ.s).f (vS σ.b.book σ.s) = true then some ⟨σ.s, overB2 σ.b σ.s, []⟩
   else if (vJ σ.b.book σ.s).f = true then none
   else some ⟨(followS (putG σ.s (vS σ.b.book σ.s)) σ.s).2, σ.b, (followS (putG σ.s (vS σ.b.book σ.s)) σ.s).1⟩
theorem tickF_is {m : Nat} {σ σ' τ : Sg} (h : TickR m σ σ') (k : tickF m σ = some τ) : σ' = τ := by
 obtain ⟨s, b, gs⟩ := σ; unfold tickF at k
 rcases h with ⟨h1, rfl⟩ | ⟨h1, l, hl, rfl⟩ | ⟨h1, hc, rfl⟩
 ·simp only at h1 k ⊢
  cases gs with
  | nil => exact absurd rfl h1
  | cons g l => simpa using k
 ·simp only at h1 hl k ⊢
  subst h1; unfold nextL NextL at hl; simp only at k
  rcases hl with ⟨a, rfl⟩ | ⟨a, a1, rfl⟩ | ⟨a, a1, a2, rfl⟩ | ⟨a, a1, a2, a3, ⟨a4, _⟩ | ⟨a4, rfl⟩⟩
  ·rw [if_pos a] at k; simpa using k
  ·rw [if_neg (by simp [a]), if_pos a1] at k; cases k
  ·rw [if_neg (by simp [a]), if_neg (by simp [a1]), if_pos a2] at k; simpa using k
  ·rw [if_neg (by simp [a]), if_neg (by simp [a1]), if_neg (by simp [a2]), if_neg (by simp [a3]), if_pos a4] at k; cases k
  ·rw [if_neg (by simp [a]), if_neg (by simp [a1]), if_neg (by simp [a2]), if_neg (by simp [a3]), if_neg (by simp [a4])] at k; simpa using k
 ·simp only at h1 hc k ⊢
  subst h1; obtain ⟨a, a1, a2, a3⟩ := hc; simp only at k; rw [if_neg (by simp [a]), if_neg (by simp [a1]), if_neg (by simp [a2]), if_pos a3] at k
  simpa using k
def ticksF (m : Nat) : Nat → Sg → Option Sg
 | 0, σ => some σ
 | j + 1, σ => (ticksF m j σ).bind (tickF m)
theorem ticksF_is {m : Nat} : ∀ (j : Nat) {σ σ' τ : Sg}, Ticks m j σ σ' → ticksF m j σ = some τ → σ' = τ
 | 0, σ, σ', τ, h, k => by rw [show σ' = σ from h]; simpa [ticksF] using k
 | j + 1, σ, σ', τ, ⟨ρ, h1, h2⟩, k => by
   unfold ticksF at k
   cases hj : ticksF m j σ with
   | none => rw [hj] at k; cases k
   | some ρ' =>
     rw [hj] at k; have := ticksF_is j h1 hj; subst this; exact tickF_is h2 k
def wk0 : Sg := ⟨{ newS 1 with ba := 7 }, ⟨1, [⟨1, 7, 1, 1, 1, 1, 0, 1⟩], [⟨1, false⟩]⟩, []⟩
theorem wk_pick : pickO (⟨0, [], []⟩ : PB).book (fOf [(99, 99, 99)]) 1 1 1 1 = some (1, 0, 1) := by decide +kernel
theorem wk_park : parkN (⟨0, [], []⟩ : PB).book (fOf [(99, 99, 99)]) 1 7 1 1 1 = 0 := by decide +kernel
theorem wk_arrive : arriveS 7 (newS 1) = { newS 1 with ba := 7 } := by
 have : arriveB 7 (newS 1) = true := by kernel_rfl
 unfold arriveS; rw [if_pos this]
theorem wk_ticks : (ticksF 1 40 wk0).map (fun τ => carOf τ.s.D 1 0 1) = some 7 := by kernel_rfl
theorem wk_end {σ : Sg} (h : Ticks 1 40 wk0 σ) : carOf σ.s.D 1 0 1 = 7 := by
 have k := wk_ticks
 cases hj : ticksF 1 40 wk0 with
 | none => rw [hj] at k; cases k
 | some τ =>
   rw [hj] at k; rw [ticksF_is 40 h hj]
   simpa using k
theorem wk_parked {σ : Sg} {t k : Int} (h : ParkR [(99, 99, 99)] 7 1 1 1 ⟨{ newS 1 with ba := 7 }, ⟨0, [], []⟩, []⟩ σ t k) : k = 0 ∧ t = 1 ∧ σ = wk0 := by
 rcases h with ⟨h0, _, _, h1 | h1⟩ | ⟨h0, h1, _, _, _, po, hpo, rfl⟩
 ·rcases h1.2 with h | h
  ·exact absurd h (by decide)
  ·exact absurd rfl h
 ·have := wk_park
  have e := h1.2.2; rw [show (parkN (⟨0, [], []⟩ : PB).book (fOf [(99, 99, 99)]) [((99 : Int), (99 : Int), (99 : Int))].length 7 1 1 1) = 0 from this] at e
  exact absurd e.symm h0
 ·have := wk_pick
  rw [show pickO (⟨0, [], []⟩ : PB).book (fOf [(99, 99, 99)]) 1 1 1 [((99 : Int), (99 : Int), (99 : Int))].length = some (1, 0, 1) from this] at hpo
  injection hpo with hpo; subst hpo; exact ⟨h0, h1, rfl⟩
end Hs
end Go.Proofs.YtopgllmjeliklaaGreatDoor
namespace Go.Proofs.YtopgllmjeliklaaGreatDoor
open Go.Shelf Go.Lib Go.ChangeShapes Go.WideShapes Go.ChangeAt Go.RowKit
namespace Hs
open Bk Lg Pl Dk Tx Tn Ac
theorem wk_err : arriveE 7 (newS 1) = .nilIface := by
 have : arriveB 7 (newS 1) = true := by kernel_rfl
 simp only [arriveB, Bool.and_eq_true, decide_eq_true_eq, beq_iff_eq, Bool.not_eq_true'] at this; unfold arriveE; rw [if_pos this.1.1.1, if_pos ⟨this.1.1.2, this.1.2⟩, if_neg (by rw [this.2]; decide)]
set_option maxHeartbeats 8000000 in
theorem works_any (w : World) (G : Glob w) : Calls Tryz.prog 14 #[] w fun e w' => e = .returned (.bool true) ∧ Below w.heap.size w w' := by
 have HO : Hid (Calls Tryz.prog 44 #[] w fun e w' => ∃ v, e = .returned v ∧ SizesAt w' v 1 (fun _ => (99, 99, 99)) ∧ Below w.heap.size w w') := one_any w
 have HH : Hid (∀ v W, Below w.heap.size w W → SizesAt W v 1 (fun _ => (99, 99, 99)) → Calls Tryz.prog 43 #[v] W fun e w' => ∃ pb mb db sb hb, e = .returned (.tuple #[.pointer (some ⟨pb, 0, none⟩), .pointer (some ⟨db, 0, none⟩), .pointer (some ⟨hb, 0, none⟩), .bool true]) ∧ HX w' w.heap.size pb mb db sb hb [(99, 99, 99)] ⟨newS 1, ⟨0, [], []⟩, []⟩ 0 ∧ HFr w.heap.size w w') := fun v W hB hs => (housedX 1 (fun _ => (99, 99, 99)) v W hs (by decide +kernel) (G.new hB)).mono (by
  rintro e w' ⟨b1, pb, mb, db, sb, hb, rfl, hx⟩; exact ⟨pb, mb, db, sb, hb, rfl, hx.down hB.size, (HFr.of_below hB (Nat.le_refl _)).trans (HFr.of_below b1 hB.size)⟩)
 have HG : Hid (∀ W, HFr w.heap.size w W → Glob W) := fun W hf => G.below hf.b G.hn
 have hbg : Tryz.prog.globals.size ≤ w.heap.size := G.hn
 have HA : Hid (∀ pb mb db sb hb W, HX W w.heap.size pb mb db sb hb [(99, 99, 99)] ⟨newS 1, ⟨0, [], []⟩, []⟩ 0 → HFr w.heap.size w W → Calls Tryz.prog 25 #[.pointer (some ⟨pb, 0, none⟩), .int .i64 7] W fun e w' => e = .returned .nilIface ∧ HX w' w.heap.size pb mb db sb hb [(99, 99, 99)] ⟨{ newS 1 with ba := 7 }, ⟨0, [], []⟩, []⟩ 0 ∧ HFr w.heap.size w w') := fun pb mb db sb hb W hx hf => (arrive_any pb mb 0 (newS 1) 7 W hx.p hx.iv).mono (by
  rintro e w' ⟨rfl, p1, t1⟩; have iv := hx.iv.arrive 7; rw [wk_arrive] at p1 iv; obtain ⟨a1, a2⟩ := hx.turned t1 p1 iv; exact ⟨by rw [wk_err], a1, hf.trans a2⟩)
 have HP : Hid (∀ pb mb db sb hb W, HX W w.heap.size pb mb db sb hb [(99, 99, 99)] ⟨{ newS 1 with ba := 7 }, ⟨0, [], []⟩, []⟩ 0 → HFr w.heap.size w W → Calls Tryz.prog 29 #[.pointer (some ⟨hb, 0, none⟩), .agg #[.int .i64 7, .int .i64 1, .int .i64 1, .int .i64 1]] W fun e w' => e = .returned (.tuple #[.int .i64 1, .nilIface]) ∧ HX w' w.heap.size pb mb db sb hb [(99, 99, 99)] wk0 0 ∧ HFr w.heap.size w w') := fun pb mb db sb hb W hx hf => (parkX 7 1 1 1 hx (HG.out W hf) hbg).mono (by
  rintro e w' ⟨t, k, rfl, f2, σ', hp, h2⟩; obtain ⟨rfl, rfl, rfl⟩ := wk_parked hp; exact ⟨rfl, h2, hf.trans f2⟩)
 have HT : Hid (∀ pb mb db sb hb τ j W, HX W w.heap.size pb mb db sb hb [(99, 99, 99)] τ j → j < 40 → HFr w.heap.size w W → Calls Tryz.prog 21 #[.pointer (some ⟨hb, 0, none⟩)] W fun e w' => e = .returned .nilIface ∧ HFr w.heap.size w w' ∧ ∃ σ', TickR 1 τ σ' ∧ HX w' w.heap.size pb mb db sb hb [(99, 99, 99)] σ' (j + 1)) := fun pb mb db sb hb τ j W hx hj hf => (tickX hx (by unfold maxLen; omega) (HG.out W hf) hbg).mono (by
  rintro e w' ⟨rfl, f2, σ', ht, h2⟩; exact ⟨rfl, hf.trans f2, σ', ht, h2⟩)
 have HAT : Hid (∀ pb mb db sb hb σ n W, HX W w.heap.size pb mb db sb hb [(99, 99, 99)] σ n → carOf σ.s.D 1 0 1 = 7 → Calls Tryz.prog 34 #[.pointer (some ⟨pb, 0, none⟩), .agg #[.int .i64 1, .int .i64 0, .int .i64 1]] W fun e w' => e = .returned (.int .i64 7) ∧ Below W.heap.size W w') := fun pb mb db sb hb σ n W hx hc => by
  have := at_any pb mb n σ.s.D 1 0 1 W hx.p.c7 hx.p.cars (wfI (by omega)) (wfI (by omega)) (wfI (by omega))
  rwa [hc] at this
 clear hbg G
 go_enter Tryz.func14, Tryz.ntmps14
 go_wp2_with fail; refine HO.out.mono ?_; rintro e w1 ⟨v, rfl, hs, b1⟩; have HH1 := hidd (HH.out v w1 b1 hs); clear HO HH hs b1; go_wp2_with fail; refine HH1.out.mono ?_; rintro e w2 ⟨pb, mb, db, sb, hb, rfl, hx2, f2⟩; have HA2 := hidd (HA.out pb mb db sb hb w2 hx2 f2); clear HH1 HA hx2 f2; go_wp2_with fail; refine HA2.out.mono ?_; rintro e w3 ⟨rfl, hx3, f3⟩; have HP3 := hidd (HP.out pb mb db sb hb w3 hx3 f3); clear HA2 HP hx3 f3; go_wp2_with fail; refine HP3.out.mono ?_; rintro e w4 ⟨rfl, hx4, f4⟩; have HX4 : Hid (HX w4 w.heap.size pb mb db sb hb [(99, 99, 99)] wk0 0) := hx4; have HF4 : Hid (HFr w.heap.size w w4) := f4; clear HP3 hx4 f4; go_wp2_with fail
 go_loopg [7] 40 (fun q i wr => ∃ (j : Nat) (τ : Sg), j + q = 40 ∧ i = .int .i64 j ∧ Hid (HX wr w.heap.size pb mb db sb hb [(99, 99, 99)] τ j) ∧ Hid (Ticks 1 j wk0 τ) ∧ Hid (HFr w.heap.size w wr))
 case atStart => exact ⟨0, wk0, by omega, rfl, HX4, rfl, HF4⟩
 case round =>
  clear HX4 HF4; obtain ⟨j, τ, hj, rfl, HXi, HTi, HFi⟩ := hrel; have HJ : Hid (j + gk = 40) := hj
  by_cases hlt : j < 40
  ·have hlt' : (j : Int) < 40 := by omega
   have HT1 := hidd (HT.out pb mb db sb hb τ j wr HXi.out hlt HFi.out); clear hj HT HAT; go_wp2_with fail; refine HT1.out.mono ?_; rintro e w5 ⟨rfl, f5, σ', ht, hx5⟩; have HX5 : Hid (HX w5 w.heap.size pb mb db sb hb [(99, 99, 99)] σ' (j + 1)) := hx5; have HT5 : Hid (Ticks 1 (j + 1) wk0 σ') := ⟨τ, HTi.out, ht⟩; have HF5 : Hid (HFr w.heap.size w w5) := f5; clear HT1 f5 ht hx5 HXi HTi HFi; go_wp2_with fail
   go_roundg (gk - 1)
   case measure => have := HJ.out; omega
   case rel => exact ⟨j + 1, σ', by have := HJ.out; omega, by go_num, HX5, HT5, HF5⟩
  ·have hlt' : ¬ (j : Int) < 40 := by omega
   have hj40 : j = 40 := by have := HJ.out; omega
   have HAT1 := hidd (HAT.out pb mb db sb hb τ j wr HXi.out (wk_end (by rw [← hj40]; exact HTi.out))); have HX6 : Hid (∀ W, Below wr.heap.size wr W → Below w.heap.size w W) := fun W hB => B.next HFi.out.b hB (Nat.le_trans HXi.out.sz (Nat.le_refl _))
   clear hj HT HAT hj40 HXi HTi HFi; go_wp2_with fail; refine HAT1.out.mono ?_; rintro e w6 ⟨rfl, b6⟩; have HB6 : Hid (Below w.heap.size w w6) := HX6.out w6 b6; clear HAT1 HX6 b6; go_wp2; go_returns; exact ⟨rfl, HB6.out⟩
end Hs
end Go.Proofs.YtopgllmjeliklaaGreatDoor
