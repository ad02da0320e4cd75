/- Chapter 11: an act is played by the laws (play); contract. -/
import Derived.Test.YtopgllmjeliklaaGreatDoorJHsH
namespace Go.Proofs.YtopgllmjeliklaaGreatDoor
open Go.Shelf Go.Lib Go.ChangeShapes Go.WideShapes Go.ChangeAt Go.RowKit
set_option maxRecDepth 100000
set_option linter.unusedSimpArgs false
set_option linter.unusedVariables false

namespace Hs
open Bk Lg Pl Dk Tx Tn Ac
/-- So many ticks. -/
def Ticks (m : Nat) : Nat → Sg → Sg → Prop
  | 0, σ, σ' => σ' = σ
  | j + 1, σ, σ' => ∃ τ, Ticks m j σ τ ∧ TickR m τ σ'
/-- What an act may come to. -/
def PlayR (lv : List (Int × Int × Int)) (x : ActC) (σ σ' : Sg) : Prop :=
  ((x.kind.toList == [112, 97, 114, 107]) = true ∧ ∃ t k, ParkR lv x.c0 x.c1 x.c2 x.c3 σ σ' t k) ∨
  (∃ k, WantR x.a σ σ' k) ∨ σ' = ⟨σ.s, σ.b, []⟩ ∨
  ((x.kind.toList == [115, 116, 101, 112]) = false ∧ σ' = ⟨outS x σ.s, σ.b, σ.gs⟩) ∨ ∃ j, j ≤ 60 ∧ Ticks lv.length j σ σ'
theorem LFr.glob {base : Nat} {w w' : World} (G : Glob w) (hb : Tryz.prog.globals.size ≤ base) (f : HFr base w w') : Glob w' := G.below f.b hb
def PlayPost (base pb mb db sb : Nat) (lv : List (Int × Int × Int)) (σ : Sg) (n : Nat) (x : ActC) (w : World) (e : Ending) (w' : World) : Prop :=
  ∃ hb' σ', e = .returned (.pointer (some ⟨hb', 0, none⟩)) ∧ HFr base w w' ∧ PlayR lv x σ σ' ∧ HX w' base pb mb db sb hb' lv σ' (n + 60)

set_option maxHeartbeats 8000000 in
theorem play_any (base pb mb db sb hb len : Nat) (f : Nat → Int × Int × Int) (lvv : Value) (σ : Sg) (n : Nat) (x : ActC) (w : World) (h : HX w base pb mb db sb hb (rowsOf f len) σ n) (hs : SizesAt w lvv len f) (hlv : levelsN len f = 0) (hn : n + 60 < maxLen) (hxo : x.Ok) (G : Glob w) (hbg : Tryz.prog.globals.size ≤ base) :
    Calls Tryz.prog 16 #[lvv, .pointer (some ⟨pb, 0, none⟩), .pointer (some ⟨db, 0, none⟩), .pointer (some ⟨hb, 0, none⟩), .agg x.vals] w (PlayPost base pb mb db sb (rowsOf f len) σ n x w) := by
  have hbs : base ≤ w.heap.size := h.sz
  have HF : Hid (∀ hb' σ' w', HFr base w w' → PlayR (rowsOf f len) x σ σ' → HX w' base pb mb db sb hb' (rowsOf f len) σ' (n + 60) → PlayPost base pb mb db sb (rowsOf f len) σ n x w (.returned (.pointer (some ⟨hb', 0, none⟩))) w') := fun hb' σ' w' h1 h2 h3 => ⟨hb', σ', rfl, h1, h2, h3⟩
  generalize PlayPost base pb mb db sb (rowsOf f len) σ n x w = PP at *
  have H0 : Hid (∀ o, HX (w.alloc o) base pb mb db sb hb (rowsOf f len) σ n) := fun o => h.below (B.new1 w o)
  have G0 : Hid (∀ o, Glob (w.alloc o)) := fun o => G.new (B.new1 w o)
  have F0 : Hid (∀ o w', HFr base (w.alloc o) w' → HFr base w w') := fun o w' hf => (HFr.of_below (B.new1 w o) hbs).trans hf
  have KP : Hid (∀ o, Calls Tryz.prog 29 #[.pointer (some ⟨hb, 0, none⟩), .agg #[.int .i64 x.c0, .int .i64 x.c1, .int .i64 x.c2, .int .i64 x.c3]] (w.alloc o) fun e w' => ∃ t k, e = .returned (.tuple #[.int .i64 t, errV k]) ∧ HFr base (w.alloc o) w' ∧ ∃ σ', ParkR (rowsOf f len) x.c0 x.c1 x.c2 x.c3 σ σ' t k ∧ HX w' base pb mb db sb hb (rowsOf f len) σ' n) := fun o => parkX x.c0 x.c1 x.c2 x.c3 (H0.out o) (G0.out o) hbg
  have KW : Hid (∀ o, Calls Tryz.prog 38 #[.pointer (some ⟨hb, 0, none⟩), .int .i64 x.a] (w.alloc o) fun e w' => ∃ k, e = .returned (errV k) ∧ HFr base (w.alloc o) w' ∧ ∃ σ', WantR x.a σ σ' k ∧ HX w' base pb mb db sb hb (rowsOf f len) σ' n) := fun o => wantX x.a (H0.out o) (G0.out o) hbg
  have KN : Hid (∀ o, Calls Tryz.prog 39 #[lvv, .pointer (some ⟨pb, 0, none⟩), .pointer (some ⟨db, 0, none⟩)] (w.alloc o) fun e w' => ∃ hb', e = .returned (.tuple #[.pointer (some ⟨hb', 0, none⟩), .nilIface]) ∧ Below (w.alloc o).heap.size (w.alloc o) w' ∧ HX w' base pb mb db sb hb' (rowsOf f len) ⟨σ.s, σ.b, []⟩ n) := fun o => newX len f lvv (H0.out o) (hs.below (B.new1 w o)) hlv (G0.out o)
  have KO : Hid (∀ o, Calls Tryz.prog 47 #[.pointer (some ⟨pb, 0, none⟩), .agg x.vals] (w.alloc o) fun e w' => e = .returned (.tuple #[]) ∧ HX w' base pb mb db sb hb (rowsOf f len) ⟨outS x σ.s, σ.b, σ.gs⟩ (n + 1) ∧ HFr base (w.alloc o) w') := fun o => (out_any pb mb n σ.s x (w.alloc o) (H0.out o).p h.iv (by omega)).mono (by
    rintro e w' ⟨rfl, p1, t1⟩
    obtain ⟨a1, a2⟩ := (H0.out o).turned t1 p1 (h.iv.out x)
    exact ⟨rfl, a1, a2⟩)
  have KT : Hid (∀ τ j W, HX W base pb mb db sb hb (rowsOf f len) τ (n + j) → j < 60 → HFr base w W → Calls Tryz.prog 21 #[.pointer (some ⟨hb, 0, none⟩)] W fun e w' => e = .returned .nilIface ∧ HFr base w w' ∧ HFr base W w' ∧ ∃ σ', TickR (rowsOf f len).length τ σ' ∧ HX w' base pb mb db sb hb (rowsOf f len) σ' (n + (j + 1))) := fun τ j W hW hj hf => (tickX hW (by omega) (LFr.glob G hbg hf) hbg).mono (by
    rintro e w' ⟨rfl, hf2, σ', ht, hx⟩
    exact ⟨rfl, hf.trans hf2, hf2, σ', ht, hx⟩)
  have ha : Hid (Lit.wf (.int .i64 x.a) = true) := hxo.a
  clear h hs hlv hn hxo G
  unfold ActC.vals at KO
  unfold ActC.vals
  go_enter Tryz.func16, Tryz.ntmps16
  go_wp2_with fail
  · refine (KP.out _).mono ?_
    rintro e w1 ⟨t, k, rfl, hf, σ', hr, hx⟩
    have HQ : Hid (PP (.returned (.pointer (some ⟨hb, 0, none⟩))) w1) := HF.out hb σ' w1 (F0.out _ _ hf) (Or.inl ⟨‹_›, t, k, hr⟩) (hx.le (by omega))
    clear HF H0 G0 F0 KP KW KN KO KT hr hx hf ha
    generalize errV k = ev
    go_wp2
    exact HQ.out
  · refine (KW.out _).mono ?_
    rintro e w1 ⟨k, rfl, hf, σ', hr, hx⟩
    have HQ : Hid (PP (.returned (.pointer (some ⟨hb, 0, none⟩))) w1) := HF.out hb σ' w1 (F0.out _ _ hf) (Or.inr (Or.inl ⟨k, hr⟩)) (hx.le (by omega))
    clear HF H0 G0 F0 KP KW KN KO KT hr hx hf ha
    generalize errV k = ev
    go_wp2
    exact HQ.out
  · refine (KN.out _).mono ?_
    rintro e w1 ⟨hb', rfl, hB, hx⟩
    have HQ : Hid (PP (.returned (.pointer (some ⟨hb', 0, none⟩))) w1) := HF.out hb' _ w1 (F0.out _ _ (HFr.of_below hB (H0.out _).sz)) (Or.inr (Or.inr (Or.inl rfl))) (hx.le (by omega))
    clear HF H0 G0 F0 KP KW KN KO KT hx hB ha
    go_wp2
    exact HQ.out
  · refine (KO.out _).mono ?_
    rintro e w1 ⟨rfl, hx, hf⟩
    have hk : (x.kind.toList == [115, 116, 101, 112]) = false := by
      have a := ‹(x.kind.toList == [119, 97, 108, 107]) = true›
      rw [beq_iff_eq] at a
      rw [a]
      rfl
    have HQ : Hid (PP (.returned (.pointer (some ⟨hb, 0, none⟩))) w1) := HF.out hb _ w1 (F0.out _ _ hf) (Or.inr (Or.inr (Or.inr (Or.inl ⟨hk, rfl⟩)))) (hx.le (by omega))
    clear HF H0 G0 F0 KP KW KN KO KT hx hf ha hk
    go_wp2
    exact HQ.out
  · exfalso
    have a := ‹(x.kind.toList == [119, 97, 108, 107]) = true›
    have b := ‹(x.kind.toList == [119, 97, 108, 107]) = false›
    rw [a] at b
    cases b
  · refine (KO.out _).mono ?_
    rintro e w1 ⟨rfl, hx, hf⟩
    have hk : (x.kind.toList == [115, 116, 101, 112]) = false := by
      have a := ‹(x.kind.toList == [97, 114, 114, 105, 118, 101]) = true›
      rw [beq_iff_eq] at a
      rw [a]
      rfl
    have HQ : Hid (PP (.returned (.pointer (some ⟨hb, 0, none⟩))) w1) := HF.out hb _ w1 (F0.out _ _ hf) (Or.inr (Or.inr (Or.inr (Or.inl ⟨hk, rfl⟩)))) (hx.le (by omega))
    clear HF H0 G0 F0 KP KW KN KO KT hx hf ha hk
    go_wp2
    exact HQ.out
  · exfalso
    have a := ‹(x.kind.toList == [97, 114, 114, 105, 118, 101]) = true›
    have b := ‹(x.kind.toList == [97, 114, 114, 105, 118, 101]) = false›
    rw [a] at b
    cases b
  · refine (KO.out _).mono ?_
    rintro e w1 ⟨rfl, hx, hf⟩
    have hk : (x.kind.toList == [115, 116, 101, 112]) = false := by
      have a := ‹(x.kind.toList == [108, 101, 97, 118, 101]) = true›
      rw [beq_iff_eq] at a
      rw [a]
      rfl
    have HQ : Hid (PP (.returned (.pointer (some ⟨hb, 0, none⟩))) w1) := HF.out hb _ w1 (F0.out _ _ hf) (Or.inr (Or.inr (Or.inr (Or.inl ⟨hk, rfl⟩)))) (hx.le (by omega))
    clear HF H0 G0 F0 KP KW KN KO KT hx hf ha hk
    go_wp2
    exact HQ.out
  · exfalso
    have a := ‹(x.kind.toList == [108, 101, 97, 118, 101]) = true›
    have b := ‹(x.kind.toList == [108, 101, 97, 118, 101]) = false›
    rw [a] at b
    cases b
  · refine (KO.out _).mono ?_
    rintro e w1 ⟨rfl, hx, hf⟩
    have hk : (x.kind.toList == [115, 116, 101, 112]) = false := by
      have a := ‹(x.kind.toList == [115, 116, 97, 108, 108]) = true›
      rw [beq_iff_eq] at a
      rw [a]
      rfl
    have HQ : Hid (PP (.returned (.pointer (some ⟨hb, 0, none⟩))) w1) := HF.out hb _ w1 (F0.out _ _ hf) (Or.inr (Or.inr (Or.inr (Or.inl ⟨hk, rfl⟩)))) (hx.le (by omega))
    clear HF H0 G0 F0 KP KW KN KO KT hx hf ha hk
    go_wp2
    exact HQ.out
  · obtain ⟨w0, hw0⟩ : ∃ w0, w.alloc (.cells #[.string x.kind, .int .i64 x.a, .int .i64 x.b, .int .i64 x.c0, .int .i64 x.c1, .int .i64 x.c2, .int .i64 x.c3, .string x.s, .int .u64 x.k, .int .i64 x.last, .slice x.sa x.sl x.sc, .slice x.ja x.jl x.jc] 41) = w0 := ⟨_, rfl⟩
    have HW0 : Hid (HX w0 base pb mb db sb hb (rowsOf f len) σ (n + 0) ∧ HFr base w w0 ∧ Blk w0 w.heap.size #[.string x.kind, .int .i64 x.a, .int .i64 x.b, .int .i64 x.c0, .int .i64 x.c1, .int .i64 x.c2, .int .i64 x.c3, .string x.s, .int .u64 x.k, .int .i64 x.last, .slice x.sa x.sl x.sc, .slice x.ja x.jl x.jc] 41) := by
      show _ ∧ _ ∧ _
      rw [← hw0]
      exact ⟨H0.out _, HFr.of_below (B.new1 w _) hbs, Blk.new _ _ _⟩
    have z0 := ‹(x.kind.toList == [112, 97, 114, 107]) = false›
    have z1 := ‹(x.kind.toList == [119, 97, 110, 116]) = false›
    have z2 := ‹(x.kind.toList == [111, 112, 101, 110]) = false›
    have z3 := ‹(x.kind.toList == [119, 97, 108, 107]) = false›
    have z4 := ‹(x.kind.toList == [97, 114, 114, 105, 118, 101]) = false›
    have z5 := ‹(x.kind.toList == [108, 101, 97, 118, 101]) = false›
    have z6 := ‹(x.kind.toList == [115, 116, 97, 108, 108]) = false›
    simp only [hw0, z0, z1, z2, z3, z4, z5, z6]
    clear hw0 z0 z1 z2 z3 z4 z5 z6 H0 G0 F0 KP KW KN KO
    go_loopg [13] 60 (fun q i wr => ∃ (j : Nat) (τ : Sg), j + q = 60 ∧ i = .int .i64 j ∧ Hid (HX wr base pb mb db sb hb (rowsOf f len) τ (n + j)) ∧ Hid (Ticks (rowsOf f len).length j σ τ) ∧ Hid (HFr base w wr) ∧ Hid (Blk wr w.heap.size #[.string x.kind, .int .i64 x.a, .int .i64 x.b, .int .i64 x.c0, .int .i64 x.c1, .int .i64 x.c2, .int .i64 x.c3, .string x.s, .int .u64 x.k, .int .i64 x.last, .slice x.sa x.sl x.sc, .slice x.ja x.jl x.jc] 41))
    case atStart => exact ⟨0, σ, by omega, rfl, HW0.out.1, rfl, HW0.out.2.1, HW0.out.2.2⟩
    case round =>
      clear HW0
      obtain ⟨j, τ, hj, rfl, HX1, HT1, HF1, HB1⟩ := hrel
      have HJ : Hid (j + gk = 60) := hj
      have r := HB1.out.cell
      have HEND : Hid (PP (.returned (.pointer (some ⟨hb, 0, none⟩))) wr) := HF.out hb τ wr HF1.out (Or.inr (Or.inr (Or.inr (Or.inr ⟨j, by omega, HT1.out⟩)))) (HX1.out.le (by omega))
      by_cases c1 : (j : Int) < x.a
      · by_cases c2 : j < 60
        · have c2' : (j : Int) < 60 := by omega
          have KT1 := hidd (KT.out τ j wr HX1.out c2 HF1.out)
          clear hj HEND KT
          go_wp2_with fail
          refine KT1.out.mono ?_
          rintro e w2 ⟨rfl, f2, f2', σ', ht, hx⟩
          have HX2 : Hid (HX w2 base pb mb db sb hb (rowsOf f len) σ' (n + (j + 1))) := hx
          have HT2 : Hid (Ticks (rowsOf f len).length (j + 1) σ σ') := ⟨τ, HT1.out, ht⟩
          have HF2 : Hid (HFr base w w2) := f2
          have HB2 : Hid (Blk w2 w.heap.size #[.string x.kind, .int .i64 x.a, .int .i64 x.b, .int .i64 x.c0, .int .i64 x.c1, .int .i64 x.c2, .int .i64 x.c3, .string x.s, .int .u64 x.k, .int .i64 x.last, .slice x.sa x.sl x.sc, .slice x.ja x.jl x.jc] 41) := f2'.far _ _ _ (by decide) (by decide) (by decide) (by decide) (by decide) (by decide) HB1.out
          clear f2 f2' ht hx KT1 HX1 HT1 HF1 HB1 r
          go_wp2_with fail
          go_roundg (gk - 1)
          case measure => have := HJ.out; omega
          case rel => exact ⟨j + 1, σ', by have := HJ.out; omega, by go_num, HX2, HT2, HF2, HB2⟩
        · have c2' : ¬ (j : Int) < 60 := by omega
          clear hj KT HX1 HT1 HF1 HB1
          go_wp2
          exact HEND.out
      · clear hj KT HX1 HT1 HF1 HB1
        go_wp2
        exact HEND.out
end Hs
end Go.Proofs.YtopgllmjeliklaaGreatDoor

namespace Go.Proofs.YtopgllmjeliklaaGreatDoor
open Go.Shelf Go.Lib Go.ChangeShapes Go.WideShapes Go.ChangeAt Go.RowKit
set_option maxRecDepth 100000
set_option linter.unusedSimpArgs false
set_option linter.unusedVariables false

namespace Hs
open Bk Lg Pl Dk Tx Tn Ac
def ReadyPost (len : Nat) (f : Nat → Int × Int × Int) (alen : Nat) (g : Nat → ActC) (w : World) (e : Ending) (w' : World) : Prop :=
  Below w.heap.size w w' ∧ (e = .returned (.tuple #[.pointer none, .pointer none, .pointer none, .bool false]) ∨
    (levelsN len f = 0 ∧ Light alen g 60 ∧ ∃ pb mb db sb hb, e = .returned (.tuple #[.pointer (some ⟨pb, 0, none⟩), .pointer (some ⟨db, 0, none⟩), .pointer (some ⟨hb, 0, none⟩), .bool true]) ∧ HX w' w.heap.size pb mb db sb hb (rowsOf f len) ⟨newS len, ⟨0, [], []⟩, []⟩ 0))
theorem HX.down {w : World} {base base' pb mb db sb hb n : Nat} {lv : List (Int × Int × Int)} {σ : Sg} (h : HX w base pb mb db sb hb lv σ n) (hb' : base' ≤ base) : HX w base' pb mb db sb hb lv σ n := by
  obtain ⟨L, secs, left, h⟩ := h
  obtain ⟨vl, vg, h1, h2, h3⟩ := h.h
  obtain ⟨vs, vj, l1, l2⟩ := h.l.l
  exact ⟨L, secs, left, ⟨vl, vg, h1, h2.base hb', h3⟩, h.p, h.iv, ⟨DiskAt.down h.l.d hb', h.l.len, h.l.few, h.l.wr, h.l.lo, ⟨vs, vj, l1, bookDown l2 hb'⟩, Nat.le_trans hb' h.l.hL, h.l.op⟩, Nat.le_trans hb' h.hpb, Nat.le_trans hb' h.hmb, Nat.le_trans hb' h.hhb, Nat.le_trans hb' h.hsz, h.n1, h.n4, h.ok⟩

set_option maxHeartbeats 4000000 in
theorem ready_any (len : Nat) (f : Nat → Int × Int × Int) (lvv : Value) (alen : Nat) (g : Nat → ActC) (v : Value) (w : World) (hs : SizesAt w lvv len f) (ha : ActsAt w v alen g) (G : Glob w) :
    Calls Tryz.prog 15 #[lvv, v] w (ReadyPost len f alen g w) := by
  have HNO : Hid (∀ w', Below w.heap.size w w' → ReadyPost len f alen g w (.returned (.tuple #[.pointer none, .pointer none, .pointer none, .bool false])) w') := fun w' h => ⟨h, Or.inl rfl⟩
  have HYES : Hid (levelsN len f = 0 → Light alen g 60 → ∀ pb mb db sb hb w', Below w.heap.size w w' → HX w' w.heap.size pb mb db sb hb (rowsOf f len) ⟨newS len, ⟨0, [], []⟩, []⟩ 0 → ReadyPost len f alen g w (.returned (.tuple #[.pointer (some ⟨pb, 0, none⟩), .pointer (some ⟨db, 0, none⟩), .pointer (some ⟨hb, 0, none⟩), .bool true])) w') := fun h1 h2 pb mb db sb hb w' h3 h4 => ⟨h3, Or.inr ⟨h1, h2, pb, mb, db, sb, hb, rfl, h4⟩⟩
  generalize ReadyPost len f alen g w = PP at *
  have HC : Hid (Calls Tryz.prog 45 #[lvv] w fun e w' => e = .returned (errV (levelsN len f)) ∧ Below w.heap.size w w') := check_any lvv len f w hs
  have HL : Hid (∀ W, Below w.heap.size w W → Calls Tryz.prog 46 #[v, .int .i64 60] W fun e w' => LightPost alen g 60 W e w') := fun W hB => light_any v alen g 60 W (ha.below hB)
  have HH : Hid (levelsN len f = 0 → ∀ W, Below w.heap.size w W → Calls Tryz.prog 43 #[lvv] W fun e w' => Below W.heap.size W w' ∧ ∃ pb mb db sb hb, e = .returned (.tuple #[.pointer (some ⟨pb, 0, none⟩), .pointer (some ⟨db, 0, none⟩), .pointer (some ⟨hb, 0, none⟩), .bool true]) ∧ HX w' W.heap.size pb mb db sb hb (rowsOf f len) ⟨newS len, ⟨0, [], []⟩, []⟩ 0) := fun h0 W hB => housedX len f lvv W (hs.below hB) h0 (G.new hB)
  obtain ⟨a, cap, rfl, hl, hm, hc⟩ := hs
  clear hc ha G hl hm
  by_cases c1 : (6 : Int) < (len : Int)
  · have HQ : Hid (PP (.returned (.tuple #[.pointer none, .pointer none, .pointer none, .bool false])) w) := HNO.out w (Below.refl _ _)
    clear HNO HYES HC HL HH
    go_enter Tryz.func15, Tryz.ntmps15
    go_wp2
    go_returns
    exact HQ.out
  go_enter Tryz.func15, Tryz.ntmps15
  go_wp2_with fail
  refine HC.out.mono ?_
  rintro e w1 ⟨rfl, b1⟩
  have X1 : Hid (Below w.heap.size w w1) := b1
  by_cases c2 : levelsN len f = 0
  case neg =>
    rw [errV_ne c2]
    have HQ : Hid (PP (.returned (.tuple #[.pointer none, .pointer none, .pointer none, .bool false])) w1) := HNO.out w1 X1.out
    clear HNO HYES HC HL HH b1 X1 c2
    go_wp2
    go_returns
    exact HQ.out
  rw [c2, errV0]
  have HL1 := hidd (HL.out w1 X1.out)
  have HH1 := hidd (HH.out c2)
  have HY1 := hidd (HYES.out c2)
  clear HC HL HH HYES b1 c2
  go_wp2_with fail
  refine HL1.out.mono ?_
  rintro e w2 ⟨q, rfl, hq, rfl⟩
  have HQ2 : Hid (q = true → Light alen g 60) := hq
  clear hq HL1
  cases q
  · have HQ : Hid (PP (.returned (.tuple #[.pointer none, .pointer none, .pointer none, .bool false])) w2) := HNO.out w2 X1.out
    clear HNO HH1 HY1 X1
    go_wp2
    go_returns
    exact HQ.out
  · have HHW := hidd (HH1.out w2 X1.out)
    clear HNO HH1
    go_wp2_with fail
    refine HHW.out.mono ?_
    rintro e w3 ⟨b3, pb, mb, db, sb, hb, rfl, hx⟩
    have HQ : Hid (PP (.returned (.tuple #[.pointer (some ⟨pb, 0, none⟩), .pointer (some ⟨db, 0, none⟩), .pointer (some ⟨hb, 0, none⟩), .bool true])) w3) := HY1.out (by have h := HQ2.out; simpa using h) pb mb db sb hb w3 (B.next X1.out b3 X1.out.size) (hx.down X1.out.size)
    clear HHW HY1 HQ2 b3 hx X1
    go_wp2
    go_returns
    exact HQ.out
end Hs
end Go.Proofs.YtopgllmjeliklaaGreatDoor

namespace Go.Proofs.YtopgllmjeliklaaGreatDoor
open Go.Shelf Go.Lib Go.ChangeShapes Go.WideShapes Go.ChangeAt Go.RowKit
set_option maxRecDepth 100000
set_option linter.unusedSimpArgs false
set_option linter.unusedVariables false

namespace Hs
open Bk Lg Pl Dk Tx Tn Ac
theorem TickR.last {m : Nat} {σ σ' : Sg} (h : TickR m σ σ') : σ'.b.last = σ.b.last := by
  rcases h with ⟨_, rfl⟩ | ⟨_, l, _, rfl⟩ | ⟨_, _, rfl⟩ <;> rfl
theorem Ticks.last {m : Nat} : ∀ (j : Nat) {σ σ' : Sg}, Ticks m j σ σ' → σ'.b.last = σ.b.last
  | 0, σ, σ', h => by rw [show σ' = σ from h]
  | j + 1, σ, σ', ⟨τ, h1, h2⟩ => by rw [h2.last, Ticks.last j h1]
theorem WantR.last {t k : Int} {σ σ' : Sg} (h : WantR t σ σ' k) : σ'.b.last = σ.b.last := by
  obtain ⟨_, rfl⟩ := h
  split <;> rfl
theorem ParkR.last {lv : List (Int × Int × Int)} {ci ca cb cc t k : Int} {σ σ' : Sg} (h : ParkR lv ci ca cb cc σ σ' t k) : (k ≠ 0 ∧ t = 0 ∧ σ' = σ) ∨ (k = 0 ∧ t = σ.b.last + 1 ∧ σ'.b.last = σ.b.last + 1) := by
  rcases h with ⟨h1, h2, h3, _⟩ | ⟨h1, h2, _, _, _, po, _, rfl⟩
  · exact Or.inl ⟨h1, h2, h3⟩
  · exact Or.inr ⟨h1, h2, rfl⟩
theorem PlayR.last {lv : List (Int × Int × Int)} {x : ActC} {σ σ' : Sg} (h : PlayR lv x σ σ') (hk : (x.kind.toList == [112, 97, 114, 107]) = false) : σ'.b.last = σ.b.last := by
  rcases h with ⟨h1, _⟩ | ⟨k, h⟩ | rfl | ⟨_, rfl⟩ | ⟨j, _, h⟩
  · rw [hk] at h1; cases h1
  · exact h.last
  · rfl
  · rfl
  · exact Ticks.last j h
theorem Well.ticks {m : Nat} : ∀ (j : Nat) {σ σ' : Sg}, Well σ → Inv σ.s → Ticks m j σ σ' → Well σ' ∧ Inv σ'.s
  | 0, σ, σ', h, iv, ht => by rw [show σ' = σ from ht]; exact ⟨h, iv⟩
  | j + 1, σ, σ', h, iv, ⟨τ, h1, h2⟩ => by
    obtain ⟨a, b⟩ := Well.ticks j h iv h1
    refine ⟨a.tick b h2, ?_⟩
    rcases h2 with ⟨_, rfl⟩ | ⟨_, l, _, rfl⟩ | ⟨_, _, rfl⟩
    · exact follow_inv _ b
    · exact follow_inv _ b
    · exact b
theorem Well.play {lv : List (Int × Int × Int)} {x : ActC} {σ σ' : Sg} (h : Well σ) (iv : Inv σ.s) (hp : PlayR lv x σ σ') : Well σ' := by
  rcases hp with ⟨_, t, k, hp⟩ | ⟨k, hp⟩ | rfl | ⟨hk, rfl⟩ | ⟨j, _, hp⟩
  · exact h.park hp
  · exact h.want hp
  · exact h.anew
  · exact h.out iv x hk
  · exact (Well.ticks j h iv hp).1
end Hs
end Go.Proofs.YtopgllmjeliklaaGreatDoor
