/- Chapter 10: the walk of the statement 'TurnSays' (H1). -/
import Derived.Test.YtihapeagjikiaaaJTopPickA
import Derived.Test.YtihapeagjikiaaaJHouseN
import Derived.Test.YtihapeagjikiaaaJHouseQ
import Derived.Test.YtihapeagjikiaaaJRBookFault
namespace Go.Proofs.Ytihapeagjikiaaa
open Go.Shelf Go.Lib Go.ChangeShapes Go.WideShapes Go.ChangeAt Go.RowKit
set_option maxRecDepth 100000
set_option linter.unusedSimpArgs false
set_option linter.unusedVariables false

namespace Tn
open Bk Pl Ac
/-- Both machines stand as s is. -/
structure BothT (w wx : World) (pb mb rb n : Nat) (s : St) : Prop where
  p : IsP wx pb mb n s
  r : IsR wx rb s
  b : Below w.heap.size w wx
theorem BothT.below {w wx wy : World} {pb mb rb n : Nat} {s : St} (h : BothT w wx pb mb rb n s) (hb : Below wx.heap.size wx wy) : BothT w wy pb mb rb n s := ⟨h.p.below hb, h.r.below hb, B.next h.b hb h.b.size⟩
/-- What was answered: goals, or a book. -/
def Ans (b : Book) (s : St) (lv : Int) (w : World) (v : Value) (x : Book) (q : Bool) : Prop :=
  x.At w ∧ ∃ l, Goals w v l ∧ ((q = false ∧ x.last = 0 ∧ x.stays = [] ∧ x.jobs = [] ∧ NextL b s lv (vB b) (vJ b s).t (vJ b s).f (vS b s) l) ∨
    (q = true ∧ l = [] ∧ NextC b s lv (vB b) (vJ b s).f (vS b s) ∧ x.last = b.last ∧ x.stays = doneStays (vJ b s).t ((vJ b s).f || !hasB s (vS b s).id) b.stays ∧ x.jobs = doneJobs (vJ b s).t (vJ b s).f ((vJ b s).f || !hasB s (vS b s).id) b.jobs))
def AnsR (b : Book) (s : St) (lv : Int) (w : World) (v : Value) (x : Book) (q : Bool) : Prop :=
  x.At w ∧ ∃ l, Goals w v l ∧ ((q = false ∧ x.last = 0 ∧ x.stays = [] ∧ x.jobs = [] ∧ RNextL b s lv (vB b) (vJ b s).t (vJ b s).f (vS b s) l) ∨
    (q = true ∧ l = [] ∧ NextC b s lv (vB b) (vJ b s).f (vS b s) ∧ x.last = b.last ∧ x.stays = doneStays (vJ b s).t ((vJ b s).f || !hasB s (vS b s).id) b.stays ∧ x.jobs = doneJobs (vJ b s).t (vJ b s).f ((vJ b s).f || !hasB s (vS b s).id) b.jobs))
theorem Ans.below {b : Book} {s : St} {lv : Int} {w w' : World} {v : Value} {x : Book} {q : Bool} (h : Ans b s lv w v x q) (hb : Below w.heap.size w w') : Ans b s lv w' v x q := ⟨h.1.below hb, h.2.elim fun l hl => ⟨l, hl.1.below hb, hl.2⟩⟩
theorem AnsR.below {b : Book} {s : St} {lv : Int} {w w' : World} {v : Value} {x : Book} {q : Bool} (h : AnsR b s lv w v x q) (hb : Below w.heap.size w w') : AnsR b s lv w' v x q := ⟨h.1.below hb, h.2.elim fun l hl => ⟨l, hl.1.below hb, hl.2⟩⟩
theorem at_none (w : World) : Book.At ⟨0, none, 0, none, 0, [], []⟩ w := ⟨⟨Nat.le_refl _, Nat.zero_le _, fun h => absurd h (Nat.lt_irrefl _)⟩, ⟨Nat.le_refl _, Nat.zero_le _, fun h => absurd h (Nat.lt_irrefl _)⟩⟩
/-- Two answers are one. -/
theorem ans_same {b : Book} {s : St} {lv : Int} {w : World} {v1 v2 : Value} {x1 x2 : Book} {q1 q2 : Bool} (hu : Uniq s) (iv : Inv s) (h0 : vB b = true → (vS b s).id ≠ 0) (h1 : Ans b s lv w v1 x1 q1) (h2 : AnsR b s lv w v2 x2 q2) : q1 = q2 ∧ x1.last = x2.last ∧ x1.stays = x2.stays ∧ x1.jobs = x2.jobs ∧ ∃ l, Goals w v1 l ∧ Goals w v2 l := by
  obtain ⟨_, l1, g1, h1⟩ := h1
  obtain ⟨_, l2, g2, h2⟩ := h2
  rcases h1 with ⟨a1, b1, c1, d1, e1⟩ | ⟨a1, z1, e1, b1, c1, d1⟩
  · rcases h2 with ⟨a2, b2, c2, d2, e2⟩ | ⟨a2, z2, e2, b2, c2, d2⟩
    · have e := next_same hu iv h0 e1 e2
      subst e
      exact ⟨a1.trans a2.symm, b1.trans b2.symm, c1.trans c2.symm, d1.trans d2.symm, l1, g1, g2⟩
    · exact (next_not e1 e2).elim
  · rcases h2 with ⟨a2, b2, c2, d2, e2⟩ | ⟨a2, z2, e2, b2, c2, d2⟩
    · exact (rnext_not e2 e1).elim
    · subst z1 z2
      exact ⟨a1.trans a2.symm, b1.trans b2.symm, c1.trans c2.symm, d1.trans d2.symm, [], g1, g2⟩
theorem goals_nil {w : World} {v : Value} (h : Goals w v []) : ∃ a c, v = .slice a 0 c := by
  rcases h with ⟨h, _⟩ | ⟨g, cap, hv, hg, hl, hc⟩
  · exact ⟨_, _, h⟩
  · exact ⟨_, _, hv⟩

set_option maxHeartbeats 1000000 in
theorem sameGoals_zero (a1 a2 : Option Addr) (c1 c2 : Nat) (w : World) : Calls Try.prog 52 #[.slice a1 0 c1, .slice a2 0 c2] w fun e w' => e = .returned (.bool true) ∧ Below w.heap.size w w' := by
  go_enter Try.func52, Try.ntmps52
  go_wp2_with fail
  go_loopg [5] 1 (fun gg s5 wr => s5 = .int .i64 0 ∧ Hid (Below w.heap.size w wr))
  case atStart => exact ⟨rfl, Below.refl _ _⟩
  case round =>
    obtain ⟨rfl, M⟩ := hrel
    go_wp2
    go_returns
    exact ⟨rfl, M.out⟩
theorem sameGoals_all (v1 v2 : Value) (l : List (Int × Int)) (w : World) (h1 : Goals w v1 l) (h2 : Goals w v2 l) :
    Calls Try.prog 52 #[v1, v2] w fun e w' => e = .returned (.bool true) ∧ Below w.heap.size w w' := by
  cases l with
  | nil =>
    obtain ⟨a1, c1, rfl⟩ := goals_nil h1
    obtain ⟨a2, c2, rfl⟩ := goals_nil h2
    exact sameGoals_zero a1 a2 c1 c2 w
  | cons x l =>
    rcases h1 with ⟨_, h⟩ | h1
    · cases h
    · rcases h2 with ⟨_, h⟩ | h2
      · cases h
      · exact sameGoals_any v1 v2 _ w h1 h2

theorem info_size : ∃ i, Try.prog.info? 28 = some i ∧ i.zero = some (.agg #[.int .i64 0, .int .i64 0, .int .i64 0]) ∧ i.size = 3 ∧ i.bytes = 24 := by
  have h : (Try.prog.info? 28).map (fun i => (i.zero, i.size, i.bytes)) = some (some (.agg #[.int .i64 0, .int .i64 0, .int .i64 0]), 3, 24) := by kernel_rfl
  cases hi : Try.prog.info? 28 with
  | none => rw [hi] at h; cases h
  | some i =>
    rw [hi] at h
    simp only [Option.map_some, Option.some.injEq, Prod.mk.injEq] at h
    exact ⟨i, rfl, h.1, h.2.1, h.2.2⟩
theorem make_sizes (ll : Nat) (h4 : ll ≤ 4) : ∃ CC, ∀ W : World, (Instr.makeSlice 26 (.int .i64 ll) (.int .i64 ll)).run Try.prog W = .ok (.slice (some ⟨W.heap.size, 0, none⟩) ll ll) (W.alloc (.cells CC 28)) := by
  obtain ⟨i, hi, hz, hs, hb⟩ := info_size
  exact ⟨_, fun W => run_make W 26 28 i _ (by kernel_rfl) hi hz .i64 .i64 ll ll (by omega) (Int.le_refl _) (by rw [hb]; omega) (by omega)⟩

theorem tnext_ans (b : Book) (lv : Int) (pb mb n : Nat) (s : St) (w : World) (hp : IsP w pb mb n s) (hk : b.At w) (iv : Inv s) (hlv : 1 ≤ lv ∧ lv ≤ 4) (hst : ∀ x ∈ b.stays, sIn x) (hl1 : b.stays.length ≤ 1000) (hl2 : b.jobs.length ≤ 1000) :
    Calls Try.prog 50 #[b.val, .int .i64 lv, .pointer (some ⟨pb, 0, none⟩)] w fun e w' => ∃ v l sa sc ja jc st jo q, e = .returned (.tuple #[v, .agg #[.int .i64 l, .slice sa (List.length st) sc, .slice ja (List.length jo) jc], .bool q]) ∧ Ans b s lv w' v ⟨l, sa, sc, ja, jc, st, jo⟩ q ∧ Below w.heap.size w w' :=
  (tnext_any b lv pb mb n s w hp hk iv hlv hst hl1 hl2).mono (by
    intro e w' h
    rcases h with ⟨v, l, rfl, hl, hg, hb⟩ | ⟨hc, xs, xj, rfl, ho, hb⟩
    · exact ⟨v, 0, none, 0, none, 0, [], [], false, rfl, ⟨at_none _, l, hg, Or.inl ⟨rfl, rfl, rfl, rfl, hl⟩⟩, hb⟩
    · obtain ⟨a1, c1, rfl, r1⟩ := ho.s.rows
      obtain ⟨a2, c2, rfl, r2⟩ := ho.j.rows
      exact ⟨.slice none 0 0, b.last, a1, c1, a2, c2, _, _, true, rfl, ⟨⟨r1, r2⟩, [], Goals.nil _, Or.inr ⟨rfl, rfl, hc, rfl, rfl, rfl⟩⟩, hb⟩)

theorem rnext_ans (hb rb : Nat) (s : St) (b : Book) (la : Option Addr) (ll lc : Nat) (n : Nat) (w : World) (h : HouseAt w hb rb s b la ll lc) (iv : Inv s) (hok : BookOK b.last n b.stays b.jobs) (hn : n ≤ 4) (hll : 1 ≤ ll ∧ ll ≤ 4) :
    Calls Try.prog 51 #[.pointer (some ⟨hb, 0, none⟩)] w fun e w' => ∃ v l sa sc ja jc st jo q, e = .returned (.tuple #[v, .agg #[.int .i64 l, .slice sa (List.length st) sc, .slice ja (List.length jo) jc], .bool q]) ∧ AnsR b s ll w' v ⟨l, sa, sc, ja, jc, st, jo⟩ q ∧ Below w.heap.size w w' :=
  (rnext_any hb rb s b la ll lc n w h iv hok hn hll).mono (by
    intro e w' h
    rcases h with ⟨v, l, rfl, hl, hg, hb⟩ | ⟨hc, xs, xj, rfl, ho, hb⟩
    · exact ⟨v, 0, none, 0, none, 0, [], [], false, rfl, ⟨at_none _, l, hg, Or.inl ⟨rfl, rfl, rfl, rfl, hl⟩⟩, hb⟩
    · obtain ⟨a1, c1, rfl, r1⟩ := ho.s.rows
      obtain ⟨a2, c2, rfl, r2⟩ := ho.j.rows
      exact ⟨.slice none 0 0, b.last, a1, c1, a2, c2, _, _, true, rfl, ⟨⟨r1, r2⟩, [], Goals.nil _, Or.inr ⟨rfl, rfl, hc, rfl, rfl, rfl⟩⟩, hb⟩)

set_option maxHeartbeats 4000000 in
theorem turns_any (w : World) : Calls Try.prog 46 #[] w fun e w' => e = .returned (.bool true) ∧ Below w.heap.size w w' := by
  go_enter Try.func46, Try.ntmps46
  go_wp2_with fail
  refine (new_any 1 _ (by decide) (by decide)).mono ?_
  rintro e w1 ⟨rfl, p1, b1⟩
  have P1 : Hid (IsP w1 (w.heap.size + 1) w.heap.size 0 (newS 1) ∧ Below w.heap.size w w1) := ⟨p1, b1⟩
  clear p1 b1
  go_wp2_with fail
  refine (tnext_any ⟨0, none, 0, none, 0, [], []⟩ 1 _ _ 0 (newS 1) w1 P1.out.1 (at_none _) (Inv.new (by decide) (by decide)) (by decide) (fun x hx => by cases hx) (by decide) (by decide)).mono ?_
  intro e w2 h
  have hv : (∃ l, NextL ⟨0, none, 0, none, 0, [], []⟩ (newS 1) 1 false 0 false zS l → l = []) := ⟨[], fun _ => rfl⟩
  have hD : carOf (newS 1).D 1 1 0 = 0 := carOf_of rfl
  rcases h with ⟨v, l, rfl, hl, hg, hb⟩ | ⟨hc, xs, xj, rfl, ho, hb⟩
  · have hl0 : l = [] := by
      rcases hl with ⟨c, _⟩ | ⟨_, c, _⟩ | ⟨_, _, _, h⟩ | ⟨_, _, c, _⟩
      · exact absurd rfl c
      · unfold spareB at c
        rw [hD] at c
        cases c
      · exact h
      · cases c
    subst hl0
    obtain ⟨a0, c0, rfl⟩ := goals_nil hg
    have X : Hid (Below w.heap.size w w2) := B.next P1.out.2 hb P1.out.2.size
    clear hg hb hl hv hD
    go_wp2
    go_returns
    exact ⟨rfl, X.out.alloc X.out.size _⟩
  · obtain ⟨_, _, c, _⟩ := hc
    cases c

set_option maxHeartbeats 8000000 in
theorem turnSays_run (lv : Int) (v : Value) (len : Nat) (f : Nat → ActC) (b : Book) (w : World) (hs : ActsAt w v len f) (hb : b.At w) :
    Calls Try.prog 9 #[.int .i64 lv, v, b.val] w fun e w' => e = .returned (.bool true) ∧ Below w.heap.size w w' := by
  simp only [Book.val]
  obtain ⟨w0, hw0⟩ : ∃ w0, w.alloc (.cells #[.int .i64 b.last, .slice b.sa b.stays.length b.sc, .slice b.ja b.jobs.length b.jc] 25) = w0 := ⟨_, rfl⟩
  have N0 : Hid (Below w.heap.size w w0 ∧ Blk w0 w.heap.size #[.int .i64 b.last, .slice b.sa b.stays.length b.sc, .slice b.ja b.jobs.length b.jc] 25) := by
    show _ ∧ _
    rw [← hw0]
    exact ⟨B.new1 _ _, Blk.new _ _ _⟩
  have HS : Hid (ActsAt w0 v len f) := hs.below N0.out.1
  have HK : Hid (∀ wx, Below w0.heap.size w0 wx → b.At wx) := fun wx hx => (hb.below N0.out.1).below hx
  have HBB : Hid (∀ wx, Below w0.heap.size w0 wx → Blk wx w.heap.size #[.int .i64 b.last, .slice b.sa b.stays.length b.sc, .slice b.ja b.jobs.length b.jc] 25) := fun wx hx => N0.out.2.below hx
  have HW : Hid (∀ wx, Below w0.heap.size w0 wx → Below w.heap.size w wx) := fun wx hx => B.next N0.out.1 hx N0.out.1.size
  have HLB : Hid (∀ wx, Below w0.heap.size w0 wx → Calls Try.prog 11 #[.agg #[.int .i64 b.last, .slice b.sa b.stays.length b.sc, .slice b.ja b.jobs.length b.jc]] wx fun e w' => e = .returned (.bool (lightB b)) ∧ Below wx.heap.size wx w') := fun wx hx => lightBook_any b wx (HK.out wx hx)
  have HBF : Hid (∀ n : Nat, 1 ≤ n → n ≤ 4 → ∀ wx, Below w0.heap.size w0 wx → Calls Try.prog 13 #[.agg #[.int .i64 b.last, .slice b.sa b.stays.length b.sc, .slice b.ja b.jobs.length b.jc], .int .i64 n] wx fun e w' => ∃ k, e = .returned (.int .i64 k) ∧ (k = 0 ∧ BookOK b.last n b.stays b.jobs ∨ 0 < k) ∧ Below wx.heap.size wx w') := fun n h1 h4 wx hx => rbookFault_any b n wx (HK.out wx hx) h1 h4
  obtain ⟨a, cap, rfl, hl, hm, hok, hcc⟩ := hs
  clear hok hcc hb
  unfold maxLen at hm
  go_enter Try.func9, Try.ntmps9
  go_wp2_with fail
  clear hw0
  refine (turns_any _).mono ?_
  rintro e w1 ⟨rfl, b1⟩
  have B1 : Hid (Below w0.heap.size w0 w1) := b1
  clear b1
  go_wp2_with fail
  refine (light_any _ len f 80 w1 (HS.out.below B1.out)).mono ?_
  rintro e w2 ⟨q, rfl, hli, hw⟩
  subst hw
  have HL : Hid (q = true → Light len f 80) := hli
  clear hli
  cases q
  · go_wp2
    go_returns
    exact ⟨rfl, HW.out _ B1.out⟩
  have h80 : len ≤ 80 := by have := (HL.out rfl).1; omega
  clear HL
  have rk := (HBB.out _ B1.out).cell
  go_wp2_with fail
  clear rk
  refine (HLB.out _ B1.out).mono ?_
  rintro e w3 ⟨rfl, b3⟩
  have B3 : Hid (Below w0.heap.size w0 w3) := B.next B1.out b3 B1.out.size
  clear b3 B1 HLB
  cases hlb : lightB b
  · go_wp2
    go_returns
    exact ⟨rfl, HW.out _ B3.out⟩
  clear hlb
  by_cases h1 : lv < 1
  · go_wp2
    go_returns
    exact ⟨rfl, HW.out _ B3.out⟩
  by_cases h4 : 4 < lv
  · go_wp2
    go_returns
    exact ⟨rfl, HW.out _ B3.out⟩
  obtain ⟨ll, rfl⟩ : ∃ ll : Nat, lv = (ll : Int) := ⟨lv.toNat, by omega⟩
  have hl1 : 1 ≤ ll := by omega
  have hl4 : ll ≤ 4 := by omega
  have rk := (HBB.out _ B3.out).cell
  go_wp2_with fail
  clear rk
  refine (HBF.out ll hl1 hl4 _ B3.out).mono ?_
  rintro e w4 ⟨k, rfl, hk, b4⟩
  have B4 : Hid (Below w0.heap.size w0 w4) := B.next B3.out b4 B3.out.size
  clear b4 B3 HBF
  rcases hk with ⟨rfl, hok⟩ | hk
  case inr =>
    go_wp2
    go_returns
    exact ⟨rfl, HW.out _ B4.out⟩
  have HOK : Hid (BookOK b.last ll b.stays b.jobs) := hok
  clear hok
  go_wp2_with fail
  refine (new_any ll _ (by omega) (by omega)).mono ?_
  rintro e w5 ⟨rfl, p5, b5⟩
  have z4 : w0.heap.size ≤ w4.heap.size := B4.out.size
  have B5 : Hid (Below w0.heap.size w0 w5) := B.next B4.out b5 z4
  have P5 : Hid (IsP w5 (w4.heap.size + 1) w4.heap.size 0 (newS ll)) := p5
  have I5 : Hid (Inv (newS ll)) := Inv.new (by omega) (by omega)
  clear p5 b5 B4
  generalize hmb : w4.heap.size = mb at *
  generalize hpb : mb + 1 = pb at *
  have hpb' : w0.heap.size ≤ pb := by omega
  clear hpb hmb
  go_wp2_with fail
  refine (rnew_any ll w5 (by omega) (by omega)).mono ?_
  rintro e w6 ⟨rfl, r6, b6⟩
  have T6 : Hid (BothT w0 w6 pb mb w5.heap.size 0 (newS ll)) := ⟨P5.out.below b6, r6, B.next B5.out b6 B5.out.size⟩
  have hrb : w0.heap.size ≤ w5.heap.size := B5.out.size
  clear r6 b6 P5 B5
  generalize w5.heap.size = rb at *
  go_wp2_with fail
  go_loopg [12] len (fun gg s12 wr => ∃ (k : Nat) (s : St), k ≤ len ∧ len - k ≤ gg ∧ s12 = .int .i64 k ∧ Hid (BothT w0 wr pb mb rb k s) ∧ Hid (Inv s) ∧ Hid (Uniq s))
  case atStart => exact ⟨0, _, Nat.zero_le _, by omega, rfl, T6, I5, Uniq.new ll⟩
  case round =>
    clear T6 I5
    obtain ⟨k, s, hk, hg, rfl, T, HI, HU⟩ := hrel
    by_cases hlt : k < len
    · have hltz : (k : Int) < (len : Int) := by omega
      obtain ⟨a', cap', ev, _, _, _, hc⟩ := HS.out.below T.out.b
      cases ev
      obtain ⟨ab, off, rfl, hb, hcell⟩ := hc (by omega)
      clear hcell hc hb
      have HAC : Hid (∀ wx, Below w0.heap.size w0 wx → ∀ i, i < 12 → wx.cell? ⟨ab, off + k * 12 + i, none⟩ = (f k).vals[i]?) := fun wx hbx i hi => by
        obtain ⟨a', cap', ev, _, _, _, hc⟩ := HS.out.below hbx
        cases ev
        obtain ⟨b', off', e', hb', hcell⟩ := hc (by omega)
        cases e'
        exact hcell k hlt i hi
      generalize f k = x at HAC
      have c0 := HAC.out wr T.out.b 0 (by omega); have c1 := HAC.out wr T.out.b 1 (by omega); have c2 := HAC.out wr T.out.b 2 (by omega); have c3 := HAC.out wr T.out.b 3 (by omega); have c4 := HAC.out wr T.out.b 4 (by omega); have c5 := HAC.out wr T.out.b 5 (by omega); have c6 := HAC.out wr T.out.b 6 (by omega); have c7 := HAC.out wr T.out.b 7 (by omega); have c8 := HAC.out wr T.out.b 8 (by omega); have c9 := HAC.out wr T.out.b 9 (by omega); have c10 := HAC.out wr T.out.b 10 (by omega); have c11 := HAC.out wr T.out.b 11 (by omega)
      simp [ActC.vals] at c0 c1 c2 c3 c4 c5 c6 c7 c8 c9 c10 c11
      clear HAC
      have hkm : k < maxLen := by unfold maxLen; omega
      have HO : Hid (Calls Try.prog 49 #[.pointer (some ⟨pb, 0, none⟩), .pointer (some ⟨rb, 0, none⟩), .agg #[.string x.kind, .int .i64 x.a, .int .i64 x.b, .int .i64 x.c0, .int .i64 x.c1, .int .i64 x.c2, .int .i64 x.c3, .string x.s, .int .u64 x.k, .int .i64 x.last, .slice x.sa x.sl x.sc, .slice x.ja x.jl x.jc]] wr fun e w' => e = .returned (.bool true) ∧ IsP w' pb mb (k + 1) (outS x s) ∧ IsR w' rb (outS x s) ∧ Turn3 pb mb rb wr w') := lout_any pb mb rb k s x wr T.out.p T.out.r HI.out hkm
      have HU2 : Hid (Uniq (outS x s)) := HU.out.out HI.out x
      have HI2 : Hid (Inv (outS x s)) := HI.out.out x
      generalize outS x s = s2 at HO HU2 HI2
      go_wp2_with fail
      refine HO.out.mono ?_
      rintro e w7 ⟨rfl, p7, r7, t7⟩
      have T7 : Hid (BothT w0 w7 pb mb rb (k + 1) s2) := ⟨p7, r7, Turn3.new T.out.b t7 (by omega) (by omega) (by omega) T.out.b.size⟩
      clear p7 r7 t7 HO T HU HI c0 c1 c2 c3 c4 c5 c6 c7 c8 c9 c10 c11
      have HTN : Hid (Calls Try.prog 50 #[.agg #[.int .i64 b.last, .slice b.sa b.stays.length b.sc, .slice b.ja b.jobs.length b.jc], .int .i64 ll, .pointer (some ⟨pb, 0, none⟩)] w7 fun e w' => ∃ v l sa sc ja jc st jo q, e = .returned (.tuple #[v, .agg #[.int .i64 l, .slice sa (List.length st) sc, .slice ja (List.length jo) jc], .bool q]) ∧ Ans b s2 ll w' v ⟨l, sa, sc, ja, jc, st, jo⟩ q ∧ Below w7.heap.size w7 w') := tnext_ans b ll pb mb (k + 1) s2 w7 T7.out.p (HK.out _ T7.out.b) HI2.out ⟨by omega, by omega⟩ (fun x hx => (stay_facts HOK.out.s hl4 hx).2.2) (Nat.le_trans HOK.out.fewS (by decide)) (Nat.le_trans HOK.out.fewJ (by decide))
      have HRN : Hid (∀ wx hb la lc, HouseAt wx hb rb s2 b la ll lc → Calls Try.prog 51 #[.pointer (some ⟨hb, 0, none⟩)] wx fun e w' => ∃ v l sa sc ja jc st jo q, e = .returned (.tuple #[v, .agg #[.int .i64 l, .slice sa (List.length st) sc, .slice ja (List.length jo) jc], .bool q]) ∧ AnsR b s2 ll w' v ⟨l, sa, sc, ja, jc, st, jo⟩ q ∧ Below wx.heap.size wx w') := fun wx hb la lc h => rnext_ans hb rb s2 b la ll lc ll wx h HI2.out HOK.out hl4 ⟨hl1, hl4⟩
      have HV0 : Hid (vB b = true → (vS b s2).id ≠ 0) := fun hb => by
        have hm := vS_mem b s2 HOK.out hl4 (by simpa [vB] using hb)
        have := (stay_facts HOK.out.s hl4 hm).2.1
        omega
      have rk := (HBB.out _ T7.out.b).cell
      go_wp2_with fail
      clear rk
      refine HTN.out.mono ?_
      rintro e w8 ⟨v1, l1, sa1, sc1, ja1, jc1, st1, jo1, q1, rfl, hA, b8⟩
      obtain ⟨w9, hw9⟩ : ∃ w9, w8.alloc (.cells #[.int .i64 l1, .slice sa1 st1.length sc1, .slice ja1 jo1.length jc1] 25) = w9 := ⟨_, rfl⟩
      obtain ⟨xb, hxb⟩ : ∃ xb, w8.heap.size = xb := ⟨_, rfl⟩
      have T9 : Hid (BothT w0 w9 pb mb rb (k + 1) s2 ∧ Blk w9 xb #[.int .i64 l1, .slice sa1 st1.length sc1, .slice ja1 jo1.length jc1] 25 ∧ Ans b s2 ll w9 v1 ⟨l1, sa1, sc1, ja1, jc1, st1, jo1⟩ q1) := by
        show _ ∧ _ ∧ _
        rw [← hw9]
        exact ⟨(T7.out.below b8).below (B.new1 _ _), Blk.new1 hxb.symm _ _, hA.below (B.new1 _ _)⟩
      have HW9 : Hid (w8.alloc (.cells #[.int .i64 l1, .slice sa1 st1.length sc1, .slice ja1 jo1.length jc1] 25) = w9) := hw9
      clear hw9 hA b8 T7 HTN
      go_upto_region 15 with fail
      simp only [HW9.out, hxb]
      clear HW9 hxb
      have AO : Hid (len - k ≤ gk ∧ k ≤ len) := ⟨hg, hk⟩
      clear hg
      have rk := (HBB.out _ T9.out.1.b).cell
      go_cut [17] (fun s17 wx => ∃ (hb : Nat) (la : Option Addr) (lc : Nat), s17 = .pointer (some ⟨hb, 0, none⟩) ∧ Hid (Below w9.heap.size w9 wx ∧ Blk wx hb #[.slice la ll lc, .pointer (some ⟨rb, 0, none⟩), .int .i64 b.last, .slice b.sa b.stays.length b.sc, .slice b.ja b.jobs.length b.jc, .slice none 0 0] 106))
      case first =>
        clear HRN HV0 AO HU2 HI2
        have D0 : Hid (Below w9.heap.size w9 w9.drew) := (Below.refl _ _).drew
        have HSK : Hid (∀ W, Below w9.heap.size w9 W → W.cell? ⟨w.heap.size, 0, none⟩ = some (.int .i64 b.last) ∧ W.cell? ⟨w.heap.size, 1, none⟩ = some (.slice b.sa b.stays.length b.sc) ∧ W.cell? ⟨w.heap.size, 2, none⟩ = some (.slice b.ja b.jobs.length b.jc)) := fun W hx => ⟨(HBB.out W (B.next T9.out.1.b hx T9.out.1.b.size)).cell 0, (HBB.out W (B.next T9.out.1.b hx T9.out.1.b.size)).cell 1, (HBB.out W (B.next T9.out.1.b hx T9.out.1.b.size)).cell 2⟩
        obtain ⟨CC, hmk⟩ := make_sizes ll hl4
        go_region_held3 (fun W => W.cell? ⟨w.heap.size, 0, none⟩ = some (.int .i64 b.last) ∧ W.cell? ⟨w.heap.size, 1, none⟩ = some (.slice b.sa b.stays.length b.sc) ∧ W.cell? ⟨w.heap.size, 2, none⟩ = some (.slice b.ja b.jobs.length b.jc)) (first | with_reducible exact HSK.out _ D0.out | with_reducible exact HSK.out _ (D0.out.alloc D0.out.size _) | go_keep) (fail)
        go_wp2
        go_meet
        exact ⟨_, _, _, rfl, (((Below.refl _ _).alloc (Nat.le_refl _) _).alloc (by simp) _).drew, (Blk.new1 (by simp) _ _).below ((Below.refl _ _).drew)⟩
      case rest =>
      clear rk
      obtain ⟨hb, la, lc, rfl, N⟩ := hcut
      have TA : Hid (BothT w0 wc pb mb rb (k + 1) s2 ∧ Blk wc xb #[.int .i64 l1, .slice sa1 st1.length sc1, .slice ja1 jo1.length jc1] 25 ∧ Ans b s2 ll wc v1 ⟨l1, sa1, sc1, ja1, jc1, st1, jo1⟩ q1 ∧ HouseAt wc hb rb s2 b la ll lc) := by
        have b9 := T9.out.1.below N.out.1
        exact ⟨b9, T9.out.2.1.below N.out.1, T9.out.2.2.below N.out.1, N.out.2, b9.r, HK.out _ b9.b⟩
      clear N T9
      go_wp2_with fail
      refine (HRN.out wc hb la lc TA.out.2.2.2).mono ?_
      rintro e wA ⟨v2, l2, sa2, sc2, ja2, jc2, st2, jo2, q2, rfl, hR, bA⟩
      obtain ⟨e1, e2, e3, e4, l, g1, g2⟩ := ans_same HU2.out HI2.out HV0.out (TA.out.2.2.1.below bA) hR
      simp only at e2 e3 e4
      subst e1 e2 e3 e4
      obtain ⟨wB, hwB⟩ : ∃ wB, wA.alloc (.cells #[.int .i64 l1, .slice sa2 st1.length sc2, .slice ja2 jo1.length jc2] 25) = wB := ⟨_, rfl⟩
      obtain ⟨yb, hyb⟩ : ∃ yb, wA.heap.size = yb := ⟨_, rfl⟩
      have TB : Hid (BothT w0 wB pb mb rb (k + 1) s2 ∧ Blk wB xb #[.int .i64 l1, .slice sa1 st1.length sc1, .slice ja1 jo1.length jc1] 25 ∧ Blk wB yb #[.int .i64 l1, .slice sa2 st1.length sc2, .slice ja2 jo1.length jc2] 25) := by
        show _ ∧ _ ∧ _
        rw [← hwB]
        exact ⟨(TA.out.1.below bA).below (B.new1 _ _), (TA.out.2.1.below bA).old _, Blk.new1 hyb.symm _ _⟩
      have HSG : Hid (Calls Try.prog 52 #[v1, v2] wB fun e w' => e = .returned (.bool true) ∧ Below wB.heap.size wB w') := by
        have g1' : Goals wB v1 l := by rw [← hwB]; exact g1.below (B.new1 _ _)
        have g2' : Goals wB v2 l := by rw [← hwB]; exact g2.below (B.new1 _ _)
        exact sameGoals_all v1 v2 l wB g1' g2'
      have HSM : Hid (∀ wx, Below wB.heap.size wB wx → Calls Try.prog 19 #[.agg #[.int .i64 l1, .slice sa1 st1.length sc1, .slice ja1 jo1.length jc1], .agg #[.int .i64 l1, .slice sa2 st1.length sc2, .slice ja2 jo1.length jc2]] wx fun e w' => e = .returned (.bool true) ∧ Below wx.heap.size wx w') := fun wx hx => by
        have a1 : Book.At ⟨l1, sa1, sc1, ja1, jc1, st1, jo1⟩ wB := by rw [← hwB]; exact (TA.out.2.2.1.1.below bA).below (B.new1 _ _)
        have a2 : Book.At ⟨l1, sa2, sc2, ja2, jc2, st1, jo1⟩ wB := by rw [← hwB]; exact hR.1.below (B.new1 _ _)
        exact sameBook_any l1 st1 jo1 sa1 ja1 sa2 ja2 sc1 jc1 sc2 jc2 wx (a1.below hx) (a2.below hx)
      have HWB : Hid (wA.alloc (.cells #[.int .i64 l1, .slice sa2 st1.length sc2, .slice ja2 jo1.length jc2] 25) = wB) := hwB
      clear hwB hR bA g1 g2 TA HRN HV0
      go_upto_region 17 with fail
      simp only [HWB.out, hyb]
      clear HWB hyb
      cases q1
      all_goals
        go_wp2_with fail
        refine HSG.out.mono ?_
        rintro e wC ⟨rfl, bC⟩
        have TC : Hid (BothT w0 wC pb mb rb (k + 1) s2 ∧ Blk wC xb #[.int .i64 l1, .slice sa1 st1.length sc1, .slice ja1 jo1.length jc1] 25 ∧ Blk wC yb #[.int .i64 l1, .slice sa2 st1.length sc2, .slice ja2 jo1.length jc2] 25 ∧ Below wB.heap.size wB wC) := ⟨TB.out.1.below bC, TB.out.2.1.below bC, TB.out.2.2.below bC, bC⟩
        clear bC TB
        have rx := TC.out.2.1.cell
        have ry := TC.out.2.2.1.cell
        go_wp2_with fail
        clear rx ry
        refine (HSM.out _ TC.out.2.2.2).mono ?_
        rintro e wD ⟨rfl, bD⟩
        have TD : Hid (BothT w0 wD pb mb rb (k + 1) s2) := TC.out.1.below bD
        clear bD TC HSM HSG
        have h1 := AO.out
        go_wp2
        go_roundg (len - (k + 1))
        case measure => omega
        case rel => exact ⟨k + 1, s2, by omega, by omega, by go_num, TD, HI2, HU2⟩
    · have hltz : ¬ (k : Int) < (len : Int) := by omega
      go_wp2
      go_returns
      exact ⟨rfl, HW.out _ T.out.b⟩

end Tn
end Go.Proofs.Ytihapeagjikiaaa
