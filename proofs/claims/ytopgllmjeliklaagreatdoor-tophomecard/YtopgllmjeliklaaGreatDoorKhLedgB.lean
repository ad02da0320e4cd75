/- LedgB. -/
import Derived.Test.YtopgllmjeliklaaGreatDoorKhTopPickA
set_option maxRecDepth 100000
set_option linter.unusedSimpArgs false
set_option linter.unusedVariables false
namespace Go.Proofs.YtopgllmjeliklaaGreatDoor
open Go.Shelf Go.Lib Go.ChangeShapes Go.WideShapes Go.ChangeAt Go.RowKit
namespace Lg
open Bk Dk Tx
theorem hidd {p : Prop} (h : p) : Hid p := h
structure LFr (base : Nat) (w w' : World) : Prop where
 b : Below base w w'
 far : ∀ k arr T, T ≠ 124 → T ≠ 157 → T ≠ 194 → T ≠ 133 → Blk w k arr T → Blk w' k arr T
 oth : KeepsOthers w w'
theorem LFr.trans {base : Nat} {a b c : World} (h : LFr base a b) (k : LFr base b c) : LFr base a c := ⟨⟨k.b.os.trans h.b.os, k.b.tape.trans h.b.tape, k.b.output.trans h.b.output, Nat.le_trans h.b.size k.b.size, fun q hq => (k.b.block q hq).trans (h.b.block q hq)⟩, fun q arr T h1 h2 h3 h5 h4 => k.far q arr T h1 h2 h3 h5 (h.far q arr T h1 h2 h3 h5 h4), h.oth.trans k.oth⟩
theorem LFr.of_dfr {base : Nat} {w w' : World} (h : DFr base w w') : LFr base w w' := ⟨h.b, fun k arr T h1 h2 h3 _ hk => h.far k arr T h1 h2 h3 hk, h.oth⟩
theorem LFr.of_set {base : Nat} {w : World} {L : Nat} {A : Array Value} (hL : Blk w L A 133) (hb : base ≤ L) (o : Nat) (v : Value) : LFr base w (w.setCell ⟨L, o, none⟩ v) :=
 ⟨(Below.refl _ _).setCell (p := ⟨L, o, none⟩) hb v, fun k arr T _ _ _ h4 hk => hk.other (fun e => h4 (blk_typeD hk (e ▸ hL))) o v, KeepsOthers.setCell _ _ _⟩
theorem OwnAt.far {α : Type} [Inhabited α] {w w' : World} {base : Nat} {T : TypeId} {k : Nat} {enc : α → List Value} {v : Value} {l : List α} (h : OwnAt w base T k enc v l) (hf : ∀ g arr, Blk w g arr T → Blk w' g arr T) : OwnAt w' base T k enc v l := by
 rcases h with h | ⟨g, cap, cur, hv, hg, hk, r⟩
 ·exact Or.inl h
 ·exact Or.inr ⟨g, cap, cur, hv, hg, hf g cur hk, r⟩
theorem bookFar {w w' : World} {base : Nat} {vs vj : Value} {stays : List Stay} {jobs : List Job} (h : OwnBook w base vs vj stays jobs) (hf : LFr base w w') : OwnBook w' base vs vj stays jobs :=
 ⟨OwnAt.far h.s (fun g arr hk => hf.far g arr _ (by decide) (by decide) (by decide) (by decide) hk), OwnAt.far h.j (fun g arr hk => hf.far g arr _ (by decide) (by decide) (by decide) (by decide) hk), h.ne⟩
theorem text_000 : (textL 0 [] []) = [48, 32, 48, 32, 48] := by
 have e0 : Lib.itoa 0 = [48] := by rw [itoa_pos (by decide)]; exact Lib.decDigits_one (by decide)
 show Lib.join ([0, ((0 : Nat) : Int), ((0 : Nat) : Int)].map Lib.itoa) [32] = _
 simp only [List.map_cons, List.map_nil, Int.natCast_zero, e0]; rw [join_two, join_two, Lib.join_one]
 rfl
def FormatPost (base db sb : Nat) (secs : List Sec) (armed : Bool) (w : World) (e : Ending) (w' : World) : Prop :=
 (secs.length < 22 ∧ e = .returned (errV 8) ∧ w' = w) ∨ (22 ≤ secs.length ∧ StorePost base db sb secs armed ⟨#[48, 32, 48, 32, 48]⟩ w e w')
theorem StorePost.front {base db sb : Nat} {secs : List Sec} {armed : Bool} {t : ByteArray} {w w1 : World} {e : Ending} {w' : World} (h : StorePost base db sb secs armed t w1 e w') (hf : DFr base w w1) (hb : base ≤ w.heap.size) : StorePost base db sb secs armed t w e w' := ⟨hf.trans h.1 hb, h.2⟩
set_option maxHeartbeats 4000000 in
theorem format_any (base db sb : Nat) (secs : List Sec) (armed : Bool) (left : Int) (w : World) (h : DiskAt w base db sb secs 0 armed left false) (hbase : base ≤ w.heap.size) (hlo : LeftOk armed left) (hw : ∀ j, j < secs.length → secs[j]!.wr = []) (hn : secs.length ≤ 1000) (G : Glob w) (hbg : Tryz.prog.globals.size ≤ base) :
  Calls Tryz.prog 73 #[.pointer (some ⟨db, 0, none⟩)] w (FormatPost base db sb secs armed w) := by
 have HS : Hid (Calls Tryz.prog 100 #[.pointer (some ⟨db, 0, none⟩)] w fun e w' => e = .returned (.int .i64 secs.length) ∧ w' = w) := sectors_any base db sb secs 0 armed left false w h
 have HT : Hid (Calls Tryz.prog 88 #[.agg #[.int .i64 0, .slice none 0 0, .slice none 0 0]] w fun e w' => e = .returned (.string ⟨#[48, 32, 48, 32, 48]⟩) ∧ Below w.heap.size w w') := by
  have := text_any ⟨0, none, 0, none, 0, [], []⟩ w ⟨⟨Nat.le_refl _, Nat.zero_le _, fun h => absurd h (Nat.lt_irrefl _)⟩, ⟨Nat.le_refl _, Nat.zero_le _, fun h => absurd h (Nat.lt_irrefl _)⟩⟩ G (by simp) (by simp) (by intro n hn; simp [numsOf] at hn; omega) (by rw [text_000]; simp)
  rw [text_000] at this; exact this
 have HST : Hid (22 ≤ secs.length → ∀ W, Below w.heap.size w W → Calls Tryz.prog 87 #[.pointer (some ⟨db, 0, none⟩), .string ⟨#[48, 32, 48, 32, 48]⟩] W (StorePost base db sb secs armed ⟨#[48, 32, 48, 32, 48]⟩ W)) := fun h22 W hb => store_any base db sb secs armed left _ W (h.below hb) (Nat.le_trans hbase hb.size) hlo hw h22 hn (by decide) (G.new hb) hbg
 have HNO : Hid (secs.length < 22 → FormatPost base db sb secs armed w (.returned (.iface 103 (.int .i64 8))) w) := fun h => Or.inl ⟨h, rfl, rfl⟩
 have HYES : Hid (22 ≤ secs.length → ∀ W, Below w.heap.size w W → ∀ e w', StorePost base db sb secs armed ⟨#[48, 32, 48, 32, 48]⟩ W e w' → FormatPost base db sb secs armed w e w') := fun h22 W hb e w' hp => Or.inr ⟨h22, hp.front (DFr.of_below hb hbase) hbase⟩
 have HV : Hid (∀ W e w', StorePost base db sb secs armed ⟨#[48, 32, 48, 32, 48]⟩ W e w' → e = .returned .nilIface ∨ e = .returned (.iface 103 (.int .i64 9))) := fun W e w' hp => hp.2.imp (fun h => h.1) (fun h => h.2.1)
 generalize (⟨#[48, 32, 48, 32, 48]⟩ : ByteArray) = T at *; generalize FormatPost base db sb secs armed w = PP at *; clear h hlo hw G
 go_enter Tryz.func73, Tryz.ntmps73
 go_wp2_with fail; refine HS.out.mono ?_; rintro e w1 ⟨rfl, hw1⟩; subst hw1
 by_cases h22 : secs.length < 22
 ·have h22z : (secs.length : Int) < 22 := by omega
  have HF := HNO.out h22; clear HT HST HYES HV; go_wp2; exact HF
 have h22z : ¬ (secs.length : Int) < 22 := by omega
 go_wp2_with fail; refine HT.out.mono ?_; rintro e w2 ⟨rfl, b2⟩; have HS2 : Hid (Calls Tryz.prog 87 #[.pointer (some ⟨db, 0, none⟩), .string T] w2 (StorePost base db sb secs armed T w2)) := HST.out (by omega) _ b2; have HY2 : Hid (∀ e w', StorePost base db sb secs armed T w2 e w' → PP e w') := HYES.out (by omega) _ b2
 have HV2 : Hid (∀ e w', StorePost base db sb secs armed T w2 e w' → e = .returned .nilIface ∨ e = .returned (.iface 103 (.int .i64 9))) := HV.out w2
 clear b2 HT HST HYES HV HNO HS; generalize StorePost base db sb secs armed T w2 = SP at *; go_wp2_with fail; refine HS2.out.mono ?_; rintro e w3 hp; have HF : Hid (PP e w3) := HY2.out _ _ hp
 rcases HV2.out _ _ hp with rfl | rfl
 ·clear hp HY2 HV2 HS2
  go_wp2; exact HF.out
 ·clear hp HY2 HV2 HS2
  go_wp2; exact HF.out
theorem StorePost.value {base db sb : Nat} {secs : List Sec} {armed : Bool} {t : ByteArray} {w : World} {e : Ending} {w' : World} (h : StorePost base db sb secs armed t w e w') : ∃ v, e = .returned v ∧ Hid ((v = .nilIface ∧ ∃ secs' left', LeftOk armed left' ∧ DiskAt w' base db sb secs' 0 armed left' false ∧ Stored secs secs' (nxN secs) t) ∨
  (v = .iface 103 (.int .i64 9) ∧ armed = true ∧ ∃ secs' bit' left', LeftOk armed left' ∧ DiskAt w' base db sb secs' bit' armed left' true ∧ Fell secs secs' (nxN secs) t)) := by
 rcases h.2 with ⟨h1, h2⟩ | ⟨h0, h1, h2⟩
 ·exact ⟨_, h1, Or.inl ⟨rfl, h2⟩⟩
 ·exact ⟨_, h1, Or.inr ⟨rfl, h0, h2⟩⟩
def KeepPost (base db sb : Nat) (secs : List Sec) (armed : Bool) (L n : Nat) (b : Book) (w : World) (e : Ending) (w' : World) : Prop := 
 (bookN b n ≠ 0 ∧ e = .returned (errV (bookN b n)) ∧ Below w.heap.size w w') ∨
 (bookN b n = 0 ∧ e = .returned .nilIface ∧ LFr base w w' ∧ ∃ secs' left' vs vj, LeftOk armed left' ∧ DiskAt w' base db sb secs' 0 armed left' false ∧ Stored secs secs' (nxN secs) ⟨(textL b.last b.stays b.jobs).toArray⟩ ∧
   Blk w' L #[.pointer (some ⟨db, 0, none⟩), .int .i64 n, .int .i64 b.last, vs, vj] 133 ∧ OwnBook w' w.heap.size vs vj b.stays b.jobs) ∨
 (bookN b n = 0 ∧ armed = true ∧ e = .returned (errV 9) ∧ DFr base w w' ∧ ∃ secs' bit' left', LeftOk armed left' ∧ DiskAt w' base db sb secs' bit' armed left' true ∧ Fell secs secs' (nxN secs) ⟨(textL b.last b.stays b.jobs).toArray⟩)
set_option maxHeartbeats 8000000 in
theorem keep_any (base db sb : Nat) (secs : List Sec) (armed : Bool) (left : Int) (L n : Nat) (ol : Int) (ov oj : Value) (b : Book) (w : World) (h : DiskAt w base db sb secs 0 armed left false) (hbase : base ≤ w.heap.size) (hlo : LeftOk armed left) (hw : ∀ j, j < secs.length → secs[j]!.wr = []) (h22 : 22 ≤ secs.length) (hn : secs.length ≤ 1000) (G : Glob w) (hbg : Tryz.prog.globals.size ≤ base)
  (hL : Blk w L #[.pointer (some ⟨db, 0, none⟩), .int .i64 n, .int .i64 ol, ov, oj] 133) (hLb : base ≤ L) (hb : b.At w) (hbl : ∀ W, DFr base w W → b.At W) (n1 : 1 ≤ n) (n4 : n ≤ 4) (hov : ∃ p m c, ov = .slice p m c) (hoj : ∃ p m c, oj = .slice p m c) :
  Calls Tryz.prog 53 #[.pointer (some ⟨L, 0, none⟩), b.val] w (KeepPost base db sb secs armed L n b w) := by
 obtain ⟨last, sa, sc, ja, jc, stays, jobs⟩ := b; have HBAD : Hid (∀ w', bookN ⟨last, sa, sc, ja, jc, stays, jobs⟩ n ≠ 0 → Below w.heap.size w w' → KeepPost base db sb secs armed L n ⟨last, sa, sc, ja, jc, stays, jobs⟩ w (.returned (errV (bookN ⟨last, sa, sc, ja, jc, stays, jobs⟩ n))) w') := fun w' h1 h2 => Or.inl ⟨h1, rfl, h2⟩
 have HOK : Hid (bookN ⟨last, sa, sc, ja, jc, stays, jobs⟩ n = 0 → ∀ w', LFr base w w' → ∀ secs' left' vs vj, LeftOk armed left' → DiskAt w' base db sb secs' 0 armed left' false → Stored secs secs' (nxN secs) ⟨(textL last stays jobs).toArray⟩ →
  Blk w' L #[.pointer (some ⟨db, 0, none⟩), .int .i64 n, .int .i64 last, vs, vj] 133 → OwnBook w' w.heap.size vs vj stays jobs → KeepPost base db sb secs armed L n ⟨last, sa, sc, ja, jc, stays, jobs⟩ w (.returned .nilIface) w') := fun h0 w' h1 s' l' vs vj h2 h3 h4 h5 h6 => Or.inr (Or.inl ⟨h0, rfl, h1, s', l', vs, vj, h2, h3, h4, h5, h6⟩)
 have HNO : Hid (bookN ⟨last, sa, sc, ja, jc, stays, jobs⟩ n = 0 → armed = true → ∀ w', DFr base w w' → ∀ secs' bit' left', LeftOk armed left' → DiskAt w' base db sb secs' bit' armed left' true → Fell secs secs' (nxN secs) ⟨(textL last stays jobs).toArray⟩ → KeepPost base db sb secs armed L n ⟨last, sa, sc, ja, jc, stays, jobs⟩ w (.returned (.iface 103 (.int .i64 9))) w') := fun h0 ha w' h1 s' b' l' h2 h3 h4 => Or.inr (Or.inr ⟨h0, ha, rfl, h1, s', b', l', h2, h3, h4⟩)
 generalize KeepPost base db sb secs armed L n ⟨last, sa, sc, ja, jc, stays, jobs⟩ w = PP at *; have HCK : Hid (∀ W, Below w.heap.size w W → Calls Tryz.prog 32 #[.agg #[.int .i64 last, .slice sa stays.length sc, .slice ja jobs.length jc], .int .i64 n] W fun e w' => e = .returned (errV (bookN ⟨last, sa, sc, ja, jc, stays, jobs⟩ n)) ∧ Below W.heap.size W w') := fun W hx => bookCheck_any ⟨last, sa, sc, ja, jc, stays, jobs⟩ n W (hb.below hx) n1 n4
 have HOKB : bookN ⟨last, sa, sc, ja, jc, stays, jobs⟩ n = 0 → BookOK last n stays jobs := fun h0 => (bookN_zero _ _).1 h0
 have HTX : Hid (bookN ⟨last, sa, sc, ja, jc, stays, jobs⟩ n = 0 → ∀ W, Below w.heap.size w W → Calls Tryz.prog 88 #[.agg #[.int .i64 last, .slice sa stays.length sc, .slice ja jobs.length jc]] W fun e w' => e = .returned (.string ⟨(textL last stays jobs).toArray⟩) ∧ Below W.heap.size W w') := fun h0 W hx =>
  text_any ⟨last, sa, sc, ja, jc, stays, jobs⟩ W (hb.below hx) (G.new hx) (by have := (HOKB h0).fewS; show stays.length ≤ 1000; omega) (by have := (HOKB h0).fewJ; show jobs.length ≤ 1000; omega) (ok_nums n4 (HOKB h0)) (by have := text_500 n4 (HOKB h0); show (textL last stays jobs).length ≤ _; omega)
 have HST : Hid (bookN ⟨last, sa, sc, ja, jc, stays, jobs⟩ n = 0 → ∀ W, Below w.heap.size w W → Calls Tryz.prog 87 #[.pointer (some ⟨db, 0, none⟩), .string ⟨(textL last stays jobs).toArray⟩] W (StorePost base db sb secs armed ⟨(textL last stays jobs).toArray⟩ W)) := fun h0 W hx => store_any base db sb secs armed left _ W (h.below hx) (Nat.le_trans hbase hx.size) hlo hw h22 hn (by show (textL last stays jobs).toArray.size ≤ _; rw [List.size_toArray]; have := text_500 n4 (HOKB h0); omega) (G.new hx) hbg
 have HCP : Hid (bookN ⟨last, sa, sc, ja, jc, stays, jobs⟩ n = 0 → ∀ W, DFr base w W → Calls Tryz.prog 77 #[.agg #[.int .i64 last, .slice sa stays.length sc, .slice ja jobs.length jc]] W fun e w' => ∃ vs vj, e = .returned (.agg #[.int .i64 last, vs, vj]) ∧ OwnBook w' W.heap.size vs vj stays jobs ∧ Below W.heap.size W w') := fun h0 W hx => by
  have hbW : Book.At ⟨last, sa, sc, ja, jc, stays, jobs⟩ W := hbl W hx; exact copy_any ⟨last, sa, sc, ja, jc, stays, jobs⟩ W hbW (by have := (HOKB h0).fewS; show stays.length ≤ 1000; omega) (by have := (HOKB h0).fewJ; show jobs.length ≤ 1000; omega)
 clear HOKB; obtain ⟨w0, hw0⟩ : ∃ w0, w.alloc (.cells #[.int .i64 last, .slice sa stays.length sc, .slice ja jobs.length jc] 39) = w0 := ⟨_, rfl⟩
 have N0 : Hid (Below w.heap.size w w0 ∧ Blk w0 w.heap.size #[.int .i64 last, .slice sa stays.length sc, .slice ja jobs.length jc] 39 ∧ Blk w0 L #[.pointer (some ⟨db, 0, none⟩), .int .i64 n, .int .i64 ol, ov, oj] 133) := by
  show _ ∧ _ ∧ _
  rw [← hw0]; exact ⟨B.new1 _ _, Blk.new _ _ _, hL.old _⟩
 have HBW : Hid (∀ W, Below w0.heap.size w0 W → Below w.heap.size w W) := fun W hx => B.next N0.out.1 hx N0.out.1.size
 have HS1 : Hid (∀ W, Below w0.heap.size w0 W → W.cell? ⟨L, 1, none⟩ = some (.int .i64 n) ∧ W.cell? ⟨w.heap.size, 0, none⟩ = some (.int .i64 last) ∧ W.cell? ⟨w.heap.size, 1, none⟩ = some (.slice sa stays.length sc) ∧ W.cell? ⟨w.heap.size, 2, none⟩ = some (.slice ja jobs.length jc)) := fun W hx => ⟨(N0.out.2.2.below hx).cell 1, (N0.out.2.1.below hx).cell 0, (N0.out.2.1.below hx).cell 1, (N0.out.2.1.below hx).cell 2⟩
 have D0 : Hid (Below w0.heap.size w0 w0.drew) := (Below.refl _ _).drew; have HDK : Hid (∀ W, Below w.heap.size w W → DiskAt W base db sb secs 0 armed left false) := fun W hx => h.below hx
 have hsL : Hid (L < w.heap.size) := hL.lt; clear h hlo hw G hL hb hbl; generalize bookN ⟨last, sa, sc, ja, jc, stays, jobs⟩ n = bn at *; unfold Book.val; simp only
 go_enter Tryz.func53, Tryz.ntmps53
 go_upto_region 1 with fail
 (try simp only [hw0])
 clear hw0
 go_region_held3 (fun W => W.cell? ⟨L, 1, none⟩ = some (.int .i64 n) ∧ W.cell? ⟨w.heap.size, 0, none⟩ = some (.int .i64 last) ∧ W.cell? ⟨w.heap.size, 1, none⟩ = some (.slice sa stays.length sc) ∧ W.cell? ⟨w.heap.size, 2, none⟩ = some (.slice ja jobs.length jc)) (first | with_reducible exact HS1.out _ D0.out | with_reducible exact HS1.out _ B1.out | go_keep)
  (first | (go_at_call 32; refine (HCK.out w0.drew (HBW.out _ D0.out)).mono ?_; rintro e w1 ⟨rfl, b1⟩; have B1 : Hid (Below w0.heap.size w0 w1) := B.next D0.out b1 D0.out.size; clear b1))
 have X1 : Hid (Below w.heap.size w w1) := HBW.out _ B1.out
 by_cases hbn : bn = 0
 case neg =>
  rw [errV_ne hbn]; have HF : Hid (PP (.returned (.iface 103 (.int .i64 bn))) w1) := by have := HBAD.out w1 hbn X1.out; rwa [errV_ne hbn] at this
  clear HOK HNO HBAD HCK HTX HST HCP HS1 HDK; go_wp2; exact HF.out
 rw [hbn, errV0]; have HOK := HOK.out hbn; have HNO := HNO.out hbn; have HTX := HTX.out hbn; have HST := HST.out hbn; have HCP := HCP.out hbn; have HOK2 : Hid _ := hidd HOK; have HNO2 : Hid _ := hidd HNO; have HTX2 : Hid _ := hidd HTX; have HST2 : Hid _ := hidd HST; have HCP2 : Hid _ := hidd HCP; clear HBAD HCK HOK HNO HTX HST HCP hbn; have HL1 : Hid (Blk w1 L #[.pointer (some ⟨db, 0, none⟩), .int .i64 n, .int .i64 ol, ov, oj] 133 ∧ Blk w1 w.heap.size #[.int .i64 last, .slice sa stays.length sc, .slice ja jobs.length jc] 39) := ⟨N0.out.2.2.below B1.out, N0.out.2.1.below B1.out⟩; have HS4 : Hid (∀ W, Blk W L #[.pointer (some ⟨db, 0, none⟩), .int .i64 n, .int .i64 ol, ov, oj] 133 ∧ Blk W w.heap.size #[.int .i64 last, .slice sa stays.length sc, .slice ja jobs.length jc] 39 → W.cell? ⟨L, 0, none⟩ = some (.pointer (some ⟨db, 0, none⟩)) ∧ W.cell? ⟨w.heap.size, 0, none⟩ = some (.int .i64 last) ∧ W.cell? ⟨w.heap.size, 1, none⟩ = some (.slice sa stays.length sc) ∧ W.cell? ⟨w.heap.size, 2, none⟩ = some (.slice ja jobs.length jc)) := fun W hx => ⟨hx.1.cell 0, hx.2.cell 0, hx.2.cell 1, hx.2.cell 2⟩
 have D1 : Hid (Below w1.heap.size w1 w1.drew) := (Below.refl _ _).drew; have X1d : Hid (Below w.heap.size w w1.drew) := B.next X1.out D1.out X1.out.size; have HL1d : Hid (Blk w1.drew L #[.pointer (some ⟨db, 0, none⟩), .int .i64 n, .int .i64 ol, ov, oj] 133 ∧ Blk w1.drew w.heap.size #[.int .i64 last, .slice sa stays.length sc, .slice ja jobs.length jc] 39) := ⟨HL1.out.1.below D1.out, HL1.out.2.below D1.out⟩; clear HS1 D0 N0 HBW B1 HL1
 go_upto_region 4 with fail
 have HTX3 : Hid (Calls Tryz.prog 88 #[.agg #[.int .i64 last, .slice sa stays.length sc, .slice ja jobs.length jc]] w1.drew fun e w' => e = .returned (.string ⟨(textL last stays jobs).toArray⟩) ∧ Below w1.drew.heap.size w1.drew w') := HTX2.out _ X1d.out
 generalize hT : (⟨(textL last stays jobs).toArray⟩ : ByteArray) = T at *
 go_region_held3 (fun W => W.cell? ⟨L, 0, none⟩ = some (.pointer (some ⟨db, 0, none⟩)) ∧ W.cell? ⟨w.heap.size, 0, none⟩ = some (.int .i64 last) ∧ W.cell? ⟨w.heap.size, 1, none⟩ = some (.slice sa stays.length sc) ∧ W.cell? ⟨w.heap.size, 2, none⟩ = some (.slice ja jobs.length jc)) (first | with_reducible exact HS4.out _ HL1d.out | with_reducible exact HS4.out _ HL2.out | with_reducible exact HS4.out _ HL3.out | go_keep)
  (first
    | (go_at_call 88; refine HTX3.out.mono ?_; rintro e w2 ⟨rfl, b2⟩; have HL2 : Hid (Blk w2 L #[.pointer (some ⟨db, 0, none⟩), .int .i64 n, .int .i64 ol, ov, oj] 133 ∧ Blk w2 w.heap.size #[.int .i64 last, .slice sa stays.length sc, .slice ja jobs.length jc] 39) := ⟨HL1d.out.1.below b2, HL1d.out.2.below b2⟩; have X2 : Hid (Below w.heap.size w w2) := B.next X1d.out b2 X1d.out.size; clear b2)
    | (go_at_call 87; refine (HST2.out w2 X2.out).mono ?_; rintro e w3 hsp; have HSP : Hid (StorePost base db sb secs armed T w2 e w3) := hsp; have HL3 : Hid (Blk w3 L #[.pointer (some ⟨db, 0, none⟩), .int .i64 n, .int .i64 ol, ov, oj] 133 ∧ Blk w3 w.heap.size #[.int .i64 last, .slice sa stays.length sc, .slice ja jobs.length jc] 39) := ⟨hsp.1.far _ _ _ (by decide) (by decide) (by decide) HL2.out.1, hsp.1.far _ _ _ (by decide) (by decide) (by decide) HL2.out.2⟩; clear hsp; obtain ⟨v, rfl, HV⟩ := HSP.out.value))
 have HF3 : Hid (DFr base w w3) := (DFr.of_below X2.out hbase).trans HSP.out.1 hbase; have hL3 : Hid (L < w3.heap.size) := HL3.out.1.lt; clear HTX2 HTX3 HST2 D1 X1d HL1d X1 HS4 HSP HL2 X2
 rcases HV.out with ⟨rfl, s', l', k1, k2, k3⟩ | ⟨rfl, har, s', b', l', k1, k2, k3⟩
 ·have HCP3 : Hid (Calls Tryz.prog 77 #[.agg #[.int .i64 last, .slice sa stays.length sc, .slice ja jobs.length jc]] w3 fun e w' => ∃ vs vj, e = .returned (.agg #[.int .i64 last, vs, vj]) ∧ OwnBook w' w3.heap.size vs vj stays jobs ∧ Below w3.heap.size w3 w') := HCP2.out _ HF3.out
  have K : Hid (LeftOk armed l' ∧ DiskAt w3 base db sb s' 0 armed l' false ∧ Stored secs s' (nxN secs) T) := ⟨k1, k2, k3⟩; have r3 := HL3.out.2.cell; clear k1 k2 k3 HCP2 HV HNO2; go_wp2_with fail; refine HCP3.out.mono ?_; rintro e w4 ⟨vs, vj, rfl, ho, b4⟩; obtain ⟨sx, cx, hvs, _⟩ := ho.s.rows; obtain ⟨jx, dx, hvj, _⟩ := ho.j.rows; have HB4 : Hid (Blk w4 L #[.pointer (some ⟨db, 0, none⟩), .int .i64 n, .int .i64 ol, ov, oj] 133) := HL3.out.1.below b4; obtain ⟨w5, hw5⟩ : ∃ w5, ((w4.setCell ⟨L, 2, none⟩ (.int .i64 last)).setCell ⟨L, 3, none⟩ vs).setCell ⟨L, 4, none⟩ vj = w5 := ⟨_, rfl⟩
  have HF : Hid (PP (.returned .nilIface) w5) := by
   show PP (.returned .nilIface) w5
   rw [← hw5]; have hs3 : w.heap.size ≤ w3.heap.size := HF3.out.b.size; have B1 : Blk (w4.setCell ⟨L, 2, none⟩ (.int .i64 last)) L #[.pointer (some ⟨db, 0, none⟩), .int .i64 n, .int .i64 last, ov, oj] 133 := HB4.out.set 2 _; have B2 : Blk ((w4.setCell ⟨L, 2, none⟩ (.int .i64 last)).setCell ⟨L, 3, none⟩ vs) L #[.pointer (some ⟨db, 0, none⟩), .int .i64 n, .int .i64 last, vs, oj] 133 := B1.set 3 _; have B3 : Blk (((w4.setCell ⟨L, 2, none⟩ (.int .i64 last)).setCell ⟨L, 3, none⟩ vs).setCell ⟨L, 4, none⟩ vj) L #[.pointer (some ⟨db, 0, none⟩), .int .i64 n, .int .i64 last, vs, vj] 133 := B2.set 4 _; have F4 : DFr base w w4 := HF3.out.trans (DFr.of_below b4 (Nat.le_trans hbase hs3)) hbase; have D1 := diskFar (K.out.2.1.below b4) HB4.out (by decide) (by decide) (by decide) 2 (.int .i64 last); have D2 := diskFar D1 B1 (by decide) (by decide) (by decide) 3 vs; have D3 := diskFar D2 B2 (by decide) (by decide) (by decide) 4 vj; exact HOK2.out _ ((((LFr.of_dfr F4).trans (LFr.of_set HB4.out hLb 2 _)).trans (LFr.of_set B1 hLb 3 _)).trans (LFr.of_set B2 hLb 4 _)) s' l' vs vj K.out.1 D3 K.out.2.2 B3 (bookDown (bookSet (bookSet (bookSet ho _ hL3.out) _ hL3.out) _ hL3.out) hs3)
  subst hvs hvj; obtain ⟨p1, m1, c1, rfl⟩ := hov; obtain ⟨p2, m2, c2, rfl⟩ := hoj; have r4 := HB4.out.cell; have f4 := HB4.out.free; clear HOK2 HCP3 ho b4 K HL3 HF3 HB4 r3; go_wp2
  (try simp only [hw5])
  exact HF.out
 ·have HF : Hid (PP (.returned (.iface 103 (.int .i64 9))) w3) := HNO2.out har _ HF3.out s' b' l' k1 k2 k3
  clear HOK2 HNO2 HCP2 k1 k2 k3 HV; go_wp2; exact HF.out
end Lg
end Go.Proofs.YtopgllmjeliklaaGreatDoor
