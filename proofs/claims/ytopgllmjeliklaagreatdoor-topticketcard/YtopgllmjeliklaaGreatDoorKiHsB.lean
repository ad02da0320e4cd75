/- HsB HsC TopPickC Bits. -/
import Derived.Test.YtopgllmjeliklaaGreatDoorKiView
set_option maxRecDepth 100000
set_option linter.unusedSimpArgs false
set_option linter.unusedVariables false
namespace Go.Proofs.YtopgllmjeliklaaGreatDoor
open Go.Shelf Go.Lib Go.ChangeShapes Go.WideShapes Go.ChangeAt Go.RowKit
namespace Hs
open Bk Lg Pl Dk Tx
def GoalsH (w : World) (v : Value) (l : List (Int × Int)) : Prop :=
 ∃ (ad : Option Addr) (cap : Nat), v = .slice ad l.length cap ∧ l.length ≤ 100 ∧ l.length ≤ cap ∧ cap ≤ maxLen ∧
  (0 < l.length → ∃ g off cur, ad = some ⟨g, off, none⟩ ∧ Blk w g cur 102 ∧ ∀ i, i < l.length → cur[off + i * 2]? = some (.int .i64 (l.getD i (0, 0)).1) ∧ cur[off + i * 2 + 1]? = some (.int .i64 (l.getD i (0, 0)).2))
theorem GoalsH.nil (w : World) : GoalsH w (.slice none 0 0) [] := ⟨none, 0, rfl, Nat.zero_le _, Nat.le_refl _, Nat.zero_le _, fun h => absurd h (Nat.lt_irrefl 0)⟩
theorem GoalsH.far {w w' : World} {v : Value} {l : List (Int × Int)} (h : GoalsH w v l) (hf : ∀ g arr, Blk w g arr 102 → Blk w' g arr 102) : GoalsH w' v l := by
 obtain ⟨ad, cap, hv, h1, h2, h3, hc⟩ := h; refine ⟨ad, cap, hv, h1, h2, h3, fun h0 => ?_⟩
 obtain ⟨g, off, cur, ha, hk, hcell⟩ := hc h0; exact ⟨g, off, cur, ha, hf g cur hk, hcell⟩
theorem goalsH_of {w : World} {v : Value} {l : List (Int × Int)} (h : Tn.Goals w v l) : GoalsH w v l := by
 rcases h with ⟨rfl, rfl⟩ | ⟨g, cap, hv, hg, ⟨h1, h2, h3, cur, hk⟩, hc⟩
 ·exact GoalsH.nil w
 ·have hk' : Blk w g cur 102 := hk
  refine ⟨_, cap, hv, h1, h2, h3, fun h0 => ⟨g, 0, cur, rfl, hk', fun i hi => ?_⟩⟩
  have e : l.getD i (0, 0) = l[i] := by simp [List.getD, hi]
  obtain ⟨c0, c1⟩ := hc i hi; rw [hk'.cell] at c0 c1; rw [e, show 0 + i * 2 = i * 2 from by omega]
  exact ⟨c0, c1⟩
theorem GoalsH.tail {w : World} {ad : Option Addr} {n cap : Nat} {g : Int × Int} {l : List (Int × Int)} (h : GoalsH w (.slice ad n cap) (g :: l)) :
  ∃ b off, ad = some ⟨b, off, none⟩ ∧ n = l.length + 1 ∧ l.length + 1 ≤ cap ∧ GoalsH w (.slice (some ⟨b, off + 2, none⟩) l.length (cap - 1)) l := by
 obtain ⟨ad', cap', hv, h1, h2, h3, hc⟩ := h; injection hv with e1 e2 e3; subst e1 e3; obtain ⟨b, off, cur, ha, hk, hcell⟩ := hc (by simp); refine ⟨b, off, ha, e2, h2, _, _, rfl, by simp at h1; omega, by simp at h2; omega, by omega, fun h0 => ⟨b, off + 2, cur, rfl, hk, fun i hi => ?_⟩⟩
 have := hcell (i + 1) (by simpa using hi); rw [show off + (i + 1) * 2 = off + 2 + i * 2 from by omega] at this
 simpa using this
structure HFr (base : Nat) (w w' : World) : Prop where
 b : Below base w w'
 far : ∀ k arr T, T ≠ 124 → T ≠ 157 → T ≠ 194 → T ≠ 133 → T ≠ 92 → T ≠ 96 → Blk w k arr T → Blk w' k arr T
theorem HFr.trans {base : Nat} {a b c : World} (h : HFr base a b) (k : HFr base b c) : HFr base a c := ⟨⟨k.b.os.trans h.b.os, k.b.tape.trans h.b.tape, k.b.output.trans h.b.output, Nat.le_trans h.b.size k.b.size, fun q hq => (k.b.block q hq).trans (h.b.block q hq)⟩, fun q arr T h1 h2 h3 h4 h5 h6 hk => k.far q arr T h1 h2 h3 h4 h5 h6 (h.far q arr T h1 h2 h3 h4 h5 h6 hk)⟩
theorem HFr.of_l {base : Nat} {w w' : World} (h : LFr base w w') : HFr base w w' := ⟨h.b, fun k arr T h1 h2 h3 h4 _ _ hk => h.far k arr T h1 h2 h3 h4 hk⟩
theorem HFr.of_below {base : Nat} {w w' : World} (h : Below w.heap.size w w') (hb : base ≤ w.heap.size) : HFr base w w' := ⟨⟨h.os, h.tape, h.output, h.size, fun k hk => h.block k (by omega)⟩, fun _ _ _ _ _ _ _ _ _ hk => hk.below h⟩
theorem turn_far {w w' : World} {pb mb n : Nat} {s : St} (h : IsP w pb mb n s) (t : Turn pb mb w w') : ∀ k arr T, T ≠ 92 → Blk w k arr T → Blk w' k arr T := fun k arr T hT hk => (t.block k hk.lt (fun e => by
 subst e
 exact hT (blk_typeD hk h.row)) (fun e => by
 subst e; obtain ⟨es, clock, hm, r⟩ := h.cars; have h1 : w.heap[k]? = _ := hk; rw [hm] at h1
 cases h1)).trans hk
theorem HFr.of_turn {base : Nat} {w w' : World} {pb mb n : Nat} {s : St} (h : IsP w pb mb n s) (hp : base ≤ pb) (hm : base ≤ mb) (hb : base ≤ w.heap.size) (t : Turn pb mb w w') : HFr base w w' := ⟨⟨t.os, t.tape, t.output, t.size, fun k hk => t.block k (by omega) (by omega) (by omega)⟩, fun k arr T _ _ _ _ h5 _ hk => turn_far h t k arr T h5 hk⟩
theorem isP_l {base : Nat} {w w' : World} {pb mb n : Nat} {s : St} (h : IsP w pb mb n s) (f : LFr base w w') : IsP w' pb mb n s := by
 refine ⟨f.far pb _ _ (by decide) (by decide) (by decide) (by decide) h.row, ?_⟩; obtain ⟨es, clock, hm, r⟩ := h.cars; exact ⟨es, clock, f.oth.same mb _ hm rfl, r⟩
theorem OwnAt.far2 {α : Type} [Inhabited α] {w w' : World} {base : Nat} {T : TypeId} {k : Nat} {enc : α → List Value} {v : Value} {l : List α} (h : OwnAt w base T k enc v l) (hf : ∀ g arr, Blk w g arr T → Blk w' g arr T) : OwnAt w' base T k enc v l := Lg.OwnAt.far h hf
theorem LedS.far {w w' : World} {base db sb : Nat} {secs : List Sec} {armed : Bool} {left : Int} {L n : Nat} {b : PB} (h : LedS w base db sb secs armed left L n b) (hf : ∀ k arr T, T ≠ 92 → T ≠ 96 → Blk w k arr T → Blk w' k arr T) : LedS w' base db sb secs armed left L n b := by
 obtain ⟨vs, vj, h1, h2⟩ := h.l; exact ⟨⟨hf _ _ _ (by decide) (by decide) h.d.d, hf _ _ _ (by decide) (by decide) h.d.s, fun i hi => OwnAt.far2 (h.d.own i hi) (fun g arr hk => hf _ _ _ (by decide) (by decide) hk), h.d.ne, h.d.hb⟩, h.len, h.few, h.wr, h.lo, ⟨vs, vj, hf _ _ _ (by decide) (by decide) h1, ⟨OwnAt.far2 h2.s (fun g arr hk => hf _ _ _ (by decide) (by decide) hk), OwnAt.far2 h2.j (fun g arr hk => hf _ _ _ (by decide) (by decide) hk), h2.ne⟩⟩, h.hL, h.op⟩
structure HouseS (w : World) (base pb mb n db sb L hb : Nat) (secs : List Sec) (armed : Bool) (left : Int) (lv : List (Int × Int × Int)) (s : St) (b : PB) (gs : List (Int × Int)) : Prop where
 h : ∃ vl vg, Blk w hb #[vl, .pointer (some ⟨pb, 0, none⟩), .pointer (some ⟨L, 0, none⟩), vg] 96 ∧ OwnAt w base 32 3 Bk.encP vl lv ∧ GoalsH w vg gs
 p : IsP w pb mb n s
 iv : Inv s
 l : LedS w base db sb secs armed left L lv.length b
 hpb : base ≤ pb
 hmb : base ≤ mb
 hhb : base ≤ hb
 hsz : base ≤ w.heap.size
 n1 : 1 ≤ lv.length
 n4 : lv.length ≤ 4
 ok : BookOK b.last lv.length b.stays b.jobs
section
variable {w w' : World} {base pb mb n db sb L hb : Nat} {secs : List Sec} {armed : Bool} {left : Int} {lv : List (Int × Int × Int)} {s : St} {b : PB} {gs : List (Int × Int)}
theorem HouseS.below (h : HouseS w base pb mb n db sb L hb secs armed left lv s b gs) (hB : Below w.heap.size w w') : HouseS w' base pb mb n db sb L hb secs armed left lv s b gs := by
 obtain ⟨vl, vg, h1, h2, h3⟩ := h.h; exact ⟨⟨vl, vg, h1.below hB, h2.below hB, h3.far fun _ _ hk => hk.below hB⟩, h.p.below hB, h.iv, h.l.below hB, h.hpb, h.hmb, h.hhb, Nat.le_trans h.hsz hB.size, h.n1, h.n4, h.ok⟩
theorem HouseS.turned {n' : Nat} {s' : St} (h : HouseS w base pb mb n db sb L hb secs armed left lv s b gs) (t : Turn pb mb w w') (hp : IsP w' pb mb n' s') (iv : Inv s') : HouseS w' base pb mb n' db sb L hb secs armed left lv s' b gs := by
 obtain ⟨vl, vg, h1, h2, h3⟩ := h.h; have hf := turn_far h.p t; exact ⟨⟨vl, vg, hf _ _ _ (by decide) h1, OwnAt.far2 h2 fun _ _ hk => hf _ _ _ (by decide) hk, h3.far fun _ _ hk => hf _ _ _ (by decide) hk⟩, hp, iv, LedS.far h.l fun k arr T h1 _ hk => hf k arr T h1 hk, h.hpb, h.hmb, h.hhb, Nat.le_trans h.hsz t.size, h.n1, h.n4, h.ok⟩
theorem HouseS.kept {secs' : List Sec} {left' : Int} {b' : PB} (h : HouseS w base pb mb n db sb L hb secs armed left lv s b gs) (f : LFr base w w') (hl : LedS w' base db sb secs' armed left' L lv.length b') (ok : BookOK b'.last lv.length b'.stays b'.jobs) : HouseS w' base pb mb n db sb L hb secs' armed left' lv s b' gs := by
 obtain ⟨vl, vg, h1, h2, h3⟩ := h.h; exact ⟨⟨vl, vg, f.far _ _ _ (by decide) (by decide) (by decide) (by decide) h1, OwnAt.far2 h2 fun _ _ hk => f.far _ _ _ (by decide) (by decide) (by decide) (by decide) hk, h3.far fun _ _ hk => f.far _ _ _ (by decide) (by decide) (by decide) (by decide) hk⟩, isP_l h.p f, h.iv, hl, h.hpb, h.hmb, h.hhb, Nat.le_trans h.hsz f.b.size, h.n1, h.n4, ok⟩
theorem HouseS.goals {v : Value} {gs' : List (Int × Int)} (h : HouseS w base pb mb n db sb L hb secs armed left lv s b gs) (hg : GoalsH w v gs') : HouseS (w.setCell ⟨hb, 3, none⟩ v) base pb mb n db sb L hb secs armed left lv s b gs' ∧ HFr base w (w.setCell ⟨hb, 3, none⟩ v) := by
 obtain ⟨vl, vg, h1, h2, h3⟩ := h.h; have hf : ∀ k arr T, T ≠ 96 → Blk w k arr T → Blk (w.setCell ⟨hb, 3, none⟩ v) k arr T := fun k arr T hT hk => hk.other (fun e => hT (blk_typeD hk (e ▸ h1))) _ _
 have hB : Below base w (w.setCell ⟨hb, 3, none⟩ v) := (Below.refl _ _).setCell (p := ⟨hb, 3, none⟩) h.hhb v; refine ⟨⟨⟨vl, v, h1.set 3 v, OwnAt.far2 h2 fun _ _ hk => hf _ _ _ (by decide) hk, hg.far fun _ _ hk => hf _ _ _ (by decide) hk⟩, ⟨hf _ _ _ (by decide) h.p.row, ?_⟩, h.iv, LedS.far h.l fun k arr T _ h1 hk => hf k arr T h1 hk, h.hpb, h.hmb, h.hhb, Nat.le_trans h.hsz hB.size, h.n1, h.n4, h.ok⟩, hB, fun k arr T _ _ _ _ _ h6 hk => hf k arr T h6 hk⟩
 obtain ⟨es, clock, hm, r⟩ := h.p.cars; exact ⟨es, clock, (KeepsOthers.setCell w _ v).same mb _ hm rfl, r⟩
end
end Hs
namespace Hs
open Bk Lg Pl Dk Tx
set_option maxHeartbeats 2000000 in
theorem hbook_any (base pb mb n db sb L hb : Nat) (secs : List Sec) (armed : Bool) (left : Int) (lv : List (Int × Int × Int)) (s : St) (b : PB) (gs : List (Int × Int)) (w : World) (h : HouseS w base pb mb n db sb L hb secs armed left lv s b gs) :
  Calls Tryz.prog 20 #[.pointer (some ⟨hb, 0, none⟩)] w fun e w' => ∃ vs vj, e = .returned (.agg #[.int .i64 b.last, vs, vj]) ∧ OwnBook w' w.heap.size vs vj b.stays b.jobs ∧ Below w.heap.size w w' := by
 obtain ⟨w0, hw0⟩ : ∃ w0, w.alloc (.cells #[.int .i64 0, .slice none 0 0, .slice none 0 0] 39) = w0 := ⟨_, rfl⟩
 obtain ⟨vl, vg, h1, h2, h3⟩ := h.h
 have N0 : Hid (Below w.heap.size w w0 ∧ Blk w0 w.heap.size #[.int .i64 0, .slice none 0 0, .slice none 0 0] 39 ∧ Blk w0 hb #[vl, .pointer (some ⟨pb, 0, none⟩), .pointer (some ⟨L, 0, none⟩), vg] 96) := by
  show _ ∧ _ ∧ _
  rw [← hw0]; exact ⟨B.new1 _ _, Blk.new _ _ _, h1.old _⟩
 have HC : Hid (Calls Tryz.prog 51 #[.pointer (some ⟨L, 0, none⟩)] w0 fun e w' => ∃ vs vj, e = .returned (.agg #[.int .i64 b.last, vs, vj]) ∧ OwnBook w' w0.heap.size vs vj b.stays b.jobs ∧ Below w0.heap.size w0 w') := bookS base db sb secs armed left L lv.length b w0 (h.l.below N0.out.1) (by have := h.ok.fewS; omega) (by have := h.ok.fewJ; omega)
 have c0 := N0.out.2.2.cell; generalize hPP : (fun (e : Ending) (w' : World) => ∃ vs vj, e = .returned (.agg #[.int .i64 b.last, vs, vj]) ∧ OwnBook w' w.heap.size vs vj b.stays b.jobs ∧ Below w.heap.size w w') = PP
 have HP : Hid (∀ vs vj w', OwnBook w' w.heap.size vs vj b.stays b.jobs → Below w.heap.size w w' → PP (.returned (.agg #[.int .i64 b.last, vs, vj])) w') := fun vs vj w' ho hb => by rw [← hPP]; exact ⟨vs, vj, rfl, ho, hb⟩
 clear hPP h h1 h2 h3; generalize b.last = last at *; generalize b.stays = stays at *; generalize b.jobs = jobs at *
 go_enter Tryz.func20, Tryz.ntmps20
 go_wp2_with fail; clear hw0; refine HC.out.mono ?_; rintro e w1 ⟨vs, vj, rfl, ho, b1⟩; have N1 : Hid (Below w.heap.size w w1 ∧ Blk w1 w.heap.size #[.int .i64 0, .slice none 0 0, .slice none 0 0] 39) := ⟨B.next N0.out.1 b1 N0.out.1.size, N0.out.2.1.below b1⟩; have r1 := N1.out.2.cell; have f1 := N1.out.2.free
 have HF : Hid (PP (.returned (.agg #[.int .i64 last, vs, vj])) (((w1.setCell ⟨w.heap.size, 0, none⟩ (.int .i64 last)).setCell ⟨w.heap.size, 1, none⟩ vs).setCell ⟨w.heap.size, 2, none⟩ vj)) := by
  have hlt : w.heap.size < w0.heap.size := N0.out.2.1.lt; exact HP.out vs vj _ (bookDown (bookSet (bookSet (bookSet ho _ hlt) _ hlt) _ hlt) (Nat.le_of_lt hlt)) (((N1.out.1.setCell (p := ⟨w.heap.size, 0, none⟩) (Nat.le_refl _) _).setCell (p := ⟨w.heap.size, 1, none⟩) (Nat.le_refl _) _).setCell (p := ⟨w.heap.size, 2, none⟩) (Nat.le_refl _) _)
 obtain ⟨sx, cx, hvs, _⟩ := ho.s.rows; obtain ⟨jx, dx, hvj, _⟩ := ho.j.rows; subst hvs hvj; clear N0 N1 b1 ho HP HC c0; go_wp2
 (try simp only [Exit.inBlock, Exit.then])
 refine bodyPost_ret (v := .agg #[.int .i64 last, .slice sx stays.length cx, .slice jx jobs.length dx]) (by simp [results, Tryz.results20, go_sem, set3_0 r1, set3_1 r1, set3_2 r1]; try rfl) rfl ?_; exact HF.out
def NewPost (base pb mb n db sb : Nat) (secs : List Sec) (armed : Bool) (left : Int) (lv : List (Int × Int × Int)) (s : St) (b : PB) (w : World) (e : Ending) (w' : World) : Prop :=
 Below w.heap.size w w' ∧ ∃ L hb, e = .returned (.tuple #[.pointer (some ⟨hb, 0, none⟩), .nilIface]) ∧ HouseS w' base pb mb n db sb L hb secs armed left lv s b []
set_option maxHeartbeats 4000000 in
theorem hnew_any (base pb mb n db sb : Nat) (secs : List Sec) (armed : Bool) (left : Int) (len : Nat) (f : Nat → Int × Int × Int) (lvv : Value) (s : St) (b : PB) (w : World) (hs : SizesAt w lvv len f) (hlv : levelsN len f = 0) (hp : IsP w pb mb n s) (iv : Inv s) (hpb : base ≤ pb) (hmb : base ≤ mb) (hbase : base ≤ w.heap.size)
  (h : DiskAt w base db sb secs 0 armed left false) (h22 : 22 ≤ secs.length) (hn : secs.length ≤ 1000) (hw : ∀ j, j < secs.length → secs[j]!.wr = []) (hlo : LeftOk armed left) (hop : openP secs len = some b) (ok : BookOK b.last len b.stays b.jobs) (G : Glob w) :
  Calls Tryz.prog 39 #[lvv, .pointer (some ⟨pb, 0, none⟩), .pointer (some ⟨db, 0, none⟩)] w (NewPost base pb mb n db sb secs armed left (rowsOf f len) s b w) := by
 have hln := levelsN_zero hlv; have HCK : Hid (Calls Tryz.prog 45 #[lvv] w fun e w' => e = .returned .nilIface ∧ Below w.heap.size w w') := (check_any lvv len f w hs).mono (by rintro e w' ⟨rfl, hb⟩; rw [hlv]; exact ⟨rfl, hb⟩)
 have HOP : Hid (∀ W, Below w.heap.size w W → Calls Tryz.prog 68 #[.pointer (some ⟨db, 0, none⟩), .int .i64 len] W (OpenS base db sb secs armed left len b W)) := fun W hb => openS base db sb secs armed left len b W (h.below hb) (Nat.le_trans hbase hb.size) h22 hn hw hlo hop (G.new hb) hln.1 hln.2.1
 obtain ⟨a, cap, hv, hrows⟩ := rows_of_sizes hs
 have HCL : Hid (∀ W, Below w.heap.size w W → Calls Tryz.prog 69 #[.slice a len cap] W fun e w' => ∃ v, e = .returned v ∧ OwnAt w' W.heap.size 32 3 Bk.encP v (rowsOf f len) ∧ Below W.heap.size W w') := fun W hb => by
  have := cloneZ_any a cap (rowsOf f len) W (hrows.below hb) (by rw [rowsOf_len]; have := hln.2.1; omega); rw [rowsOf_len] at this; exact this
 have HFIN : Hid (∀ L hb vl W, Below w.heap.size w W → LedS W base db sb secs armed left L len b → w.heap.size ≤ hb → Blk W hb #[vl, .pointer (some ⟨pb, 0, none⟩), .pointer (some ⟨L, 0, none⟩), .slice none 0 0] 96 → OwnAt W w.heap.size 32 3 Bk.encP vl (rowsOf f len) → NewPost base pb mb n db sb secs armed left (rowsOf f len) s b w (.returned (.tuple #[.pointer (some ⟨hb, 0, none⟩), .nilIface])) W) := fun L hb vl W hB hl hhb hk ho =>
  ⟨hB, L, hb, rfl, ⟨⟨vl, _, hk, ho.base hbase, GoalsH.nil W⟩, hp.below hB, iv, by rw [rowsOf_len]; exact hl, hpb, hmb, Nat.le_trans hbase hhb, Nat.le_trans hbase hB.size, by rw [rowsOf_len]; exact hln.1, by rw [rowsOf_len]; exact hln.2.1, by rw [rowsOf_len]; exact ok⟩⟩
 rw [rowsOf_len] at hv; subst hv; generalize NewPost base pb mb n db sb secs armed left (rowsOf f len) s b w = PP at *; generalize rowsOf f len = rows at *; have hlen4 : len ≤ 4 := hln.2.1; clear hs hlv hp iv hpb hmb h h22 hn hw hlo hop ok G hln hrows
 go_enter Tryz.func39, Tryz.ntmps39
 go_wp2_with fail; refine HCK.out.mono ?_; rintro e w1 ⟨rfl, b1⟩; have X1 : Hid (Below w.heap.size w w1) := b1; have HO1 := hidd (HOP.out w1 b1); clear HCK HOP b1; go_wp2_with fail; refine HO1.out.mono ?_; rintro e w2 ⟨b2, L, rfl, hl⟩; have X2 : Hid (Below w.heap.size w w2 ∧ LedS w2 base db sb secs armed left L len b) := ⟨B.next X1.out b2 X1.out.size, hl⟩; have HC2 := hidd (HCL.out w2 X2.out.1); clear HO1 b2 hl X1 HCL; go_wp2_with fail; refine HC2.out.mono ?_; rintro e w3 ⟨vl, rfl, ho, b3⟩; obtain ⟨xa, xc, hvl, _⟩ := ho.rows; have X3 : Hid (Below w.heap.size w w3 ∧ LedS w3 base db sb secs armed left L len b ∧ OwnAt w3 w.heap.size 32 3 Bk.encP vl rows) := ⟨B.next X2.out.1 b3 X2.out.1.size, X2.out.2.below b3, ho.base X2.out.1.size⟩
 have HF : Hid (PP (.returned (.tuple #[.pointer (some ⟨w3.heap.size, 0, none⟩), .nilIface])) (w3.alloc (.cells #[vl, .pointer (some ⟨pb, 0, none⟩), .pointer (some ⟨L, 0, none⟩), .slice none 0 0] 96))) :=
  have hb : Below w3.heap.size w3 (w3.alloc (.cells #[vl, .pointer (some ⟨pb, 0, none⟩), .pointer (some ⟨L, 0, none⟩), .slice none 0 0] 96)) := B.new1 _ _
  HFIN.out L _ vl _ (B.next X3.out.1 hb X3.out.1.size) (X3.out.2.1.below hb) X3.out.1.size (Blk.new _ _ _) (X3.out.2.2.below hb)
 subst hvl; clear X2 HC2 b3 ho X3 HFIN; go_wp2; exact HF.out
end Hs
namespace Bk
structure TPI (w wr : World) (bk car : Array Value) (pb : Nat) (pv : Array Value) (g m : Nat) (fP : Nat → Int × Int × Int) : Prop where
 below : Below w.heap.size w wr
 b0 : Blk wr w.heap.size bk 39
 b1 : Blk wr (w.heap.size + 1) car 34
 b2 : Blk wr pb pv 65
 pl : PlacesAt wr g m fP
def pickP (o : Option (Int × Int × Int)) : Int × Int × Int := o.getD (0, 0, 0)
theorem pickV_eq (o : Option (Int × Int × Int)) : pickV o = .tuple #[.agg #[.int .i64 (pickP o).1, .int .i64 (pickP o).2.1, .int .i64 (pickP o).2.2], .bool o.isSome] := by cases o <;> rfl
-- left out: this seat has not what it speaks of
end Bk
namespace Bk
theorem blk_type {w : World} {g : Nat} {a a' : Array Value} {T T' : TypeId} (h : Blk w g a T) (h' : Blk w g a' T') : T = T' := by
 have h1 : w.heap[g]? = _ := h; have h2 : w.heap[g]? = _ := h'; rw [h1] at h2
 simp at h2
 exact h2.2
theorem own_ne {α : Type} [Inhabited α] {w : World} {b : Nat} {T T' : TypeId} {k : Nat} {enc : α → List Value} {v : Value} {l : List α} {n : Nat} {a : Array Value} (h : OwnAt w b T k enc v l) (hk : Blk w n a T') (hT : T ≠ T') : v.ownBlock ≠ some n := by
 intro e
 rcases h with ⟨rfl, _⟩ | ⟨g, cap, cur, rfl, hg, hb, _⟩
 ·simp [Value.ownBlock] at e
 ·simp [Value.ownBlock] at e
  subst e; exact hT (blk_type hb hk)
theorem news_cells {w : World} {N : Nat} (h : N = w.heap.size) (news : List Value) (T : TypeId) : ∀ j u, news[j]? = some u → (w.alloc (.cells news.toArray T (0, 0))).cell? ((⟨N, 0, none⟩ : Addr).add j) = some u := by
 intro j u hu
 rw [add_none, Nat.zero_add, (Blk.new1 h _ _).cell]
 simpa using hu
end Bk
end Go.Proofs.YtopgllmjeliklaaGreatDoor
