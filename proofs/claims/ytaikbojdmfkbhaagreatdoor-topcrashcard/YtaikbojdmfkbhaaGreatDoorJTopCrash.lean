/- TopCrash: a ledger through a fall (G3); the walk. -/
import Derived.Test.YtaikbojdmfkbhaaGreatDoorJStoreP
import Derived.Test.YtaikbojdmfkbhaaGreatDoorJSameBook
import Derived.Test.YtaikbojdmfkbhaaGreatDoorJActs
namespace Go.Proofs.YtaikbojdmfkbhaaGreatDoor
open Go.Shelf Go.Lib Go.ChangeShapes Go.WideShapes Go.ChangeAt Go.RowKit
set_option maxRecDepth 100000
set_option linter.unusedSimpArgs false
set_option linter.unusedVariables false

namespace Lg
open Bk Dk Tx Ac
theorem size4 {α : Type} {cs : Array α} (h : cs.size = 4) : ∃ a b c d, cs = #[a, b, c, d] := by
  obtain ⟨l⟩ := cs
  match l, h with
  | [a, b, c, d], _ => exact ⟨a, b, c, d, rfl⟩
theorem number_any (k : Int) (w : World) : Calls Tryz.prog 28 #[errV k] w fun e w' => e = .returned (.int .i64 k) ∧ w' = w := by
  by_cases hk : k = 0
  · subst hk
    rw [errV0]
    go_enter Tryz.func28, Tryz.ntmps28
    go_wp2
    go_returns
    exact ⟨rfl, rfl⟩
  · rw [errV_ne hk]
    have ta : ∀ w : World, Sem.run Tryz.prog (Instr.typeAssert (.iface 94 (.int .i64 k)) 27 94 true) w = .ok (.tuple #[.int .i64 k, .bool true]) w := fun _ => by kernel_rfl
    go_enter Tryz.func28, Tryz.ntmps28
    go_wp2
    go_returns
    exact ⟨rfl, rfl⟩
theorem LedS.lfr {w w' : World} {base db sb : Nat} {secs : List Sec} {armed armed' : Bool} {left left' : Int} {L n : Nat} {b : PB} (h : LedS w base db sb secs armed left L n b) (hf : DFr base w w') (hd : DiskAt w' base db sb secs 0 armed' left' false) (hlo : LeftOk armed' left') : LedS w' base db sb secs armed' left' L n b := by
  obtain ⟨vs, vj, h1, h2⟩ := h.l
  exact ⟨hd, h.len, h.few, h.wr, hlo, ⟨vs, vj, hf.far _ _ _ (by decide) (by decide) (by decide) h1, bookFar h2 (LFr.of_dfr hf)⟩, h.hL, h.op⟩
/-- A disk before a restart: what is opened behind it. -/
structure Ready (W : World) (base db sb : Nat) (n : Nat) (b b2 : Book) : Prop where
  d : ∃ secs bit armed left down, DiskAt W base db sb secs bit armed left down ∧ 22 ≤ secs.length ∧ secs.length ≤ 1000 ∧ left ≤ 9223372036854775807 ∧ (∀ i, i < secs.length → secs[i]!.wr.length ≤ 1000) ∧ (∀ i, i < secs.length → ∀ y ∈ secs[i]!.wr, 0 ≤ y.bit ∧ y.bit < 64) ∧
    ∀ K, openP (stl K secs secs.length) n = some ⟨b.last, b.stays, b.jobs⟩ ∨ openP (stl K secs secs.length) n = some ⟨b2.last, b2.stays, b2.jobs⟩
theorem stl_wr (K : Int) (secs : List Sec) : ∀ j, j < (stl K secs secs.length).length → (stl K secs secs.length)[j]!.wr = [] := fun j hj => by
  rw [stl_len] at hj
  rw [stl_get K secs j hj _ (Nat.le_refl _), if_pos hj]
  rfl
theorem stl_now (K : Int) (secs : List Sec) (j : Nat) (hj : j < secs.length) : (stl K secs secs.length)[j]!.now = settleC K secs[j]!.kept secs[j]!.wr := by
  rw [stl_get K secs j hj _ (Nat.le_refl _), if_pos hj]
  rfl
theorem LedS.ready {w : World} {base db sb : Nat} {secs : List Sec} {armed : Bool} {left : Int} {L n : Nat} {b : Book} (h : LedS w base db sb secs armed left L n ⟨b.last, b.stays, b.jobs⟩) (b2 : Book) : Ready w base db sb n b b2 := by
  refine ⟨secs, 0, armed, left, false, h.d, h.len, h.few, h.lo.hi, fun i hi => by rw [h.wr i hi]; simp, fun i hi y hy => by rw [h.wr i hi] at hy; simp at hy, fun K => Or.inl ?_⟩
  rw [open_same (stl_len K secs _) h.len (fun j hj _ => ?_) n, h.op]
  rw [stl_now K secs j hj]
  unfold Sec.now
  rw [h.wr j hj]
  rfl
theorem LedS.fellReady {w w' : World} {base db sb : Nat} {secs secs' : List Sec} {armed armed' : Bool} {left left' bit' : Int} {L n : Nat} {b b2 : Book} (h : LedS w base db sb secs armed left L n ⟨b.last, b.stays, b.jobs⟩) (hd : DiskAt w' base db sb secs' bit' armed' left' true) (hlo : LeftOk armed' left') (hf : Fell secs secs' (nxN secs) ⟨(textL b2.last b2.stays b2.jobs).toArray⟩) (h2 : bookN b2 n = 0) (n4 : n ≤ 4) : Ready w' base db sb n b b2 := by
  have hok := (bookN_zero b2 n).1 h2
  have h5 := text_500 n4 hok
  have hl := hf.len
  have h22 := h.len
  have hfw := h.few
  refine ⟨secs', bit', armed', left', true, hd, by omega, by omega, hlo.hi, fun i hi => ?_, fun i hi => hf.bits i (by omega), fun K => ?_⟩
  · have := hf.few i (by omega); omega
  · have := open_fell (secs'' := stl K secs' secs'.length) (K := K) h.wr hf h22 (by rw [stl_len, hl]) (fun j hj => stl_now K secs' j (by omega)) (by show (textL b2.last b2.stays b2.jobs).toArray.size ≤ _; rw [List.size_toArray]; omega) (text_no0 n4 hok) n
    rw [h.op, parse_text n4 hok] at this
    exact this

theorem bThen {k m : Nat} {a b c : World} (h : Below k a b) (h2 : Below m b c) (hm : k ≤ m) : Below k a c := ⟨h2.os.trans h.os, h2.tape.trans h.tape, h2.output.trans h.output, Nat.le_trans h.size h2.size, fun q hq => (h2.block q (by omega)).trans (h.block q hq)⟩
/-- A book's cells. -/
def bCells (b : Book) : Array Value := #[.int .i64 b.last, .slice b.sa b.stays.length b.sc, .slice b.ja b.jobs.length b.jc]
theorem LedS.set {W : World} {base db sb : Nat} {secs : List Sec} {armed : Bool} {left : Int} {L n : Nat} {b : PB} {X : Nat} {arr : Array Value} (h : LedS W base db sb secs armed left L n b) (hX : Blk W X arr 38) (o : Nat) (v : Value) : LedS (W.setCell ⟨X, o, none⟩ v) base db sb secs armed left L n b := by
  obtain ⟨vs, vj, h1, h2⟩ := h.l
  have hne : ∀ {k : Nat} {a : Array Value} {T : TypeId}, Blk W k a T → T ≠ 38 → X ≠ k := fun hk hT e => by subst e; exact hT (blk_typeD hk hX)
  exact ⟨diskFar h.d hX (by decide) (by decide) (by decide) o v, h.len, h.few, h.wr, h.lo, ⟨vs, vj, h1.other (hne h1 (by decide)) o v, ⟨OwnAt.far h2.s (fun g a hk => hk.other (hne hk (by decide)) o v), OwnAt.far h2.j (fun g a hk => hk.other (hne hk (by decide)) o v), h2.ne⟩⟩, h.hL, h.op⟩
theorem book_cells {w : World} {v : Value} {len : Nat} {f : Nat → ActC} {g : Nat → Book} (h : ActsAt w v len f) (hg : ∀ i, i < len → BookIs w (f i) (g i)) (h0 : 0 < len) : ∃ b off cap, v = .slice (some ⟨b, off, none⟩) len cap ∧ len ≤ cap ∧ cap ≤ maxLen ∧
    ∀ W, Below w.heap.size w W → ∀ k, k < len → W.cell? ⟨b, off + k * 12 + 9, none⟩ = some (.int .i64 (g k).last) ∧ W.cell? ⟨b, off + k * 12 + 10, none⟩ = some (.slice (g k).sa (g k).stays.length (g k).sc) ∧ W.cell? ⟨b, off + k * 12 + 11, none⟩ = some (.slice (g k).ja (g k).jobs.length (g k).jc) := by
  obtain ⟨a, cap, rfl, hl, hm, _, hc⟩ := h
  obtain ⟨b, off, rfl, hlt, hcell⟩ := hc h0
  refine ⟨b, off, cap, rfl, hl, hm, fun W hb k hk => ?_⟩
  obtain ⟨e1, e2, e3, e4, e5, e6, e7, _⟩ := hg k hk
  have c9 := (hb.cell (p := ⟨b, off + k * 12 + 9, none⟩) hlt).trans (hcell k hk 9 (by decide))
  have c10 := (hb.cell (p := ⟨b, off + k * 12 + 10, none⟩) hlt).trans (hcell k hk 10 (by decide))
  have c11 := (hb.cell (p := ⟨b, off + k * 12 + 11, none⟩) hlt).trans (hcell k hk 11 (by decide))
  simp only [ActC.vals, List.getElem?_toArray, List.getElem?_cons_zero, List.getElem?_cons_succ] at c9 c10 c11
  rw [e1] at c9
  rw [e2, e3, e4] at c10
  rw [e5, e6, e7] at c11
  exact ⟨c9, c10, c11⟩
def noBook : Book := ⟨0, none, 0, none, 0, [], []⟩
theorem empty_at (k : Int) (W : World) : Book.At ⟨k, none, 0, none, 0, [], []⟩ W := ⟨⟨Nat.le_refl _, Nat.zero_le _, fun h => absurd h (Nat.lt_irrefl _)⟩, ⟨Nat.le_refl _, Nat.zero_le _, fun h => absurd h (Nat.lt_irrefl _)⟩⟩

set_option maxHeartbeats 8000000 in
theorem topCrash_any (lv : Int) (v : Value) (len : Nat) (f : Nat → ActC) (g : Nat → Book) (fuse K : Int) (w : World) (hs : ActsAt w v len f) (hg : ∀ i, i < len → BookIs w (f i) (g i)) (G : Glob w) :
    Calls Tryz.prog 4 #[.int .i64 lv, v, .int .i64 fuse, .int .u64 K] w fun e w' => e = .returned (.bool true) ∧ Below w.heap.size w w' := by
  have HP : Hid (∀ w', Below w.heap.size w w' → (fun (e : Ending) (w' : World) => e = .returned (.bool true) ∧ Below w.heap.size w w') (.returned (.bool true)) w') := fun w' hb => ⟨rfl, hb⟩
  generalize (fun (e : Ending) (w' : World) => e = .returned (.bool true) ∧ Below w.heap.size w w') = PP at *
  have HG : Hid (∀ W, Below w.heap.size w W → Glob W) := fun W hb => G.new hb
  have hbg := G.hn
  have HSA : Hid (∀ W, Below w.heap.size w W → ActsAt W v len f) := fun W hb => hs.below hb
  have HBI : Hid (∀ W, Below w.heap.size w W → ∀ i, i < len → BookIs W (f i) (g i)) := fun W hb i hi => by
    obtain ⟨h1, h2, h3, h4, h5, h6, h7, h8⟩ := hg i hi
    exact ⟨h1, h2, h3, h4, h5, h6, h7, h8.below hb⟩
  have HK1 : Hid (Calls Tryz.prog 25 #[.int .i64 1] w fun e w' => ∃ db sb L secs left, e = .returned (.tuple #[.pointer (some ⟨db, 0, none⟩), .pointer (some ⟨L, 0, none⟩), .bool true]) ∧ LedS w' w.heap.size db sb secs false left L 1 ⟨0, [], []⟩ ∧ Below w.heap.size w w') := kept_any 1 w G hbg (by decide) (by decide)
  obtain ⟨a0, cap0, rfl⟩ : ∃ a0 cap0, v = .slice a0 len cap0 := by
    obtain ⟨a, c, h, _⟩ := hs
    exact ⟨a, c, h⟩
  clear hs hg G
  go_enter Tryz.func4, Tryz.ntmps4
  go_wp2_with fail
  refine HK1.out.mono ?_
  rintro e w1 ⟨db1, sb1, L1, secs1, left1, rfl, k1, b1⟩
  have HKP : Hid (Calls Tryz.prog 22 #[.pointer (some ⟨L1, 0, none⟩), .agg #[.int .i64 2, .slice none 0 0, .slice none 0 0]] w1 (KeepS w.heap.size db1 sb1 secs1 false L1 1 ⟨2, none, 0, none, 0, [], []⟩ w1)) :=
    keepS w.heap.size db1 sb1 secs1 false left1 L1 1 ⟨0, [], []⟩ ⟨2, none, 0, none, 0, [], []⟩ w1 k1 b1.size (HG.out _ b1) hbg ⟨⟨Nat.le_refl _, Nat.zero_le _, fun h => absurd h (Nat.lt_irrefl _)⟩, ⟨Nat.le_refl _, Nat.zero_le _, fun h => absurd h (Nat.lt_irrefl _)⟩⟩ (fun W _ => ⟨⟨Nat.le_refl _, Nat.zero_le _, fun h => absurd h (Nat.lt_irrefl _)⟩, ⟨Nat.le_refl _, Nat.zero_le _, fun h => absurd h (Nat.lt_irrefl _)⟩⟩) (by decide) (by decide)
  have X1 : Hid (Below w.heap.size w w1) := b1
  clear k1 b1 HK1
  go_wp2_with fail
  refine HKP.out.mono ?_
  rintro e w2 hk
  have X2 : Hid (e = .returned .nilIface ∧ Below w.heap.size w w2) := by
    rcases hk with ⟨h1, _⟩ | ⟨_, h1, h2, _⟩ | ⟨_, h1, _⟩
    · exact absurd (book_zero 1 2 (by decide) (by decide)) h1
    · exact ⟨h1, h2.b.os.trans X1.out.os, h2.b.tape.trans X1.out.tape, h2.b.output.trans X1.out.output, Nat.le_trans X1.out.size h2.b.size, fun q hq => (h2.b.block q hq).trans (X1.out.block q hq)⟩
    · cases h1
  obtain ⟨rfl, b2⟩ := X2.out
  have Y2 : Hid (Below w.heap.size w w2) := b2
  clear hk X2 b2 HKP X1
  have HLA : Hid (Calls Tryz.prog 16 #[.slice a0 len cap0, .int .i64 20] w2 (LightPost len f 20 w2)) := light_any _ len f 20 w2 (HSA.out _ Y2.out)
  have HF2 : Hid (PP (.returned (.bool true)) w2) := HP.out _ Y2.out
  go_wp2_with fail
  refine HLA.out.mono ?_
  rintro e w2' ⟨q, rfl, hq, hw2⟩
  subst hw2
  cases q
  · clear HLA HSA HBI HG
    go_wp2
    exact HF2.out
  have HL20 : Hid (Light len f 20) := hq rfl
  by_cases hlv1 : lv < 1
  · clear HLA HSA HBI HG
    go_wp2
    exact HF2.out
  by_cases hlv4 : 4 < lv
  · clear HLA HSA HBI HG
    go_wp2
    exact HF2.out
  obtain ⟨n, rfl⟩ : ∃ n : Nat, lv = (n : Int) := ⟨lv.toNat, by omega⟩
  have n1 : 1 ≤ n := by omega
  have n4 : n ≤ 4 := by omega
  have HK2 : Hid (Calls Tryz.prog 25 #[.int .i64 n] w2' fun e w' => ∃ db sb L secs left, e = .returned (.tuple #[.pointer (some ⟨db, 0, none⟩), .pointer (some ⟨L, 0, none⟩), .bool true]) ∧ LedS w' w2'.heap.size db sb secs false left L n ⟨0, [], []⟩ ∧ Below w2'.heap.size w2' w') := kept_any n w2' (HG.out _ Y2.out) (Nat.le_trans hbg Y2.out.size) n1 n4
  clear HLA hq HF2
  obtain ⟨B2, hB2⟩ : ∃ B2, w2'.heap.size = B2 := ⟨_, rfl⟩
  have HB2 : Hid (w.heap.size ≤ B2) := by show _ ≤ _; rw [← hB2]; exact Y2.out.size
  go_wp2_with fail
  refine HK2.out.mono ?_
  rintro e w4 ⟨db, sb, L, secs, left, rfl, k4, b4⟩
  have Y4 : Hid (LedS w4 B2 db sb secs false left L n ⟨0, [], []⟩ ∧ Below w.heap.size w w4 ∧ B2 ≤ w4.heap.size) := by
    show _ ∧ _ ∧ _
    rw [← hB2]
    exact ⟨k4, B.next Y2.out b4 Y2.out.size, b4.size⟩
  clear k4 b4 HK2 hB2 Y2
  have HAR : Hid (∀ m : Int, Calls Tryz.prog 26 #[.pointer (some ⟨db, 0, none⟩), .int .i64 m] w4 fun e w' => e = .returned (.tuple #[]) ∧ DiskAt w' B2 db sb secs 0 (decide (0 ≤ m)) m false ∧ DFr B2 w4 w') := fun m => arm_any B2 db sb secs 0 false left false m w4 Y4.out.1.d
  go_wp2_with fail
  refine (HAR.out _).mono ?_
  rintro e w5 ⟨rfl, d5, f5⟩
  generalize hmm : min (max fuse (-1)) 500 = mm at *
  have hlo : LeftOk (decide (0 ≤ mm)) mm := ⟨by by_cases h : 0 ≤ mm <;> simp [h], by omega⟩
  have Y5 : Hid (LedS w5 B2 db sb secs (decide (0 ≤ mm)) mm L n ⟨0, [], []⟩ ∧ Below w.heap.size w w5 ∧ B2 ≤ w5.heap.size) := ⟨Y4.out.1.lfr f5 d5 hlo, bThen Y4.out.2.1 f5.b HB2.out, Nat.le_trans Y4.out.2.2 f5.b.size⟩
  generalize decide (0 ≤ mm) = armed at *
  obtain ⟨X1, hX1⟩ : ∃ X1, w5.heap.size = X1 := ⟨_, rfl⟩
  obtain ⟨w6, hw6⟩ : ∃ w6, (w5.alloc (.cells #[.int .i64 0, .slice none 0 0, .slice none 0 0] 38)).alloc (.cells #[.int .i64 0, .slice none 0 0, .slice none 0 0] 38) = w6 := ⟨_, rfl⟩
  have Y6 : Hid (Below w.heap.size w w6 ∧ B2 ≤ w6.heap.size ∧ Blk w6 X1 (bCells noBook) 38 ∧ Blk w6 (X1 + 1) (bCells noBook) 38 ∧ ∃ secs left, LedS w6 B2 db sb secs armed left L n ⟨noBook.last, noBook.stays, noBook.jobs⟩) := by
    show _ ∧ _ ∧ _ ∧ _ ∧ _
    have hb : Below w5.heap.size w5 w6 := by rw [← hw6]; exact (B.new1 _ _).alloc (by simp) _
    refine ⟨B.next Y5.out.2.1 hb Y5.out.2.1.size, Nat.le_trans Y5.out.2.2 hb.size, ?_, ?_, secs, mm, Y5.out.1.below hb⟩
    · rw [← hw6, ← hX1]; exact (Blk.new _ _ _).old _
    · rw [← hw6, ← hX1]; exact Blk.new1 (by simp) _ _
  have HX1 : Hid (w.heap.size ≤ X1) := by show _ ≤ _; rw [← hX1]; exact Y5.out.2.1.size
  have HXE : Hid (w5.heap.size = X1) := hX1
  have HW6 : Hid ((w5.alloc (.cells #[.int .i64 0, .slice none 0 0, .slice none 0 0] 38)).alloc (.cells #[.int .i64 0, .slice none 0 0, .slice none 0 0] 38) = w6) := hw6
  clear d5 f5 hlo Y4 Y5 HAR hmm hX1 hw6
  have HNB : Hid (bookN noBook n = 0 ∧ ∀ W, Below w.heap.size w W → Book.At noBook W) := ⟨book_zero n 0 (by decide) (by decide), fun W _ => empty_at 0 W⟩
  go_wp2_with fail
  simp only [HW6.out, HXE.out]
  clear HW6 HXE
  go_loopg [16] len (fun gg s16 wr => ∃ (i : Nat) (b : Book), i ≤ len ∧ len - i ≤ gg ∧ s16 = .int .i64 i ∧ Hid (bookN b n = 0 ∧ ∀ W, Below w.heap.size w W → Book.At b W) ∧ Hid (Below w.heap.size w wr ∧ B2 ≤ wr.heap.size ∧ Blk wr X1 (bCells b) 38 ∧ Blk wr (X1 + 1) (bCells b) 38 ∧ ∃ secs left, LedS wr B2 db sb secs armed left L n ⟨b.last, b.stays, b.jobs⟩))
  case atStart => exact ⟨0, noBook, Nat.zero_le _, by omega, rfl, HNB, Y6⟩
  case round =>
    clear Y6 HNB
    obtain ⟨i, b, hi, hgg, rfl, HA, M⟩ := hrel
    have hl20 : len ≤ 20 := by have := HL20.out.1; omega
    by_cases hlt : i < len
    · have hltz : (i : Int) < (len : Int) := by omega
      obtain ⟨ab, off, cap', ev, hlc, hcm, hcl⟩ := book_cells (HSA.out w (Below.refl _ _)) (HBI.out w (Below.refl _ _)) (by omega)
      unfold maxLen at hcm
      cases ev
      obtain ⟨c9, c10, c11⟩ := hcl wr M.out.1 i hlt
      have HCL : Hid (∀ W, Below w.heap.size w W → W.cell? ⟨ab, off + i * 12 + 9, none⟩ = some (.int .i64 (g i).last) ∧ W.cell? ⟨ab, off + i * 12 + 10, none⟩ = some (.slice (g i).sa (g i).stays.length (g i).sc) ∧ W.cell? ⟨ab, off + i * 12 + 11, none⟩ = some (.slice (g i).ja (g i).jobs.length (g i).jc)) := fun W hb => hcl W hb i hlt
      have HA2' : Hid (∀ W, Below w.heap.size w W → Book.At (g i) W) := fun W hb => (HBI.out W hb i hlt).2.2.2.2.2.2.2
      have HCK : Hid (Calls Tryz.prog 27 #[.agg #[.int .i64 (g i).last, .slice (g i).sa (g i).stays.length (g i).sc, .slice (g i).ja (g i).jobs.length (g i).jc], .int .i64 n] wr fun e w' => e = .returned (errV (bookN (g i) n)) ∧ Below wr.heap.size wr w') := bookCheck_any (g i) n wr (HA2'.out _ M.out.1) n1 n4
      generalize g i = b2 at *
      clear hcl
      go_wp2_with fail
      refine HCK.out.mono ?_
      rintro e wk ⟨rfl, bk⟩
      have MK : Hid (Below w.heap.size w wk ∧ B2 ≤ wk.heap.size ∧ Blk wk X1 (bCells b) 38 ∧ Blk wk (X1 + 1) (bCells b) 38 ∧ ∃ secs left, LedS wk B2 db sb secs armed left L n ⟨b.last, b.stays, b.jobs⟩) := by
        obtain ⟨s', l', hl⟩ := M.out.2.2.2.2
        exact ⟨B.next M.out.1 bk M.out.1.size, Nat.le_trans M.out.2.1 bk.size, M.out.2.2.1.below bk, M.out.2.2.2.1.below bk, s', l', hl.below bk⟩
      clear M bk HCK c9 c10 c11
      by_cases hbn : bookN b2 n = 0
      case neg =>
        rw [errV_ne hbn]
        clear HCL HA2'
        generalize bookN b2 n = kk at *
        go_wp2
        go_roundg (len - (i + 1))
        case measure => omega
        case rel => exact ⟨i + 1, b, by omega, by omega, by go_num, HA, MK⟩
      have HA2 : Hid (bookN b2 n = 0 ∧ ∀ W, Below w.heap.size w W → Book.At b2 W) := ⟨hbn, HA2'.out⟩
      rw [hbn, errV0]
      obtain ⟨c9, c10, c11⟩ := HCL.out wk MK.out.1
      have q2 := MK.out.2.2.2.1.cell
      have fq2 := MK.out.2.2.2.1.free
      unfold bCells at q2
      clear HA2' hbn
      obtain ⟨wl, hwl⟩ : ∃ wl, (((wk.setCell ⟨X1 + 1, 0, none⟩ (.int .i64 b2.last)).setCell ⟨X1 + 1, 1, none⟩ (.slice b2.sa b2.stays.length b2.sc)).setCell ⟨X1 + 1, 2, none⟩ (.slice b2.ja b2.jobs.length b2.jc)) = wl := ⟨_, rfl⟩
      have ML : Hid (Below w.heap.size w wl ∧ B2 ≤ wl.heap.size ∧ Blk wl X1 (bCells b) 38 ∧ Blk wl (X1 + 1) (bCells b2) 38 ∧ ∃ secs left, LedS wl B2 db sb secs armed left L n ⟨b.last, b.stays, b.jobs⟩) := by
        show _ ∧ _ ∧ _ ∧ _ ∧ _
        rw [← hwl]
        obtain ⟨s', l', hl⟩ := MK.out.2.2.2.2
        have k1 := MK.out.2.2.2.1
        have k2 := k1.set 0 (.int .i64 b2.last)
        have k3 := k2.set 1 (.slice b2.sa b2.stays.length b2.sc)
        have k4 := k3.set 2 (.slice b2.ja b2.jobs.length b2.jc)
        have hx : w.heap.size ≤ X1 + 1 := by have := HX1.out; omega
        exact ⟨((MK.out.1.setCell (p := ⟨X1 + 1, 0, none⟩) hx _).setCell (p := ⟨X1 + 1, 1, none⟩) hx _).setCell (p := ⟨X1 + 1, 2, none⟩) hx _, by simpa only [size_setCell] using MK.out.2.1, ((MK.out.2.2.1.other (by omega) _ _).other (by omega) _ _).other (by omega) _ _, k4, s', l', ((hl.set k1 0 _).set k2 1 _).set k3 2 _⟩
      have HWL : Hid ((((wk.setCell ⟨X1 + 1, 0, none⟩ (.int .i64 b2.last)).setCell ⟨X1 + 1, 1, none⟩ (.slice b2.sa b2.stays.length b2.sc)).setCell ⟨X1 + 1, 2, none⟩ (.slice b2.ja b2.jobs.length b2.jc)) = wl) := hwl
      clear hwl MK HCL
      go_upto_region 17 with fail
      simp only [HWL.out]
      clear HWL c9 c10 c11 q2 fq2
      obtain ⟨s', l', hl⟩ := ML.out.2.2.2.2
      have HKP : Hid (Calls Tryz.prog 22 #[.pointer (some ⟨L, 0, none⟩), .agg #[.int .i64 b2.last, .slice b2.sa b2.stays.length b2.sc, .slice b2.ja b2.jobs.length b2.jc]] wl (KeepS B2 db sb s' armed L n b2 wl)) :=
        keepS B2 db sb s' armed l' L n _ b2 wl hl ML.out.2.1 (HG.out _ ML.out.1) (Nat.le_trans hbg HB2.out) (HA2.out.2 _ ML.out.1) (fun W hW => HA2.out.2 _ (bThen ML.out.1 hW.b HB2.out)) n1 n4
      have HLL : Hid (LedS wl B2 db sb s' armed l' L n ⟨b.last, b.stays, b.jobs⟩) := hl
      clear hl
      have q2 := ML.out.2.2.2.1.cell
      unfold bCells at q2
      go_wp2_with fail
      refine HKP.out.mono ?_
      rintro e wm hkp
      clear q2 HKP
      rcases hkp with ⟨h1, _⟩ | ⟨_, rfl, hf, s2, l2, hl2, _⟩ | ⟨_, har, rfl, hf, s2, bit2, l2, hlo2, hd2, hfell⟩
      · exact absurd HA2.out.1 h1
      · have MM : Hid (Below w.heap.size w wm ∧ B2 ≤ wm.heap.size ∧ Blk wm X1 (bCells b) 38 ∧ Blk wm (X1 + 1) (bCells b2) 38 ∧ ∃ secs left, LedS wm B2 db sb secs armed left L n ⟨b2.last, b2.stays, b2.jobs⟩) :=
          ⟨bThen ML.out.1 hf.b HB2.out, Nat.le_trans ML.out.2.1 hf.b.size, hf.far _ _ _ (by decide) (by decide) (by decide) (by decide) ML.out.2.2.1, hf.far _ _ _ (by decide) (by decide) (by decide) (by decide) ML.out.2.2.2.1, s2, l2, hl2⟩
        clear hf hl2 ML HLL
        have HN : Hid (Calls Tryz.prog 28 #[.nilIface] wm fun e w' => e = .returned (.int .i64 0) ∧ w' = wm) := number_any 0 wm
        go_wp2_with fail
        refine HN.out.mono ?_
        rintro e wm' ⟨rfl, hwm⟩
        subst hwm
        have q1 := MM.out.2.2.1.cell
        have fq1 := MM.out.2.2.1.free
        have q2 := MM.out.2.2.2.1.cell
        unfold bCells at q1 q2
        obtain ⟨wn, hwn⟩ : ∃ wn, (((wm'.setCell ⟨X1, 0, none⟩ (.int .i64 b2.last)).setCell ⟨X1, 1, none⟩ (.slice b2.sa b2.stays.length b2.sc)).setCell ⟨X1, 2, none⟩ (.slice b2.ja b2.jobs.length b2.jc)) = wn := ⟨_, rfl⟩
        have MN : Hid (Below w.heap.size w wn ∧ B2 ≤ wn.heap.size ∧ Blk wn X1 (bCells b2) 38 ∧ Blk wn (X1 + 1) (bCells b2) 38 ∧ ∃ secs left, LedS wn B2 db sb secs armed left L n ⟨b2.last, b2.stays, b2.jobs⟩) := by
          show _ ∧ _ ∧ _ ∧ _ ∧ _
          rw [← hwn]
          obtain ⟨s', l', hl⟩ := MM.out.2.2.2.2
          have k1 := MM.out.2.2.1
          have k2 := k1.set 0 (.int .i64 b2.last)
          have k3 := k2.set 1 (.slice b2.sa b2.stays.length b2.sc)
          have k4 := k3.set 2 (.slice b2.ja b2.jobs.length b2.jc)
          have hx : w.heap.size ≤ X1 := HX1.out
          exact ⟨((MM.out.1.setCell (p := ⟨X1, 0, none⟩) hx _).setCell (p := ⟨X1, 1, none⟩) hx _).setCell (p := ⟨X1, 2, none⟩) hx _, by simpa only [size_setCell] using MM.out.2.1, k4, ((MM.out.2.2.2.1.other (by omega) _ _).other (by omega) _ _).other (by omega) _ _, s', l', ((hl.set k1 0 _).set k2 1 _).set k3 2 _⟩
        clear MM HN
        go_wp2
        (try simp only [hwn])
        clear hwn
        go_roundg (len - (i + 1))
        case measure => omega
        case rel => exact ⟨i + 1, b2, by omega, by omega, by go_num, HA2, MN⟩
      · have HE : Hid (Below w.heap.size w wm ∧ B2 ≤ wm.heap.size ∧ Blk wm X1 (bCells b) 38 ∧ Blk wm (X1 + 1) (bCells b2) 38 ∧ Ready wm B2 db sb n b b2) :=
          ⟨bThen ML.out.1 hf.b HB2.out, Nat.le_trans ML.out.2.1 hf.b.size, hf.far _ _ _ (by decide) (by decide) (by decide) ML.out.2.2.1, hf.far _ _ _ (by decide) (by decide) (by decide) ML.out.2.2.2.1, HLL.out.fellReady hd2 hlo2 hfell HA2.out.1 n4⟩
        clear hf hlo2 hd2 hfell ML HLL
        have HN : Hid (Calls Tryz.prog 28 #[.iface 94 (.int .i64 9)] wm fun e w' => e = .returned (.int .i64 9) ∧ w' = wm) := number_any 9 wm
        rw [errV_ne (by decide)]
        go_wp2_with fail
        refine HN.out.mono ?_
        rintro e we ⟨rfl, hwm⟩
        subst hwm
        clear HN
        have RS : Hid (∀ K, Calls Tryz.prog 29 #[.pointer (some ⟨db, 0, none⟩), .int .u64 K] we fun e w' => e = .returned (.tuple #[]) ∧ ∃ s9 l9, DiskAt w' B2 db sb s9 0 false l9 false ∧ DFr B2 we w' ∧ 22 ≤ s9.length ∧ s9.length ≤ 1000 ∧ l9 ≤ 9223372036854775807 ∧ (∀ j, j < s9.length → s9[j]!.wr = []) ∧ (openP s9 n = some ⟨b.last, b.stays, b.jobs⟩ ∨ openP s9 n = some ⟨b2.last, b2.stays, b2.jobs⟩)) := fun K => by
          obtain ⟨s9, bit9, ar9, l9, dn9, d9, h22, hfew, hhi, hln, hbits, hop⟩ := HE.out.2.2.2.2.d
          refine (restart_any B2 db sb s9 bit9 ar9 l9 dn9 K we d9 HE.out.2.1 hln hbits hfew).mono ?_
          rintro e w' ⟨h1, h2, h3⟩
          exact ⟨h1, _, l9, h2, h3, by rw [stl_len]; exact h22, by rw [stl_len]; exact hfew, hhi, stl_wr K s9, hop K⟩
        go_wp2_with fail
        refine (RS.out K).mono ?_
        rintro e w10 ⟨rfl, s9, l9, d9, f9, h22, hfew, hhi, hwr, hop⟩
        obtain ⟨c, hc, hop⟩ : ∃ c : Book, (c = b ∨ c = b2) ∧ openP s9 n = some ⟨c.last, c.stays, c.jobs⟩ := by
          rcases hop with h | h
          · exact ⟨b, Or.inl rfl, h⟩
          · exact ⟨b2, Or.inr rfl, h⟩
        have HC0 : Hid (bookN c n = 0) := by
          rcases hc with rfl | rfl
          · exact HA.out.1
          · exact HA2.out.1
        have HCS : Hid (c.stays.length ≤ 16 ∧ c.jobs.length ≤ 8) := by
          have := (bookN_zero c n).1 HC0.out
          exact ⟨this.fewS, this.fewJ⟩
        have E10 : Hid (Below w.heap.size w w10 ∧ B2 ≤ w10.heap.size ∧ Blk w10 X1 (bCells b) 38 ∧ Blk w10 (X1 + 1) (bCells b2) 38) := ⟨bThen HE.out.1 f9.b HB2.out, Nat.le_trans HE.out.2.1 f9.b.size, f9.far _ _ _ (by decide) (by decide) (by decide) HE.out.2.2.1, f9.far _ _ _ (by decide) (by decide) (by decide) HE.out.2.2.2.1⟩
        have HOS : Hid (Calls Tryz.prog 19 #[.pointer (some ⟨db, 0, none⟩), .int .i64 n] w10 (OpenS B2 db sb s9 false l9 n ⟨c.last, c.stays, c.jobs⟩ w10)) :=
          openS B2 db sb s9 false l9 n _ w10 d9 E10.out.2.1 h22 hfew hwr ⟨Or.inr rfl, hhi⟩ hop (HG.out _ E10.out.1) n1 n4
        clear d9 f9 h22 hfew hhi hwr hop RS HE
        go_wp2_with fail
        refine HOS.out.mono ?_
        rintro e w11 ⟨b11, L2, rfl, hl⟩
        have E11 : Hid (Below w.heap.size w w11 ∧ B2 ≤ w11.heap.size ∧ Blk w11 X1 (bCells b) 38 ∧ Blk w11 (X1 + 1) (bCells b2) 38 ∧ LedS w11 B2 db sb s9 false l9 L2 n ⟨c.last, c.stays, c.jobs⟩) := ⟨B.next E10.out.1 b11 E10.out.1.size, Nat.le_trans E10.out.2.1 b11.size, E10.out.2.2.1.below b11, E10.out.2.2.2.below b11, hl⟩
        have HBK : Hid (Calls Tryz.prog 24 #[.pointer (some ⟨L2, 0, none⟩)] w11 fun e w' => ∃ vs vj, e = .returned (.agg #[.int .i64 c.last, vs, vj]) ∧ OwnBook w' w11.heap.size vs vj c.stays c.jobs ∧ Below w11.heap.size w11 w') := bookS B2 db sb s9 false l9 L2 n ⟨c.last, c.stays, c.jobs⟩ w11 hl (by have := HCS.out.1; show c.stays.length ≤ _; omega) (by have := HCS.out.2; show c.jobs.length ≤ _; omega)
        clear hl b11 E10 HOS
        go_wp2_with fail
        refine HBK.out.mono ?_
        rintro e w12 ⟨vs, vj, rfl, ho, b12⟩
        obtain ⟨sx, cx, hvs, hrs⟩ := ho.s.rows
        obtain ⟨jx, dx, hvj, hrj⟩ := ho.j.rows
        subst hvs hvj
        obtain ⟨X3, hX3⟩ : ∃ X3, w12.heap.size = X3 := ⟨_, rfl⟩
        obtain ⟨w13, hw13⟩ : ∃ w13, w12.alloc (.cells #[.int .i64 c.last, .slice sx c.stays.length cx, .slice jx c.jobs.length dx] 38) = w13 := ⟨_, rfl⟩
        have E13 : Hid (Below w.heap.size w w13 ∧ B2 ≤ w13.heap.size ∧ Blk w13 X1 (bCells b) 38 ∧ Blk w13 (X1 + 1) (bCells b2) 38 ∧ LedS w13 B2 db sb s9 false l9 L2 n ⟨c.last, c.stays, c.jobs⟩ ∧ Blk w13 X3 #[.int .i64 c.last, .slice sx c.stays.length cx, .slice jx c.jobs.length dx] 38 ∧ Book.At ⟨c.last, sx, cx, jx, dx, c.stays, c.jobs⟩ w13 ∧ w.heap.size ≤ X3) := by
          show _ ∧ _ ∧ _ ∧ _ ∧ _ ∧ _ ∧ _ ∧ _
          have b13 : Below w11.heap.size w11 w13 := by rw [← hw13]; exact b12.alloc b12.size _
          have b13' : Below w12.heap.size w12 w13 := by rw [← hw13]; exact B.new1 _ _
          refine ⟨B.next E11.out.1 b13 E11.out.1.size, Nat.le_trans E11.out.2.1 b13.size, E11.out.2.2.1.below b13, E11.out.2.2.2.1.below b13, E11.out.2.2.2.2.below b13, ?_, ⟨hrs.below b13', hrj.below b13'⟩, ?_⟩
          · rw [← hw13, ← hX3]; exact Blk.new _ _ _
          · rw [← hX3]; exact Nat.le_trans E11.out.1.size b12.size
        have HW13 : Hid (w12.alloc (.cells #[.int .i64 c.last, .slice sx c.stays.length cx, .slice jx c.jobs.length dx] 38) = w13) := hw13
        have HX3 : Hid (w12.heap.size = X3) := hX3
        clear ho hrs hrj b12 hw13 hX3 E11 HBK
        go_upto_region 27 with fail
        simp only [HW13.out, HX3.out]
        clear HW13 HX3
        have HS1 : Hid (Calls Tryz.prog 23 #[.agg #[.int .i64 c.last, .slice sx c.stays.length cx, .slice jx c.jobs.length dx], .agg #[.int .i64 b.last, .slice b.sa b.stays.length b.sc, .slice b.ja b.jobs.length b.jc]] w13 fun e w' => (∃ q : Bool, e = .returned (.bool q) ∧ (q = true ∨ c = b2)) ∧ Below w13.heap.size w13 w') := by
          rcases hc with rfl | rfl
          · refine (sameBook_any c.last c.stays c.jobs sx jx c.sa c.ja cx dx c.sc c.jc w13 E13.out.2.2.2.2.2.2.1 (HA.out.2 _ E13.out.1)).mono ?_
            rintro e w' ⟨h1, h2⟩
            exact ⟨⟨true, h1, Or.inl rfl⟩, h2⟩
          · refine (sameBook_ex c.last b.last c.stays b.stays c.jobs b.jobs sx jx b.sa b.ja cx dx b.sc b.jc w13 E13.out.2.2.2.2.2.2.1 (HA.out.2 _ E13.out.1)).mono ?_
            rintro e w' ⟨⟨q, h1⟩, h2⟩
            exact ⟨⟨q, h1, Or.inr rfl⟩, h2⟩
        have r1 := E13.out.2.2.1.cell
        have r2 := E13.out.2.2.2.1.cell
        have r3 := E13.out.2.2.2.2.2.1.cell
        unfold bCells at r1 r2
        go_wp2_with fail
        refine HS1.out.mono ?_
        rintro e w14 ⟨⟨q, rfl, hq⟩, b14⟩
        have HQ : Hid (q = true ∨ c = b2) := hq
        have E14 : Hid (Below w.heap.size w w14 ∧ B2 ≤ w14.heap.size ∧ Blk w14 (X1 + 1) (bCells b2) 38 ∧ LedS w14 B2 db sb s9 false l9 L2 n ⟨c.last, c.stays, c.jobs⟩ ∧ Blk w14 X3 #[.int .i64 c.last, .slice sx c.stays.length cx, .slice jx c.jobs.length dx] 38 ∧ Book.At ⟨c.last, sx, cx, jx, dx, c.stays, c.jobs⟩ w14 ∧ w.heap.size ≤ X3) :=
          ⟨B.next E13.out.1 b14 E13.out.1.size, Nat.le_trans E13.out.2.1 b14.size, E13.out.2.2.2.1.below b14, E13.out.2.2.2.2.1.below b14, E13.out.2.2.2.2.2.1.below b14, E13.out.2.2.2.2.2.2.1.below b14, E13.out.2.2.2.2.2.2.2⟩
        clear hq b14 E13 HS1 r1 r2 r3
        have r2 := E14.out.2.2.1.cell
        have r3 := E14.out.2.2.2.2.1.cell
        unfold bCells at r2
        clear HA
        cases q
        case true =>
          obtain ⟨wa, hwa⟩ : ∃ wa, wa = w14 := ⟨w14, rfl⟩
          have EA : Hid (Below w.heap.size w wa ∧ B2 ≤ wa.heap.size ∧ LedS wa B2 db sb s9 false l9 L2 n ⟨c.last, c.stays, c.jobs⟩ ∧ Blk wa X3 #[.int .i64 c.last, .slice sx c.stays.length cx, .slice jx c.jobs.length dx] 38 ∧ w.heap.size ≤ X3) := by rw [hwa]; exact ⟨E14.out.1, E14.out.2.1, E14.out.2.2.2.1, E14.out.2.2.2.2.1, E14.out.2.2.2.2.2.2⟩
          subst hwa
          clear E14
          have HK9 : Hid (Calls Tryz.prog 22 #[.pointer (some ⟨L2, 0, none⟩), .agg #[.int .i64 9, .slice none 0 0, .slice none 0 0]] wa (KeepS B2 db sb s9 false L2 n ⟨9, none, 0, none, 0, [], []⟩ wa)) :=
            keepS B2 db sb s9 false l9 L2 n _ ⟨9, none, 0, none, 0, [], []⟩ wa EA.out.2.2.1 EA.out.2.1 (HG.out _ EA.out.1) (Nat.le_trans hbg HB2.out) (empty_at 9 wa) (fun W _ => empty_at 9 W) n1 n4
          go_wp2_with fail
          refine HK9.out.mono ?_
          rintro e wb hk
          have HKB : Hid (e = .returned .nilIface ∧ ∃ s2 l2, Below w.heap.size w wb ∧ B2 ≤ wb.heap.size ∧ LedS wb B2 db sb s2 false l2 L2 n ⟨9, [], []⟩ ∧ Blk wb X3 #[.int .i64 c.last, .slice sx c.stays.length cx, .slice jx c.jobs.length dx] 38) := by
            rcases hk with ⟨h1, _⟩ | ⟨_, h1, hf, s2, l2, h2, _⟩ | ⟨_, h1, _⟩
            · exact absurd (book_zero n 9 (by decide) (by decide)) h1
            · exact ⟨h1, s2, l2, bThen EA.out.1 hf.b HB2.out, Nat.le_trans EA.out.2.1 hf.b.size, h2, hf.far _ _ _ (by decide) (by decide) (by decide) (by decide) EA.out.2.2.2.1⟩
            · cases h1
          obtain ⟨rfl, s2, l2, m1, m2, m3, m4⟩ := HKB.out
          have HX3 : Hid (w.heap.size ≤ X3) := EA.out.2.2.2.2
          have EB : Hid (Below w.heap.size w wb ∧ B2 ≤ wb.heap.size ∧ Blk wb X3 #[.int .i64 c.last, .slice sx c.stays.length cx, .slice jx c.jobs.length dx] 38) := ⟨m1, m2, m4⟩
          have HO3 : Hid (Calls Tryz.prog 19 #[.pointer (some ⟨db, 0, none⟩), .int .i64 n] wb (OpenS B2 db sb s2 false l2 n ⟨9, [], []⟩ wb)) :=
            openS B2 db sb s2 false l2 n _ wb m3.d m2 m3.len m3.few m3.wr m3.lo m3.op (HG.out _ m1) n1 n4
          clear hk HKB m1 m2 m3 m4 EA HK9
          go_wp2_with fail
          refine HO3.out.mono ?_
          rintro e wc ⟨bc, L3, rfl, hl3⟩
          have EC : Hid (Below w.heap.size w wc ∧ Blk wc X3 #[.int .i64 c.last, .slice sx c.stays.length cx, .slice jx c.jobs.length dx] 38) := ⟨B.next EB.out.1 bc EB.out.1.size, EB.out.2.2.below bc⟩
          have HB3 : Hid (Calls Tryz.prog 24 #[.pointer (some ⟨L3, 0, none⟩)] wc fun e w' => ∃ vs vj, e = .returned (.agg #[.int .i64 9, vs, vj]) ∧ OwnBook w' wc.heap.size vs vj [] [] ∧ Below wc.heap.size wc w') := bookS B2 db sb s2 false l2 L3 n ⟨9, [], []⟩ wc hl3 (by decide) (by decide)
          clear bc hl3 EB HO3
          go_wp2_with fail
          refine HB3.out.mono ?_
          rintro e wd ⟨vs, vj, rfl, ho, bd⟩
          obtain ⟨sy, cy, hvs, _⟩ := ho.s.rows
          obtain ⟨jy, dy, hvj, _⟩ := ho.j.rows
          subst hvs hvj
          have ED : Hid (Blk wd X3 #[.int .i64 c.last, .slice sx c.stays.length cx, .slice jx c.jobs.length dx] 38) := EC.out.2.below bd
          have q3 := ED.out.cell
          have fq3 := ED.out.free
          have HF : Hid (∀ a b c, PP (.returned (.bool true)) (((wd.setCell ⟨X3, 0, none⟩ a).setCell ⟨X3, 1, none⟩ b).setCell ⟨X3, 2, none⟩ c)) := fun a b c => HP.out _ ((((B.next EC.out.1 bd EC.out.1.size).setCell (p := ⟨X3, 0, none⟩) HX3.out _).setCell (p := ⟨X3, 1, none⟩) HX3.out _).setCell (p := ⟨X3, 2, none⟩) HX3.out _)
          clear ho bd EC ED HB3 HG HP
          go_wp2
          exact HF.out _ _ _
        case false =>
          obtain rfl : c = b2 := by rcases HQ.out with h | h; cases h; exact h
          have HS2 : Hid (Calls Tryz.prog 23 #[.agg #[.int .i64 c.last, .slice sx c.stays.length cx, .slice jx c.jobs.length dx], .agg #[.int .i64 c.last, .slice c.sa c.stays.length c.sc, .slice c.ja c.jobs.length c.jc]] w14 fun e w' => e = .returned (.bool true) ∧ Below w14.heap.size w14 w') :=
            sameBook_any c.last c.stays c.jobs sx jx c.sa c.ja cx dx c.sc c.jc w14 E14.out.2.2.2.2.2.1 (HA2.out.2 _ E14.out.1)
          clear HA2
          go_wp2_with fail
          refine HS2.out.mono ?_
          rintro e wa ⟨rfl, ba⟩
          have EA : Hid (Below w.heap.size w wa ∧ B2 ≤ wa.heap.size ∧ LedS wa B2 db sb s9 false l9 L2 n ⟨c.last, c.stays, c.jobs⟩ ∧ Blk wa X3 #[.int .i64 c.last, .slice sx c.stays.length cx, .slice jx c.jobs.length dx] 38 ∧ w.heap.size ≤ X3) := ⟨B.next E14.out.1 ba E14.out.1.size, Nat.le_trans E14.out.2.1 ba.size, E14.out.2.2.2.1.below ba, E14.out.2.2.2.2.1.below ba, E14.out.2.2.2.2.2.2⟩
          clear E14 ba HS2 r2 r3
          have HK9 : Hid (Calls Tryz.prog 22 #[.pointer (some ⟨L2, 0, none⟩), .agg #[.int .i64 9, .slice none 0 0, .slice none 0 0]] wa (KeepS B2 db sb s9 false L2 n ⟨9, none, 0, none, 0, [], []⟩ wa)) :=
            keepS B2 db sb s9 false l9 L2 n _ ⟨9, none, 0, none, 0, [], []⟩ wa EA.out.2.2.1 EA.out.2.1 (HG.out _ EA.out.1) (Nat.le_trans hbg HB2.out) (empty_at 9 wa) (fun W _ => empty_at 9 W) n1 n4
          go_wp2_with fail
          refine HK9.out.mono ?_
          rintro e wb hk
          have HKB : Hid (e = .returned .nilIface ∧ ∃ s2 l2, Below w.heap.size w wb ∧ B2 ≤ wb.heap.size ∧ LedS wb B2 db sb s2 false l2 L2 n ⟨9, [], []⟩ ∧ Blk wb X3 #[.int .i64 c.last, .slice sx c.stays.length cx, .slice jx c.jobs.length dx] 38) := by
            rcases hk with ⟨h1, _⟩ | ⟨_, h1, hf, s2, l2, h2, _⟩ | ⟨_, h1, _⟩
            · exact absurd (book_zero n 9 (by decide) (by decide)) h1
            · exact ⟨h1, s2, l2, bThen EA.out.1 hf.b HB2.out, Nat.le_trans EA.out.2.1 hf.b.size, h2, hf.far _ _ _ (by decide) (by decide) (by decide) (by decide) EA.out.2.2.2.1⟩
            · cases h1
          obtain ⟨rfl, s2, l2, m1, m2, m3, m4⟩ := HKB.out
          have HX3 : Hid (w.heap.size ≤ X3) := EA.out.2.2.2.2
          have EB : Hid (Below w.heap.size w wb ∧ B2 ≤ wb.heap.size ∧ Blk wb X3 #[.int .i64 c.last, .slice sx c.stays.length cx, .slice jx c.jobs.length dx] 38) := ⟨m1, m2, m4⟩
          have HO3 : Hid (Calls Tryz.prog 19 #[.pointer (some ⟨db, 0, none⟩), .int .i64 n] wb (OpenS B2 db sb s2 false l2 n ⟨9, [], []⟩ wb)) :=
            openS B2 db sb s2 false l2 n _ wb m3.d m2 m3.len m3.few m3.wr m3.lo m3.op (HG.out _ m1) n1 n4
          clear hk HKB m1 m2 m3 m4 EA HK9
          go_wp2_with fail
          refine HO3.out.mono ?_
          rintro e wc ⟨bc, L3, rfl, hl3⟩
          have EC : Hid (Below w.heap.size w wc ∧ Blk wc X3 #[.int .i64 c.last, .slice sx c.stays.length cx, .slice jx c.jobs.length dx] 38) := ⟨B.next EB.out.1 bc EB.out.1.size, EB.out.2.2.below bc⟩
          have HB3 : Hid (Calls Tryz.prog 24 #[.pointer (some ⟨L3, 0, none⟩)] wc fun e w' => ∃ vs vj, e = .returned (.agg #[.int .i64 9, vs, vj]) ∧ OwnBook w' wc.heap.size vs vj [] [] ∧ Below wc.heap.size wc w') := bookS B2 db sb s2 false l2 L3 n ⟨9, [], []⟩ wc hl3 (by decide) (by decide)
          clear bc hl3 EB HO3
          go_wp2_with fail
          refine HB3.out.mono ?_
          rintro e wd ⟨vs, vj, rfl, ho, bd⟩
          obtain ⟨sy, cy, hvs, _⟩ := ho.s.rows
          obtain ⟨jy, dy, hvj, _⟩ := ho.j.rows
          subst hvs hvj
          have ED : Hid (Blk wd X3 #[.int .i64 c.last, .slice sx c.stays.length cx, .slice jx c.jobs.length dx] 38) := EC.out.2.below bd
          have q3 := ED.out.cell
          have fq3 := ED.out.free
          have HF : Hid (∀ a b c, PP (.returned (.bool true)) (((wd.setCell ⟨X3, 0, none⟩ a).setCell ⟨X3, 1, none⟩ b).setCell ⟨X3, 2, none⟩ c)) := fun a b c => HP.out _ ((((B.next EC.out.1 bd EC.out.1.size).setCell (p := ⟨X3, 0, none⟩) HX3.out _).setCell (p := ⟨X3, 1, none⟩) HX3.out _).setCell (p := ⟨X3, 2, none⟩) HX3.out _)
          clear ho bd EC ED HB3 HG HP
          go_wp2
          exact HF.out _ _ _
    · have hltz : ¬ (i : Int) < (len : Int) := by omega
      obtain ⟨we, rfl⟩ : ∃ we, we = wr := ⟨wr, rfl⟩
      obtain ⟨b2, rfl⟩ : ∃ b2, b2 = b := ⟨b, rfl⟩
      have HE0 : Hid (Below w.heap.size w we ∧ B2 ≤ we.heap.size ∧ Blk we X1 (bCells b2) 38 ∧ Blk we (X1 + 1) (bCells b2) 38 ∧ Ready we B2 db sb n b2 b2) := by
        obtain ⟨s', l', hl⟩ := M.out.2.2.2.2
        exact ⟨M.out.1, M.out.2.1, M.out.2.2.1, M.out.2.2.2.1, hl.ready b2⟩
      obtain ⟨b, hbb⟩ : ∃ b, b = b2 := ⟨b2, rfl⟩
      have HA2 := HA
      have HE : Hid (Below w.heap.size w we ∧ B2 ≤ we.heap.size ∧ Blk we X1 (bCells b) 38 ∧ Blk we (X1 + 1) (bCells b2) 38 ∧ Ready we B2 db sb n b b2) := by rw [hbb]; exact HE0
      have HA0 : Hid (bookN b n = 0 ∧ ∀ W, Below w.heap.size w W → Book.At b W) := by rw [hbb]; exact HA
      clear hbb M HE0 HA
      have HA : Hid (bookN b n = 0 ∧ ∀ W, Below w.heap.size w W → Book.At b W) := HA0
      clear HA0
      have RS : Hid (∀ K, Calls Tryz.prog 29 #[.pointer (some ⟨db, 0, none⟩), .int .u64 K] we fun e w' => e = .returned (.tuple #[]) ∧ ∃ s9 l9, DiskAt w' B2 db sb s9 0 false l9 false ∧ DFr B2 we w' ∧ 22 ≤ s9.length ∧ s9.length ≤ 1000 ∧ l9 ≤ 9223372036854775807 ∧ (∀ j, j < s9.length → s9[j]!.wr = []) ∧ (openP s9 n = some ⟨b.last, b.stays, b.jobs⟩ ∨ openP s9 n = some ⟨b2.last, b2.stays, b2.jobs⟩)) := fun K => by
        obtain ⟨s9, bit9, ar9, l9, dn9, d9, h22, hfew, hhi, hln, hbits, hop⟩ := HE.out.2.2.2.2.d
        refine (restart_any B2 db sb s9 bit9 ar9 l9 dn9 K we d9 HE.out.2.1 hln hbits hfew).mono ?_
        rintro e w' ⟨h1, h2, h3⟩
        exact ⟨h1, _, l9, h2, h3, by rw [stl_len]; exact h22, by rw [stl_len]; exact hfew, hhi, stl_wr K s9, hop K⟩
      go_wp2_with fail
      refine (RS.out K).mono ?_
      rintro e w10 ⟨rfl, s9, l9, d9, f9, h22, hfew, hhi, hwr, hop⟩
      obtain ⟨c, hc, hop⟩ : ∃ c : Book, (c = b ∨ c = b2) ∧ openP s9 n = some ⟨c.last, c.stays, c.jobs⟩ := by
        rcases hop with h | h
        · exact ⟨b, Or.inl rfl, h⟩
        · exact ⟨b2, Or.inr rfl, h⟩
      have HC0 : Hid (bookN c n = 0) := by
        rcases hc with rfl | rfl
        · exact HA.out.1
        · exact HA2.out.1
      have HCS : Hid (c.stays.length ≤ 16 ∧ c.jobs.length ≤ 8) := by
        have := (bookN_zero c n).1 HC0.out
        exact ⟨this.fewS, this.fewJ⟩
      have E10 : Hid (Below w.heap.size w w10 ∧ B2 ≤ w10.heap.size ∧ Blk w10 X1 (bCells b) 38 ∧ Blk w10 (X1 + 1) (bCells b2) 38) := ⟨bThen HE.out.1 f9.b HB2.out, Nat.le_trans HE.out.2.1 f9.b.size, f9.far _ _ _ (by decide) (by decide) (by decide) HE.out.2.2.1, f9.far _ _ _ (by decide) (by decide) (by decide) HE.out.2.2.2.1⟩
      have HOS : Hid (Calls Tryz.prog 19 #[.pointer (some ⟨db, 0, none⟩), .int .i64 n] w10 (OpenS B2 db sb s9 false l9 n ⟨c.last, c.stays, c.jobs⟩ w10)) :=
        openS B2 db sb s9 false l9 n _ w10 d9 E10.out.2.1 h22 hfew hwr ⟨Or.inr rfl, hhi⟩ hop (HG.out _ E10.out.1) n1 n4
      clear d9 f9 h22 hfew hhi hwr hop RS HE
      go_wp2_with fail
      refine HOS.out.mono ?_
      rintro e w11 ⟨b11, L2, rfl, hl⟩
      have E11 : Hid (Below w.heap.size w w11 ∧ B2 ≤ w11.heap.size ∧ Blk w11 X1 (bCells b) 38 ∧ Blk w11 (X1 + 1) (bCells b2) 38 ∧ LedS w11 B2 db sb s9 false l9 L2 n ⟨c.last, c.stays, c.jobs⟩) := ⟨B.next E10.out.1 b11 E10.out.1.size, Nat.le_trans E10.out.2.1 b11.size, E10.out.2.2.1.below b11, E10.out.2.2.2.below b11, hl⟩
      have HBK : Hid (Calls Tryz.prog 24 #[.pointer (some ⟨L2, 0, none⟩)] w11 fun e w' => ∃ vs vj, e = .returned (.agg #[.int .i64 c.last, vs, vj]) ∧ OwnBook w' w11.heap.size vs vj c.stays c.jobs ∧ Below w11.heap.size w11 w') := bookS B2 db sb s9 false l9 L2 n ⟨c.last, c.stays, c.jobs⟩ w11 hl (by have := HCS.out.1; show c.stays.length ≤ _; omega) (by have := HCS.out.2; show c.jobs.length ≤ _; omega)
      clear hl b11 E10 HOS
      go_wp2_with fail
      refine HBK.out.mono ?_
      rintro e w12 ⟨vs, vj, rfl, ho, b12⟩
      obtain ⟨sx, cx, hvs, hrs⟩ := ho.s.rows
      obtain ⟨jx, dx, hvj, hrj⟩ := ho.j.rows
      subst hvs hvj
      obtain ⟨X3, hX3⟩ : ∃ X3, w12.heap.size = X3 := ⟨_, rfl⟩
      obtain ⟨w13, hw13⟩ : ∃ w13, w12.alloc (.cells #[.int .i64 c.last, .slice sx c.stays.length cx, .slice jx c.jobs.length dx] 38) = w13 := ⟨_, rfl⟩
      have E13 : Hid (Below w.heap.size w w13 ∧ B2 ≤ w13.heap.size ∧ Blk w13 X1 (bCells b) 38 ∧ Blk w13 (X1 + 1) (bCells b2) 38 ∧ LedS w13 B2 db sb s9 false l9 L2 n ⟨c.last, c.stays, c.jobs⟩ ∧ Blk w13 X3 #[.int .i64 c.last, .slice sx c.stays.length cx, .slice jx c.jobs.length dx] 38 ∧ Book.At ⟨c.last, sx, cx, jx, dx, c.stays, c.jobs⟩ w13 ∧ w.heap.size ≤ X3) := by
        show _ ∧ _ ∧ _ ∧ _ ∧ _ ∧ _ ∧ _ ∧ _
        have b13 : Below w11.heap.size w11 w13 := by rw [← hw13]; exact b12.alloc b12.size _
        have b13' : Below w12.heap.size w12 w13 := by rw [← hw13]; exact B.new1 _ _
        refine ⟨B.next E11.out.1 b13 E11.out.1.size, Nat.le_trans E11.out.2.1 b13.size, E11.out.2.2.1.below b13, E11.out.2.2.2.1.below b13, E11.out.2.2.2.2.below b13, ?_, ⟨hrs.below b13', hrj.below b13'⟩, ?_⟩
        · rw [← hw13, ← hX3]; exact Blk.new _ _ _
        · rw [← hX3]; exact Nat.le_trans E11.out.1.size b12.size
      have HW13 : Hid (w12.alloc (.cells #[.int .i64 c.last, .slice sx c.stays.length cx, .slice jx c.jobs.length dx] 38) = w13) := hw13
      have HX3 : Hid (w12.heap.size = X3) := hX3
      clear ho hrs hrj b12 hw13 hX3 E11 HBK
      go_upto_region 27 with fail
      simp only [HW13.out, HX3.out]
      clear HW13 HX3
      have HS1 : Hid (Calls Tryz.prog 23 #[.agg #[.int .i64 c.last, .slice sx c.stays.length cx, .slice jx c.jobs.length dx], .agg #[.int .i64 b.last, .slice b.sa b.stays.length b.sc, .slice b.ja b.jobs.length b.jc]] w13 fun e w' => (∃ q : Bool, e = .returned (.bool q) ∧ (q = true ∨ c = b2)) ∧ Below w13.heap.size w13 w') := by
        rcases hc with rfl | rfl
        · refine (sameBook_any c.last c.stays c.jobs sx jx c.sa c.ja cx dx c.sc c.jc w13 E13.out.2.2.2.2.2.2.1 (HA.out.2 _ E13.out.1)).mono ?_
          rintro e w' ⟨h1, h2⟩
          exact ⟨⟨true, h1, Or.inl rfl⟩, h2⟩
        · refine (sameBook_ex c.last b.last c.stays b.stays c.jobs b.jobs sx jx b.sa b.ja cx dx b.sc b.jc w13 E13.out.2.2.2.2.2.2.1 (HA.out.2 _ E13.out.1)).mono ?_
          rintro e w' ⟨⟨q, h1⟩, h2⟩
          exact ⟨⟨q, h1, Or.inr rfl⟩, h2⟩
      have r1 := E13.out.2.2.1.cell
      have r2 := E13.out.2.2.2.1.cell
      have r3 := E13.out.2.2.2.2.2.1.cell
      unfold bCells at r1 r2
      go_wp2_with fail
      refine HS1.out.mono ?_
      rintro e w14 ⟨⟨q, rfl, hq⟩, b14⟩
      have HQ : Hid (q = true ∨ c = b2) := hq
      have E14 : Hid (Below w.heap.size w w14 ∧ B2 ≤ w14.heap.size ∧ Blk w14 (X1 + 1) (bCells b2) 38 ∧ LedS w14 B2 db sb s9 false l9 L2 n ⟨c.last, c.stays, c.jobs⟩ ∧ Blk w14 X3 #[.int .i64 c.last, .slice sx c.stays.length cx, .slice jx c.jobs.length dx] 38 ∧ Book.At ⟨c.last, sx, cx, jx, dx, c.stays, c.jobs⟩ w14 ∧ w.heap.size ≤ X3) :=
        ⟨B.next E13.out.1 b14 E13.out.1.size, Nat.le_trans E13.out.2.1 b14.size, E13.out.2.2.2.1.below b14, E13.out.2.2.2.2.1.below b14, E13.out.2.2.2.2.2.1.below b14, E13.out.2.2.2.2.2.2.1.below b14, E13.out.2.2.2.2.2.2.2⟩
      clear hq b14 E13 HS1 r1 r2 r3
      have r2 := E14.out.2.2.1.cell
      have r3 := E14.out.2.2.2.2.1.cell
      unfold bCells at r2
      clear HA
      cases q
      case true =>
        obtain ⟨wa, hwa⟩ : ∃ wa, wa = w14 := ⟨w14, rfl⟩
        have EA : Hid (Below w.heap.size w wa ∧ B2 ≤ wa.heap.size ∧ LedS wa B2 db sb s9 false l9 L2 n ⟨c.last, c.stays, c.jobs⟩ ∧ Blk wa X3 #[.int .i64 c.last, .slice sx c.stays.length cx, .slice jx c.jobs.length dx] 38 ∧ w.heap.size ≤ X3) := by rw [hwa]; exact ⟨E14.out.1, E14.out.2.1, E14.out.2.2.2.1, E14.out.2.2.2.2.1, E14.out.2.2.2.2.2.2⟩
        subst hwa
        clear E14
        have HK9 : Hid (Calls Tryz.prog 22 #[.pointer (some ⟨L2, 0, none⟩), .agg #[.int .i64 9, .slice none 0 0, .slice none 0 0]] wa (KeepS B2 db sb s9 false L2 n ⟨9, none, 0, none, 0, [], []⟩ wa)) :=
          keepS B2 db sb s9 false l9 L2 n _ ⟨9, none, 0, none, 0, [], []⟩ wa EA.out.2.2.1 EA.out.2.1 (HG.out _ EA.out.1) (Nat.le_trans hbg HB2.out) (empty_at 9 wa) (fun W _ => empty_at 9 W) n1 n4
        go_wp2_with fail
        refine HK9.out.mono ?_
        rintro e wb hk
        have HKB : Hid (e = .returned .nilIface ∧ ∃ s2 l2, Below w.heap.size w wb ∧ B2 ≤ wb.heap.size ∧ LedS wb B2 db sb s2 false l2 L2 n ⟨9, [], []⟩ ∧ Blk wb X3 #[.int .i64 c.last, .slice sx c.stays.length cx, .slice jx c.jobs.length dx] 38) := by
          rcases hk with ⟨h1, _⟩ | ⟨_, h1, hf, s2, l2, h2, _⟩ | ⟨_, h1, _⟩
          · exact absurd (book_zero n 9 (by decide) (by decide)) h1
          · exact ⟨h1, s2, l2, bThen EA.out.1 hf.b HB2.out, Nat.le_trans EA.out.2.1 hf.b.size, h2, hf.far _ _ _ (by decide) (by decide) (by decide) (by decide) EA.out.2.2.2.1⟩
          · cases h1
        obtain ⟨rfl, s2, l2, m1, m2, m3, m4⟩ := HKB.out
        have HX3 : Hid (w.heap.size ≤ X3) := EA.out.2.2.2.2
        have EB : Hid (Below w.heap.size w wb ∧ B2 ≤ wb.heap.size ∧ Blk wb X3 #[.int .i64 c.last, .slice sx c.stays.length cx, .slice jx c.jobs.length dx] 38) := ⟨m1, m2, m4⟩
        have HO3 : Hid (Calls Tryz.prog 19 #[.pointer (some ⟨db, 0, none⟩), .int .i64 n] wb (OpenS B2 db sb s2 false l2 n ⟨9, [], []⟩ wb)) :=
          openS B2 db sb s2 false l2 n _ wb m3.d m2 m3.len m3.few m3.wr m3.lo m3.op (HG.out _ m1) n1 n4
        clear hk HKB m1 m2 m3 m4 EA HK9
        go_wp2_with fail
        refine HO3.out.mono ?_
        rintro e wc ⟨bc, L3, rfl, hl3⟩
        have EC : Hid (Below w.heap.size w wc ∧ Blk wc X3 #[.int .i64 c.last, .slice sx c.stays.length cx, .slice jx c.jobs.length dx] 38) := ⟨B.next EB.out.1 bc EB.out.1.size, EB.out.2.2.below bc⟩
        have HB3 : Hid (Calls Tryz.prog 24 #[.pointer (some ⟨L3, 0, none⟩)] wc fun e w' => ∃ vs vj, e = .returned (.agg #[.int .i64 9, vs, vj]) ∧ OwnBook w' wc.heap.size vs vj [] [] ∧ Below wc.heap.size wc w') := bookS B2 db sb s2 false l2 L3 n ⟨9, [], []⟩ wc hl3 (by decide) (by decide)
        clear bc hl3 EB HO3
        go_wp2_with fail
        refine HB3.out.mono ?_
        rintro e wd ⟨vs, vj, rfl, ho, bd⟩
        obtain ⟨sy, cy, hvs, _⟩ := ho.s.rows
        obtain ⟨jy, dy, hvj, _⟩ := ho.j.rows
        subst hvs hvj
        have ED : Hid (Blk wd X3 #[.int .i64 c.last, .slice sx c.stays.length cx, .slice jx c.jobs.length dx] 38) := EC.out.2.below bd
        have q3 := ED.out.cell
        have fq3 := ED.out.free
        have HF : Hid (∀ a b c, PP (.returned (.bool true)) (((wd.setCell ⟨X3, 0, none⟩ a).setCell ⟨X3, 1, none⟩ b).setCell ⟨X3, 2, none⟩ c)) := fun a b c => HP.out _ ((((B.next EC.out.1 bd EC.out.1.size).setCell (p := ⟨X3, 0, none⟩) HX3.out _).setCell (p := ⟨X3, 1, none⟩) HX3.out _).setCell (p := ⟨X3, 2, none⟩) HX3.out _)
        clear ho bd EC ED HB3 HG HP
        go_wp2
        exact HF.out _ _ _
      case false =>
        obtain rfl : c = b2 := by rcases HQ.out with h | h; cases h; exact h
        have HS2 : Hid (Calls Tryz.prog 23 #[.agg #[.int .i64 c.last, .slice sx c.stays.length cx, .slice jx c.jobs.length dx], .agg #[.int .i64 c.last, .slice c.sa c.stays.length c.sc, .slice c.ja c.jobs.length c.jc]] w14 fun e w' => e = .returned (.bool true) ∧ Below w14.heap.size w14 w') :=
          sameBook_any c.last c.stays c.jobs sx jx c.sa c.ja cx dx c.sc c.jc w14 E14.out.2.2.2.2.2.1 (HA2.out.2 _ E14.out.1)
        clear HA2
        go_wp2_with fail
        refine HS2.out.mono ?_
        rintro e wa ⟨rfl, ba⟩
        have EA : Hid (Below w.heap.size w wa ∧ B2 ≤ wa.heap.size ∧ LedS wa B2 db sb s9 false l9 L2 n ⟨c.last, c.stays, c.jobs⟩ ∧ Blk wa X3 #[.int .i64 c.last, .slice sx c.stays.length cx, .slice jx c.jobs.length dx] 38 ∧ w.heap.size ≤ X3) := ⟨B.next E14.out.1 ba E14.out.1.size, Nat.le_trans E14.out.2.1 ba.size, E14.out.2.2.2.1.below ba, E14.out.2.2.2.2.1.below ba, E14.out.2.2.2.2.2.2⟩
        clear E14 ba HS2 r2 r3
        have HK9 : Hid (Calls Tryz.prog 22 #[.pointer (some ⟨L2, 0, none⟩), .agg #[.int .i64 9, .slice none 0 0, .slice none 0 0]] wa (KeepS B2 db sb s9 false L2 n ⟨9, none, 0, none, 0, [], []⟩ wa)) :=
          keepS B2 db sb s9 false l9 L2 n _ ⟨9, none, 0, none, 0, [], []⟩ wa EA.out.2.2.1 EA.out.2.1 (HG.out _ EA.out.1) (Nat.le_trans hbg HB2.out) (empty_at 9 wa) (fun W _ => empty_at 9 W) n1 n4
        go_wp2_with fail
        refine HK9.out.mono ?_
        rintro e wb hk
        have HKB : Hid (e = .returned .nilIface ∧ ∃ s2 l2, Below w.heap.size w wb ∧ B2 ≤ wb.heap.size ∧ LedS wb B2 db sb s2 false l2 L2 n ⟨9, [], []⟩ ∧ Blk wb X3 #[.int .i64 c.last, .slice sx c.stays.length cx, .slice jx c.jobs.length dx] 38) := by
          rcases hk with ⟨h1, _⟩ | ⟨_, h1, hf, s2, l2, h2, _⟩ | ⟨_, h1, _⟩
          · exact absurd (book_zero n 9 (by decide) (by decide)) h1
          · exact ⟨h1, s2, l2, bThen EA.out.1 hf.b HB2.out, Nat.le_trans EA.out.2.1 hf.b.size, h2, hf.far _ _ _ (by decide) (by decide) (by decide) (by decide) EA.out.2.2.2.1⟩
          · cases h1
        obtain ⟨rfl, s2, l2, m1, m2, m3, m4⟩ := HKB.out
        have HX3 : Hid (w.heap.size ≤ X3) := EA.out.2.2.2.2
        have EB : Hid (Below w.heap.size w wb ∧ B2 ≤ wb.heap.size ∧ Blk wb X3 #[.int .i64 c.last, .slice sx c.stays.length cx, .slice jx c.jobs.length dx] 38) := ⟨m1, m2, m4⟩
        have HO3 : Hid (Calls Tryz.prog 19 #[.pointer (some ⟨db, 0, none⟩), .int .i64 n] wb (OpenS B2 db sb s2 false l2 n ⟨9, [], []⟩ wb)) :=
          openS B2 db sb s2 false l2 n _ wb m3.d m2 m3.len m3.few m3.wr m3.lo m3.op (HG.out _ m1) n1 n4
        clear hk HKB m1 m2 m3 m4 EA HK9
        go_wp2_with fail
        refine HO3.out.mono ?_
        rintro e wc ⟨bc, L3, rfl, hl3⟩
        have EC : Hid (Below w.heap.size w wc ∧ Blk wc X3 #[.int .i64 c.last, .slice sx c.stays.length cx, .slice jx c.jobs.length dx] 38) := ⟨B.next EB.out.1 bc EB.out.1.size, EB.out.2.2.below bc⟩
        have HB3 : Hid (Calls Tryz.prog 24 #[.pointer (some ⟨L3, 0, none⟩)] wc fun e w' => ∃ vs vj, e = .returned (.agg #[.int .i64 9, vs, vj]) ∧ OwnBook w' wc.heap.size vs vj [] [] ∧ Below wc.heap.size wc w') := bookS B2 db sb s2 false l2 L3 n ⟨9, [], []⟩ wc hl3 (by decide) (by decide)
        clear bc hl3 EB HO3
        go_wp2_with fail
        refine HB3.out.mono ?_
        rintro e wd ⟨vs, vj, rfl, ho, bd⟩
        obtain ⟨sy, cy, hvs, _⟩ := ho.s.rows
        obtain ⟨jy, dy, hvj, _⟩ := ho.j.rows
        subst hvs hvj
        have ED : Hid (Blk wd X3 #[.int .i64 c.last, .slice sx c.stays.length cx, .slice jx c.jobs.length dx] 38) := EC.out.2.below bd
        have q3 := ED.out.cell
        have fq3 := ED.out.free
        have HF : Hid (∀ a b c, PP (.returned (.bool true)) (((wd.setCell ⟨X3, 0, none⟩ a).setCell ⟨X3, 1, none⟩ b).setCell ⟨X3, 2, none⟩ c)) := fun a b c => HP.out _ ((((B.next EC.out.1 bd EC.out.1.size).setCell (p := ⟨X3, 0, none⟩) HX3.out _).setCell (p := ⟨X3, 1, none⟩) HX3.out _).setCell (p := ⟨X3, 2, none⟩) HX3.out _)
        clear ho bd EC ED HB3 HG HP
        go_wp2
        exact HF.out _ _ _

end Lg
end Go.Proofs.YtaikbojdmfkbhaaGreatDoor
