/- Chapter 8: the program's disk and the document's, side by side: each act done on both; contracts for the law of stage 3. -/
import Derived.Test.YtmojjjikaaclpaaDiskQ
import Derived.Test.YtmojjjikaaclpaaActs
namespace Go.Proofs.Ytmojjjikaaclpaa
open Go.Shelf Go.Lib Go.ChangeShapes Go.WideShapes Go.ChangeAt Go.RowKit
set_option maxRecDepth 100000
set_option linter.unusedSimpArgs false
set_option linter.unusedVariables false

namespace Dk
open Bk
theorem belowUnder {N M : Nat} {a b : World} (h : Below M a b) (hn : N ≤ M) : Below N a b := ⟨h.os, h.tape, h.output, h.size, fun q hq => h.block q (by omega)⟩
theorem belowTrans {N : Nat} {a b c : World} (h : Below N a b) (k : Below N b c) : Below N a c := ⟨k.os.trans h.os, k.tape.trans h.tape, k.output.trans h.output, Nat.le_trans h.size k.size, fun q hq => (k.block q hq).trans (h.block q hq)⟩
/-- What lies below, and an act's copy, are left alone. -/
structure Fr (N : Nat) (w w' : World) : Prop where
  b : Below N w w'
  act : ∀ q arr, Blk w q arr 45 → Blk w' q arr 45
theorem Fr.trans {N : Nat} {a b c : World} (h : Fr N a b) (k : Fr N b c) : Fr N a c := ⟨belowTrans h.b k.b, fun q arr hk => k.act q arr (h.act q arr hk)⟩
theorem Fr.refl (N : Nat) (w : World) : Fr N w w := ⟨Below.refl _ _, fun _ _ h => h⟩
theorem Fr.of_below {N : Nat} {w w' : World} (h : Below w.heap.size w w') (hn : N ≤ w.heap.size) : Fr N w w' := ⟨belowUnder h hn, fun q arr hk => hk.below h⟩
theorem Fr.of_d {N B : Nat} {w w' : World} (h : DFr B w w') (hn : N ≤ B) : Fr N w w' := ⟨belowUnder h.b hn, fun q arr hk => h.far q arr _ (by decide) (by decide) (by decide) hk⟩
theorem Fr.of_r {N B : Nat} {w w' : World} (h : RFr B w w') (hn : N ≤ B) : Fr N w w' := ⟨belowUnder h.b hn, fun q arr hk => h.far q arr _ (by decide) (by decide) (by decide) hk⟩
/-- Both disks, and how they hang together. -/
structure ST (w : World) (N B1 db sb B2 rb n k : Nat) (secs : List Sec) (bit : Int) (armed : Bool) (left : Int) (down : Bool) (kept now : List ByteArray) (wait : List Wt) (fuse : Int) : Prop where
  p : DiskAt w B1 db sb secs bit armed left down
  r : RD w B2 rb kept now wait fuse down
  q : PR secs bit armed left down kept now wait fuse k
  h1 : B1 ≤ w.heap.size
  h2 : B2 ≤ w.heap.size
  n1 : N ≤ B1
  n2 : N ≤ B2
  len : secs.length = n
def STx (w : World) (N B1 db sb B2 rb n k : Nat) : Prop := ∃ secs bit armed left down kept now wait fuse, ST w N B1 db sb B2 rb n k secs bit armed left down kept now wait fuse
theorem ST.below {w w' : World} {N B1 db sb B2 rb n k : Nat} {secs : List Sec} {bit : Int} {armed : Bool} {left : Int} {down : Bool} {kept now : List ByteArray} {wait : List Wt} {fuse : Int} (h : ST w N B1 db sb B2 rb n k secs bit armed left down kept now wait fuse) (hb : Below w.heap.size w w') : ST w' N B1 db sb B2 rb n k secs bit armed left down kept now wait fuse :=
  ⟨h.p.below hb, h.r.below hb, h.q, Nat.le_trans h.h1 hb.size, Nat.le_trans h.h2 hb.size, h.n1, h.n2, h.len⟩
theorem STx.below {w w' : World} {N B1 db sb B2 rb n k : Nat} (h : STx w N B1 db sb B2 rb n k) (hb : Below w.heap.size w w') : STx w' N B1 db sb B2 rb n k := by
  obtain ⟨a, b, c, d, e, f, g, i, j, h⟩ := h
  exact ⟨a, b, c, d, e, f, g, i, j, h.below hb⟩
theorem STx.more {w : World} {N B1 db sb B2 rb n k k' : Nat} (h : STx w N B1 db sb B2 rb n k) (hk : k ≤ k') : STx w N B1 db sb B2 rb n k' := by
  obtain ⟨a, b, c, d, e, f, g, i, j, h⟩ := h
  exact ⟨a, b, c, d, e, f, g, i, j, h.p, h.r, h.q.more hk, h.h1, h.h2, h.n1, h.n2, h.len⟩
theorem ST.lens {w : World} {N B1 db sb B2 rb n k : Nat} {secs : List Sec} {bit : Int} {armed : Bool} {left : Int} {down : Bool} {kept now : List ByteArray} {wait : List Wt} {fuse : Int} (h : ST w N B1 db sb B2 rb n k secs bit armed left down kept now wait fuse) (hk : k ≤ 80) : ∀ i, i < secs.length → secs[i]!.wr.length ≤ 80 := fun i hi => by
  have := (h.q.wr i hi).1
  have := h.q.wl
  omega
theorem write_two {w : World} {N B1 db sb B2 rb n k : Nat} (h : STx w N B1 db sb B2 rb n k) (hk : k ≤ 80) (x : Int) (S : ByteArray) (hS : S.size ≤ maxLen) :
    Calls Try.prog 10 #[.pointer (some ⟨db, 0, none⟩), .int .i64 x, .string S] w fun e w' => ∃ E1 : Int, 0 ≤ E1 ∧ e = .returned (errV E1) ∧ Fr N w w' ∧
      Calls Try.prog 11 #[.pointer (some ⟨rb, 0, none⟩), .int .i64 x, .string S] w' fun e2 w2 => e2 = .returned (.int .i64 E1) ∧ Fr N w' w2 ∧ STx w2 N B1 db sb B2 rb n (k + 1) := by
  obtain ⟨secs, bit, armed, left, down, kept, now, wait, fuse, h⟩ := h
  have hl := h.lens hk
  have hq := h.q
  have hfew := hq.few
  have hbit := hq.bit
  have hstep := hq.step
  have hnow : now.length = secs.length := hq.lenN
  refine (writeW_any B1 db sb secs bit armed left down x S w h.p h.h1 hq.lo hq.hi (by omega) (by omega) (fun i hi => by have := hl i hi; omega) (by omega) hS).mono ?_
  have href : ∀ w', RD w' B2 rb kept now wait fuse down → B2 ≤ w'.heap.size → Calls Try.prog 11 #[.pointer (some ⟨rb, 0, none⟩), .int .i64 x, .string S] w' (RWPost B2 rb kept now wait fuse down x S w') := fun w' hr hb => rdwrite_any B2 rb kept now wait fuse down x S w' hr hb hq.fu (by omega) (by have := hq.wl; omega) hS
  rintro e w' (⟨h1, rfl, rfl⟩ | ⟨h1, h2, rfl, hF, hD⟩ | ⟨h1, h2, rfl, hF, v', hD⟩)
  · refine ⟨1, by decide, rfl, Fr.refl _ _, (href _ h.r h.h2).mono ?_⟩
    rintro e2 w2 (⟨_, rfl, rfl⟩ | ⟨g1, _⟩ | ⟨g1, _⟩)
    · exact ⟨rfl, Fr.refl _ _, STx.more ⟨_, _, _, _, _, _, _, _, _, h⟩ (Nat.le_succ _)⟩
    · unfold okW at g1; rw [hnow, h1] at g1; cases g1
    · unfold okW at g1; rw [hnow, h1] at g1; cases g1
  · have hr := h.r.dfr hF
    have hb2 := Nat.le_trans h.h2 hF.b.size
    refine ⟨9, by decide, rfl, Fr.of_d hF h.n1, (href _ hr hb2).mono ?_⟩
    rintro e2 w2 (⟨g1, _⟩ | ⟨_, g2, rfl, gF, gD⟩ | ⟨_, g2, _⟩)
    · unfold okW at g1; rw [hnow, h1] at g1; cases g1
    · refine ⟨rfl, Fr.of_r gF h.n2, _, _, _, _, _, _, _, _, _, hD.rfr gF, gD, ?_, Nat.le_trans (Nat.le_trans h.h1 hF.b.size) gF.b.size, Nat.le_trans hb2 gF.b.size, h.n1, h.n2, h.len⟩
      have := hstep.2
      rw [g2] at this
      exact this.more (Nat.le_succ _)
    · rw [hstep.1] at h2; rw [h2] at g2; cases g2
  · have hr := h.r.dfr hF
    have hb2 := Nat.le_trans h.h2 hF.b.size
    refine ⟨0, by decide, rfl, Fr.of_d hF h.n1, (href _ hr hb2).mono ?_⟩
    rintro e2 w2 (⟨g1, _⟩ | ⟨_, g2, _⟩ | ⟨_, g2, rfl, gF, gD⟩)
    · unfold okW at g1; rw [hnow, h1] at g1; cases g1
    · rw [hstep.1] at h2; rw [h2] at g2; cases g2
    · have hx : hasN secs.length x = true ∧ S.size ≤ 64 := by simpa using h1
      obtain ⟨i, rfl⟩ : ∃ i : Nat, x = (i : Int) := ⟨x.toNat, by have := hx.1; simp [hasN] at this; omega⟩
      have hi : i < secs.length := by have := hx.1; simp [hasN] at this; omega
      have hP := hstep.2
      rw [g2] at hP
      exact ⟨rfl, Fr.of_r gF h.n2, _, _, _, _, _, _, _, _, _, hD.rfr gF, gD, hP.write i hi S hx.2 v', Nat.le_trans (Nat.le_trans h.h1 hF.b.size) gF.b.size, Nat.le_trans hb2 gF.b.size, h.n1, h.n2, by rw [List.length_set]; exact h.len⟩
theorem flush_two {w : World} {N B1 db sb B2 rb n k : Nat} (h : STx w N B1 db sb B2 rb n k) (hk : k ≤ 80) :
    Calls Try.prog 14 #[.pointer (some ⟨db, 0, none⟩)] w fun e w' => ∃ E1 : Int, 0 ≤ E1 ∧ e = .returned (errV E1) ∧ Fr N w w' ∧
      Calls Try.prog 15 #[.pointer (some ⟨rb, 0, none⟩)] w' fun e2 w2 => e2 = .returned (.int .i64 E1) ∧ Fr N w' w2 ∧ STx w2 N B1 db sb B2 rb n k := by
  obtain ⟨secs, bit, armed, left, down, kept, now, wait, fuse, h⟩ := h
  have hl := h.lens hk
  have hq := h.q
  have hfew := hq.few
  have hstep := hq.step
  have hnow : now.length = secs.length := hq.lenN
  refine (flushG_any B1 db sb secs bit armed left down w h.p h.h1 hq.lo hq.hi (fun i hi => by have := hl i hi; omega) (fun i hi => (hq.wr i hi).2) (by omega)).mono ?_
  have href : ∀ w', RD w' B2 rb kept now wait fuse down → B2 ≤ w'.heap.size → Calls Try.prog 15 #[.pointer (some ⟨rb, 0, none⟩)] w' (RFPost B2 rb kept now wait fuse down w') := fun w' hr hb => rdflush_any B2 rb kept now wait fuse down w' hr hb hq.fu (by omega)
  rintro e w' (⟨h2, rfl, hF, hD⟩ | ⟨h2, rfl, hF, hD⟩)
  · have hr := h.r.dfr hF
    have hb2 := Nat.le_trans h.h2 hF.b.size
    refine ⟨9, by decide, rfl, Fr.of_d hF h.n1, (href _ hr hb2).mono ?_⟩
    rintro e2 w2 (⟨g2, rfl, gF, gD⟩ | ⟨g2, _⟩)
    · refine ⟨rfl, Fr.of_r gF h.n2, _, _, _, _, _, _, _, _, _, hD.rfr gF, gD, ?_, Nat.le_trans (Nat.le_trans h.h1 hF.b.size) gF.b.size, Nat.le_trans hb2 gF.b.size, h.n1, h.n2, h.len⟩
      have := hstep.2
      rw [g2] at this
      exact this
    · rw [hstep.1] at h2; rw [h2] at g2; cases g2
  · have hr := h.r.dfr hF
    have hb2 := Nat.le_trans h.h2 hF.b.size
    refine ⟨0, by decide, rfl, Fr.of_d hF h.n1, (href _ hr hb2).mono ?_⟩
    rintro e2 w2 (⟨g2, _⟩ | ⟨g2, rfl, gF, gD⟩)
    · rw [hstep.1] at h2; rw [h2] at g2; cases g2
    · have hP := hstep.2
      rw [g2] at hP
      exact ⟨rfl, Fr.of_r gF h.n2, _, _, _, _, _, _, _, _, _, hD.rfr gF, gD, hP.flush, Nat.le_trans (Nat.le_trans h.h1 hF.b.size) gF.b.size, Nat.le_trans hb2 gF.b.size, h.n1, h.n2, by rw [stl_len]; exact h.len⟩
theorem restart_two {w : World} {N B1 db sb B2 rb n k : Nat} (h : STx w N B1 db sb B2 rb n k) (hk : k ≤ 80) (K : Int) :
    Calls Try.prog 17 #[.pointer (some ⟨db, 0, none⟩), .int .u64 K] w fun e w' => e = .returned (.tuple #[]) ∧ Fr N w w' ∧
      ∀ w3, Below w'.heap.size w' w3 → Calls Try.prog 18 #[.pointer (some ⟨rb, 0, none⟩), .int .u64 K] w3 fun e2 w2 => e2 = .returned (.tuple #[]) ∧ Fr N w3 w2 ∧ STx w2 N B1 db sb B2 rb n k := by
  obtain ⟨secs, bit, armed, left, down, kept, now, wait, fuse, h⟩ := h
  have hl := h.lens hk
  have hq := h.q
  have hfew := hq.few
  refine (restart_any B1 db sb secs bit armed left down K w h.p h.h1 (fun i hi => by have := hl i hi; omega) (fun i hi => (hq.wr i hi).2) (by omega)).mono ?_
  rintro e w' ⟨rfl, hD, hF⟩
  refine ⟨rfl, Fr.of_d hF h.n1, fun w3 hb3 => ?_⟩
  have hr := (h.r.dfr hF).below hb3
  have hb2 := Nat.le_trans (Nat.le_trans h.h2 hF.b.size) hb3.size
  refine (rdrestart_any B2 rb kept now wait fuse down K w3 hr hb2 (by rw [hq.lenK]; omega) (by have := hq.wl; omega) (fun x hx => by rw [hq.lenK]; exact hq.at_ x hx)).mono ?_
  rintro e2 w2 ⟨rfl, gF, gD⟩
  exact ⟨rfl, Fr.of_r gF h.n2, _, _, _, _, _, _, _, _, _, (hD.below hb3).rfr gF, gD, hq.restart K, Nat.le_trans (Nat.le_trans (Nat.le_trans h.h1 hF.b.size) hb3.size) gF.b.size, Nat.le_trans hb2 gF.b.size, h.n1, h.n2, by rw [stl_len]; exact h.len⟩
theorem read_two {w : World} {N B1 db sb B2 rb n k : Nat} (h : STx w N B1 db sb B2 rb n k) (hk : k ≤ 80) (x : Int) :
    ∃ (S : ByteArray) (E1 : Int), 0 ≤ E1 ∧ (Calls Try.prog 12 #[.pointer (some ⟨db, 0, none⟩), .int .i64 x] w fun e w' => e = .returned (.tuple #[.string S, errV E1]) ∧ Below w.heap.size w w') ∧
      ∀ W, Below w.heap.size w W → Calls Try.prog 13 #[.pointer (some ⟨rb, 0, none⟩), .int .i64 x] W fun e w' => e = .returned (.tuple #[.string S, .int .i64 E1]) ∧ w' = W := by
  obtain ⟨secs, bit, armed, left, down, kept, now, wait, fuse, h⟩ := h
  have hl := h.lens hk
  have hq := h.q
  have hfew := hq.few
  have hr := hq.read x
  refine ⟨readS secs down x, readN secs.length down x, ?_, ?_, fun W hb => ?_⟩
  · unfold readN; split
    · decide
    · split <;> decide
  · exact read_any B1 db sb secs bit armed left down x w h.p (fun i hi => by have := hl i hi; omega) (by omega)
  · rw [hr.1, hr.2]
    exact rdread_any B2 rb kept now wait fuse down x W (h.r.below hb)
theorem arm_two {w : World} {N B1 db sb B2 rb n k : Nat} (h : STx w N B1 db sb B2 rb n k) (x : Int) (hx : x ≤ 9223372036854775807) :
    Calls Try.prog 16 #[.pointer (some ⟨db, 0, none⟩), .int .i64 x] w fun e w' => e = .returned (.tuple #[]) ∧ Fr N w w' ∧ (∃ f, w'.cell? ⟨rb, 3, none⟩ = some (.int .i64 f)) ∧ w'.frozen? ⟨rb, 3, none⟩ = false ∧ Fr N w' (w'.setCell ⟨rb, 3, none⟩ (.int .i64 (max x (-1)))) ∧ STx (w'.setCell ⟨rb, 3, none⟩ (.int .i64 (max x (-1)))) N B1 db sb B2 rb n k := by
  obtain ⟨secs, bit, armed, left, down, kept, now, wait, fuse, h⟩ := h
  refine (arm_any B1 db sb secs bit armed left down x w h.p).mono ?_
  rintro e w' ⟨rfl, hD, hF⟩
  obtain ⟨vk, vn, vw, hv⟩ := (h.r.dfr hF).v
  have g := hv.setF (max x (-1))
  exact ⟨rfl, Fr.of_d hF h.n1, ⟨_, hv.d.cell 3⟩, hv.d.free 3, Fr.of_r g.2 h.n2, _, _, _, _, _, _, _, _, _, hD.rfr g.2, g.1.rd, h.q.armed x hx, Nat.le_trans (Nat.le_trans h.h1 hF.b.size) g.2.b.size, Nat.le_trans (Nat.le_trans h.h2 hF.b.size) g.2.b.size, h.n1, h.n2, h.len⟩
theorem down_two {w : World} {N B1 db sb B2 rb n k : Nat} (h : STx w N B1 db sb B2 rb n k) :
    ∃ q, (∀ W, Below w.heap.size w W → Calls Try.prog 19 #[.pointer (some ⟨db, 0, none⟩)] W fun e w' => e = .returned (.bool q) ∧ w' = W) ∧ ∀ W, Below w.heap.size w W → W.cell? ⟨rb, 4, none⟩ = some (.bool q) := by
  obtain ⟨secs, bit, armed, left, down, kept, now, wait, fuse, h⟩ := h
  obtain ⟨vk, vn, vw, hv⟩ := h.r.v
  exact ⟨down, fun W hb => down_any B1 db sb secs bit armed left down W (h.p.below hb), fun W hb => (hv.d.below hb).cell 4⟩
theorem diskNo_anyQ (s : Int) (w : World) (h : s < 1 ∨ 40 < s) : Calls Try.prog 6 #[.int .i64 s] w fun e w' => e = .returned (.tuple #[.pointer none, errV 1]) ∧ w' = w := by
  rcases h with h | h
  · go_enter Try.func6, Try.ntmps6
    go_wp2
    go_returns
    exact ⟨rfl, rfl⟩
  · have h' : ¬ s < 1 := by omega
    go_enter Try.func6, Try.ntmps6
    go_wp2
    go_returns
    exact ⟨rfl, rfl⟩
theorem rdNo_any (s : Int) (w : World) (h : s < 1 ∨ 40 < s) : Calls Try.prog 7 #[.int .i64 s] w fun e w' => e = .returned (.tuple #[.pointer none, .int .i64 1]) ∧ w' = w := by
  rcases h with h | h
  · go_enter Try.func7, Try.ntmps7
    go_wp2
    go_returns
    exact ⟨rfl, rfl⟩
  · have h' : ¬ s < 1 := by omega
    go_enter Try.func7, Try.ntmps7
    go_wp2
    go_returns
    exact ⟨rfl, rfl⟩
end Dk
end Go.Proofs.Ytmojjjikaaclpaa
