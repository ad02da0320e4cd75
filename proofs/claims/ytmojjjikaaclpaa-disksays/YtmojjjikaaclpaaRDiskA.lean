/- Chapter 8: the document's disk: what is appended; NewDisk; contracts for the law of stage 3. -/
import Derived.Test.YtmojjjikaaclpaaRDisk
import Derived.Deep.RegionLawGrows
import Derived.Deep.DeepCutAuto
namespace Go.Proofs.Ytmojjjikaaclpaa
open Go.Shelf Go.Lib Go.ChangeShapes Go.WideShapes Go.ChangeAt Go.RowKit
set_option maxRecDepth 100000
set_option linter.unusedSimpArgs false
set_option linter.unusedVariables false

namespace Dk
open Bk
theorem strI : ∃ i, Try.prog.info? 9 = some i ∧ i.zero = some (.string ByteArray.empty) ∧ i.size = 1 ∧ i.bytes = 16 := by
  have h : (Try.prog.info? 9).map (fun i => (i.zero, i.size, i.bytes)) = some (some (.string ByteArray.empty), 1, 16) := by kernel_rfl
  cases hi : Try.prog.info? 9 with
  | none => rw [hi] at h; cases h
  | some i =>
    rw [hi] at h
    simp only [Option.map_some, Option.some.injEq, Prod.mk.injEq] at h
    exact ⟨i, rfl, h.1, h.2.1, h.2.2⟩
theorem trnI : ∃ i, Try.prog.info? 77 = some i ∧ i.zero = some (.agg #[.int .i64 0, .string ByteArray.empty]) ∧ i.size = 2 ∧ i.bytes = 24 := by
  have h : (Try.prog.info? 77).map (fun i => (i.zero, i.size, i.bytes)) = some (some (.agg #[.int .i64 0, .string ByteArray.empty]), 2, 24) := by kernel_rfl
  cases hi : Try.prog.info? 77 with
  | none => rw [hi] at h; cases h
  | some i =>
    rw [hi] at h
    simp only [Option.map_some, Option.some.injEq, Prod.mk.injEq] at h
    exact ⟨i, rfl, h.1, h.2.1, h.2.2⟩
/-- One more at the end of an own list. -/
theorem run_moreG {α : Type} [Inhabited α] {k bytes : Nat} {enc : α → List Value} {Ts e : TypeId} {i : TypeInfo} {z : Value} (ty : TypeId) (ht : Try.prog.underlying Ts = some (.slice e)) (hi : Try.prog.info? e = some i) (hz : i.zero = some z) (hs : i.size = k) (hby : i.bytes = bytes) (hzs : z.cells.size = k) (hk0 : 0 < k) (hb : bytes ≤ 1000)
    (hk : ∀ x, (enc x).length = k) (hone : ∀ x, ∀ u ∈ enc x, u.oneCell' = true) (v : Value) (l : List α) (base B : Nat) (x : α) (w : World) (h : OwnAt w base e k enc v l) (hl : l.length ≤ 1000) (hB : Blk w B (enc x).toArray e) (hbase : base ≤ w.heap.size) :
    ∃ g cap w', AppD Try.prog Ts ty v (.slice (some ⟨B, 0, none⟩) 1 1) w (.slice (some ⟨g, 0, none⟩) (l.length + 1) cap) w' ∧ OwnAt w' base e k enc (.slice (some ⟨g, 0, none⟩) (l.length + 1) cap) (l ++ [x]) ∧ w.grownBy w' v.ownBlock ∧ (v.ownBlock = some g ∨ g = w.heap.size) := by
  have hle : (l.length + 1) * bytes ≤ 140737488355328 := by
    have : (l.length + 1) * bytes ≤ 1001 * 1000 := Nat.mul_le_mul (by omega) hb
    omega
  obtain ⟨g, cap, w', hrun, ho, hg, hn, _⟩ := run_append_lies (P := Try.prog) w Ts ty base e i z k bytes ht hi hz hs hby hzs hk0 v l.length (l.flatMap enc) (h.to_owns hk) ⟨B, 0, none⟩ 1 1 (enc x) (by rw [hk]; omega) (fun j u hj => World.news_of_block (show w.heap[B]? = _ from hB) j u (by simpa using hj)) (hone x) (by decide) (by unfold maxLen; omega) hle hbase _ rfl
  refine ⟨g, cap, w', ⟨hrun⟩, ?_, hg, hn⟩
  refine OwnAt.of_owns hk ?_
  rw [List.length_append, List.flatMap_append]
  simpa using ho
/-- The document's disk, with its slices. -/
structure RDV (w : World) (base rb : Nat) (vk vn vw : Value) (kept now : List ByteArray) (wait : List Wt) (fuse : Int) (down : Bool) : Prop where
  d : Blk w rb #[vk, vn, vw, .int .i64 fuse, .bool down] 57
  k : OwnAt w base 9 1 strW vk kept
  n : OwnAt w base 9 1 strW vn now
  t : OwnAt w base 77 2 Wt.enc vw wait
  ne : ∀ g, vk.ownBlock = some g → vn.ownBlock ≠ some g
  hb : base ≤ rb
theorem RDV.rd {w : World} {base rb : Nat} {vk vn vw : Value} {kept now : List ByteArray} {wait : List Wt} {fuse : Int} {down : Bool} (h : RDV w base rb vk vn vw kept now wait fuse down) : RD w base rb kept now wait fuse down := ⟨⟨vk, vn, vw, h.d, h.k, h.n, h.t, h.ne⟩, h.hb⟩
theorem RD.v {w : World} {base rb : Nat} {kept now : List ByteArray} {wait : List Wt} {fuse : Int} {down : Bool} (h : RD w base rb kept now wait fuse down) : ∃ vk vn vw, RDV w base rb vk vn vw kept now wait fuse down := by
  obtain ⟨vk, vn, vw, h1, h2, h3, h4, h5⟩ := h.d
  exact ⟨vk, vn, vw, h1, h2, h3, h4, h5, h.hb⟩
theorem RDV.below {w w' : World} {base rb : Nat} {vk vn vw : Value} {kept now : List ByteArray} {wait : List Wt} {fuse : Int} {down : Bool} (h : RDV w base rb vk vn vw kept now wait fuse down) (hb : Below w.heap.size w w') : RDV w' base rb vk vn vw kept now wait fuse down :=
  ⟨h.d.below hb, h.k.below hb, h.n.below hb, h.t.below hb, h.ne, h.hb⟩
theorem ownLt {α : Type} [Inhabited α] {w : World} {base : Nat} {T : TypeId} {k : Nat} {enc : α → List Value} {v : Value} {l : List α} (h : OwnAt w base T k enc v l) (g : Nat) (e : v.ownBlock = some g) : base ≤ g ∧ g < w.heap.size ∧ ∃ cur, Blk w g cur T := by
  rcases h with ⟨rfl, _⟩ | ⟨g', cap, cur, rfl, hg, hk, _⟩
  · simp [Value.ownBlock] at e
  · simp [Value.ownBlock] at e
    subst e
    exact ⟨hg, hk.lt, cur, hk⟩
/-- What an append does to all that is of other types. -/
theorem RFr.of_grown {α : Type} [Inhabited α] {w w' : World} {base : Nat} {T : TypeId} {k : Nat} {enc : α → List Value} {v : Value} {l : List α} (h : OwnAt w base T k enc v l) (hg : w.grownBy w' v.ownBlock) (hT : T = 9 ∨ T = 77) (hb : base ≤ w.heap.size) : RFr base w w' :=
  ⟨⟨hg.os, hg.tape, hg.output, hg.size, fun q hq => hg.block q (by omega) (fun e => by have := (ownLt h q e.symm).1; omega)⟩, fun q arr U h1 h2 h3 hk => (hg.block q hk.lt (fun e => by
    obtain ⟨_, _, cur, hc⟩ := ownLt h q e.symm
    have := blk_typeD hk hc
    subst this
    rcases hT with h | h
    · exact h1 h
    · exact h2 h)).trans hk⟩
def AppK (prog : Program) (base rb f : Nat) (v : Value) (Ts T : TypeId) (X : Array Value) (n : Nat) (wr wp : World) (R : World → Value → Prop) : Prop :=
  ∃ WA g c w9, wp.alloc (.cells X T) = WA ∧ Hid (AppD prog Ts Ts v (.slice (some ⟨wp.heap.size, 0, none⟩) 1 1) WA (.slice (some ⟨g, 0, none⟩) (n + 1) c) w9) ∧ wp.cell? ⟨rb, f, none⟩ = some v ∧ WA.cell? ⟨rb, f, none⟩ = some v ∧ w9.cell? ⟨rb, f, none⟩ = some v ∧ w9.frozen? ⟨rb, f, none⟩ = false ∧ Hid (R (w9.setCell ⟨rb, f, none⟩ (.slice (some ⟨g, 0, none⟩) (n + 1) c)) (.slice (some ⟨g, 0, none⟩) (n + 1) c) ∧ RFr base wr (w9.setCell ⟨rb, f, none⟩ (.slice (some ⟨g, 0, none⟩) (n + 1) c)))
theorem RDV.appK {wr : World} {base rb : Nat} {vk vn vw : Value} {kept now : List ByteArray} {wait : List Wt} {fuse : Int} {down : Bool} (h : RDV wr base rb vk vn vw kept now wait fuse down) (hbw : base ≤ wr.heap.size) (hl : kept.length ≤ 1000) (x : ByteArray) : ∀ wp, Below wr.heap.size wr wp →
    AppK Try.prog base rb 0 vk 54 9 #[.string x] kept.length wr wp (fun W v => RDV W base rb v vn vw (kept ++ [x]) now wait fuse down) := by
  intro wp hp
  have ha : Below wr.heap.size wr (wp.alloc (.cells #[.string x] 9)) := hp.alloc hp.size _
  have h2 := h.below ha
  obtain ⟨i, hi, hz, hs, hb⟩ := strI
  obtain ⟨g, c, w9, h9, o9, g9, n9⟩ := run_moreG (Ts := 54) (enc := strW) 54 (by kernel_rfl) hi hz hs hb rfl (by decide) (by decide) strW_len (fun x u hu => by simp only [strW, List.mem_singleton] at hu; subst hu; rfl) vk kept base wp.heap.size x _ h2.k hl (Blk.new _ _ _) (Nat.le_trans hbw ha.size)
  have nr : some rb ≠ vk.ownBlock := fun e => own_neD h2.k h2.d (by decide) e.symm
  have b9 : Blk w9 rb #[vk, vn, vw, .int .i64 fuse, .bool down] 57 := (g9.block _ h2.d.lt nr).trans h2.d
  have hgx : ∀ q, vn.ownBlock = some q → some q ≠ vk.ownBlock := fun q e e' => h.ne q e'.symm e
  refine ⟨_, g, c, w9, rfl, h9, (h.d.below hp).cell 0, h2.d.cell 0, b9.cell 0, b9.free 0, ⟨b9.set 0 _, ?_, ?_, ?_, ?_, h.hb⟩, ?_⟩
  · exact ownSet2 o9 b9 (by decide) _ _
  · exact ownSet2 (h2.n.grown g9 (fun q e => fun e' => hgx q e e'.symm)) b9 (by decide) _ _
  · exact ownSet2 (h2.t.grown g9 (fun q e e' => by
      obtain ⟨_, _, cur, hc⟩ := ownLt h2.t q e
      exact own_neD h2.k hc (by decide) e')) b9 (by decide) _ _
  · intro q e
    simp [Value.ownBlock] at e
    subst e
    intro e2
    rcases n9 with h1 | h1
    · exact h.ne g h1 e2
    · have := (ownLt h2.n g e2).2.1
      omega
  · exact ((RFr.of_below ha hbw).trans (RFr.of_grown h2.k g9 (Or.inl rfl) (Nat.le_trans hbw ha.size))).trans (RFr.set b9 (Or.inr (Or.inr rfl)) h.hb _ _)
theorem RDV.appN {wr : World} {base rb : Nat} {vk vn vw : Value} {kept now : List ByteArray} {wait : List Wt} {fuse : Int} {down : Bool} (h : RDV wr base rb vk vn vw kept now wait fuse down) (hbw : base ≤ wr.heap.size) (hl : now.length ≤ 1000) (x : ByteArray) : ∀ wp, Below wr.heap.size wr wp →
    AppK Try.prog base rb 1 vn 54 9 #[.string x] now.length wr wp (fun W v => RDV W base rb vk v vw kept (now ++ [x]) wait fuse down) := by
  intro wp hp
  have ha : Below wr.heap.size wr (wp.alloc (.cells #[.string x] 9)) := hp.alloc hp.size _
  have h2 := h.below ha
  obtain ⟨i, hi, hz, hs, hb⟩ := strI
  obtain ⟨g, c, w9, h9, o9, g9, n9⟩ := run_moreG (Ts := 54) (enc := strW) 54 (by kernel_rfl) hi hz hs hb rfl (by decide) (by decide) strW_len (fun x u hu => by simp only [strW, List.mem_singleton] at hu; subst hu; rfl) vn now base wp.heap.size x _ h2.n hl (Blk.new _ _ _) (Nat.le_trans hbw ha.size)
  have nr : some rb ≠ vn.ownBlock := fun e => own_neD h2.n h2.d (by decide) e.symm
  have b9 : Blk w9 rb #[vk, vn, vw, .int .i64 fuse, .bool down] 57 := (g9.block _ h2.d.lt nr).trans h2.d
  refine ⟨_, g, c, w9, rfl, h9, (h.d.below hp).cell 1, h2.d.cell 1, b9.cell 1, b9.free 1, ⟨b9.set 1 _, ?_, ?_, ?_, ?_, h.hb⟩, ?_⟩
  · exact ownSet2 (h2.k.grown g9 (fun q e => fun e' => h.ne q e e')) b9 (by decide) _ _
  · exact ownSet2 o9 b9 (by decide) _ _
  · exact ownSet2 (h2.t.grown g9 (fun q e e' => by
      obtain ⟨_, _, cur, hc⟩ := ownLt h2.t q e
      exact own_neD h2.n hc (by decide) e')) b9 (by decide) _ _
  · intro q e e2
    simp [Value.ownBlock] at e2
    subst e2
    rcases n9 with h1 | h1
    · exact h.ne _ e h1
    · have := (ownLt h2.k _ e).2.1
      omega
  · exact ((RFr.of_below ha hbw).trans (RFr.of_grown h2.n g9 (Or.inl rfl) (Nat.le_trans hbw ha.size))).trans (RFr.set b9 (Or.inr (Or.inr rfl)) h.hb _ _)
theorem RDV.appW {wr : World} {base rb : Nat} {vk vn vw : Value} {kept now : List ByteArray} {wait : List Wt} {fuse : Int} {down : Bool} (h : RDV wr base rb vk vn vw kept now wait fuse down) (hbw : base ≤ wr.heap.size) (hl : wait.length ≤ 1000) (a : Int) (x : ByteArray) : ∀ wp, Below wr.heap.size wr wp →
    AppK Try.prog base rb 2 vw 55 77 #[.int .i64 a, .string x] wait.length wr wp (fun W v => RDV W base rb vk vn v kept now (wait ++ [⟨a, x⟩]) fuse down) := by
  intro wp hp
  have ha : Below wr.heap.size wr (wp.alloc (.cells #[.int .i64 a, .string x] 77)) := hp.alloc hp.size _
  have h2 := h.below ha
  obtain ⟨i, hi, hz, hs, hb⟩ := trnI
  obtain ⟨g, c, w9, h9, o9, g9, n9⟩ := run_moreG (Ts := 55) (enc := Wt.enc) 55 (by kernel_rfl) hi hz hs hb rfl (by decide) (by decide) Wt.enc_len (fun x u hu => by simp only [Wt.enc, List.mem_cons, List.not_mem_nil, or_false] at hu; rcases hu with rfl | rfl <;> rfl) vw wait base wp.heap.size ⟨a, x⟩ _ h2.t hl (Blk.new _ _ _) (Nat.le_trans hbw ha.size)
  have nr : some rb ≠ vw.ownBlock := fun e => own_neD h2.t h2.d (by decide) e.symm
  have b9 : Blk w9 rb #[vk, vn, vw, .int .i64 fuse, .bool down] 57 := (g9.block _ h2.d.lt nr).trans h2.d
  have nk : ∀ (v : Value) (l : List ByteArray), OwnAt (wp.alloc (.cells #[.int .i64 a, .string x] 77)) base 9 1 strW v l → ∀ q, v.ownBlock = some q → vw.ownBlock ≠ some q := fun v l ho q e e' => by
    obtain ⟨_, _, cur, hc⟩ := ownLt ho q e
    exact own_neD h2.t hc (by decide) e'
  refine ⟨_, g, c, w9, rfl, h9, (h.d.below hp).cell 2, h2.d.cell 2, b9.cell 2, b9.free 2, ⟨b9.set 2 _, ?_, ?_, ?_, h.ne, h.hb⟩, ?_⟩
  · exact ownSet2 (h2.k.grown g9 (nk _ _ h2.k)) b9 (by decide) _ _
  · exact ownSet2 (h2.n.grown g9 (nk _ _ h2.n)) b9 (by decide) _ _
  · exact ownSet2 o9 b9 (by decide) _ _
  · exact ((RFr.of_below ha hbw).trans (RFr.of_grown h2.t g9 (Or.inr rfl) (Nat.le_trans hbw ha.size))).trans (RFr.set b9 (Or.inr (Or.inr rfl)) h.hb _ _)

set_option maxHeartbeats 4000000 in
theorem rdnew_any (n : Nat) (h1 : 1 ≤ n) (h40 : n ≤ 40) (w : World) :
    Calls Try.prog 7 #[.int .i64 n] w fun e w' => e = .returned (.tuple #[.pointer (some ⟨w.heap.size, 0, none⟩), .int .i64 0]) ∧ RD w' w.heap.size w.heap.size (List.replicate n (strN 64)) (List.replicate n (strN 64)) [] (-1) false ∧ Below w.heap.size w w' := by
  have HP : Hid (∀ w', RD w' w.heap.size w.heap.size (List.replicate n (strN 64)) (List.replicate n (strN 64)) [] (-1) false → Below w.heap.size w w' → (fun (e : Ending) (w' : World) => e = .returned (.tuple #[.pointer (some ⟨w.heap.size, 0, none⟩), .int .i64 0]) ∧ RD w' w.heap.size w.heap.size (List.replicate n (strN 64)) (List.replicate n (strN 64)) [] (-1) false ∧ Below w.heap.size w w') (.returned (.tuple #[.pointer (some ⟨w.heap.size, 0, none⟩), .int .i64 0])) w') := fun w' a b => ⟨rfl, a, b⟩
  generalize (fun (e : Ending) (w' : World) => e = .returned (.tuple #[.pointer (some ⟨w.heap.size, 0, none⟩), .int .i64 0]) ∧ RD w' w.heap.size w.heap.size (List.replicate n (strN 64)) (List.replicate n (strN 64)) [] (-1) false ∧ Below w.heap.size w w') = PP at *
  obtain ⟨w0, hw0⟩ : ∃ w0, w.alloc (.cells #[.slice none 0 0, .slice none 0 0, .slice none 0 0, .int .i64 (-1), .bool false] 57) = w0 := ⟨_, rfl⟩
  have N0 : Hid (RD w0 w.heap.size w.heap.size [] [] [] (-1) false ∧ Below w.heap.size w w0) := by
    show _ ∧ _
    rw [← hw0]
    exact ⟨⟨⟨_, _, _, Blk.new _ _ _, Or.inl ⟨rfl, rfl⟩, Or.inl ⟨rfl, rfl⟩, Or.inl ⟨rfl, rfl⟩, fun g e => by simp [Value.ownBlock] at e⟩, Nat.le_refl _⟩, B.new1 _ _⟩
  have hz1 : ¬ (n : Int) < 1 := by omega
  have hz2 : ¬ (40 : Int) < (n : Int) := by omega
  have HNG : Hid (∀ W, Calls Try.prog 20 #[.int .i64 64] W fun e w' => e = .returned (.string (strN 64)) ∧ Below W.heap.size W w') := fun W => noughts_any 64 (by decide) W
  generalize strN 64 = Z at *
  go_enter Try.func7, Try.ntmps7
  go_wp2_with fail
  clear hw0
  generalize hB : w.heap.size = base at *
  go_loopg [5] n (fun gg s5 wr => ∃ k : Nat, k ≤ n ∧ n - k ≤ gg ∧ s5 = .int .i64 k ∧ Hid (RD wr base base (List.replicate k Z) (List.replicate k Z) [] (-1) false ∧ Below base w wr))
  case atStart => exact ⟨0, Nat.zero_le _, by omega, rfl, N0⟩
  case round =>
    clear N0
    obtain ⟨k, hk, hg, rfl, M⟩ := hrel
    by_cases hlt : k < n
    · have hltz : (k : Int) < (n : Int) := by omega
      obtain ⟨vk, vn, vw, hv⟩ := M.out.1.v
      obtain ⟨ak, ck, rfl, _⟩ := hv.k.rows
      have hbw : base ≤ wr.heap.size := by rw [← hB]; exact M.out.2.size
      have hlk : (List.replicate k Z).length = k := List.length_replicate
      have HK : Hid (∀ wp, Below wr.drew.heap.size wr.drew wp → AppK Try.prog base base 0 (.slice ak (List.replicate k Z).length ck) 54 9 #[.string Z] (List.replicate k Z).length wr.drew wp (fun W v => RDV W base base v vn vw (List.replicate k Z ++ [Z]) (List.replicate k Z) [] (-1) false)) := (hv.below (Below.refl _ wr).drew).appK hbw (by rw [hlk]; omega) Z
      have HRP : Hid (List.replicate k Z ++ [Z] = List.replicate (k + 1) Z) := by show _ = _; rw [List.replicate_succ']
      have ra1 : wr.cell? ⟨base, 0, none⟩ = some (.slice ak (List.replicate k Z).length ck) := hv.d.cell 0
      have hkk : (List.replicate k Z).length ≤ 1000 := by rw [hlk]; omega
      have HM2 : Hid (Below base w wr) := M.out.2
      clear hv M hlk
      generalize List.replicate k Z = L at *
      go_wp2_with fail
      go_region_law (first
        | (go_simp; go_at_call 20; refine (HNG.out _).mono ?_; rintro e wp ⟨rfl, hbp⟩; obtain ⟨WA, g1, c1, w9, hWA, HRA, ra2, ra3, ra9, fa9, X⟩ := HK.out wp hbp; clear hbp)
        | (refine step_of_appD (by rfl) _ _ _ (by rfl) _ _ (by rfl) (by rfl) _ _ HRA.out ?_))
      all_goals
        have Y : Hid (RDV (w9.setCell ⟨base, 0, none⟩ (.slice (some ⟨g1, 0, none⟩) (L.length + 1) c1)) base base (.slice (some ⟨g1, 0, none⟩) (L.length + 1) c1) vn vw (L ++ [Z]) L [] (-1) false ∧ RFr base wr (w9.setCell ⟨base, 0, none⟩ (.slice (some ⟨g1, 0, none⟩) (L.length + 1) c1))) := ⟨X.out.1, (RFr.of_below (Below.refl _ wr).drew hbw).trans X.out.2⟩
        clear X ra2 ra3 ra9 fa9 HRA hWA HK ra1
        generalize w9.setCell ⟨base, 0, none⟩ (.slice (some ⟨g1, 0, none⟩) (L.length + 1) c1) = wq at *
        generalize (Value.slice (some ⟨g1, 0, none⟩) (L.length + 1) c1) = vk' at *
        obtain ⟨an, cn, hvn, _⟩ := Y.out.1.n.rows
        subst hvn
        have hbq : base ≤ wq.heap.size := Nat.le_trans hbw Y.out.2.b.size
        have HN : Hid (∀ wp, Below wq.drew.heap.size wq.drew wp → AppK Try.prog base base 1 (.slice an L.length cn) 54 9 #[.string Z] L.length wq.drew wp (fun W v => RDV W base base vk' v vw (L ++ [Z]) (L ++ [Z]) [] (-1) false)) := (Y.out.1.below (Below.refl _ wq).drew).appN hbq hkk Z
        have rb1 : wq.cell? ⟨base, 1, none⟩ = some (.slice an L.length cn) := Y.out.1.d.cell 1
        go_wp2_with fail
        go_region_law (first
          | (go_simp; go_at_call 20; refine (HNG.out _).mono ?_; rintro e wp' ⟨rfl, hbp⟩; obtain ⟨WA', g2, c2, w8, hWA, HRA, ra2, ra3, ra9, fa9, X⟩ := HN.out wp' hbp; clear hbp)
          | (refine step_of_appD (by rfl) _ _ _ (by rfl) _ _ (by rfl) (by rfl) _ _ HRA.out ?_))
        all_goals
          have Y2 : Hid (RD (w8.setCell ⟨base, 1, none⟩ (.slice (some ⟨g2, 0, none⟩) (L.length + 1) c2)) base base (List.replicate (k + 1) Z) (List.replicate (k + 1) Z) [] (-1) false ∧ Below base w (w8.setCell ⟨base, 1, none⟩ (.slice (some ⟨g2, 0, none⟩) (L.length + 1) c2))) := by
            have h1 := X.out.1.rd
            rw [HRP.out] at h1
            have f1 := Y.out.2.trans ((RFr.of_below (Below.refl _ wq).drew hbq).trans X.out.2)
            have h2 : Below base w wr := by have := HM2.out; exact this
            exact ⟨h1, ⟨f1.b.os.trans h2.os, f1.b.tape.trans h2.tape, f1.b.output.trans h2.output, Nat.le_trans h2.size f1.b.size, fun q hq => (f1.b.block q hq).trans (h2.block q hq)⟩⟩
          clear X ra2 ra3 ra9 fa9 HRA hWA HN rb1 Y
          go_wp2
          go_roundg (n - (k + 1))
          case measure => omega
          case rel => exact ⟨k + 1, by omega, by omega, by go_num, Y2⟩
    · have hltz : ¬ (k : Int) < (n : Int) := by omega
      have hke : k = n := by omega
      subst hke
      have HF := HP.out wr M.out.1 M.out.2
      clear M HP
      go_wp2
      exact HF

end Dk
end Go.Proofs.Ytmojjjikaaclpaa
