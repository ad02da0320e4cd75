/- Chapter 8: the document's disk: how it lies; noughts, step, Read; contracts for the law of stage 3. -/
import Derived.Test.YtmojjjikaaclpaaDiskP
import Derived.Test.YtmojjjikaaclpaaDiskM
namespace Go.Proofs.Ytmojjjikaaclpaa
open Go.Shelf Go.Lib Go.ChangeShapes Go.WideShapes Go.ChangeAt Go.RowKit
set_option maxRecDepth 100000
set_option linter.unusedSimpArgs false
set_option linter.unusedVariables false

namespace Dk
open Bk
def pushL (l : List Int) (r : ByteArray) : ByteArray := l.foldl (fun r n => r.push (UInt8.ofNat n.toNat)) r
theorem pushL_data : ∀ (l : List Int) (r : ByteArray), (pushL l r).data.toList = r.data.toList ++ l.map fun n => UInt8.ofNat n.toNat
  | [], r => by simp [pushL]
  | a :: l, r => by
    have := pushL_data l (r.push (UInt8.ofNat a.toNat))
    unfold pushL at this ⊢
    rw [List.foldl_cons, this]
    simp [ByteArray.push]
/-- Noughts. -/
def strN (n : Nat) : ByteArray := pushL (List.replicate n 0) ByteArray.empty
theorem strN_data (n : Nat) : (strN n).data.toList = List.replicate n 0 := by
  unfold strN
  rw [pushL_data, List.map_replicate]
  rfl
theorem strN_size (n : Nat) : (strN n).size = n := by
  show (strN n).data.size = n
  rw [← Array.length_toList, strN_data, List.length_replicate]
theorem strOf_data (c : Nat → Int) : (strOf c).data.toList = (List.range 64).map fun i => UInt8.ofNat (c i).toNat := by
  have := pushL_data ((List.range 64).map c) ByteArray.empty
  rw [List.map_map] at this
  exact this
theorem pad_str (S : ByteArray) (h : S.size ≤ 64) : S ++ strN (64 - S.size) = strOf (padF S) := by
  apply ByteArray.ext
  apply Array.ext'
  rw [ByteArray.data_append, Array.toList_append, strN_data, strOf_data]
  have hl : S.data.toList.length = S.size := by simp
  apply List.ext_getElem
  · simp; omega
  · intro i h1 h2
    rw [List.length_map, List.length_range] at h2
    rw [List.getElem_map, List.getElem_range]
    by_cases hi : i < S.size
    · rw [List.getElem_append_left (by omega)]
      unfold padF
      rw [if_pos hi]
      have : S.data[i]! = S.data.toList[i]'(by omega) := by
        rw [getElem!_pos S.data i hi]
        simp
      rw [this]
      simp
    · rw [List.getElem_append_right (by omega)]
      unfold padF
      rw [if_neg hi]
      simp
theorem strZ : strN 64 = strOf (fun _ => 0) := by
  apply ByteArray.ext
  apply Array.ext'
  rw [strN_data, strOf_data]
  rfl
theorem u8Info : ∃ i, Try.prog.info? 5 = some i ∧ i.zero = some (.int .u8 0) ∧ i.size = 1 ∧ i.bytes = 1 := by
  have h : (Try.prog.info? 5).map (fun i => (i.zero, i.size, i.bytes)) = some (some (.int .u8 0), 1, 1) := by kernel_rfl
  cases hi : Try.prog.info? 5 with
  | none => rw [hi] at h; cases h
  | some i =>
    rw [hi] at h
    simp only [Option.map_some, Option.some.injEq, Prod.mk.injEq] at h
    exact ⟨i, rfl, h.1, h.2.1, h.2.2⟩
theorem made_noughts (n : Nat) : madeCells (Value.int .u8 0).cells n = (List.replicate n (Value.int .u8 0)).toArray := by
  apply Array.ext
  · simp [madeCells]
  · intro i h1 h2
    simp [madeCells, Value.cells, Nat.mod_one]
theorem make_noughts (n : Nat) (hn : n ≤ 1000) (W : World) : (Instr.makeSlice 71 (.int .i64 n) (.int .i64 n)).run Try.prog W = .ok (.slice (some ⟨W.heap.size, 0, none⟩) n n) (W.alloc (.cells (List.replicate n (Value.int .u8 0)).toArray 5)) := by
  obtain ⟨i, hi, hz, hs, hb⟩ := u8Info
  have := run_make W 71 5 i _ (by kernel_rfl) hi hz .i64 .i64 n n (by omega) (Int.le_refl _) (by rw [hb]; omega) (by omega)
  rw [hs, Int.toNat_natCast, Nat.mul_one, made_noughts] at this
  exact this
theorem conv_noughts {w : World} {b n : Nat} {T : TypeId} (h : Blk w b (List.replicate n (Value.int .u8 0)).toArray T) : (convert 71 9 (.slice (some ⟨b, 0, none⟩) n n)).run Try.prog w = .ok (.string (strN n)) w := by
  rw [run_convert_bytes_string w 71 9 5 _ _ _ (by kernel_rfl) (by kernel_rfl) (by kernel_rfl)]
  refine run_bytesToString w _ _ _ (List.replicate n 0) ?_
  have := run_loadCells_list (P := Try.prog) w ⟨b, 0, none⟩ (List.replicate n (Value.int .u8 0)) (fun j v hv => by rw [Addr.add_mid]; exact blk_range h j v hv)
  rw [List.length_replicate] at this
  rw [this, List.map_replicate]

set_option maxHeartbeats 1000000 in
theorem noughts_any (n : Nat) (hn : n ≤ 64) (w : World) : Calls Try.prog 20 #[.int .i64 n] w fun e w' => e = .returned (.string (strN n)) ∧ Below w.heap.size w w' := by
  have hmk := make_noughts n (by omega) w
  obtain ⟨w1, hw1⟩ : ∃ w1, w.alloc (.cells (List.replicate n (Value.int .u8 0)).toArray 5) = w1 := ⟨_, rfl⟩
  have X1 : Hid (Below w.heap.size w w1 ∧ Blk w1 w.heap.size (List.replicate n (Value.int .u8 0)).toArray 5) := by
    show _ ∧ _
    rw [← hw1]
    exact ⟨B.new1 _ _, Blk.new _ _ _⟩
  rw [hw1] at hmk
  have hcv := conv_noughts X1.out.2
  clear hw1
  generalize strN n = S at *
  go_enter Try.func20, Try.ntmps20
  go_wp2
  go_returns
  exact ⟨rfl, X1.out.1⟩

/-! ### how it lies -/
def strW (s : ByteArray) : List Value := [.string s]
theorem strW_len (s : ByteArray) : (strW s).length = 1 := rfl
theorem strW_one : ∀ (l : List ByteArray), ∀ u ∈ l.flatMap strW, u.oneCell' = true := fun l u hu => by
  obtain ⟨x, _, h⟩ := List.mem_flatMap.1 hu
  simp only [strW, List.mem_singleton] at h
  subst h
  rfl
structure Wt where
  at_ : Int
  s : ByteArray
instance : Inhabited Wt := ⟨⟨0, ByteArray.empty⟩⟩
def Wt.enc (x : Wt) : List Value := [.int .i64 x.at_, .string x.s]
theorem Wt.enc_len (x : Wt) : (Wt.enc x).length = 2 := rfl
theorem Wt.enc_one : ∀ (l : List Wt), ∀ u ∈ l.flatMap Wt.enc, u.oneCell' = true := fun l u hu => by
  obtain ⟨x, _, h⟩ := List.mem_flatMap.1 hu
  simp only [Wt.enc, List.mem_cons, List.not_mem_nil, or_false] at h
  rcases h with rfl | rfl <;> rfl
/-- The document's disk. -/
structure RD (w : World) (base rb : Nat) (kept now : List ByteArray) (wait : List Wt) (fuse : Int) (down : Bool) : Prop where
  d : ∃ vk vn vw, Blk w rb #[vk, vn, vw, .int .i64 fuse, .bool down] 57 ∧ OwnAt w base 9 1 strW vk kept ∧ OwnAt w base 9 1 strW vn now ∧ OwnAt w base 77 2 Wt.enc vw wait ∧ (∀ g, vk.ownBlock = some g → vn.ownBlock ≠ some g)
  hb : base ≤ rb
theorem RD.below {w w' : World} {base rb : Nat} {kept now : List ByteArray} {wait : List Wt} {fuse : Int} {down : Bool} (h : RD w base rb kept now wait fuse down) (hb : Below w.heap.size w w') : RD w' base rb kept now wait fuse down := by
  obtain ⟨vk, vn, vw, h1, h2, h3, h4, h5⟩ := h.d
  exact ⟨⟨vk, vn, vw, h1.below hb, h2.below hb, h3.below hb, h4.below hb, h5⟩, h.hb⟩
/-- What is left alone by what the document's disk does. -/
structure RFr (base : Nat) (w w' : World) : Prop where
  b : Below base w w'
  far : ∀ q arr T, T ≠ 9 → T ≠ 77 → T ≠ 57 → Blk w q arr T → Blk w' q arr T
theorem RFr.trans {base : Nat} {a b c : World} (h : RFr base a b) (k : RFr base b c) : RFr base a c := ⟨⟨k.b.os.trans h.b.os, k.b.tape.trans h.b.tape, k.b.output.trans h.b.output, Nat.le_trans h.b.size k.b.size, fun q hq => (k.b.block q hq).trans (h.b.block q hq)⟩, fun q arr T h1 h2 h3 hk => k.far q arr T h1 h2 h3 (h.far q arr T h1 h2 h3 hk)⟩
theorem RFr.of_below {base : Nat} {w w' : World} (h : Below w.heap.size w w') (hb : base ≤ w.heap.size) : RFr base w w' := ⟨⟨h.os, h.tape, h.output, h.size, fun k hk => h.block k (by omega)⟩, fun _ _ _ _ _ _ hk => hk.below h⟩
theorem RFr.refl (base : Nat) (w : World) : RFr base w w := ⟨Below.refl _ _, fun _ _ _ _ _ _ h => h⟩
theorem RFr.set {base : Nat} {w : World} {q : Nat} {arr : Array Value} {T : TypeId} (hB : Blk w q arr T) (hT : T = 9 ∨ T = 77 ∨ T = 57) (hb : base ≤ q) (o : Nat) (v : Value) : RFr base w (w.setCell ⟨q, o, none⟩ v) :=
  ⟨(Below.refl base w).setCell (p := ⟨q, o, none⟩) hb _, fun k a U h1 h2 h3 hk => by
    by_cases e : q = k
    · subst e
      have := blk_typeD hk hB
      subst this
      rcases hT with h | h | h
      · exact absurd h h1
      · exact absurd h h2
      · exact absurd h h3
    · exact hk.other e _ _⟩
theorem ownFar {α : Type} [Inhabited α] {w w' : World} {base : Nat} {T : TypeId} {k : Nat} {enc : α → List Value} {v : Value} {l : List α} (h : OwnAt w base T k enc v l) (hf : ∀ q arr, Blk w q arr T → Blk w' q arr T) : OwnAt w' base T k enc v l := by
  rcases h with h | ⟨g, cap, cur, hv, hg, hk, r⟩
  · exact Or.inl h
  · exact Or.inr ⟨g, cap, cur, hv, hg, hf g cur hk, r⟩
theorem DiskAt.rfr {w w' : World} {base base' db sb : Nat} {secs : List Sec} {bit : Int} {armed : Bool} {left : Int} {down : Bool} (h : DiskAt w base db sb secs bit armed left down) (hf : RFr base' w w') : DiskAt w' base db sb secs bit armed left down :=
  ⟨hf.far _ _ _ (by decide) (by decide) (by decide) h.d, hf.far _ _ _ (by decide) (by decide) (by decide) h.s, fun i hi => ownFar (h.own i hi) (fun q arr hk => hf.far q arr _ (by decide) (by decide) (by decide) hk), h.ne, h.hb⟩
theorem RD.dfr {w w' : World} {base base' rb : Nat} {kept now : List ByteArray} {wait : List Wt} {fuse : Int} {down : Bool} (h : RD w base rb kept now wait fuse down) (hf : DFr base' w w') : RD w' base rb kept now wait fuse down := by
  obtain ⟨vk, vn, vw, h1, h2, h3, h4, h5⟩ := h.d
  exact ⟨⟨vk, vn, vw, hf.far _ _ _ (by decide) (by decide) (by decide) h1, ownFar h2 (fun q arr hk => hf.far q arr _ (by decide) (by decide) (by decide) hk), ownFar h3 (fun q arr hk => hf.far q arr _ (by decide) (by decide) (by decide) hk), ownFar h4 (fun q arr hk => hf.far q arr _ (by decide) (by decide) (by decide) hk), h5⟩, h.hb⟩
/-- A cell of its head is another. -/
theorem ownSet2 {α : Type} [Inhabited α] {w : World} {base : Nat} {T T' : TypeId} {k : Nat} {enc : α → List Value} {v : Value} {l : List α} {q : Nat} {arr : Array Value} (h : OwnAt w base T k enc v l) (hB : Blk w q arr T') (hT : T ≠ T') (o : Nat) (u : Value) : OwnAt (w.setCell ⟨q, o, none⟩ u) base T k enc v l :=
  h.grown (grown_set w q o u) (fun g e e' => by injection e' with e'; subst e'; exact own_neD h hB hT e)

/-! ### step -/
def rstepN (fuse : Int) (down : Bool) : Int := if down = true then 9 else if fuse = 0 then 9 else 0
def rfuse (fuse : Int) (down : Bool) : Int := if down = true then fuse else if fuse = 0 then -1 else if 0 < fuse then fuse - 1 else fuse
def rdown (fuse : Int) (down : Bool) : Bool := down || fuse == 0

set_option maxHeartbeats 2000000 in
theorem rdstep_any (base rb : Nat) (kept now : List ByteArray) (wait : List Wt) (fuse : Int) (down : Bool) (w : World) (h : RD w base rb kept now wait fuse down) (hf : fuse ≤ 9223372036854775807) :
    Calls Try.prog 24 #[.pointer (some ⟨rb, 0, none⟩)] w fun e w' => e = .returned (.int .i64 (rstepN fuse down)) ∧ RD w' base rb kept now wait (rfuse fuse down) (rdown fuse down) ∧ RFr base w w' := by
  have hbb := h.hb
  obtain ⟨vk, vn, vw, h1, h2, h3, h4, h5⟩ := h.d
  have rd := h1.cell
  have fd := h1.free
  clear h
  cases down
  case true =>
    have HF : Hid (RD w base rb kept now wait fuse true) := ⟨⟨vk, vn, vw, h1, h2, h3, h4, h5⟩, hbb⟩
    clear h1 h2 h3 h4 h5 fd
    go_enter Try.func24, Try.ntmps24
    go_wp2
    go_returns
    exact ⟨rfl, HF.out, RFr.refl _ _⟩
  by_cases h0 : fuse = 0
  · subst h0
    have HF : Hid (RD ((w.setCell ⟨rb, 4, none⟩ (.bool true)).setCell ⟨rb, 3, none⟩ (.int .i64 (-1))) base rb kept now wait (-1) true ∧ RFr base w ((w.setCell ⟨rb, 4, none⟩ (.bool true)).setCell ⟨rb, 3, none⟩ (.int .i64 (-1)))) := by
      have k1 := h1.set 4 (.bool true)
      have k2 := k1.set 3 (.int .i64 (-1))
      refine ⟨⟨⟨vk, vn, vw, k2, ownSet2 (ownSet2 h2 h1 (by decide) _ _) k1 (by decide) _ _, ownSet2 (ownSet2 h3 h1 (by decide) _ _) k1 (by decide) _ _, ownSet2 (ownSet2 h4 h1 (by decide) _ _) k1 (by decide) _ _, h5⟩, hbb⟩, (RFr.set h1 (Or.inr (Or.inr rfl)) hbb _ _).trans (RFr.set k1 (Or.inr (Or.inr rfl)) hbb _ _)⟩
    clear h1 h2 h3 h4 h5
    go_enter Try.func24, Try.ntmps24
    go_wp2
    go_returns
    exact ⟨rfl, HF.out.1, HF.out.2⟩
  have e0 : (fuse == 0) = false := beq_eq_false_iff_ne.2 h0
  by_cases hp : 0 < fuse
  · have e1 : IntKind.i64.wrap (fuse - 1) = fuse - 1 := by rw [IntKind.wrap_i64]; omega
    have HF : Hid (rstepN fuse false = 0 ∧ rfuse fuse false = fuse - 1 ∧ rdown fuse false = false ∧ RD (w.setCell ⟨rb, 3, none⟩ (.int .i64 (fuse - 1))) base rb kept now wait (fuse - 1) false ∧ RFr base w (w.setCell ⟨rb, 3, none⟩ (.int .i64 (fuse - 1)))) := by
      have k1 := h1.set 3 (.int .i64 (fuse - 1))
      refine ⟨by simp [rstepN, h0], by simp [rfuse, h0, hp], by simp [rdown, h0], ⟨⟨vk, vn, vw, k1, ownSet2 h2 h1 (by decide) _ _, ownSet2 h3 h1 (by decide) _ _, ownSet2 h4 h1 (by decide) _ _, h5⟩, hbb⟩, RFr.set h1 (Or.inr (Or.inr rfl)) hbb _ _⟩
    clear h1 h2 h3 h4 h5
    go_enter Try.func24, Try.ntmps24
    go_wp2
    go_returns
    obtain ⟨q1, q2, q3, q4, q5⟩ := HF.out
    rw [q1, q2, q3]
    exact ⟨rfl, q4, q5⟩
  · have HF : Hid (rstepN fuse false = 0 ∧ rfuse fuse false = fuse ∧ rdown fuse false = false ∧ RD w base rb kept now wait fuse false) := ⟨by simp [rstepN, h0], by simp [rfuse, h0, hp], by simp [rdown, h0], ⟨⟨vk, vn, vw, h1, h2, h3, h4, h5⟩, hbb⟩⟩
    clear h1 h2 h3 h4 h5 fd
    go_enter Try.func24, Try.ntmps24
    go_wp2
    go_returns
    obtain ⟨q1, q2, q3, q4⟩ := HF.out
    rw [q1, q2, q3]
    exact ⟨rfl, q4, RFr.refl _ _⟩

/-! ### Read -/
def rreadN (n : Nat) (down : Bool) (x : Int) : Int := if down = true then 9 else if hasN n x = true then 0 else 1
def rreadS (now : List ByteArray) (down : Bool) (x : Int) : ByteArray := if down = true then ⟨#[]⟩ else if hasN now.length x = true then now[x.toNat]! else ⟨#[]⟩

set_option maxHeartbeats 2000000 in
theorem rdread_any (base rb : Nat) (kept now : List ByteArray) (wait : List Wt) (fuse : Int) (down : Bool) (x : Int) (w : World) (h : RD w base rb kept now wait fuse down) :
    Calls Try.prog 13 #[.pointer (some ⟨rb, 0, none⟩), .int .i64 x] w fun e w' => e = .returned (.tuple #[.string (rreadS now down x), .int .i64 (rreadN now.length down x)]) ∧ w' = w := by
  obtain ⟨vk, vn, vw, h1, h2, h3, h4, h5⟩ := h.d
  obtain ⟨a, cap, rfl, hr⟩ := h3.rows
  have rd := h1.cell
  clear h h2 h3 h4 h5
  cases down
  case true =>
    clear hr h1
    go_enter Try.func13, Try.ntmps13
    go_wp2
    go_returns
    exact ⟨rfl, rfl⟩
  by_cases hx0 : x < 0
  · have e : hasN now.length x = false := by simp [hasN]; omega
    clear hr h1
    go_enter Try.func13, Try.ntmps13
    go_wp2
    go_returns
    exact ⟨by simp [rreadS, rreadN, e], rfl⟩
  by_cases hx1 : (now.length : Int) ≤ x
  · have e : hasN now.length x = false := by simp [hasN]; omega
    clear hr h1
    go_enter Try.func13, Try.ntmps13
    go_wp2
    go_returns
    exact ⟨by simp [rreadS, rreadN, e], rfl⟩
  obtain ⟨i, rfl⟩ : ∃ i : Nat, x = (i : Int) := ⟨x.toNat, by omega⟩
  have hi : i < now.length := by omega
  have hiz : (i : Int) < (now.length : Int) := by omega
  have e : hasN now.length (i : Int) = true := by simp [hasN]; omega
  obtain ⟨b, off, rfl, _, hcc⟩ := hr.2.2 (by omega)
  have c := hcc i hi 0 _ rfl
  simp only [Nat.mul_one, Nat.add_zero] at c
  have HS : Hid (rreadS now false (i : Int) = now[i]! ∧ rreadN now.length false (i : Int) = 0) := ⟨by simp [rreadS, e], by simp [rreadN, e]⟩
  generalize rreadS now false (i : Int) = q1 at *
  generalize rreadN now.length false (i : Int) = q2 at *
  generalize now[i]! = s at *
  clear hr h1 e
  go_enter Try.func13, Try.ntmps13
  go_wp2
  go_returns
  exact ⟨by rw [HS.out.1, HS.out.2]; rfl, rfl⟩

end Dk
end Go.Proofs.Ytmojjjikaaclpaa
