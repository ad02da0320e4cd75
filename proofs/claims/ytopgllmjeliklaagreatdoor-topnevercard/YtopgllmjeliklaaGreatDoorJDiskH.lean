/- Chapter 6: the disk: what was written is kept, or lost (one sector); contract for the laws of stage 3. -/
import Derived.Test.YtopgllmjeliklaaGreatDoorJDiskE
import Derived.Deep.LoopGhost
namespace Go.Proofs.YtopgllmjeliklaaGreatDoor
open Go.Shelf Go.Lib Go.ChangeShapes Go.WideShapes Go.ChangeAt Go.RowKit
set_option maxRecDepth 100000
set_option linter.unusedSimpArgs false
set_option linter.unusedVariables false

namespace Dk
open Bk
theorem own_rows {w w' : World} {base sb : Nat} {C : Array Value} {a : Option Addr} {cap : Nat} {l : List Wr} (h : OwnAt w base 194 65 Wr.enc (.slice a l.length cap) l) (hB : Blk w sb C 157) (hg : w.grownBy w' (some sb)) : RowsAt w' a cap 65 Wr.enc l := by
  have h2 : OwnAt w' base 194 65 Wr.enc (.slice a l.length cap) l := h.grown hg (fun g e e' => by
    injection e' with e'
    subst e'
    exact own_neD h hB (by decide) e)
  obtain ⟨a', cap', e, r⟩ := h2.rows
  cases e
  exact r

/-- Is the write of that bit kept? -/
def keepB (K n : Int) : Bool := bits BinOp.and IntKind.u64 (K / 2 ^ n.toNat) 1 == 1
/-- What settling leaves of a sector. -/
def settleC (K : Int) (c : Nat → Int) (l : List Wr) : Nat → Int := l.foldl (fun c y => if keepB K y.bit = true then y.dat else c) c
theorem settleC_succ (K : Int) (c : Nat → Int) (l : List Wr) (k : Nat) (hk : k < l.length) : settleC K c (l.take (k + 1)) = if keepB K l[k]!.bit = true then l[k]!.dat else settleC K c (l.take k) := by
  unfold settleC
  rw [List.take_succ_eq_append_getElem hk, List.foldl_append, getElem!_pos l k hk]
  rfl
theorem settleC_more (K : Int) (c : Nat → Int) (l : List Wr) (y : Wr) : settleC K c (l ++ [y]) = if keepB K y.bit = true then y.dat else settleC K c l := by
  unfold settleC
  rw [List.foldl_append]
  rfl
theorem setRow_same (C : Array Value) (o : Nat) (l : List Value) (hs : o + l.length ≤ C.size) (h : ∀ j v, l[j]? = some v → C[o + j]? = some v) : setRow C o l = C := by
  apply Array.ext_getElem?
  intro q
  by_cases h1 : q < o ∨ o + l.length ≤ q
  · rw [setRow_out _ _ _ _ h1]
  · obtain ⟨c, rfl⟩ : ∃ c, q = o + c := ⟨q - o, by omega⟩
    have hc : c < l.length := by omega
    rw [setRow_in _ _ _ _ hc hs, h c l[c] (List.getElem?_eq_getElem hc), List.getElem?_eq_getElem hc]
theorem setRow_twice (C : Array Value) (o : Nat) (l1 l2 : List Value) (hl : l1.length = l2.length) (hs : o + l2.length ≤ C.size) : setRow (setRow C o l1) o l2 = setRow C o l2 := by
  apply Array.ext_getElem?
  intro q
  by_cases h1 : q < o ∨ o + l2.length ≤ q
  · rw [setRow_out _ _ _ _ h1, setRow_out _ _ _ _ h1, setRow_out _ _ _ _ (by rw [hl]; exact h1)]
  · obtain ⟨c, rfl⟩ : ∃ c, q = o + c := ⟨q - o, by omega⟩
    have hc : c < l2.length := by omega
    rw [setRow_in _ _ _ _ hc (by rw [Bk.setRow_size]; exact hs), setRow_in _ _ _ _ hc hs]

set_option maxHeartbeats 4000000 in
theorem secSettle_any (base sb o : Nat) (s : Sec) (K : Int) (C : Array Value) (w : World) (h : SecAt w base sb o s) (hB : Blk w sb C 157) (hl : s.wr.length ≤ 1000) (hbit : ∀ y ∈ s.wr, 0 ≤ y.bit ∧ y.bit < 64) (hoC : o + 65 ≤ C.size) :
    Calls Tryz.prog 103 #[.pointer (some ⟨sb, o, none⟩), .int .u64 K] w fun e w' => e = .returned (.tuple #[]) ∧ Blk w' sb ((setRow C o (conV (settleC K s.kept s.wr))).setIfInBounds (o + 64) (.slice none 0 0)) 157 ∧ w.grownBy w' (some sb) := by
  obtain ⟨a, cap, hv, hr⟩ := h.own.rows
  have hm := hr.2.1; have hlc := hr.1
  unfold maxLen at hm
  have c64 : w.cell? ⟨sb, o + 64, none⟩ = some (.slice a s.wr.length cap) := by rw [← hv]; exact h.slice
  have HB : Hid (Blk w sb C 157) := hB
  have HO : Hid (OwnAt w base 194 65 Wr.enc (.slice a s.wr.length cap) s.wr) := by show OwnAt _ _ _ _ _ _ _; rw [← hv]; exact h.own
  obtain ⟨Z, hZ⟩ : ∃ Y, (Wr.enc ⟨0, fun _ => 0⟩).toArray = Y := ⟨_, rfl⟩
  have hZv : ∀ w, (zeroValue 194).run Tryz.prog w = .ok (.agg Z) w := fun w => by rw [← hZ]; exact wrZ w
  have hZs : Hid (Z.size = 65) := by show _ = _; rw [← hZ]; simp [Wr.enc_len]
  have hwi : Hid ((Tryz.prog.info? 194).map (·.size) = some 65) := by show _ = _; kernel_rfl
  have HC0 : Hid (setRow C o (conV s.kept) = C) := setRow_same C o _ (by rw [conV_len]; omega) (fun j v hj => by
    have := h.kept j v hj
    rwa [hB.cell] at this)
  have HC64 : Hid (C[o + 64]? = some (.slice a s.wr.length cap)) := by show _ = _; rw [← hB.cell]; exact c64
  generalize hPP : (fun (e : Ending) (w' : World) => e = .returned (.tuple #[]) ∧ Blk w' sb ((setRow C o (conV (settleC K s.kept s.wr))).setIfInBounds (o + 64) (.slice none 0 0)) 157 ∧ w.grownBy w' (some sb)) = PP
  have HP : Hid (∀ w', Blk w' sb ((setRow C o (conV (settleC K s.kept s.wr))).setIfInBounds (o + 64) (.slice none 0 0)) 157 → w.grownBy w' (some sb) → PP (.returned (.tuple #[])) w') := fun w' h1 h2 => by rw [← hPP]; exact ⟨rfl, h1, h2⟩
  clear hPP h hv hr hB hZ
  go_enter Tryz.func103, Tryz.ntmps103
  go_wp2_with fail
  clear c64
  go_loopg [11] s.wr.length (fun gg s11 wr => ∃ k : Nat, k ≤ s.wr.length ∧ s.wr.length - k ≤ gg ∧ s11 = .int .i64 k ∧ Hid (w.grownBy wr (some sb) ∧ Blk wr sb (setRow C o (conV (settleC K s.kept (s.wr.take k)))) 157))
  case atStart => exact ⟨0, Nat.zero_le _, by omega, rfl, grown_refl _ _, by show Blk w sb (setRow C o (conV s.kept)) _; rw [HC0.out]; exact HB.out⟩
  case round =>
    obtain ⟨k, hk, hg, rfl, M⟩ := hrel
    by_cases hlt : k < s.wr.length
    · have hltz : (k : Int) < (s.wr.length : Int) := by omega
      obtain ⟨g, off, rfl, hgl, hcell⟩ := (own_rows HO.out HB.out M.out.1).2.2 (by omega)
      have hyb := hbit s.wr[k]! (by rw [getElem!_pos s.wr k hlt]; exact List.getElem_mem hlt)
      have HL : Hid (wr.rangeAt g (off + k * 65) (Wr.enc s.wr[k]!)) := fun j v hj => hcell k hlt j v hj
      clear hcell
      have HSU : Hid (settleC K s.kept (s.wr.take (k + 1)) = if keepB K s.wr[k]!.bit = true then s.wr[k]!.dat else settleC K s.kept (s.wr.take k)) := settleC_succ K s.kept s.wr k hlt
      generalize s.wr[k]! = y at *
      obtain ⟨Y, hY⟩ : ∃ Y, Wr.enc y = Y := ⟨_, rfl⟩
      rw [hY] at HL
      have hYs : Hid (Y.length = 65) := by show _ = _; rw [← hY]; exact Wr.enc_len _
      have hYi : (Tryz.prog.info? 194).map (·.size) = some Y.length := by rw [hYs.out]; exact hwi.out
      have hYj : (Tryz.prog.info? 194).map (·.size) = some Y.toArray.size := by simp only [List.size_toArray]; exact hYi
      have hY1 : Y.toArray.all (·.oneCell') = true := by rw [← hY]; exact all_oneCell_toArray (Wr.enc_one _)
      obtain ⟨w1, hw1⟩ : ∃ w1, wr.alloc (.cells Z 194) = w1 := ⟨_, rfl⟩
      have X1 : Hid (Below wr.heap.size wr w1 ∧ Blk w1 wr.heap.size Z 194) := by
        show _ ∧ _
        rw [← hw1]
        exact ⟨B.new1 _ _, Blk.new _ _ _⟩
      obtain ⟨w2, hw2⟩ : ∃ w2, w1.setCells wr.heap.size 0 Y.toArray.toList = w2 := ⟨_, rfl⟩
      have X2 : Hid (Below wr.heap.size wr w2 ∧ Blk w2 wr.heap.size Y.toArray 194) := by
        show _ ∧ _
        rw [← hw2]
        exact ⟨below_cells (Nat.le_refl _) _ 0 X1.out.1, blk_all X1.out.2 (by rw [hZs.out]; simp [hYs.out])⟩
      have HT : Hid (w1.there wr.heap.size 0 Y.toArray.size) := blk_there X1.out.2 0 _ (by rw [hZs.out]; simp [hYs.out])
      have hW2 : Hid (w1.setCells wr.heap.size 0 Y.toArray.toList = w2) := hw2
      have c0 : w2.cell? ⟨wr.heap.size, 0, none⟩ = some (.int .i64 y.bit) := by rw [X2.out.2.cell, ← hY]; rfl
      obtain ⟨yb, hyv⟩ : ∃ yb, y.bit = yb := ⟨_, rfl⟩
      rw [hyv] at c0 hyb
      have hy0 := hyb.1
      have hy1 := hyb.2
      have HR1 : Hid (w2.rangeAt wr.heap.size 1 (conV y.dat)) := fun j v hj => by
        rw [X2.out.2.cell, ← hY]
        show (Value.int .i64 y.bit :: conV y.dat).toArray[1 + j]? = some v
        rw [List.getElem?_toArray, Nat.add_comm 1 j]
        simpa using hj
      have HM2 : Hid (Below wr.heap.size wr w2) := X2.out.1
      rw [hyv] at HSU
      have KB : Hid (keepB K yb = (bits BinOp.and IntKind.u64 (K / 2 ^ yb.toNat) 1 == 1)) := rfl
      obtain ⟨L, hL⟩ : ∃ L, conV y.dat = L := ⟨_, rfl⟩
      have hLs : Hid (L.length = 64) := by show _ = _; rw [← hL]; exact conV_len _
      have hLi : (Tryz.prog.info? 154).map (·.size) = some L.length := by rw [hLs.out]; exact conI
      have hLj : (Tryz.prog.info? 154).map (·.size) = some L.toArray.size := by simp only [List.size_toArray]; exact hLi
      have hL1 : L.toArray.all (·.oneCell') = true := by rw [← hL]; exact all_oneCell_toArray (conV_one _)
      rw [hL] at HR1
      have HB2 : Hid (Blk w2 sb (setRow C o (conV (settleC K s.kept (s.wr.take k)))) 157) := M.out.2.below HM2.out
      obtain ⟨w3, hw3⟩ : ∃ w3, w2.setCells sb o L.toArray.toList = w3 := ⟨_, rfl⟩
      have HT3 : Hid (w2.there sb o L.toArray.size) := blk_there HB2.out o _ (by rw [Bk.setRow_size]; simp only [List.size_toArray, hLs.out]; omega)
      have hW3 : Hid (w2.setCells sb o L.toArray.toList = w3) := hw3
      have HN3 : Hid (w.grownBy w3 (some sb) ∧ Blk w3 sb (setRow C o L) 157) := by
        show _ ∧ _
        rw [← hw3]
        refine ⟨grown_trans (grown_trans M.out.1 (grown_of_below HM2.out)) (grown_setCells sb _ _ _), ?_⟩
        have := blk_setCells L.toArray.toList _ o HB2.out
        rw [setRow_twice C o _ _ (by simp [conV_len, hLs.out]) (by simp [hLs.out]; omega)] at this
        exact this
      have HN2 : Hid (w.grownBy w2 (some sb)) := grown_trans M.out.1 (grown_of_below HM2.out)
      clear hw2 hY hyv hyb hw3
      go_upto_region 3 with (first | (refine wpList_load_mid rfl 194 _ rfl g (off + k * 65) rfl Y _ HL.out wrU rfl hYi ?_) | (refine wpList_store_as rfl 194 _ _ rfl wr.heap.size 0 Y.toArray rfl rfl HT.out hYj hY1 w2 hW2.out ?_))
      cases hq : (bits BinOp.and IntKind.u64 (K / 2 ^ yb.toNat) 1 == 1)
      · have HF : Hid (Blk w2 sb (setRow C o (conV (settleC K s.kept (s.wr.take (k + 1))))) 157) := by
          show Blk _ _ _ _
          rw [HSU.out, if_neg (by rw [KB.out, hq]; decide)]
          exact HB2.out
        clear HSU KB HB2 HN3 HT3 hW3 HR1
        go_wp2_with fail
        go_roundg (s.wr.length - (k + 1))
        case measure => omega
        case rel => exact ⟨k + 1, by omega, by omega, by go_num, HN2.out, HF.out⟩
      · have HF : Hid (Blk w3 sb (setRow C o (conV (settleC K s.kept (s.wr.take (k + 1))))) 157) := by
          show Blk _ _ _ _
          rw [HSU.out, if_pos (by rw [KB.out, hq]), hL]
          exact HN3.out.2
        have HG3 : Hid (w.grownBy w3 (some sb)) := HN3.out.1
        clear HSU KB HB2 HN3 hL
        go_wp2_with (first | (refine wpList_load_mid rfl 154 _ rfl wr.heap.size 1 rfl L _ HR1.out conU rfl hLi ?_) | (refine wpList_store_as rfl 154 _ _ rfl sb o L.toArray rfl rfl HT3.out hLj hL1 w3 hW3.out ?_))
        go_roundg (s.wr.length - (k + 1))
        case measure => omega
        case rel => exact ⟨k + 1, by omega, by omega, by go_num, HG3.out, HF.out⟩
    · have hltz : ¬ (k : Int) < (s.wr.length : Int) := by omega
      have hke : k = s.wr.length := by omega
      subst hke
      have hM := M.out.2
      rw [List.take_length] at hM
      have r6 : wr.cell? ⟨sb, o + 64, none⟩ = some (.slice a s.wr.length cap) := by
        rw [hM.cell, setRow_out _ _ _ _ (Or.inr (by rw [conV_len]; exact Nat.le_refl _))]
        exact HC64.out
      have f6 := hM.free
      have HFN : Hid (PP (.returned (.tuple #[])) (wr.setCell ⟨sb, o + 64, none⟩ (.slice none 0 0))) := HP.out _ (hM.set _ _) (grown_trans M.out.1 (grown_set wr sb (o + 64) _))
      clear hM HP
      go_wp2
      go_returns
      exact HFN.out

end Dk
end Go.Proofs.YtopgllmjeliklaaGreatDoor

namespace Go.Proofs.YtopgllmjeliklaaGreatDoor
open Go.Shelf Go.Lib Go.ChangeShapes Go.WideShapes Go.ChangeAt Go.RowKit
set_option maxRecDepth 100000
set_option linter.unusedSimpArgs false
set_option linter.unusedVariables false

namespace Dk
open Bk
def setSec (K : Int) (s : Sec) : Sec := ⟨settleC K s.kept s.wr, .slice none 0 0, []⟩
/-- The first k sectors are settled. -/
def stl (K : Int) (secs : List Sec) : Nat → List Sec
  | 0 => secs
  | k + 1 => (stl K secs k).set k (setSec K (stl K secs k)[k]!)
theorem stl_len (K : Int) (secs : List Sec) : ∀ k, (stl K secs k).length = secs.length
  | 0 => rfl
  | k + 1 => by rw [stl, List.length_set, stl_len K secs k]
theorem stl_get (K : Int) (secs : List Sec) (j : Nat) (hj : j < secs.length) : ∀ k, k ≤ secs.length → (stl K secs k)[j]! = if j < k then setSec K secs[j]! else secs[j]!
  | 0, _ => by rw [if_neg (by omega)]; rfl
  | k + 1, hk => by
    have ih := stl_get K secs j hj k (by omega)
    rw [stl, set_get _ _ _ _ (by rw [stl_len]; omega) (by rw [stl_len]; exact hj)]
    by_cases e : k = j
    · subst e
      rw [if_pos rfl, if_pos (by omega), ih, if_neg (by omega)]
    · rw [if_neg e, ih]
      by_cases h1 : j < k
      · rw [if_pos h1, if_pos (by omega)]
      · rw [if_neg h1, if_neg (by omega)]
/-- The disk with one sector settled. -/
theorem DiskAt.settled {w w' : World} {base db sb : Nat} {secs : List Sec} {bit : Int} {armed : Bool} {left : Int} {down : Bool} {i : Nat} {c : Nat → Int} (h : DiskAt w base db sb secs bit armed left down) (hi : i < secs.length)
    (hB : Blk w' sb ((setRow (secs.flatMap Sec.enc).toArray (i * 65) (conV c)).setIfInBounds (i * 65 + 64) (.slice none 0 0)) 157) (hg : w.grownBy w' (some sb)) :
    DiskAt w' base db sb (secs.set i ⟨c, .slice none 0 0, []⟩) bit armed left down := by
  have hdb : db ≠ sb := fun e => by
    have h1 := h.d
    rw [e] at h1
    exact absurd (blk_typeD h1 h.s) (by decide)
  have hfl := flat_len Sec.enc 65 Sec.enc_len secs
  have hfit : i * 65 + 65 ≤ secs.length * 65 := by omega
  refine ⟨?_, ?_, ?_, ?_, h.hb⟩
  · rw [List.length_set]
    exact (hg.block db h.d.lt (fun e => hdb (by injection e))).trans h.d
  · have e : ((setRow (secs.flatMap Sec.enc).toArray (i * 65) (conV c)).setIfInBounds (i * 65 + 64) (.slice none 0 0)) = ((secs.set i ⟨c, .slice none 0 0, []⟩).flatMap Sec.enc).toArray := by
      refine flat_of _ _ (by simp only [Array.size_setIfInBounds, Bk.setRow_size, List.size_toArray, List.length_set]; exact hfl) (fun j hj r hr => ?_)
      rw [List.length_set] at hj
      rw [set_get secs i j _ hi hj, Array.getElem?_setIfInBounds]
      by_cases e : i = j
      · subst e
        rw [if_pos rfl]
        by_cases er : r = 64
        · subst er
          rw [if_pos rfl, if_pos (by rw [Bk.setRow_size]; simp only [List.size_toArray]; omega)]
          unfold Sec.enc
          rw [List.getElem?_append_right (by rw [conV_len]; exact Nat.le_refl _), conV_len]
          rfl
        · rw [if_neg (by omega), setRow_in _ _ _ _ (by rw [conV_len]; omega) (by rw [conV_len]; simp only [List.size_toArray]; omega)]
          unfold Sec.enc
          rw [List.getElem?_append_left (by rw [conV_len]; omega)]
      · rw [if_neg e, if_neg (by omega), setRow_out _ _ _ _ (by rw [conV_len]; omega), List.getElem?_toArray, flat_get Sec.enc 65 Sec.enc_len secs j r hj hr]
    rw [← e]
    exact hB
  · intro j hj
    rw [List.length_set] at hj
    rw [set_get secs i j _ hi hj]
    by_cases e : i = j
    · rw [if_pos e]; exact Or.inl ⟨rfl, rfl⟩
    · rw [if_neg e]
      exact (h.own j hj).grown hg (fun g e1 e2 => by
        injection e2 with e2
        subst e2
        exact own_neD (h.own j hj) h.s (by decide) e1)
  · intro a b ha hb hab g hga
    rw [List.length_set] at ha hb
    rw [set_get secs i a _ hi ha] at hga
    rw [set_get secs i b _ hi hb]
    by_cases ea : i = a
    · rw [if_pos ea] at hga
      simp [Value.ownBlock] at hga
    · rw [if_neg ea] at hga
      by_cases eb : i = b
      · rw [if_pos eb]
        simp [Value.ownBlock]
      · rw [if_neg eb]
        exact h.ne a b ha hb hab g hga
theorem DFr.of_grown {base : Nat} {w w' : World} {sb : Nat} {C : Array Value} (hg : w.grownBy w' (some sb)) (hB : Blk w sb C 157) (hb : base ≤ sb) : DFr base w w' := by
  have hsb := hB.lt
  refine ⟨⟨hg.os, hg.tape, hg.output, hg.size, fun k hk => hg.block k (by omega) (by simp; omega)⟩, fun k arr T h1 h2 h3 hk => (hg.block k hk.lt (fun e => ?_)).trans hk, hg.size, fun k o hk ho => (hg.block k (Array.getElem?_eq_some_iff.1 hk).1 (fun e => ?_)).trans hk⟩
  · injection e with e
    subst e
    exact h2 (blk_typeD hk hB)
  · injection e with e
    subst e
    rw [show w.heap[_]? = _ from hB] at hk
    cases hk; cases ho

set_option maxHeartbeats 2000000 in
theorem settle_any (base db sb : Nat) (secs : List Sec) (bit : Int) (armed : Bool) (left : Int) (down : Bool) (K : Int) (w : World) (h : DiskAt w base db sb secs bit armed left down) (hbase : base ≤ w.heap.size) (hl : ∀ i, i < secs.length → secs[i]!.wr.length ≤ 1000) (hbit : ∀ i, i < secs.length → ∀ y ∈ secs[i]!.wr, 0 ≤ y.bit ∧ y.bit < 64) (hn : secs.length ≤ 1000) :
    Calls Tryz.prog 70 #[.pointer (some ⟨db, 0, none⟩), .int .u64 K] w fun e w' => e = .returned (.tuple #[]) ∧ DiskAt w' base db sb (stl K secs secs.length) 0 armed left down ∧ DFr base w w' := by
  have c0 := h.d.cell 0
  have H0 : Hid (DiskAt w base db sb secs bit armed left down) := h
  have HBI : Hid (∀ i, i < secs.length → ∀ y ∈ secs[i]!.wr, 0 ≤ y.bit ∧ y.bit < 64) := hbit
  have HLE : Hid (∀ i, i < secs.length → secs[i]!.wr.length ≤ 1000) := hl
  generalize hPP : (fun (e : Ending) (w' : World) => e = .returned (.tuple #[]) ∧ DiskAt w' base db sb (stl K secs secs.length) 0 armed left down ∧ DFr base w w') = PP
  have HP : Hid (∀ w', DiskAt w' base db sb (stl K secs secs.length) 0 armed left down → DFr base w w' → PP (.returned (.tuple #[])) w') := fun w' h1 h2 => by rw [← hPP]; exact ⟨rfl, h1, h2⟩
  clear hPP h hbit hl
  simp only [List.getElem?_toArray, List.getElem?_cons_zero] at c0
  go_enter Tryz.func70, Tryz.ntmps70
  go_wp2_with fail
  clear c0
  go_loopg [10] secs.length (fun gg s10 wr => ∃ k : Nat, k ≤ secs.length ∧ secs.length - k ≤ gg ∧ s10 = .int .i64 k ∧ Hid (DiskAt wr base db sb (stl K secs k) bit armed left down ∧ DFr base w wr))
  case atStart => exact ⟨0, Nat.zero_le _, by omega, rfl, H0.out, DFr.refl _ _⟩
  case round =>
    clear H0
    obtain ⟨k, hk, hg, rfl, M⟩ := hrel
    by_cases hlt : k < secs.length
    · have hltz : (k : Int) < (secs.length : Int) := by omega
      have c0 := M.out.1.d.cell 0
      rw [stl_len] at c0
      simp only [List.getElem?_toArray, List.getElem?_cons_zero] at c0
      have hk' : k < (stl K secs k).length := by rw [stl_len]; exact hlt
      have hge : (stl K secs k)[k]! = secs[k]! := by rw [stl_get K secs k hlt k hk, if_neg (by omega)]
      have HC : Hid (Calls Tryz.prog 103 #[.pointer (some ⟨sb, k * 65, none⟩), .int .u64 K] wr fun e w' => e = .returned (.tuple #[]) ∧ Blk w' sb ((setRow ((stl K secs k).flatMap Sec.enc).toArray (k * 65) (conV (settleC K (stl K secs k)[k]!.kept (stl K secs k)[k]!.wr))).setIfInBounds (k * 65 + 64) (.slice none 0 0)) 157 ∧ wr.grownBy w' (some sb)) :=
        secSettle_any base sb (k * 65) (stl K secs k)[k]! K _ wr (M.out.1.sec hk') M.out.1.s (by rw [hge]; exact HLE.out k hlt) (by rw [hge]; exact HBI.out k hlt) (by simp only [List.size_toArray]; rw [flat_len Sec.enc 65 Sec.enc_len, stl_len]; omega)
      go_wp2_with fail
      clear c0
      refine HC.out.mono ?_
      rintro e w2 ⟨rfl, hB, hgr⟩
      have N : Hid (DiskAt w2 base db sb (stl K secs (k + 1)) bit armed left down ∧ DFr base w w2) := ⟨M.out.1.settled hk' hB hgr, M.out.2.trans (DFr.of_grown hgr M.out.1.s M.out.1.hb.2) hbase⟩
      clear hB hgr M HC
      go_wp2
      go_roundg (secs.length - (k + 1))
      case measure => omega
      case rel => exact ⟨k + 1, by omega, by omega, by go_num, N⟩
    · have hltz : ¬ (k : Int) < (secs.length : Int) := by omega
      have hke : k = secs.length := by omega
      subst hke
      have r1 := M.out.1.d.cell 1
      simp only [List.getElem?_toArray, List.getElem?_cons_succ, List.getElem?_cons_zero] at r1
      have f1 := M.out.1.d.free
      have HF : Hid (PP (.returned (.tuple #[])) (wr.setCell ⟨db, 1, none⟩ (.int .i64 0))) := HP.out _ (M.out.1.setBit 0) (M.out.2.trans (DFr.of_set M.out.1.d M.out.1.hb.1 1 _) hbase)
      clear HP M
      go_wp2
      go_returns
      exact HF.out

end Dk
end Go.Proofs.YtopgllmjeliklaaGreatDoor
