/- Chapter 6: the disk: what was written is kept, or lost (one sector); contract for the laws of stage 3. -/
import Derived.Test.YtmojjjikaaclpaaDiskG
import Derived.Deep.LoopGhost
namespace Go.Proofs.Ytmojjjikaaclpaa
open Go.Shelf Go.Lib Go.ChangeShapes Go.WideShapes Go.ChangeAt Go.RowKit
set_option maxRecDepth 100000
set_option linter.unusedSimpArgs false
set_option linter.unusedVariables false

namespace Dk
open Bk
theorem own_rows {w w' : World} {base sb : Nat} {C : Array Value} {a : Option Addr} {cap : Nat} {l : List Wr} (h : OwnAt w base 70 65 Wr.enc (.slice a l.length cap) l) (hB : Blk w sb C 74) (hg : w.grownBy w' (some sb)) : RowsAt w' a cap 65 Wr.enc l := by
  have h2 : OwnAt w' base 70 65 Wr.enc (.slice a l.length cap) l := h.grown hg (fun g e e' => by
    injection e' with e'
    subst e'
    exact own_neD h hB (by decide) e)
  obtain ⟨a', cap', e, r⟩ := h2.rows
  cases e
  exact r

/-- Is the write of that bit kept? -/
def keepB (K n : Int) : Bool := bits BinOp.and IntKind.u64 (K / 2 ^ n.toNat) 1 == 1
/-- What settling leaves of a sector. -/
def settleC (K : Int) (c : Nat → Int) (l : List Wr) : Nat → Int := l.foldl (fun c y => if keepB K y.bit = true then y.dat else c) c
theorem settleC_succ (K : Int) (c : Nat → Int) (l : List Wr) (k : Nat) (hk : k < l.length) : settleC K c (l.take (k + 1)) = if keepB K l[k]!.bit = true then l[k]!.dat else settleC K c (l.take k) := by
  unfold settleC
  rw [List.take_succ_eq_append_getElem hk, List.foldl_append, getElem!_pos l k hk]
  rfl
theorem settleC_more (K : Int) (c : Nat → Int) (l : List Wr) (y : Wr) : settleC K c (l ++ [y]) = if keepB K y.bit = true then y.dat else settleC K c l := by
  unfold settleC
  rw [List.foldl_append]
  rfl
theorem setRow_same (C : Array Value) (o : Nat) (l : List Value) (hs : o + l.length ≤ C.size) (h : ∀ j v, l[j]? = some v → C[o + j]? = some v) : setRow C o l = C := by
  apply Array.ext_getElem?
  intro q
  by_cases h1 : q < o ∨ o + l.length ≤ q
  · rw [setRow_out _ _ _ _ h1]
  · obtain ⟨c, rfl⟩ : ∃ c, q = o + c := ⟨q - o, by omega⟩
    have hc : c < l.length := by omega
    rw [setRow_in _ _ _ _ hc hs, h c l[c] (List.getElem?_eq_getElem hc), List.getElem?_eq_getElem hc]
theorem setRow_twice (C : Array Value) (o : Nat) (l1 l2 : List Value) (hl : l1.length = l2.length) (hs : o + l2.length ≤ C.size) : setRow (setRow C o l1) o l2 = setRow C o l2 := by
  apply Array.ext_getElem?
  intro q
  by_cases h1 : q < o ∨ o + l2.length ≤ q
  · rw [setRow_out _ _ _ _ h1, setRow_out _ _ _ _ h1, setRow_out _ _ _ _ (by rw [hl]; exact h1)]
  · obtain ⟨c, rfl⟩ : ∃ c, q = o + c := ⟨q - o, by omega⟩
    have hc : c < l2.length := by omega
    rw [setRow_in _ _ _ _ hc (by rw [Bk.setRow_size]; exact hs), setRow_in _ _ _ _ hc hs]

set_option maxHeartbeats 4000000 in
theorem secSettle_any (base sb o : Nat) (s : Sec) (K : Int) (C : Array Value) (w : World) (h : SecAt w base sb o s) (hB : Blk w sb C 74) (hl : s.wr.length ≤ 1000) (hbit : ∀ y ∈ s.wr, 0 ≤ y.bit ∧ y.bit < 64) (hoC : o + 65 ≤ C.size) :
    Calls Try.prog 29 #[.pointer (some ⟨sb, o, none⟩), .int .u64 K] w fun e w' => e = .returned (.tuple #[]) ∧ Blk w' sb ((setRow C o (conV (settleC K s.kept s.wr))).setIfInBounds (o + 64) (.slice none 0 0)) 74 ∧ w.grownBy w' (some sb) := by
  obtain ⟨a, cap, hv, hr⟩ := h.own.rows
  have hm := hr.2.1; have hlc := hr.1
  unfold maxLen at hm
  have c64 : w.cell? ⟨sb, o + 64, none⟩ = some (.slice a s.wr.length cap) := by rw [← hv]; exact h.slice
  have HB : Hid (Blk w sb C 74) := hB
  have HO : Hid (OwnAt w base 70 65 Wr.enc (.slice a s.wr.length cap) s.wr) := by show OwnAt _ _ _ _ _ _ _; rw [← hv]; exact h.own
  obtain ⟨Z, hZ⟩ : ∃ Y, (Wr.enc ⟨0, fun _ => 0⟩).toArray = Y := ⟨_, rfl⟩
  have hZv : ∀ w, (zeroValue 70).run Try.prog w = .ok (.agg Z) w := fun w => by rw [← hZ]; exact wrZ w
  have hZs : Hid (Z.size = 65) := by show _ = _; rw [← hZ]; simp [Wr.enc_len]
  have hwi : Hid ((Try.prog.info? 70).map (·.size) = some 65) := by show _ = _; kernel_rfl
  have HC0 : Hid (setRow C o (conV s.kept) = C) := setRow_same C o _ (by rw [conV_len]; omega) (fun j v hj => by
    have := h.kept j v hj
    rwa [hB.cell] at this)
  have HC64 : Hid (C[o + 64]? = some (.slice a s.wr.length cap)) := by show _ = _; rw [← hB.cell]; exact c64
  generalize hPP : (fun (e : Ending) (w' : World) => e = .returned (.tuple #[]) ∧ Blk w' sb ((setRow C o (conV (settleC K s.kept s.wr))).setIfInBounds (o + 64) (.slice none 0 0)) 74 ∧ w.grownBy w' (some sb)) = PP
  have HP : Hid (∀ w', Blk w' sb ((setRow C o (conV (settleC K s.kept s.wr))).setIfInBounds (o + 64) (.slice none 0 0)) 74 → w.grownBy w' (some sb) → PP (.returned (.tuple #[])) w') := fun w' h1 h2 => by rw [← hPP]; exact ⟨rfl, h1, h2⟩
  clear hPP h hv hr hB hZ
  go_enter Try.func29, Try.ntmps29
  go_wp2_with fail
  clear c64
  go_loopg [11] s.wr.length (fun gg s11 wr => ∃ k : Nat, k ≤ s.wr.length ∧ s.wr.length - k ≤ gg ∧ s11 = .int .i64 k ∧ Hid (w.grownBy wr (some sb) ∧ Blk wr sb (setRow C o (conV (settleC K s.kept (s.wr.take k)))) 74))
  case atStart => exact ⟨0, Nat.zero_le _, by omega, rfl, grown_refl _ _, by show Blk w sb (setRow C o (conV s.kept)) _; rw [HC0.out]; exact HB.out⟩
  case round =>
    obtain ⟨k, hk, hg, rfl, M⟩ := hrel
    by_cases hlt : k < s.wr.length
    · have hltz : (k : Int) < (s.wr.length : Int) := by omega
      obtain ⟨g, off, rfl, hgl, hcell⟩ := (own_rows HO.out HB.out M.out.1).2.2 (by omega)
      have hyb := hbit s.wr[k]! (by rw [getElem!_pos s.wr k hlt]; exact List.getElem_mem hlt)
      have HL : Hid (wr.rangeAt g (off + k * 65) (Wr.enc s.wr[k]!)) := fun j v hj => hcell k hlt j v hj
      clear hcell
      have HSU : Hid (settleC K s.kept (s.wr.take (k + 1)) = if keepB K s.wr[k]!.bit = true then s.wr[k]!.dat else settleC K s.kept (s.wr.take k)) := settleC_succ K s.kept s.wr k hlt
      generalize s.wr[k]! = y at *
      obtain ⟨Y, hY⟩ : ∃ Y, Wr.enc y = Y := ⟨_, rfl⟩
      rw [hY] at HL
      have hYs : Hid (Y.length = 65) := by show _ = _; rw [← hY]; exact Wr.enc_len _
      have hYi : (Try.prog.info? 70).map (·.size) = some Y.length := by rw [hYs.out]; exact hwi.out
      have hYj : (Try.prog.info? 70).map (·.size) = some Y.toArray.size := by simp only [List.size_toArray]; exact hYi
      have hY1 : Y.toArray.all (·.oneCell') = true := by rw [← hY]; exact all_oneCell_toArray (Wr.enc_one _)
      obtain ⟨w1, hw1⟩ : ∃ w1, wr.alloc (.cells Z 70) = w1 := ⟨_, rfl⟩
      have X1 : Hid (Below wr.heap.size wr w1 ∧ Blk w1 wr.heap.size Z 70) := by
        show _ ∧ _
        rw [← hw1]
        exact ⟨B.new1 _ _, Blk.new _ _ _⟩
      obtain ⟨w2, hw2⟩ : ∃ w2, w1.setCells wr.heap.size 0 Y.toArray.toList = w2 := ⟨_, rfl⟩
      have X2 : Hid (Below wr.heap.size wr w2 ∧ Blk w2 wr.heap.size Y.toArray 70) := by
        show _ ∧ _
        rw [← hw2]
        exact ⟨below_cells (Nat.le_refl _) _ 0 X1.out.1, blk_all X1.out.2 (by rw [hZs.out]; simp [hYs.out])⟩
      have HT : Hid (w1.there wr.heap.size 0 Y.toArray.size) := blk_there X1.out.2 0 _ (by rw [hZs.out]; simp [hYs.out])
      have hW2 : Hid (w1.setCells wr.heap.size 0 Y.toArray.toList = w2) := hw2
      have c0 : w2.cell? ⟨wr.heap.size, 0, none⟩ = some (.int .i64 y.bit) := by rw [X2.out.2.cell, ← hY]; rfl
      obtain ⟨yb, hyv⟩ : ∃ yb, y.bit = yb := ⟨_, rfl⟩
      rw [hyv] at c0 hyb
      have hy0 := hyb.1
      have hy1 := hyb.2
      have HR1 : Hid (w2.rangeAt wr.heap.size 1 (conV y.dat)) := fun j v hj => by
        rw [X2.out.2.cell, ← hY]
        show (Value.int .i64 y.bit :: conV y.dat).toArray[1 + j]? = some v
        rw [List.getElem?_toArray, Nat.add_comm 1 j]
        simpa using hj
      have HM2 : Hid (Below wr.heap.size wr w2) := X2.out.1
      rw [hyv] at HSU
      have KB : Hid (keepB K yb = (bits BinOp.and IntKind.u64 (K / 2 ^ yb.toNat) 1 == 1)) := rfl
      obtain ⟨L, hL⟩ : ∃ L, conV y.dat = L := ⟨_, rfl⟩
      have hLs : Hid (L.length = 64) := by show _ = _; rw [← hL]; exact conV_len _
      have hLi : (Try.prog.info? 68).map (·.size) = some L.length := by rw [hLs.out]; exact conI
      have hLj : (Try.prog.info? 68).map (·.size) = some L.toArray.size := by simp only [List.size_toArray]; exact hLi
      have hL1 : L.toArray.all (·.oneCell') = true := by rw [← hL]; exact all_oneCell_toArray (conV_one _)
      rw [hL] at HR1
      have HB2 : Hid (Blk w2 sb (setRow C o (conV (settleC K s.kept (s.wr.take k)))) 74) := M.out.2.below HM2.out
      obtain ⟨w3, hw3⟩ : ∃ w3, w2.setCells sb o L.toArray.toList = w3 := ⟨_, rfl⟩
      have HT3 : Hid (w2.there sb o L.toArray.size) := blk_there HB2.out o _ (by rw [Bk.setRow_size]; simp only [List.size_toArray, hLs.out]; omega)
      have hW3 : Hid (w2.setCells sb o L.toArray.toList = w3) := hw3
      have HN3 : Hid (w.grownBy w3 (some sb) ∧ Blk w3 sb (setRow C o L) 74) := by
        show _ ∧ _
        rw [← hw3]
        refine ⟨grown_trans (grown_trans M.out.1 (grown_of_below HM2.out)) (grown_setCells sb _ _ _), ?_⟩
        have := blk_setCells L.toArray.toList _ o HB2.out
        rw [setRow_twice C o _ _ (by simp [conV_len, hLs.out]) (by simp [hLs.out]; omega)] at this
        exact this
      have HN2 : Hid (w.grownBy w2 (some sb)) := grown_trans M.out.1 (grown_of_below HM2.out)
      clear hw2 hY hyv hyb hw3
      go_upto_region 3 with (first | (refine wpList_load_mid rfl 70 _ rfl g (off + k * 65) rfl Y _ HL.out wrU rfl hYi ?_) | (refine wpList_store_as rfl 70 _ _ rfl wr.heap.size 0 Y.toArray rfl rfl HT.out hYj hY1 w2 hW2.out ?_))
      cases hq : (bits BinOp.and IntKind.u64 (K / 2 ^ yb.toNat) 1 == 1)
      · have HF : Hid (Blk w2 sb (setRow C o (conV (settleC K s.kept (s.wr.take (k + 1))))) 74) := by
          show Blk _ _ _ _
          rw [HSU.out, if_neg (by rw [KB.out, hq]; decide)]
          exact HB2.out
        clear HSU KB HB2 HN3 HT3 hW3 HR1
        go_wp2_with fail
        go_roundg (s.wr.length - (k + 1))
        case measure => omega
        case rel => exact ⟨k + 1, by omega, by omega, by go_num, HN2.out, HF.out⟩
      · have HF : Hid (Blk w3 sb (setRow C o (conV (settleC K s.kept (s.wr.take (k + 1))))) 74) := by
          show Blk _ _ _ _
          rw [HSU.out, if_pos (by rw [KB.out, hq]), hL]
          exact HN3.out.2
        have HG3 : Hid (w.grownBy w3 (some sb)) := HN3.out.1
        clear HSU KB HB2 HN3 hL
        go_wp2_with (first | (refine wpList_load_mid rfl 68 _ rfl wr.heap.size 1 rfl L _ HR1.out conU rfl hLi ?_) | (refine wpList_store_as rfl 68 _ _ rfl sb o L.toArray rfl rfl HT3.out hLj hL1 w3 hW3.out ?_))
        go_roundg (s.wr.length - (k + 1))
        case measure => omega
        case rel => exact ⟨k + 1, by omega, by omega, by go_num, HG3.out, HF.out⟩
    · have hltz : ¬ (k : Int) < (s.wr.length : Int) := by omega
      have hke : k = s.wr.length := by omega
      subst hke
      have hM := M.out.2
      rw [List.take_length] at hM
      have r6 : wr.cell? ⟨sb, o + 64, none⟩ = some (.slice a s.wr.length cap) := by
        rw [hM.cell, setRow_out _ _ _ _ (Or.inr (by rw [conV_len]; exact Nat.le_refl _))]
        exact HC64.out
      have f6 := hM.free
      have HFN : Hid (PP (.returned (.tuple #[])) (wr.setCell ⟨sb, o + 64, none⟩ (.slice none 0 0))) := HP.out _ (hM.set _ _) (grown_trans M.out.1 (grown_set wr sb (o + 64) _))
      clear hM HP
      go_wp2
      go_returns
      exact HFN.out

end Dk
end Go.Proofs.Ytmojjjikaaclpaa
