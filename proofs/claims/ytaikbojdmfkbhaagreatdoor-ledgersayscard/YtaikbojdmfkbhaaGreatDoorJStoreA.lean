/- Chapter 9: the ledger: a text is cut into the sectors of a slot: what the iterator hands out; contract for the laws of stages 3 and 4. -/
import Derived.Test.YtaikbojdmfkbhaaGreatDoorJLedgerA
import Derived.RangeFuncNested
import Derived.RangeFuncBound
import Derived.RangeFuncCalls
import Derived.RangeFuncLeaves
import Derived.RangeFuncBox
import Derived.Shelf.Abstract
import Derived.Shelf.RegionOpen
import Derived.OwnWalkIn
import Derived.TacticsInMore
import Derived.LoopNIn
import Derived.LoopIn
namespace Go.Proofs.YtaikbojdmfkbhaaGreatDoor
open Go.Shelf Go.Lib Go.ChangeShapes Go.WideShapes Go.ChangeAt Go.RowKit
set_option maxRecDepth 100000
set_option linter.unusedSimpArgs false
set_option linter.unusedVariables false
attribute [local go_sem] Oper.semAt_some

namespace Lg
open Bk Dk Tx
/-- What is left of a text behind k pieces; the k-th piece. -/
def restT (t : ByteArray) : Nat → ByteArray
  | 0 => t
  | k + 1 => (restT t k).extract (min (restT t k).size 64) (restT t k).size
def pieceT (t : ByteArray) (k : Nat) : ByteArray := (restT t k).extract 0 (min (restT t k).size 64)
theorem restT_le (t : ByteArray) : ∀ k, (restT t k).size ≤ t.size
  | 0 => Nat.le_refl _
  | k + 1 => by
    have := restT_le t k
    rw [restT, ByteArray.size_extract]
    omega
theorem pieceT_le (t : ByteArray) (k : Nat) : (pieceT t k).size ≤ 64 := by
  unfold pieceT
  rw [ByteArray.size_extract]
  omega
/-- A piece, and which one it is. -/
abbrev Pc := { x : Nat × ByteArray // x.1 < 10 ∧ x.2.size ≤ 64 }
def encP (x : Pc) : Array Value := #[.int .i64 (x.1.1 : Int), .string x.1.2]
def pcT (t : ByteArray) (k : Nat) : Pc := ⟨(k % 10, pieceT t k), Nat.mod_lt _ (by decide), pieceT_le t k⟩
def pcsT (t : ByteArray) (k : Nat) : List Pc := (List.range k).map (pcT t)
theorem pcsT_succ (t : ByteArray) (k : Nat) : pcsT t (k + 1) = pcsT t k ++ [pcT t k] := by
  unfold pcsT
  rw [List.range_succ, List.map_append]
  rfl

set_option maxHeartbeats 4000000 in
theorem cut1_stops (F : Fence) (n : Nat) (hf : F.fn 134) (hro : F.round = none) (hn : 1 ≤ n) (b : Nat) (t : ByteArray) (ht : t.size ≤ 100000000) (w : World) (hb : b < w.heap.size) (hc : w.cell? ⟨b, 0, none⟩ = some (.string t)) :
    SeqStopsK F n Tryz.prog 134 #[.pointer (some ⟨b, 0, none⟩)] encP (fun _ _ => True) (fun ys => ys = pcsT t 10) (fun pre => ∃ k, k ≤ 10 ∧ pre = pcsT t k) 10 w := fun l J Jx W hW _ _ hY h0 => by
  have hc' := (hW.cell (p := ⟨b, 0, none⟩) hb).trans hc
  refine callsIn_of_wp Tryz.func134 rfl hf ?_ hro
  simp only [Tryz.ntmps134, List.size_toArray, List.length_cons, List.length_nil, Nat.reduceAdd, Nat.reduceSub, Array.replicate_succ, Array.replicate_zero, List.push_toArray, List.append_toArray, List.nil_append, List.cons_append]
  gi_wp2
  gi_loopw [3, 7] (fun s3 s7 wr => ∃ k : Nat, k ≤ 10 ∧ s7 = .int .i64 k ∧ s3 = .string (restT t k) ∧ J (pcsT t k) wr) (fun _ s7 _ => 10 - (intOf s7).toNat)
  case atStart => exact ⟨0, by omega, rfl, rfl, h0⟩
  case round =>
    obtain ⟨k, hk, rfl, rfl, hJs⟩ := hrel
    by_cases hlt : k < 10
    · have hltz : (k : Int) < 10 := by omega
      have hy0 := hY _ (pcT t k) wr hJs (by unfold pcsT; rw [List.length_map, List.length_range]; exact hlt)
      obtain ⟨fn, tmps, assign, body, hy, hR⟩ := hy0
      have hsz := restT_le t k
      have hnext : restT t (k + 1) = (restT t k).extract (min (restT t k).size 64) (restT t k).size := rfl
      have hpt : (pcT t k).1 = (k, (restT t k).extract 0 (min (restT t k).size 64)) := by
        show (k % 10, pieceT t k) = _
        rw [Nat.mod_eq_of_lt hlt]
        rfl
      have hJn : ∀ W', J (pcsT t k ++ [pcT t k]) W' → J (pcsT t (k + 1)) W' := fun W' h => by rw [pcsT_succ]; exact h
      have hJx : ∀ W', Jx (pcsT t k ++ [pcT t k]) W' → Jx (pcsT t (k + 1)) W' := fun W' h => by rw [pcsT_succ]; exact h
      unfold encP at hy
      rw [hpt] at hy
      generalize restT t k = R at *
      by_cases h64 : R.size ≤ 64
      · have hmn : min R.size 64 = R.size := by omega
        rw [hmn] at hnext hy
        have hmz : (R.size : Int) ≤ 64 := by omega
        have hmz2 : min (R.size : Int) 64 = (R.size : Int) := by omega
        have hx : R.extract 0 R.size = R := by simp
        rw [hx] at hy
        gi_wp2
        refine hR.mono ?_
        rintro e W3 (⟨rfl, hJ3, _⟩ | ⟨rfl, hJx3⟩)
        · gi_wp2
          go_roundw
          case rel => exact ⟨k + 1, by omega, by simp, by rw [hnext]; simp, hJn _ hJ3⟩
          case measure => simp [intOf]; omega
        · gi_wp2
          refine bodyPost_ret (results_none rfl _ _ _) rfl ?_
          exact ⟨⟨_, rfl⟩, .inr ⟨_, ⟨k + 1, by omega, rfl⟩, hJx _ hJx3⟩⟩
      · have hmn : min R.size 64 = 64 := by omega
        rw [hmn] at hnext hy
        have hmz : ¬ (R.size : Int) ≤ 64 := by omega
        have hmz2 : min (R.size : Int) 64 = 64 := by omega
        have hmz3 : (64 : Int) ≤ (R.size : Int) := by omega
        have hmz4 : 64 ≤ R.size := by omega
        gi_wp2
        refine hR.mono ?_
        rintro e W3 (⟨rfl, hJ3, _⟩ | ⟨rfl, hJx3⟩)
        · gi_wp2
          go_roundw
          case rel => exact ⟨k + 1, by omega, by simp, by rw [hnext], hJn _ hJ3⟩
          case measure => simp [intOf]; omega
        · gi_wp2
          refine bodyPost_ret (results_none rfl _ _ _) rfl ?_
          exact ⟨⟨_, rfl⟩, .inr ⟨_, ⟨k + 1, by omega, rfl⟩, hJx _ hJx3⟩⟩
    · obtain rfl : k = 10 := by omega
      gi_wp2
      go_end0
      exact ⟨⟨_, rfl⟩, .inl ⟨_, rfl, hJs⟩⟩

end Lg
end Go.Proofs.YtaikbojdmfkbhaaGreatDoor

namespace Go.Proofs.YtaikbojdmfkbhaaGreatDoor
open Go.Shelf Go.Lib Go.ChangeShapes Go.WideShapes Go.ChangeAt Go.RowKit
set_option maxRecDepth 100000
set_option linter.unusedSimpArgs false
set_option linter.unusedVariables false

namespace Lg
open Bk Dk Tx
/-- What is written to sector j by these pieces, the first one being write k. -/
def wrsAt (st j : Nat) : Nat → List Pc → List Wr
  | _, [] => []
  | k, x :: r => (if st + x.1.1 = j then [⟨k, padF x.1.2⟩] else []) ++ wrsAt st j (k + 1) r
theorem wrsAt_snoc (st j : Nat) (x : Pc) : ∀ (pre : List Pc) (k : Nat), wrsAt st j k (pre ++ [x]) = wrsAt st j k pre ++ (if st + x.1.1 = j then [⟨(k + pre.length : Nat), padF x.1.2⟩] else [])
  | [], k => by simp [wrsAt]
  | y :: pre, k => by
    rw [List.cons_append, wrsAt, wrsAt_snoc st j x pre (k + 1), wrsAt, List.length_cons, List.append_assoc, show k + 1 + pre.length = k + (pre.length + 1) from by omega]
theorem wrsAt_bit (st j : Nat) : ∀ (pre : List Pc) (k : Nat), ∀ y ∈ wrsAt st j k pre, (k : Int) ≤ y.bit ∧ y.bit < ((k + pre.length : Nat) : Int)
  | [], k, y, h => by simp [wrsAt] at h
  | x :: pre, k, y, h => by
    rw [wrsAt] at h
    rw [List.length_cons]
    rcases List.mem_append.1 h with h | h
    · split at h
      · simp at h; subst h; simp only; omega
      · simp at h
    · have := wrsAt_bit st j pre (k + 1) y h
      omega
theorem wrsAt_len (st j : Nat) : ∀ (pre : List Pc) (k : Nat), (wrsAt st j k pre).length ≤ pre.length
  | [], k => by simp [wrsAt]
  | x :: pre, k => by
    have := wrsAt_len st j pre (k + 1)
    rw [wrsAt, List.length_append, List.length_cons]
    split <;> simp <;> omega
theorem wrsAt_far (st j : Nat) (hj : j < st ∨ st + 10 ≤ j) : ∀ (pre : List Pc) (k : Nat), wrsAt st j k pre = []
  | [], k => rfl
  | x :: pre, k => by
    have hx := x.2.1
    rw [wrsAt, if_neg (by omega), wrsAt_far st j hj pre (k + 1)]
    rfl
theorem pcsT_len (t : ByteArray) (k : Nat) : (pcsT t k).length = k := by unfold pcsT; rw [List.length_map, List.length_range]
theorem wrsAt_all (st j : Nat) (t : ByteArray) : ∀ k, k ≤ 10 → wrsAt st j 0 (pcsT t k) = if st ≤ j ∧ j < st + k then [⟨((j - st : Nat) : Int), padF (pieceT t (j - st))⟩] else []
  | 0, _ => by rw [if_neg (by omega)]; rfl
  | k + 1, hk => by
    rw [pcsT_succ, wrsAt_snoc, wrsAt_all st j t k (by omega), pcsT_len, Nat.zero_add]
    have e1 : (pcT t k).1.1 = k := by show k % 10 = k; omega
    have e2 : (pcT t k).1.2 = pieceT t k := rfl
    rw [e1, e2]
    by_cases h : st + k = j
    · rw [if_neg (by omega), if_pos h, if_pos (by omega), show j - st = k from by omega]
      rfl
    · rw [if_neg h, List.append_nil]
      by_cases h2 : st ≤ j ∧ j < st + k
      · rw [if_pos h2, if_pos (by omega)]
      · rw [if_neg h2, if_neg (by omega)]
/-- The sectors behind some pieces that were written. -/
structure Wrd (secs secs' : List Sec) (st : Nat) (pre : List Pc) : Prop where
  len : secs'.length = secs.length
  kept : ∀ j, j < secs.length → secs'[j]!.kept = secs[j]!.kept
  wr : ∀ j, j < secs.length → secs'[j]!.wr = wrsAt st j 0 pre
theorem Wrd.zero {secs : List Sec} (h : ∀ j, j < secs.length → secs[j]!.wr = []) (st : Nat) : Wrd secs secs st [] := ⟨rfl, fun _ _ => rfl, fun j hj => h j hj⟩
theorem Wrd.more {secs secs' : List Sec} {st : Nat} {pre : List Pc} (h : Wrd secs secs' st pre) (x : Pc) (hx : st + x.1.1 < secs.length) (v' : Value) :
    Wrd secs (secs'.set (st + x.1.1) ⟨secs'[st + x.1.1]!.kept, v', secs'[st + x.1.1]!.wr ++ [⟨(pre.length : Nat), padF x.1.2⟩]⟩) st (pre ++ [x]) := by
  have hl := h.len
  refine ⟨by rw [List.length_set, hl], fun j hj => ?_, fun j hj => ?_⟩
  · rw [set_get secs' _ j _ (by omega) (by omega)]
    by_cases e : st + x.1.1 = j
    · rw [if_pos e, e]; exact h.kept j hj
    · rw [if_neg e]; exact h.kept j hj
  · rw [set_get secs' _ j _ (by omega) (by omega), wrsAt_snoc, Nat.zero_add]
    by_cases e : st + x.1.1 = j
    · rw [if_pos e, if_pos e, e, h.wr j hj]
    · rw [if_neg e, if_neg e, List.append_nil]; exact h.wr j hj
theorem keep_all : ∀ b : Fin 64, keepB 18446744073709551615 (b.val : Int) = true := by decide +kernel
theorem keep_full {b : Int} (h0 : 0 ≤ b) (h1 : b < 64) : keepB 18446744073709551615 b = true := by
  have := keep_all ⟨b.toNat, by omega⟩
  rw [show ((⟨b.toNat, by omega⟩ : Fin 64).val : Int) = b from by show ((b.toNat : Nat) : Int) = b; omega] at this
  exact this
/-- What a slot's sectors, and the first one, hold behind a store. -/
def storeC (secs : List Sec) (nx : Nat) (t : ByteArray) (j : Nat) : Nat → Int :=
  if j = 0 then padF (nameB nx) else if 1 + 10 * nx ≤ j ∧ j < 11 + 10 * nx then padF (pieceT t (j - (1 + 10 * nx))) else secs[j]!.kept
structure Stored (secs secs' : List Sec) (nx : Nat) (t : ByteArray) : Prop where
  len : secs'.length = secs.length
  wr : ∀ j, j < secs.length → secs'[j]!.wr = []
  kept : ∀ j, j < secs.length → secs'[j]!.kept = storeC secs nx t j
structure Fell (secs secs' : List Sec) (nx : Nat) (t : ByteArray) : Prop where
  len : secs'.length = secs.length
  bits : ∀ j, j < secs.length → ∀ y ∈ secs'[j]!.wr, 0 ≤ y.bit ∧ y.bit < 64
  few : ∀ j, j < secs.length → secs'[j]!.wr.length ≤ 900
  alt : ∀ K, (∀ j, j < secs.length → ¬ (1 + 10 * nx ≤ j ∧ j < 11 + 10 * nx) → settleC K secs'[j]!.kept secs'[j]!.wr = secs[j]!.kept) ∨ (∀ j, j < secs.length → settleC K secs'[j]!.kept secs'[j]!.wr = storeC secs nx t j)
theorem Wrd.fell {secs secs' : List Sec} {nx : Nat} {pre : List Pc} (h : Wrd secs secs' (1 + 10 * nx) pre) (hp : pre.length ≤ 10) (t : ByteArray) : Fell secs secs' nx t := by
  refine ⟨h.len, fun j hj y hy => ?_, fun j hj => ?_, fun K => Or.inl fun j hj hn => ?_⟩
  · rw [h.wr j hj] at hy
    have := wrsAt_bit _ j pre 0 y hy
    omega
  · rw [h.wr j hj]
    have := wrsAt_len (1 + 10 * nx) j pre 0
    omega
  · rw [h.wr j hj, wrsAt_far _ j (by omega), h.kept j hj]
    rfl
/-- Behind the first flush. -/
structure Half (secs secs' : List Sec) (nx : Nat) (t : ByteArray) : Prop where
  len : secs'.length = secs.length
  wr : ∀ j, j < secs.length → secs'[j]!.wr = []
  kept : ∀ j, j < secs.length → secs'[j]!.kept = if 1 + 10 * nx ≤ j ∧ j < 11 + 10 * nx then padF (pieceT t (j - (1 + 10 * nx))) else secs[j]!.kept
theorem Wrd.half {secs secs' : List Sec} {nx : Nat} {t : ByteArray} (h : Wrd secs secs' (1 + 10 * nx) (pcsT t 10)) : Half secs (stl 18446744073709551615 secs' secs'.length) nx t := by
  have hg : ∀ j, j < secs.length → (stl 18446744073709551615 secs' secs'.length)[j]! = setSec 18446744073709551615 secs'[j]! := fun j hj => by
    have := h.len
    rw [stl_get _ secs' j (by omega) _ (Nat.le_refl _), if_pos (by omega)]
  refine ⟨by rw [stl_len, h.len], fun j hj => by rw [hg j hj]; rfl, fun j hj => ?_⟩
  rw [hg j hj]
  show settleC _ secs'[j]!.kept secs'[j]!.wr = _
  rw [h.wr j hj, wrsAt_all _ j t 10 (Nat.le_refl _), h.kept j hj]
  by_cases e : 1 + 10 * nx ≤ j ∧ j < 11 + 10 * nx
  · rw [if_pos (by omega), if_pos e]
    show (if keepB _ _ = true then _ else _) = _
    rw [if_pos (keep_full (by simp only; omega) (by simp only; omega))]
  · rw [if_neg (by omega), if_neg e]
    rfl
theorem Half.fell {secs secs' : List Sec} {nx : Nat} {t : ByteArray} (h : Half secs secs' nx t) : Fell secs secs' nx t := by
  refine ⟨h.len, fun j hj y hy => by rw [h.wr j hj] at hy; simp at hy, fun j hj => by rw [h.wr j hj]; simp, fun K => Or.inl fun j hj hn => ?_⟩
  rw [h.wr j hj, h.kept j hj, if_neg hn]
  rfl
theorem setSec_one (K b : Int) (a d : Nat → Int) (v : Value) : (setSec K ⟨a, v, [⟨b, d⟩]⟩).kept = if keepB K b = true then d else a := rfl
/-- Behind the name. -/
theorem Half.named {secs secs' : List Sec} {nx : Nat} {t : ByteArray} (h : Half secs secs' nx t) (h0 : 0 < secs.length) (v' : Value) :
    Fell secs (secs'.set 0 ⟨secs'[0]!.kept, v', secs'[0]!.wr ++ [⟨0, padF (nameB nx)⟩]⟩) nx t ∧ Stored secs (stl 18446744073709551615 (secs'.set 0 ⟨secs'[0]!.kept, v', secs'[0]!.wr ++ [⟨0, padF (nameB nx)⟩]⟩) secs.length) nx t := by
  have hl := h.len
  have hg : ∀ j, j < secs.length → (secs'.set 0 ⟨secs'[0]!.kept, v', secs'[0]!.wr ++ [⟨0, padF (nameB nx)⟩]⟩)[j]! = if 0 = j then ⟨secs'[0]!.kept, v', [⟨0, padF (nameB nx)⟩]⟩ else secs'[j]! := fun j hj => by
    rw [set_get secs' 0 j _ (by omega) (by omega), h.wr 0 h0]
    rfl
  have hL : (secs'.set 0 ⟨secs'[0]!.kept, v', secs'[0]!.wr ++ [⟨0, padF (nameB nx)⟩]⟩).length = secs.length := by rw [List.length_set, hl]
  generalize (secs'.set 0 ⟨secs'[0]!.kept, v', secs'[0]!.wr ++ [⟨0, padF (nameB nx)⟩]⟩) = S3 at *
  have hk : ∀ j, j < secs.length → ¬ j = 0 → secs'[j]!.kept = storeC secs nx t j := fun j hj h' => by
    rw [h.kept j hj]
    unfold storeC
    rw [if_neg h']
  constructor
  · refine ⟨hL, fun j hj y hy => ?_, fun j hj => ?_, fun K => ?_⟩
    · rw [hg j hj] at hy
      split at hy
      · simp at hy; subst hy; simp
      · rw [h.wr j hj] at hy; simp at hy
    · rw [hg j hj]
      split
      · simp
      · rw [h.wr j hj]; simp
    · by_cases hK : keepB K 0 = true
      · refine Or.inr fun j hj => ?_
        rw [hg j hj]
        by_cases e : 0 = j
        · rw [if_pos e]
          subst e
          show (if keepB K 0 = true then padF (nameB nx) else _) = _
          rw [if_pos hK]
          rfl
        · rw [if_neg e, h.wr j hj]
          exact hk j hj (fun e' => e e'.symm)
      · refine Or.inl fun j hj hn => ?_
        rw [hg j hj]
        by_cases e : 0 = j
        · rw [if_pos e]
          subst e
          show (if keepB K 0 = true then padF (nameB nx) else _) = _
          rw [if_neg hK, h.kept 0 hj, if_neg hn]
        · rw [if_neg e, h.wr j hj, h.kept j hj, if_neg hn]
          rfl
  · have hs : ∀ j, j < secs.length → (stl 18446744073709551615 S3 secs.length)[j]! = setSec 18446744073709551615 S3[j]! := fun j hj => by
      rw [stl_get _ S3 j (by omega) _ (by omega), if_pos hj]
    refine ⟨by rw [stl_len, hL], fun j hj => by rw [hs j hj]; rfl, fun j hj => ?_⟩
    rw [hs j hj, hg j hj]
    by_cases e : 0 = j
    · rw [if_pos e]
      subst e
      rw [setSec_one, if_pos (keep_full (by omega) (by omega))]
      rfl
    · rw [if_neg e]
      show settleC _ secs'[j]!.kept secs'[j]!.wr = _
      rw [h.wr j hj]
      exact hk j hj (fun e' => e e'.symm)

end Lg
end Go.Proofs.YtaikbojdmfkbhaaGreatDoor
