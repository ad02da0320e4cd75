/- Chapter 6: the disk: what was written is kept, or lost (all sectors); flushed; begun anew; contracts for the laws of stage 3. -/
import Derived.Test.YtmojjjikaaclpaaDiskH
namespace Go.Proofs.Ytmojjjikaaclpaa
open Go.Shelf Go.Lib Go.ChangeShapes Go.WideShapes Go.ChangeAt Go.RowKit
set_option maxRecDepth 100000
set_option linter.unusedSimpArgs false
set_option linter.unusedVariables false

namespace Dk
open Bk
def setSec (K : Int) (s : Sec) : Sec := ⟨settleC K s.kept s.wr, .slice none 0 0, []⟩
/-- The first k sectors are settled. -/
def stl (K : Int) (secs : List Sec) : Nat → List Sec
  | 0 => secs
  | k + 1 => (stl K secs k).set k (setSec K (stl K secs k)[k]!)
theorem stl_len (K : Int) (secs : List Sec) : ∀ k, (stl K secs k).length = secs.length
  | 0 => rfl
  | k + 1 => by rw [stl, List.length_set, stl_len K secs k]
theorem stl_get (K : Int) (secs : List Sec) (j : Nat) (hj : j < secs.length) : ∀ k, k ≤ secs.length → (stl K secs k)[j]! = if j < k then setSec K secs[j]! else secs[j]!
  | 0, _ => by rw [if_neg (by omega)]; rfl
  | k + 1, hk => by
    have ih := stl_get K secs j hj k (by omega)
    rw [stl, set_get _ _ _ _ (by rw [stl_len]; omega) (by rw [stl_len]; exact hj)]
    by_cases e : k = j
    · subst e
      rw [if_pos rfl, if_pos (by omega), ih, if_neg (by omega)]
    · rw [if_neg e, ih]
      by_cases h1 : j < k
      · rw [if_pos h1, if_pos (by omega)]
      · rw [if_neg h1, if_neg (by omega)]
/-- The disk with one sector settled. -/
theorem DiskAt.settled {w w' : World} {base db sb : Nat} {secs : List Sec} {bit : Int} {armed : Bool} {left : Int} {down : Bool} {i : Nat} {c : Nat → Int} (h : DiskAt w base db sb secs bit armed left down) (hi : i < secs.length)
    (hB : Blk w' sb ((setRow (secs.flatMap Sec.enc).toArray (i * 65) (conV c)).setIfInBounds (i * 65 + 64) (.slice none 0 0)) 74) (hg : w.grownBy w' (some sb)) :
    DiskAt w' base db sb (secs.set i ⟨c, .slice none 0 0, []⟩) bit armed left down := by
  have hdb : db ≠ sb := fun e => by
    have h1 := h.d
    rw [e] at h1
    exact absurd (blk_typeD h1 h.s) (by decide)
  have hfl := flat_len Sec.enc 65 Sec.enc_len secs
  have hfit : i * 65 + 65 ≤ secs.length * 65 := by omega
  refine ⟨?_, ?_, ?_, ?_, h.hb⟩
  · rw [List.length_set]
    exact (hg.block db h.d.lt (fun e => hdb (by injection e))).trans h.d
  · have e : ((setRow (secs.flatMap Sec.enc).toArray (i * 65) (conV c)).setIfInBounds (i * 65 + 64) (.slice none 0 0)) = ((secs.set i ⟨c, .slice none 0 0, []⟩).flatMap Sec.enc).toArray := by
      refine flat_of _ _ (by simp only [Array.size_setIfInBounds, Bk.setRow_size, List.size_toArray, List.length_set]; exact hfl) (fun j hj r hr => ?_)
      rw [List.length_set] at hj
      rw [set_get secs i j _ hi hj, Array.getElem?_setIfInBounds]
      by_cases e : i = j
      · subst e
        rw [if_pos rfl]
        by_cases er : r = 64
        · subst er
          rw [if_pos rfl, if_pos (by rw [Bk.setRow_size]; simp only [List.size_toArray]; omega)]
          unfold Sec.enc
          rw [List.getElem?_append_right (by rw [conV_len]; exact Nat.le_refl _), conV_len]
          rfl
        · rw [if_neg (by omega), setRow_in _ _ _ _ (by rw [conV_len]; omega) (by rw [conV_len]; simp only [List.size_toArray]; omega)]
          unfold Sec.enc
          rw [List.getElem?_append_left (by rw [conV_len]; omega)]
      · rw [if_neg e, if_neg (by omega), setRow_out _ _ _ _ (by rw [conV_len]; omega), List.getElem?_toArray, flat_get Sec.enc 65 Sec.enc_len secs j r hj hr]
    rw [← e]
    exact hB
  · intro j hj
    rw [List.length_set] at hj
    rw [set_get secs i j _ hi hj]
    by_cases e : i = j
    · rw [if_pos e]; exact Or.inl ⟨rfl, rfl⟩
    · rw [if_neg e]
      exact (h.own j hj).grown hg (fun g e1 e2 => by
        injection e2 with e2
        subst e2
        exact own_neD (h.own j hj) h.s (by decide) e1)
  · intro a b ha hb hab g hga
    rw [List.length_set] at ha hb
    rw [set_get secs i a _ hi ha] at hga
    rw [set_get secs i b _ hi hb]
    by_cases ea : i = a
    · rw [if_pos ea] at hga
      simp [Value.ownBlock] at hga
    · rw [if_neg ea] at hga
      by_cases eb : i = b
      · rw [if_pos eb]
        simp [Value.ownBlock]
      · rw [if_neg eb]
        exact h.ne a b ha hb hab g hga
theorem DFr.of_grown {base : Nat} {w w' : World} {sb : Nat} {C : Array Value} (hg : w.grownBy w' (some sb)) (hB : Blk w sb C 74) (hb : base ≤ sb) : DFr base w w' := by
  have hsb := hB.lt
  refine ⟨⟨hg.os, hg.tape, hg.output, hg.size, fun k hk => hg.block k (by omega) (by simp; omega)⟩, fun k arr T h1 h2 h3 hk => (hg.block k hk.lt (fun e => ?_)).trans hk, hg.size, fun k o hk ho => (hg.block k (Array.getElem?_eq_some_iff.1 hk).1 (fun e => ?_)).trans hk⟩
  · injection e with e
    subst e
    exact h2 (blk_typeD hk hB)
  · injection e with e
    subst e
    rw [show w.heap[_]? = _ from hB] at hk
    cases hk; cases ho

set_option maxHeartbeats 2000000 in
theorem settle_any (base db sb : Nat) (secs : List Sec) (bit : Int) (armed : Bool) (left : Int) (down : Bool) (K : Int) (w : World) (h : DiskAt w base db sb secs bit armed left down) (hbase : base ≤ w.heap.size) (hl : ∀ i, i < secs.length → secs[i]!.wr.length ≤ 1000) (hbit : ∀ i, i < secs.length → ∀ y ∈ secs[i]!.wr, 0 ≤ y.bit ∧ y.bit < 64) (hn : secs.length ≤ 1000) :
    Calls Try.prog 26 #[.pointer (some ⟨db, 0, none⟩), .int .u64 K] w fun e w' => e = .returned (.tuple #[]) ∧ DiskAt w' base db sb (stl K secs secs.length) 0 armed left down ∧ DFr base w w' := by
  have c0 := h.d.cell 0
  have H0 : Hid (DiskAt w base db sb secs bit armed left down) := h
  have HBI : Hid (∀ i, i < secs.length → ∀ y ∈ secs[i]!.wr, 0 ≤ y.bit ∧ y.bit < 64) := hbit
  have HLE : Hid (∀ i, i < secs.length → secs[i]!.wr.length ≤ 1000) := hl
  generalize hPP : (fun (e : Ending) (w' : World) => e = .returned (.tuple #[]) ∧ DiskAt w' base db sb (stl K secs secs.length) 0 armed left down ∧ DFr base w w') = PP
  have HP : Hid (∀ w', DiskAt w' base db sb (stl K secs secs.length) 0 armed left down → DFr base w w' → PP (.returned (.tuple #[])) w') := fun w' h1 h2 => by rw [← hPP]; exact ⟨rfl, h1, h2⟩
  clear hPP h hbit hl
  simp only [List.getElem?_toArray, List.getElem?_cons_zero] at c0
  go_enter Try.func26, Try.ntmps26
  go_wp2_with fail
  clear c0
  go_loopg [10] secs.length (fun gg s10 wr => ∃ k : Nat, k ≤ secs.length ∧ secs.length - k ≤ gg ∧ s10 = .int .i64 k ∧ Hid (DiskAt wr base db sb (stl K secs k) bit armed left down ∧ DFr base w wr))
  case atStart => exact ⟨0, Nat.zero_le _, by omega, rfl, H0.out, DFr.refl _ _⟩
  case round =>
    clear H0
    obtain ⟨k, hk, hg, rfl, M⟩ := hrel
    by_cases hlt : k < secs.length
    · have hltz : (k : Int) < (secs.length : Int) := by omega
      have c0 := M.out.1.d.cell 0
      rw [stl_len] at c0
      simp only [List.getElem?_toArray, List.getElem?_cons_zero] at c0
      have hk' : k < (stl K secs k).length := by rw [stl_len]; exact hlt
      have hge : (stl K secs k)[k]! = secs[k]! := by rw [stl_get K secs k hlt k hk, if_neg (by omega)]
      have HC : Hid (Calls Try.prog 29 #[.pointer (some ⟨sb, k * 65, none⟩), .int .u64 K] wr fun e w' => e = .returned (.tuple #[]) ∧ Blk w' sb ((setRow ((stl K secs k).flatMap Sec.enc).toArray (k * 65) (conV (settleC K (stl K secs k)[k]!.kept (stl K secs k)[k]!.wr))).setIfInBounds (k * 65 + 64) (.slice none 0 0)) 74 ∧ wr.grownBy w' (some sb)) :=
        secSettle_any base sb (k * 65) (stl K secs k)[k]! K _ wr (M.out.1.sec hk') M.out.1.s (by rw [hge]; exact HLE.out k hlt) (by rw [hge]; exact HBI.out k hlt) (by simp only [List.size_toArray]; rw [flat_len Sec.enc 65 Sec.enc_len, stl_len]; omega)
      go_wp2_with fail
      clear c0
      refine HC.out.mono ?_
      rintro e w2 ⟨rfl, hB, hgr⟩
      have N : Hid (DiskAt w2 base db sb (stl K secs (k + 1)) bit armed left down ∧ DFr base w w2) := ⟨M.out.1.settled hk' hB hgr, M.out.2.trans (DFr.of_grown hgr M.out.1.s M.out.1.hb.2) hbase⟩
      clear hB hgr M HC
      go_wp2
      go_roundg (secs.length - (k + 1))
      case measure => omega
      case rel => exact ⟨k + 1, by omega, by omega, by go_num, N⟩
    · have hltz : ¬ (k : Int) < (secs.length : Int) := by omega
      have hke : k = secs.length := by omega
      subst hke
      have r1 := M.out.1.d.cell 1
      simp only [List.getElem?_toArray, List.getElem?_cons_succ, List.getElem?_cons_zero] at r1
      have f1 := M.out.1.d.free
      have HF : Hid (PP (.returned (.tuple #[])) (wr.setCell ⟨db, 1, none⟩ (.int .i64 0))) := HP.out _ (M.out.1.setBit 0) (M.out.2.trans (DFr.of_set M.out.1.d M.out.1.hb.1 1 _) hbase)
      clear HP M
      go_wp2
      go_returns
      exact HF.out

end Dk
end Go.Proofs.Ytmojjjikaaclpaa
