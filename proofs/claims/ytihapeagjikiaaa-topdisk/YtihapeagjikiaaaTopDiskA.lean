/- Chapter 6: the disk in the statement 'TopDisk': what its sectors hold; for the laws of stage 3. -/
import Derived.Test.YtihapeagjikiaaaDiskJ
namespace Go.Proofs.Ytihapeagjikiaaa
open Go.Shelf Go.Lib Go.ChangeShapes Go.WideShapes Go.ChangeAt Go.RowKit
set_option maxRecDepth 100000
set_option linter.unusedSimpArgs false
set_option linter.unusedVariables false

namespace Dk
open Bk
/-- Sectors of which so many were written since they were settled. -/
structure DOk4 (secs : List Sec) (n : Nat) : Prop where
  len : secs.length = 4
  few : ∀ i, i < 4 → secs[i]!.wr.length ≤ n
  bit : ∀ i, i < 4 → ∀ y ∈ secs[i]!.wr, 0 ≤ y.bit ∧ y.bit < n
theorem DOk4.new : DOk4 (List.replicate 4 secZ) 0 := by
  have hv : ∀ i, i < 4 → (List.replicate 4 secZ)[i]! = secZ := fun i hi => by rw [getElem!_pos _ i (by simpa using hi), List.getElem_replicate]
  exact ⟨rfl, fun i hi => by rw [hv i hi]; exact Nat.le_refl _, fun i hi y hy => by rw [hv i hi] at hy; cases hy⟩
theorem DOk4.stl {secs : List Sec} {n : Nat} (h : DOk4 secs n) (K : Int) : DOk4 (stl K secs secs.length) 0 := by
  have hv : ∀ i, i < 4 → (Dk.stl K secs secs.length)[i]! = setSec K secs[i]! := fun i hi => by rw [stl_get K secs i (by rw [h.len]; exact hi) _ (Nat.le_refl _), if_pos (by rw [h.len]; exact hi)]
  exact ⟨by rw [stl_len]; exact h.len, fun i hi => by rw [hv i hi]; exact Nat.le_refl _, fun i hi y hy => by rw [hv i hi] at hy; cases hy⟩
theorem DOk4.write {secs : List Sec} {n : Nat} (h : DOk4 secs n) {i : Nat} (hi : i < 4) (v' : Value) (d : Nat → Int) : DOk4 (secs.set i ⟨secs[i]!.kept, v', secs[i]!.wr ++ [⟨n, d⟩]⟩) (n + 1) := by
  have hg : ∀ j, j < 4 → (secs.set i ⟨secs[i]!.kept, v', secs[i]!.wr ++ [⟨n, d⟩]⟩)[j]! = if i = j then ⟨secs[i]!.kept, v', secs[i]!.wr ++ [⟨n, d⟩]⟩ else secs[j]! := fun j hj => set_get secs i j _ (by rw [h.len]; exact hi) (by rw [h.len]; exact hj)
  refine ⟨by rw [List.length_set]; exact h.len, fun j hj => ?_, fun j hj y hy => ?_⟩
  · rw [hg j hj]
    by_cases e : i = j
    · rw [if_pos e]
      have := h.few i hi
      rw [List.length_append]
      exact Nat.succ_le_succ this
    · rw [if_neg e]
      have := h.few j hj
      omega
  · rw [hg j hj] at hy
    by_cases e : i = j
    · rw [if_pos e] at hy
      rcases List.mem_append.1 hy with hy | hy
      · have := h.bit i hi y hy
        omega
      · simp at hy
        subst hy
        exact ⟨by simp, by simp; omega⟩
    · rw [if_neg e] at hy
      have := h.bit j hj y hy
      omega
theorem readN_ok {n : Nat} {x : Int} (h : hasN n x = true) : readN n false x = 0 := by unfold readN; rw [h]; rfl
theorem readS_ok {secs : List Sec} {x : Int} (h : hasN secs.length x = true) : readS secs false x = strOf secs[x.toNat]!.now := by unfold readS; rw [h]; rfl
/-- What a sector would read if all began anew now. -/
def wantC (K : Int) (s : Sec) : Nat → Int := settleC K s.kept s.wr
theorem want_nil (K : Int) (s : Sec) (h : s.wr = []) : s.now = wantC K s := by
  unfold Sec.now wantC settleC
  rw [h]
  rfl
theorem now_more (s : Sec) (v' : Value) (y : Wr) : Sec.now ⟨s.kept, v', s.wr ++ [y]⟩ = y.dat := by
  unfold Sec.now
  simp
theorem want_more (K : Int) (s : Sec) (v' : Value) (y : Wr) : wantC K ⟨s.kept, v', s.wr ++ [y]⟩ = if keepB K y.bit = true then y.dat else wantC K s := settleC_more K s.kept s.wr y
theorem now_set (K : Int) (s : Sec) : (setSec K s).now = wantC K s := rfl
/-- Write, in one form: whether it was written or not. -/
def Wrote (base db sb : Nat) (secs : List Sec) (n : Nat) (x : Int) (S : ByteArray) (w : World) (ok : Bool) (w' : World) : Prop :=
  DFr base w w' ∧ ((ok = false ∧ DiskAt w' base db sb secs n false 0 false) ∨ (ok = true ∧ hasN 4 x = true ∧ ∃ v', DiskAt w' base db sb (secs.set x.toNat ⟨secs[x.toNat]!.kept, v', secs[x.toNat]!.wr ++ [⟨n, padF S⟩]⟩) ((n + 1 : Nat) : Int) false 0 false))
theorem write_both (base db sb : Nat) (secs : List Sec) (n : Nat) (x : Int) (S : ByteArray) (w : World) (h : DiskAt w base db sb secs n false 0 false) (hbase : base ≤ w.heap.size) (hok : DOk4 secs n) (hn : n ≤ 60) (hS : S.size ≤ maxLen) :
    Calls Try.prog 36 #[.pointer (some ⟨db, 0, none⟩), .int .i64 x, .string S] w fun e w' => ∃ (er : Value) (ok : Bool), e = .returned er ∧ Wrote base db sb secs n x S w ok w' :=
  (write_any base db sb secs n 0 x S w h hbase (by omega) (by omega) (fun i hi y hy => by
    rw [hok.len] at hi
    have := hok.bit i hi y hy
    omega) (fun i hi => by rw [hok.len] at hi; have := hok.few i hi; omega) (by rw [hok.len]; decide) hS).mono (by
    intro e w' hq
    rcases hq with ⟨_, rfl, rfl⟩ | ⟨hq, rfl, hF, v', hD⟩
    · exact ⟨_, false, rfl, DFr.refl _ _, Or.inl ⟨rfl, h⟩⟩
    · refine ⟨_, true, rfl, hF, Or.inr ⟨rfl, ?_, v', ?_⟩⟩
      · rw [hok.len] at hq
        simp only [Bool.and_eq_true] at hq
        exact hq.1
      · rw [show ((n + 1 : Nat) : Int) = (n : Int) + 1 from by omega]
        exact hD)
/-- Write, where it may be, and where not. -/
theorem write_ok (base db sb : Nat) (secs : List Sec) (n : Nat) (x : Int) (S : ByteArray) (w : World) (h : DiskAt w base db sb secs n false 0 false) (hbase : base ≤ w.heap.size) (hok : DOk4 secs n) (hn : n ≤ 60) (hS : S.size ≤ maxLen) (hq : (hasN 4 x && decide (S.size ≤ 64)) = true) :
    Calls Try.prog 36 #[.pointer (some ⟨db, 0, none⟩), .int .i64 x, .string S] w fun e w' => e = .returned .nilIface ∧ DFr base w w' ∧ ∃ v', DiskAt w' base db sb (secs.set x.toNat ⟨secs[x.toNat]!.kept, v', secs[x.toNat]!.wr ++ [⟨n, padF S⟩]⟩) ((n + 1 : Nat) : Int) false 0 false :=
  (write_any base db sb secs n 0 x S w h hbase (by omega) (by omega) (fun i hi y hy => by
    rw [hok.len] at hi
    have := hok.bit i hi y hy
    omega) (fun i hi => by rw [hok.len] at hi; have := hok.few i hi; omega) (by rw [hok.len]; decide) hS).mono (by
    intro e w' hh
    rcases hh with ⟨h1, _, _⟩ | ⟨_, rfl, hF, v', hD⟩
    · rw [hok.len, hq] at h1; cases h1
    · refine ⟨rfl, hF, v', ?_⟩
      rw [show ((n + 1 : Nat) : Int) = (n : Int) + 1 from by omega]
      exact hD)
theorem write_bad (base db sb : Nat) (secs : List Sec) (n : Nat) (x : Int) (S : ByteArray) (w : World) (h : DiskAt w base db sb secs n false 0 false) (hbase : base ≤ w.heap.size) (hok : DOk4 secs n) (hn : n ≤ 60) (hS : S.size ≤ maxLen) (hq : (hasN 4 x && decide (S.size ≤ 64)) = false) :
    Calls Try.prog 36 #[.pointer (some ⟨db, 0, none⟩), .int .i64 x, .string S] w fun e w' => e = .returned (.iface 115 (.int .i64 1)) ∧ w' = w :=
  (write_any base db sb secs n 0 x S w h hbase (by omega) (by omega) (fun i hi y hy => by
    rw [hok.len] at hi
    have := hok.bit i hi y hy
    omega) (fun i hi => by rw [hok.len] at hi; have := hok.few i hi; omega) (by rw [hok.len]; decide) hS).mono (by
    intro e w' hh
    rcases hh with ⟨_, rfl, rfl⟩ | ⟨h1, _⟩
    · exact ⟨rfl, rfl⟩
    · rw [hok.len, hq] at h1; cases h1)

end Dk
end Go.Proofs.Ytihapeagjikiaaa
