/- HsM. -/
import Derived.Test.YtopgllmjeliklaaGreatDoorKtHsZ
import Derived.Laws.BitsLemmas
set_option maxRecDepth 100000
set_option linter.unusedSimpArgs false
set_option linter.unusedVariables false
namespace Go.Proofs.YtopgllmjeliklaaGreatDoor
open Go.Shelf Go.Lib Go.ChangeShapes Go.WideShapes Go.ChangeAt Go.RowKit
namespace Hs
open Bk Lg Pl Dk Tx Tn Ac
theorem mask_any (n M : Int) (p : Nat) (hp : p ≤ 20) (hM : (BitVec.ofInt 64 M).toNat = 2 ^ p - 1) (h2 : 2 ^ p ≤ 1048576) : ∃ r : Nat, r < 2 ^ p ∧ bits .and .i64 n M = (r : Int) := by
 have key : (BitVec.ofInt 64 n &&& BitVec.ofInt 64 M).toNat = (n % ((2 ^ 64 : Nat) : Int)).toNat % 2 ^ p := by
  rw [BitVec.toNat_and, BitVec.toNat_ofInt, hM, Nat.and_two_pow_sub_one_eq_mod]
 have hlt : (n % ((2 ^ 64 : Nat) : Int)).toNat % 2 ^ p < 2 ^ p := Nat.mod_lt _ (Nat.two_pow_pos p); refine ⟨(n % ((2 ^ 64 : Nat) : Int)).toNat % 2 ^ p, hlt, ?_⟩
 show IntKind.i64.wrap ((BitVec.ofInt 64 n &&& BitVec.ofInt 64 M).toNat : Nat) = _
 rw [key, IntKind.wrap_i64]
 omega
theorem mask63 (n : Int) : ∃ r : Nat, r < 64 ∧ bits .and .i64 n 63 = (r : Int) := mask_any n 63 6 (by decide) (by decide) (by decide)
theorem ownBk {w : World} {base : Nat} {last : Int} {sa ja : Option Addr} {sc jc : Nat} {S : List Stay} {J : List Job} (h : OwnBook w base (.slice sa S.length sc) (.slice ja J.length jc) S J) : Book.At ⟨last, sa, sc, ja, jc, S, J⟩ w := by
 obtain ⟨sa', sc', ja', jc', e1, e2, hat⟩ := own_at2 (last := last) h
 cases e1
 cases e2
 exact hat
theorem ownFr {w w' : World} {b base : Nat} {vs vj : Value} {S : List Stay} {J : List Job} (h : OwnBook w base vs vj S J) (f : HFr b w w') : OwnBook w' base vs vj S J :=
 ⟨OwnAt.far2 h.s fun g arr hk => f.far g arr _ (by decide) (by decide) (by decide) (by decide) (by decide) (by decide) hk, OwnAt.far2 h.j fun g arr hk => f.far g arr _ (by decide) (by decide) (by decide) (by decide) (by decide) (by decide) hk, h.ne⟩
end Hs
end Go.Proofs.YtopgllmjeliklaaGreatDoor
