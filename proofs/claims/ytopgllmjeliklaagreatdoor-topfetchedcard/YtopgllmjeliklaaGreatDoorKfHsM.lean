/- HsM. -/
import Derived.Test.YtopgllmjeliklaaGreatDoorKfCars
import Derived.Laws.BitsLemmas
set_option maxRecDepth 100000
set_option linter.unusedSimpArgs false
set_option linter.unusedVariables false
namespace Go.Proofs.YtopgllmjeliklaaGreatDoor
open Go.Shelf Go.Lib Go.ChangeShapes Go.WideShapes Go.ChangeAt Go.RowKit
namespace Hs
open Bk Lg Pl Dk Tx Tn Ac
theorem mask_any (n M : Int) (p : Nat) (hp : p <= 20) (hM : (BitVec.ofInt 64 M).toNat = 2 ^ p - 1) (h2 : 2 ^ p <= 1048576) : ∃ r : Nat, r < 2 ^ p /\ bits .and .i64 n M = (r : Int) := by
 have key : (BitVec.ofInt 64 n &&& BitVec.ofInt 64 M).toNat = (n % ((2 ^ 64 : Nat) : Int)).toNat % 2 ^ p := by
  rw [BitVec.toNat_and, BitVec.toNat_ofInt, hM, Nat.and_two_pow_sub_one_eq_mod]
 have hlt : (n % ((2 ^ 64 : Nat) : Int)).toNat % 2 ^ p < 2 ^ p := Nat.mod_lt _ (Nat.two_pow_pos p); refine ⟨(n % ((2 ^ 64 : Nat) : Int)).toNat % 2 ^ p, hlt, ?_⟩
 show IntKind.i64.wrap ((BitVec.ofInt 64 n &&& BitVec.ofInt 64 M).toNat : Nat) = _
 rw [key, IntKind.wrap_i64]
 omega
theorem mask1023 (n : Int) : ∃ r : Nat, r < 1024 /\ bits .and .i64 n 1023 = (r : Int) := mask_any n 1023 10 (by decide) (by decide) (by decide)
end Hs
end Go.Proofs.YtopgllmjeliklaaGreatDoor
