/- The statement TopCrash (its card): a ledger through a fall; no condition beside what the card ties (tables and errors of the library, as their text lays them). -/
import Derived.Test.YtaikbojdmfkbhaaGreatDoorJTopCrash
import Derived.Test.YtaikbojdmfkbhaaGreatDoorCardKit
import Derived.Test.YtaikbojdmfkbhaaGreatDoorTopCrashFacts
import Derived.Test.YtaikbojdmfkbhaaGreatDoorCards
import Derived.Test.YtaikbojdmfkbhaaGreatDoorTie
namespace Go.Proofs.YtaikbojdmfkbhaaGreatDoor
open Go.ChangeShapes Go.WideShapes Go.ChangeAt Go.RowKit
set_option maxRecDepth 100000
set_option linter.unusedVariables false

theorem topCrash_reads (os : Os) {H : Type} (enc : TypeId × Value → H) : ∃ places, DataW.whole enc Tryz.prog ((World.laidAll Tryz.prog os Rows.topCrashRow.laid).forCall (fun _ _ => 0) ⟨#[], #[.int .i64 0, .slice none 0 0, .int .i64 0, .int .u64 0], []⟩).memory Tryz.f4.params.toList Rows.topCrashSpec.vars false (#[.int .i64 0, .slice none 0 0, .int .i64 0, .int .u64 0] : Array Value).toList 8 = some ([.lit (.int .i64 0), .nil, .lit (.int .i64 0), .lit (.int .u64 0)], [], places) :=
  ⟨[], by kernel_rfl⟩
theorem topCrash_laid (os : Os) : laidMetH Tryz.prog Rows.topCrashRow.laid ((World.laidAll Tryz.prog os Rows.topCrashRow.laid).forCall (fun _ _ => 0) ⟨#[], #[.int .i64 0, .slice none 0 0, .int .i64 0, .int .u64 0], []⟩).memory := by
  rw [Go.MakeChecks.laidMetH_plain _ _ _ (by kernel_rfl)]
  exact laidMet_laidAll _ (by kernel_rfl) (by kernel_rfl)
theorem topCrash_lifted (os : Os) (started : os.Started) (H : Type) (enc : TypeId × Value → H) (I : Stop.Interp) :
    ReturnsInHanded {} Tryz.checked os 4 .any ((OpenSpec.ofChange Rows.topCrashSpec).preRow enc Tryz.prog Tryz.f4 Rows.topCrashRow.domain false Rows.topCrashRow.laid) (((OpenSpec.ofChange Rows.topCrashSpec).at I).post enc Tryz.prog Tryz.f4 false true false false) := by
  obtain ⟨places, hx⟩ := topCrash_reads os enc
  exact Tx.row_lifted (s := Rows.topCrashSpec) os started H enc I (by kernel_rfl) Tryz.func4
    (witness_row_at (enc := enc) (C := Tryz.checked) false (World.laidAll Tryz.prog os Rows.topCrashRow.laid) #[.int .i64 0, .slice none 0 0, .int .i64 0, .int .u64 0] rfl (by kernel_rfl) (by kernel_rfl) (by kernel_rfl)
      (OpenSpec.preRow_of_cond 8 hx (by kernel_rfl) (fun k hk => by cases hk) (by kernel_rfl) (topCrash_laid os)))
    (by kernel_rfl) (by kernel_rfl) rfl
    (fun ds h => by
      match ds, h with
      | [_, _, _, _], _ => rfl)
    (by kernel_rfl) (by kernel_rfl) (by kernel_rfl) (by kernel_rfl)
    (fun W base args ds p hval hsz hA hlt G => by
      rw [Tryz.params4] at hval hA
      obtain ⟨a, b, c, e, rfl⟩ := Lg.size4 (hsz.trans (by rw [Tryz.params4]; rfl))
      obtain ⟨v0, v1, v2, v3, d0, d1, d2, d3, p0, p1, p2, p3, hv, rfl, rfl, h0, h1, h2, h3⟩ := trodAll_four hA
      cases hv
      obtain ⟨lv, rfl, _⟩ := val_int Tryz.underlying3 (hval 0 3 a rfl rfl)
      obtain ⟨len, f, g, hs, hg⟩ := Ac.open_actsB (hval 1 22 b rfl rfl) h1 (fun x hx => hlt x (by simp [hx]))
      obtain ⟨fuse, rfl, _⟩ := val_int Tryz.underlying3 (hval 2 3 c rfl rfl)
      obtain ⟨K, rfl, _⟩ := val_int Tryz.underlying43 (hval 3 43 e rfl rfl)
      exact Lg.topCrash_any lv b len f g fuse K W hs hg G)

theorem topCrash_row : Rows.TopCrashSaid :=
  OpenClaim.holds_of_cond 4 Tryz.f4 rfl rfl rfl rfl rfl rfl rfl ⟨rfl, rfl, rfl, rfl, rfl⟩ rfl rfl rfl rfl rfl (by kernel_rfl) Tryz.func4 Lg.crash_facts
    (of_decide_eq_true (by kernel_rfl)) (by unfold Func.isWrapper; first | (rw [if_pos (by decide +kernel)]; kernel_rfl) | (rw [if_neg (by decide +kernel)]; exact ⟨rfl, rfl⟩))
    (fun os started H enc _ I => by rw [OpenClaim.pre_eq_preRow]; exact topCrash_lifted os started H enc I)

theorem topCrash_plain (f : FuncId) (fn : Func) (hf : Tryz.pinned.checked.prog.funcNamed Tryz.f4.name = some f) (hfn : Tryz.pinned.checked.prog.funcs[f]? = some fn) :
    true = Tryz.pinned.checked.prog.looks [] ∧ ∀ (j : Nat) t, fn.params[j]? = some t → Tryz.pinned.checked.prog.wantsStandIn t = false := by
  obtain rfl : f = 4 := Option.some.inj ((show Tryz.prog.funcNamed Tryz.f4.name = some 4 by kernel_rfl).symm.trans hf) |>.symm
  obtain rfl : fn = Tryz.f4 := (Option.some.inj (Tryz.func4.symm.trans hfn)).symm
  refine ⟨by kernel_rfl, fun j t ht => ?_⟩
  rw [Tryz.params4] at ht
  rcases j with _ | _ | _ | _ | j
  · simp at ht; subst ht; kernel_rfl
  · simp at ht; subst ht; kernel_rfl
  · simp at ht; subst ht; kernel_rfl
  · simp at ht; subst ht; kernel_rfl
  · simp at ht

/-- The statement: the card. -/
theorem topCrash_card : Rows.TopCrashCardSaid :=
  Claim7.holds_tied_plain_at .later [] _ _ _ _ topCrash_row (fun _ h => by cases h) (by kernel_rfl) (fun _ h => by cases h) topCrash_row_tie rfl ⟨rfl, rfl⟩ (by kernel_rfl) rfl topCrash_plain (by kernel_rfl)

end Go.Proofs.YtaikbojdmfkbhaaGreatDoor
