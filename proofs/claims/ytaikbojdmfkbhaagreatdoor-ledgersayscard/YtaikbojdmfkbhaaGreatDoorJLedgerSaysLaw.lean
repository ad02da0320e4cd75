/- The statement LedgerSays (its card): any disk, any levels, any acts; no condition beside what the card ties (tables and errors of the library, as their text lays them). -/
import Derived.Test.YtaikbojdmfkbhaaGreatDoorJTextQ
import Derived.Test.YtaikbojdmfkbhaaGreatDoorRBookEq
import Derived.Test.YtaikbojdmfkbhaaGreatDoorJCardKit
import Derived.Test.YtaikbojdmfkbhaaGreatDoorCards
import Derived.Test.YtaikbojdmfkbhaaGreatDoorTie
namespace Go.Proofs.YtaikbojdmfkbhaaGreatDoor
open Go.ChangeShapes Go.WideShapes Go.ChangeAt Go.RowKit
set_option maxRecDepth 100000
set_option linter.unusedVariables false

theorem ledgerSays_reads (os : Os) {H : Type} (enc : TypeId × Value → H) : ∃ places, DataW.whole enc Tryz.prog ((World.laidAll Tryz.prog os Rows.ledgerSaysRow.laid).forCall (fun _ _ => 0) ⟨#[], #[.int .i64 0, .int .i64 0, .slice none 0 0], []⟩).memory Tryz.f3.params.toList Rows.ledgerSaysSpec.vars false (#[.int .i64 0, .int .i64 0, .slice none 0 0] : Array Value).toList 8 = some ([.lit (.int .i64 0), .lit (.int .i64 0), .nil], [], places) :=
  ⟨[], by kernel_rfl⟩
theorem ledgerSays_laid (os : Os) : laidMetH Tryz.prog Rows.ledgerSaysRow.laid ((World.laidAll Tryz.prog os Rows.ledgerSaysRow.laid).forCall (fun _ _ => 0) ⟨#[], #[.int .i64 0, .int .i64 0, .slice none 0 0], []⟩).memory := by
  rw [Go.MakeChecks.laidMetH_plain _ _ _ (by kernel_rfl)]
  exact laidMet_laidAll _ (by kernel_rfl) (by kernel_rfl)
theorem ledgerSays_lifted (os : Os) (started : os.Started) (H : Type) (enc : TypeId × Value → H) (I : Stop.Interp) :
    ReturnsInHanded {} Tryz.checked os 3 .any ((OpenSpec.ofChange Rows.ledgerSaysSpec).preRow enc Tryz.prog Tryz.f3 Rows.ledgerSaysRow.domain false Rows.ledgerSaysRow.laid) (((OpenSpec.ofChange Rows.ledgerSaysSpec).at I).post enc Tryz.prog Tryz.f3 false true false false) := by
  obtain ⟨places, hx⟩ := ledgerSays_reads os enc
  exact Tx.row_lifted (s := Rows.ledgerSaysSpec) os started H enc I (by kernel_rfl) Tryz.func3
    (witness_row_at (enc := enc) (C := Tryz.checked) false (World.laidAll Tryz.prog os Rows.ledgerSaysRow.laid) #[.int .i64 0, .int .i64 0, .slice none 0 0] rfl (by kernel_rfl) (by kernel_rfl) (by kernel_rfl)
      (OpenSpec.preRow_of_cond 8 hx (by kernel_rfl) (fun k hk => by cases hk) (by kernel_rfl) (ledgerSays_laid os)))
    (by kernel_rfl) (by kernel_rfl) rfl
    (fun ds h => by
      match ds, h with
      | [_, _, _], _ => rfl)
    (by kernel_rfl) (by kernel_rfl) (by kernel_rfl) (by kernel_rfl)
    (fun W base args ds p hval hsz hA hlt G => by
      rw [Tryz.params3] at hval hA
      obtain ⟨a, b, c, rfl⟩ := array_of_size3 (hsz.trans (by rw [Tryz.params3]; rfl))
      obtain ⟨v0, v1, v2, d0, d1, d2, p0, p1, p2, hv, rfl, rfl, h0, h1, h2⟩ := trodAll_three hA
      cases hv
      obtain ⟨sn, rfl, _⟩ := val_int Tryz.underlying3 (hval 0 3 a rfl rfl)
      obtain ⟨lv, rfl, _⟩ := val_int Tryz.underlying3 (hval 1 3 b rfl rfl)
      obtain ⟨len, f, g, hs, hg⟩ := Ac.open_actsB (hval 2 22 c rfl rfl) h2 (fun x hx => hlt x (by simp [hx]))
      exact Lg.ledgerSays_any (fun b n W h n1 n4 => Bk.rbookFault_eq b n W h n1 n4) sn lv c len f g W hs hg G)

theorem ledgerSays_row : Rows.LedgerSaysSaid :=
  OpenClaim.holds_of_cond 3 Tryz.f3 rfl rfl rfl rfl rfl rfl rfl ⟨rfl, rfl, rfl, rfl, rfl⟩ rfl rfl rfl rfl rfl (by kernel_rfl) Tryz.func3 Lg.ledger_facts
    (of_decide_eq_true (by kernel_rfl)) (by unfold Func.isWrapper; first | (rw [if_pos (by decide +kernel)]; kernel_rfl) | (rw [if_neg (by decide +kernel)]; exact ⟨rfl, rfl⟩))
    (fun os started H enc _ I => by rw [OpenClaim.pre_eq_preRow]; exact ledgerSays_lifted os started H enc I)

theorem ledgerSays_plain (f : FuncId) (fn : Func) (hf : Tryz.pinned.checked.prog.funcNamed Tryz.f3.name = some f) (hfn : Tryz.pinned.checked.prog.funcs[f]? = some fn) :
    true = Tryz.pinned.checked.prog.looks [] ∧ ∀ (j : Nat) t, fn.params[j]? = some t → Tryz.pinned.checked.prog.wantsStandIn t = false := by
  obtain rfl : f = 3 := Option.some.inj ((show Tryz.prog.funcNamed Tryz.f3.name = some 3 by kernel_rfl).symm.trans hf) |>.symm
  obtain rfl : fn = Tryz.f3 := (Option.some.inj (Tryz.func3.symm.trans hfn)).symm
  refine ⟨by kernel_rfl, fun j t ht => ?_⟩
  rw [Tryz.params3] at ht
  rcases j with _ | _ | _ | j
  · simp at ht; subst ht; kernel_rfl
  · simp at ht; subst ht; kernel_rfl
  · simp at ht; subst ht; kernel_rfl
  · simp at ht

/-- The statement: the card. -/
theorem ledgerSays_card : Rows.LedgerSaysCardSaid :=
  Claim7.holds_tied_plain_at .later [] _ _ _ _ ledgerSays_row (fun _ h => by cases h) (by kernel_rfl) (fun _ h => by cases h) ledgerSays_row_tie rfl ⟨rfl, rfl⟩ (by kernel_rfl) rfl ledgerSays_plain (by kernel_rfl)

end Go.Proofs.YtaikbojdmfkbhaaGreatDoor
