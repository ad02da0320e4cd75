/- The statement TopRight (its card): who wants a car has that one; no condition beside what the card ties (tables and errors of the library, as their text lays them). -/
import Derived.Test.YtopgllmjeliklaaGreatDoorKrLwRight
import Derived.Test.YtopgllmjeliklaaGreatDoorKrTopRightFacts
import Derived.Test.YtopgllmjeliklaaGreatDoorKrCardKit
import Derived.Test.YtopgllmjeliklaaGreatDoorCards
import Derived.Test.YtopgllmjeliklaaGreatDoorTie
namespace Go.Proofs.YtopgllmjeliklaaGreatDoor
open Go.ChangeShapes Go.WideShapes Go.ChangeAt Go.RowKit
set_option maxRecDepth 100000
set_option linter.unusedVariables false
theorem topRight_args {α : Type} {cs : Array α} (h : cs.size = 2) : ∃ a b, cs = #[a, b] := by
 obtain ⟨l⟩ := cs
 match l, h with
 | [a, b], _ => exact ⟨a, b, rfl⟩
theorem topRight_reads (os : Os) {H : Type} (enc : TypeId × Value → H) : ∃ places, DataW.whole enc Tryz.prog ((World.laidAll Tryz.prog os Rows.topRightRow.laid).forCall (fun _ _ => 0) ⟨#[], #[.slice none 0 0, .slice none 0 0], []⟩).memory Tryz.f8.params.toList Rows.topRightSpec.vars false (#[.slice none 0 0, .slice none 0 0] : Array Value).toList 8 = some ([.nil, .nil], [], places) :=
 ⟨[], by kernel_rfl⟩
theorem topRight_laid (os : Os) : laidMetH Tryz.prog Rows.topRightRow.laid ((World.laidAll Tryz.prog os Rows.topRightRow.laid).forCall (fun _ _ => 0) ⟨#[], #[.slice none 0 0, .slice none 0 0], []⟩).memory := by
 rw [Go.MakeChecks.laidMetH_plain _ _ _ (by kernel_rfl)]; exact laidMet_laidAll _ (by kernel_rfl) (by kernel_rfl)
theorem topRight_lifted (os : Os) (started : os.Started) (H : Type) (enc : TypeId × Value → H) (I : Stop.Interp) :
  ReturnsInHanded {} Tryz.checked os 8 .any ((OpenSpec.ofChange Rows.topRightSpec).preRow enc Tryz.prog Tryz.f8 Rows.topRightRow.domain false Rows.topRightRow.laid) (((OpenSpec.ofChange Rows.topRightSpec).at I).post enc Tryz.prog Tryz.f8 false true false false) := by
 obtain ⟨places, hx⟩ := topRight_reads os enc
 exact Tx.row_lifted (s := Rows.topRightSpec) os started H enc I (by kernel_rfl) Tryz.func8
  (witness_row_at (enc := enc) (C := Tryz.checked) false (World.laidAll Tryz.prog os Rows.topRightRow.laid) #[.slice none 0 0, .slice none 0 0] rfl (by kernel_rfl) (by kernel_rfl) (by kernel_rfl)
    (OpenSpec.preRow_of_cond 8 hx (by kernel_rfl) (fun k hk => by cases hk) (by kernel_rfl) (topRight_laid os)))
  (by kernel_rfl) (by kernel_rfl) rfl
  (fun ds h => by
    match ds, h with
    | [_, _], _ => rfl)
  (by kernel_rfl) (by kernel_rfl) (by kernel_rfl) (by kernel_rfl)
  (fun W base args ds p hval hsz hA hlt G => by
    rw [Tryz.params8] at hval hA; obtain ⟨a, b, rfl⟩ := topRight_args (hsz.trans (by rw [Tryz.params8]; rfl)); obtain ⟨v0, v1, d0, d1, p0, p1, hv, rfl, rfl, h0, h1⟩ := trodAll_two hA
    cases hv
    obtain ⟨len, f, hs⟩ := open_sizes (hval 0 22 a rfl rfl) h0 (fun x hx => hlt x (by simp [hx]))
    obtain ⟨alen, g, ha⟩ := Ac.open_acts (hval 1 23 b rfl rfl) h1 (fun x hx => hlt x (by simp [hx]))
    exact Hs.topRight_law len f a alen g b W hs ha G)
theorem topRight_row : Rows.TopRightSaid :=
 OpenClaim.holds_of_cond 8 Tryz.f8 rfl rfl rfl rfl rfl rfl rfl ⟨rfl, rfl, rfl, rfl, rfl⟩ rfl rfl rfl rfl rfl (by kernel_rfl) Tryz.func8 Hs.topRight_facts
  (of_decide_eq_true (by kernel_rfl)) (by unfold Func.isWrapper; first | (rw [if_pos (by decide +kernel)]; kernel_rfl) | (rw [if_neg (by decide +kernel)]; exact ⟨rfl, rfl⟩))
  (fun os started H enc _ I => by rw [OpenClaim.pre_eq_preRow]; exact topRight_lifted os started H enc I)
theorem topRight_plain (f : FuncId) (fn : Func) (hf : Tryz.pinned.checked.prog.funcNamed Tryz.f8.name = some f) (hfn : Tryz.pinned.checked.prog.funcs[f]? = some fn) :
  true = Tryz.pinned.checked.prog.looks [] ∧ ∀ (j : Nat) t, fn.params[j]? = some t → Tryz.pinned.checked.prog.wantsStandIn t = false := by
 obtain rfl : f = 8 := Option.some.inj ((show Tryz.prog.funcNamed Tryz.f8.name = some 8 by kernel_rfl).symm.trans hf) |>.symm
 obtain rfl : fn = Tryz.f8 := (Option.some.inj (Tryz.func8.symm.trans hfn)).symm; refine ⟨by kernel_rfl, fun j t ht => ?_⟩
 rw [Tryz.params8] at ht
 rcases j with _ | _ | j
 ·simp at ht; subst ht; kernel_rfl
 ·simp at ht; subst ht; kernel_rfl
 ·simp at ht
theorem topRight_card : Rows.TopRightCardSaid :=
 Claim7.holds_tied_plain_at .later [] _ _ _ _ topRight_row (fun _ h => by cases h) (by kernel_rfl) (fun _ h => by cases h) topRight_row_tie rfl ⟨rfl, rfl⟩ (by kernel_rfl) rfl topRight_plain (by kernel_rfl)
end Go.Proofs.YtopgllmjeliklaaGreatDoor
