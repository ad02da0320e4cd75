/- The statement TopFetched (its card): who wants a car has it in the bay at last; no condition beside what the card ties (tables and errors of the library, as their text lays them). -/
import Derived.Test.YtopgllmjeliklaaGreatDoorKfLwFetched
import Derived.Test.YtopgllmjeliklaaGreatDoorKfTopFetchedFacts
import Derived.Test.YtopgllmjeliklaaGreatDoorKfCardKit
import Derived.Test.YtopgllmjeliklaaGreatDoorCards
import Derived.Test.YtopgllmjeliklaaGreatDoorTie
namespace Go.Proofs.YtopgllmjeliklaaGreatDoor
open Go.ChangeShapes Go.WideShapes Go.ChangeAt Go.RowKit
set_option maxRecDepth 100000
set_option linter.unusedVariables false
theorem topFetched_args {α : Type} {cs : Array α} (h : cs.size = 3) : ∃ a b c, cs = #[a, b, c] := by
 obtain ⟨l⟩ := cs
 match l, h with
 | [a, b, c], _ => exact ⟨a, b, c, rfl⟩
theorem topFetched_reads (os : Os) {H : Type} (enc : TypeId × Value -> H) : ∃ places, DataW.whole enc Tryz.prog ((World.laidAll Tryz.prog os Rows.topFetchedRow.laid).forCall (fun _ _ => 0) ⟨#[], #[.slice none 0 0, .slice none 0 0, .int .i64 0], []⟩).memory Tryz.f11.params.toList Rows.topFetchedSpec.vars false (#[.slice none 0 0, .slice none 0 0, .int .i64 0] : Array Value).toList 8 = some ([.nil, .nil, .lit (.int .i64 0)], [], places) :=
 ⟨[], by kernel_rfl⟩
theorem topFetched_laid (os : Os) : laidMetH Tryz.prog Rows.topFetchedRow.laid ((World.laidAll Tryz.prog os Rows.topFetchedRow.laid).forCall (fun _ _ => 0) ⟨#[], #[.slice none 0 0, .slice none 0 0, .int .i64 0], []⟩).memory := by
 rw [Go.MakeChecks.laidMetH_plain _ _ _ (by kernel_rfl)]; exact laidMet_laidAll _ (by kernel_rfl) (by kernel_rfl)
theorem topFetched_lifted (os : Os) (started : os.Started) (H : Type) (enc : TypeId × Value -> H) (I : Stop.Interp) :
  ReturnsInHanded {} Tryz.checked os 11 .any ((OpenSpec.ofChange Rows.topFetchedSpec).preRow enc Tryz.prog Tryz.f11 Rows.topFetchedRow.domain false Rows.topFetchedRow.laid) (((OpenSpec.ofChange Rows.topFetchedSpec).at I).post enc Tryz.prog Tryz.f11 false true false false) := by
 obtain ⟨places, hx⟩ := topFetched_reads os enc
 exact Tx.row_lifted (s := Rows.topFetchedSpec) os started H enc I (by kernel_rfl) Tryz.func11
  (witness_row_at (enc := enc) (C := Tryz.checked) false (World.laidAll Tryz.prog os Rows.topFetchedRow.laid) #[.slice none 0 0, .slice none 0 0, .int .i64 0] rfl (by kernel_rfl) (by kernel_rfl) (by kernel_rfl)
    (OpenSpec.preRow_of_cond 8 hx (by kernel_rfl) (fun k hk => by cases hk) (by kernel_rfl) (topFetched_laid os)))
  (by kernel_rfl) (by kernel_rfl) rfl
  (fun ds h => by
    match ds, h with
    | [_, _, _], _ => rfl)
  (by kernel_rfl) (by kernel_rfl) (by kernel_rfl) (by kernel_rfl)
  (fun W base args ds p hval hsz hA hlt G => by
    rw [Tryz.params11] at hval hA; obtain ⟨a, b, c, rfl⟩ := topFetched_args (hsz.trans (by rw [Tryz.params11]; rfl)); obtain ⟨v0, v1, v2, d0, d1, d2, p0, p1, p2, hv, rfl, rfl, h0, h1, h2⟩ := trodAll_three hA
    cases hv
    obtain ⟨len, f, hs⟩ := open_sizes (hval 0 22 a rfl rfl) h0 (fun x hx => hlt x (by simp [hx]))
    obtain ⟨alen, g, ha⟩ := Ac.open_acts (hval 1 23 b rfl rfl) h1 (fun x hx => hlt x (by simp [hx]))
    obtain ⟨which, rfl, hwhich⟩ := val_int Tryz.underlying3 (hval 2 3 c rfl rfl); exact Hs.topFetched_law len f a alen g b which W hs ha G)
theorem topFetched_row : Rows.TopFetchedSaid :=
 OpenClaim.holds_of_cond 11 Tryz.f11 rfl rfl rfl rfl rfl rfl rfl ⟨rfl, rfl, rfl, rfl, rfl⟩ rfl rfl rfl rfl rfl (by kernel_rfl) Tryz.func11 Hs.topFetched_facts
  (of_decide_eq_true (by kernel_rfl)) (by unfold Func.isWrapper; first | (rw [if_pos (by decide +kernel)]; kernel_rfl) | (rw [if_neg (by decide +kernel)]; exact ⟨rfl, rfl⟩))
  (fun os started H enc _ I => by rw [OpenClaim.pre_eq_preRow]; exact topFetched_lifted os started H enc I)
theorem topFetched_plain (f : FuncId) (fn : Func) (hf : Tryz.pinned.checked.prog.funcNamed Tryz.f11.name = some f) (hfn : Tryz.pinned.checked.prog.funcs[f]? = some fn) :
  true = Tryz.pinned.checked.prog.looks [] /\ ∀ (j : Nat) t, fn.params[j]? = some t -> Tryz.pinned.checked.prog.wantsStandIn t = false := by
 obtain rfl : f = 11 := Option.some.inj ((show Tryz.prog.funcNamed Tryz.f11.name = some 11 by kernel_rfl).symm.trans hf) |>.symm
 obtain rfl : fn = Tryz.f11 := (Option.some.inj (Tryz.func11.symm.trans hfn)).symm; refine ⟨by kernel_rfl, fun j t ht => ?_⟩
 rw [Tryz.params11] at ht
 rcases j with _ | _ | _ | j
 ·simp at ht; subst ht; kernel_rfl
 ·simp at ht; subst ht; kernel_rfl
 ·simp at ht; subst ht; kernel_rfl
 ·simp at ht
theorem topFetched_card : Rows.TopFetchedCardSaid :=
 Claim7.holds_tied_plain_at .later [] _ _ _ _ topFetched_row (fun _ h => by cases h) (by kernel_rfl) (fun _ h => by cases h) topFetched_row_tie rfl ⟨rfl, rfl⟩ (by kernel_rfl) rfl topFetched_plain (by kernel_rfl)
end Go.Proofs.YtopgllmjeliklaaGreatDoor
