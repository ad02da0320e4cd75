/- The statement TopRest (its card): and then it rests; no condition beside what the card ties (tables and errors of the library, as their text lays them). -/
import Derived.Test.YtopgllmjeliklaaGreatDoorKtLwRest
import Derived.Test.YtopgllmjeliklaaGreatDoorKtTopRestFacts
import Derived.Test.YtopgllmjeliklaaGreatDoorKtCardKit
import Derived.Test.YtopgllmjeliklaaGreatDoorCards
import Derived.Test.YtopgllmjeliklaaGreatDoorTie
namespace Go.Proofs.YtopgllmjeliklaaGreatDoor
open Go.ChangeShapes Go.WideShapes Go.ChangeAt Go.RowKit
set_option maxRecDepth 100000
set_option linter.unusedVariables false
theorem topRest_args {α : Type} {cs : Array α} (h : cs.size = 3) : ∃ a b c, cs = #[a, b, c] := by
 obtain ⟨l⟩ := cs
 match l, h with
 | [a, b, c], _ => exact ⟨a, b, c, rfl⟩
theorem topRest_reads (os : Os) {H : Type} (enc : TypeId × Value → H) : ∃ places, DataW.whole enc Tryz.prog ((World.laidAll Tryz.prog os Rows.topRestRow.laid).forCall (fun _ _ => 0) ⟨#[], #[.slice none 0 0, .slice none 0 0, .int .i64 0], []⟩).memory Tryz.f4.params.toList Rows.topRestSpec.vars false (#[.slice none 0 0, .slice none 0 0, .int .i64 0] : Array Value).toList 8 = some ([.nil, .nil, .lit (.int .i64 0)], [], places) :=
 ⟨[], by kernel_rfl⟩
theorem topRest_laid (os : Os) : laidMetH Tryz.prog Rows.topRestRow.laid ((World.laidAll Tryz.prog os Rows.topRestRow.laid).forCall (fun _ _ => 0) ⟨#[], #[.slice none 0 0, .slice none 0 0, .int .i64 0], []⟩).memory := by
 rw [Go.MakeChecks.laidMetH_plain _ _ _ (by kernel_rfl)]; exact laidMet_laidAll _ (by kernel_rfl) (by kernel_rfl)
theorem topRest_lifted (os : Os) (started : os.Started) (H : Type) (enc : TypeId × Value → H) (I : Stop.Interp) :
  ReturnsInHanded {} Tryz.checked os 4 .any ((OpenSpec.ofChange Rows.topRestSpec).preRow enc Tryz.prog Tryz.f4 Rows.topRestRow.domain false Rows.topRestRow.laid) (((OpenSpec.ofChange Rows.topRestSpec).at I).post enc Tryz.prog Tryz.f4 false true false false) := by
 obtain ⟨places, hx⟩ := topRest_reads os enc
 exact Tx.row_lifted (s := Rows.topRestSpec) os started H enc I (by kernel_rfl) Tryz.func4
  (witness_row_at (enc := enc) (C := Tryz.checked) false (World.laidAll Tryz.prog os Rows.topRestRow.laid) #[.slice none 0 0, .slice none 0 0, .int .i64 0] rfl (by kernel_rfl) (by kernel_rfl) (by kernel_rfl)
    (OpenSpec.preRow_of_cond 8 hx (by kernel_rfl) (fun k hk => by cases hk) (by kernel_rfl) (topRest_laid os)))
  (by kernel_rfl) (by kernel_rfl) rfl
  (fun ds h => by
    match ds, h with
    | [_, _, _], _ => rfl)
  (by kernel_rfl) (by kernel_rfl) (by kernel_rfl) (by kernel_rfl)
  (fun W base args ds p hval hsz hA hlt G => by
    rw [Tryz.params4] at hval hA; obtain ⟨a, b, c, rfl⟩ := topRest_args (hsz.trans (by rw [Tryz.params4]; rfl)); obtain ⟨v0, v1, v2, d0, d1, d2, p0, p1, p2, hv, rfl, rfl, h0, h1, h2⟩ := trodAll_three hA
    cases hv
    obtain ⟨len, f, hs⟩ := open_sizes (hval 0 22 a rfl rfl) h0 (fun x hx => hlt x (by simp [hx]))
    obtain ⟨alen, g, ha⟩ := Ac.open_acts (hval 1 23 b rfl rfl) h1 (fun x hx => hlt x (by simp [hx]))
    obtain ⟨more, rfl, hmore⟩ := val_int Tryz.underlying3 (hval 2 3 c rfl rfl); exact Hs.topRest_law len f a alen g b more W hs ha G)
theorem topRest_row : Rows.TopRestSaid :=
 OpenClaim.holds_of_cond 4 Tryz.f4 rfl rfl rfl rfl rfl rfl rfl ⟨rfl, rfl, rfl, rfl, rfl⟩ rfl rfl rfl rfl rfl (by kernel_rfl) Tryz.func4 Hs.topRest_facts
  (of_decide_eq_true (by kernel_rfl)) (by unfold Func.isWrapper; first | (rw [if_pos (by decide +kernel)]; kernel_rfl) | (rw [if_neg (by decide +kernel)]; exact ⟨rfl, rfl⟩))
  (fun os started H enc _ I => by rw [OpenClaim.pre_eq_preRow]; exact topRest_lifted os started H enc I)
theorem topRest_plain (f : FuncId) (fn : Func) (hf : Tryz.pinned.checked.prog.funcNamed Tryz.f4.name = some f) (hfn : Tryz.pinned.checked.prog.funcs[f]? = some fn) :
  true = Tryz.pinned.checked.prog.looks [] ∧ ∀ (j : Nat) t, fn.params[j]? = some t → Tryz.pinned.checked.prog.wantsStandIn t = false := by
 obtain rfl : f = 4 := Option.some.inj ((show Tryz.prog.funcNamed Tryz.f4.name = some 4 by kernel_rfl).symm.trans hf) |>.symm
 obtain rfl : fn = Tryz.f4 := (Option.some.inj (Tryz.func4.symm.trans hfn)).symm; refine ⟨by kernel_rfl, fun j t ht => ?_⟩
 rw [Tryz.params4] at ht
 rcases j with _ | _ | _ | j
 ·simp at ht; subst ht; kernel_rfl
 ·simp at ht; subst ht; kernel_rfl
 ·simp at ht; subst ht; kernel_rfl
 ·simp at ht
theorem topRest_card : Rows.TopRestCardSaid :=
 Claim7.holds_tied_plain_at .later [] _ _ _ _ topRest_row (fun _ h => by cases h) (by kernel_rfl) (fun _ h => by cases h) topRest_row_tie rfl ⟨rfl, rfl⟩ (by kernel_rfl) rfl topRest_plain (by kernel_rfl)
end Go.Proofs.YtopgllmjeliklaaGreatDoor
