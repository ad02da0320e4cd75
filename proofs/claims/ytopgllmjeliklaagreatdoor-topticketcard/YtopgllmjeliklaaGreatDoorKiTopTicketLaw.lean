/- The statement TopTicket (its card): no ticket is given twice; no condition beside what the card ties (tables and errors of the library, as their text lays them). -/
import Derived.Test.YtopgllmjeliklaaGreatDoorKiLwTicket
import Derived.Test.YtopgllmjeliklaaGreatDoorKiTopTicketFacts
import Derived.Test.YtopgllmjeliklaaGreatDoorKiCardKit
import Derived.Test.YtopgllmjeliklaaGreatDoorCards
import Derived.Test.YtopgllmjeliklaaGreatDoorTie
namespace Go.Proofs.YtopgllmjeliklaaGreatDoor
open Go.ChangeShapes Go.WideShapes Go.ChangeAt Go.RowKit
set_option maxRecDepth 100000
set_option linter.unusedVariables false
theorem topTicket_args {α : Type} {cs : Array α} (h : cs.size = 2) : ∃ a b, cs = #[a, b] := by
 obtain ⟨l⟩ := cs
 match l, h with
 | [a, b], _ => exact ⟨a, b, rfl⟩
theorem topTicket_reads (os : Os) {H : Type} (enc : TypeId × Value → H) : ∃ places, DataW.whole enc Tryz.prog ((World.laidAll Tryz.prog os Rows.topTicketRow.laid).forCall (fun _ _ => 0) ⟨#[], #[.slice none 0 0, .slice none 0 0], []⟩).memory Tryz.f7.params.toList Rows.topTicketSpec.vars false (#[.slice none 0 0, .slice none 0 0] : Array Value).toList 8 = some ([.nil, .nil], [], places) :=
 ⟨[], by kernel_rfl⟩
theorem topTicket_laid (os : Os) : laidMetH Tryz.prog Rows.topTicketRow.laid ((World.laidAll Tryz.prog os Rows.topTicketRow.laid).forCall (fun _ _ => 0) ⟨#[], #[.slice none 0 0, .slice none 0 0], []⟩).memory := by
 rw [Go.MakeChecks.laidMetH_plain _ _ _ (by kernel_rfl)]; exact laidMet_laidAll _ (by kernel_rfl) (by kernel_rfl)
theorem topTicket_lifted (os : Os) (started : os.Started) (H : Type) (enc : TypeId × Value → H) (I : Stop.Interp) :
  ReturnsInHanded {} Tryz.checked os 7 .any ((OpenSpec.ofChange Rows.topTicketSpec).preRow enc Tryz.prog Tryz.f7 Rows.topTicketRow.domain false Rows.topTicketRow.laid) (((OpenSpec.ofChange Rows.topTicketSpec).at I).post enc Tryz.prog Tryz.f7 false true false false) := by
 obtain ⟨places, hx⟩ := topTicket_reads os enc
 exact Tx.row_lifted (s := Rows.topTicketSpec) os started H enc I (by kernel_rfl) Tryz.func7
  (witness_row_at (enc := enc) (C := Tryz.checked) false (World.laidAll Tryz.prog os Rows.topTicketRow.laid) #[.slice none 0 0, .slice none 0 0] rfl (by kernel_rfl) (by kernel_rfl) (by kernel_rfl)
    (OpenSpec.preRow_of_cond 8 hx (by kernel_rfl) (fun k hk => by cases hk) (by kernel_rfl) (topTicket_laid os)))
  (by kernel_rfl) (by kernel_rfl) rfl
  (fun ds h => by
    match ds, h with
    | [_, _], _ => rfl)
  (by kernel_rfl) (by kernel_rfl) (by kernel_rfl) (by kernel_rfl)
  (fun W base args ds p hval hsz hA hlt G => by
    rw [Tryz.params7] at hval hA; obtain ⟨a, b, rfl⟩ := topTicket_args (hsz.trans (by rw [Tryz.params7]; rfl)); obtain ⟨v0, v1, d0, d1, p0, p1, hv, rfl, rfl, h0, h1⟩ := trodAll_two hA
    cases hv
    obtain ⟨len, f, hs⟩ := open_sizes (hval 0 22 a rfl rfl) h0 (fun x hx => hlt x (by simp [hx]))
    obtain ⟨alen, g, ha⟩ := Ac.open_acts (hval 1 23 b rfl rfl) h1 (fun x hx => hlt x (by simp [hx]))
    exact Hs.topTicket_law len f a alen g b W hs ha G)
theorem topTicket_row : Rows.TopTicketSaid :=
 OpenClaim.holds_of_cond 7 Tryz.f7 rfl rfl rfl rfl rfl rfl rfl ⟨rfl, rfl, rfl, rfl, rfl⟩ rfl rfl rfl rfl rfl (by kernel_rfl) Tryz.func7 Hs.topTicket_facts
  (of_decide_eq_true (by kernel_rfl)) (by unfold Func.isWrapper; first | (rw [if_pos (by decide +kernel)]; kernel_rfl) | (rw [if_neg (by decide +kernel)]; exact ⟨rfl, rfl⟩))
  (fun os started H enc _ I => by rw [OpenClaim.pre_eq_preRow]; exact topTicket_lifted os started H enc I)
theorem topTicket_plain (f : FuncId) (fn : Func) (hf : Tryz.pinned.checked.prog.funcNamed Tryz.f7.name = some f) (hfn : Tryz.pinned.checked.prog.funcs[f]? = some fn) :
  true = Tryz.pinned.checked.prog.looks [] ∧ ∀ (j : Nat) t, fn.params[j]? = some t → Tryz.pinned.checked.prog.wantsStandIn t = false := by
 obtain rfl : f = 7 := Option.some.inj ((show Tryz.prog.funcNamed Tryz.f7.name = some 7 by kernel_rfl).symm.trans hf) |>.symm
 obtain rfl : fn = Tryz.f7 := (Option.some.inj (Tryz.func7.symm.trans hfn)).symm; refine ⟨by kernel_rfl, fun j t ht => ?_⟩
 rw [Tryz.params7] at ht
 rcases j with _ | _ | j
 ·simp at ht; subst ht; kernel_rfl
 ·simp at ht; subst ht; kernel_rfl
 ·simp at ht
theorem topTicket_card : Rows.TopTicketCardSaid :=
 Claim7.holds_tied_plain_at .later [] _ _ _ _ topTicket_row (fun _ h => by cases h) (by kernel_rfl) (fun _ h => by cases h) topTicket_row_tie rfl ⟨rfl, rfl⟩ (by kernel_rfl) rfl topTicket_plain (by kernel_rfl)
end Go.Proofs.YtopgllmjeliklaaGreatDoor
