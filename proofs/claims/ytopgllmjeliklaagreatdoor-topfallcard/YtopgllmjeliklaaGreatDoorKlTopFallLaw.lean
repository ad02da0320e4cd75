/- The statement TopFall (its card): behind a fall of the disk all comes to an end; no condition beside what the card ties (tables and errors of the library, as their text lays them). -/
import Derived.Test.YtopgllmjeliklaaGreatDoorKlLwFall
import Derived.Test.YtopgllmjeliklaaGreatDoorKlTopFallFacts
import Derived.Test.YtopgllmjeliklaaGreatDoorKlCardKit
import Derived.Test.YtopgllmjeliklaaGreatDoorCards
import Derived.Test.YtopgllmjeliklaaGreatDoorTie
namespace Go.Proofs.YtopgllmjeliklaaGreatDoor
open Go.ChangeShapes Go.WideShapes Go.ChangeAt Go.RowKit
set_option maxRecDepth 100000
set_option linter.unusedVariables false
theorem topFall_args {α : Type} {cs : Array α} (h : cs.size = 4) : ∃ a b c e, cs = #[a, b, c, e] := by
 obtain ⟨l⟩ := cs
 match l, h with
 | [a, b, c, e], _ => exact ⟨a, b, c, e, rfl⟩
theorem topFall_reads (os : Os) {H : Type} (enc : TypeId × Value -> H) : ∃ places, DataW.whole enc Tryz.prog ((World.laidAll Tryz.prog os Rows.topFallRow.laid).forCall (fun _ _ => 0) ⟨#[], #[.slice none 0 0, .slice none 0 0, .int .i64 0, .int .u64 0], []⟩).memory Tryz.f13.params.toList Rows.topFallSpec.vars false (#[.slice none 0 0, .slice none 0 0, .int .i64 0, .int .u64 0] : Array Value).toList 8 = some ([.nil, .nil, .lit (.int .i64 0), .lit (.int .u64 0)], [], places) :=
 ⟨[], by kernel_rfl⟩
theorem topFall_laid (os : Os) : laidMetH Tryz.prog Rows.topFallRow.laid ((World.laidAll Tryz.prog os Rows.topFallRow.laid).forCall (fun _ _ => 0) ⟨#[], #[.slice none 0 0, .slice none 0 0, .int .i64 0, .int .u64 0], []⟩).memory := by
 rw [Go.MakeChecks.laidMetH_plain _ _ _ (by kernel_rfl)]; exact laidMet_laidAll _ (by kernel_rfl) (by kernel_rfl)
theorem topFall_lifted (os : Os) (started : os.Started) (H : Type) (enc : TypeId × Value -> H) (I : Stop.Interp) :
  ReturnsInHanded {} Tryz.checked os 13 .any ((OpenSpec.ofChange Rows.topFallSpec).preRow enc Tryz.prog Tryz.f13 Rows.topFallRow.domain false Rows.topFallRow.laid) (((OpenSpec.ofChange Rows.topFallSpec).at I).post enc Tryz.prog Tryz.f13 false true false false) := by
 obtain ⟨places, hx⟩ := topFall_reads os enc
 exact Tx.row_lifted (s := Rows.topFallSpec) os started H enc I (by kernel_rfl) Tryz.func13
  (witness_row_at (enc := enc) (C := Tryz.checked) false (World.laidAll Tryz.prog os Rows.topFallRow.laid) #[.slice none 0 0, .slice none 0 0, .int .i64 0, .int .u64 0] rfl (by kernel_rfl) (by kernel_rfl) (by kernel_rfl)
    (OpenSpec.preRow_of_cond 8 hx (by kernel_rfl) (fun k hk => by cases hk) (by kernel_rfl) (topFall_laid os)))
  (by kernel_rfl) (by kernel_rfl) rfl
  (fun ds h => by
    match ds, h with
    | [_, _, _, _], _ => rfl)
  (by kernel_rfl) (by kernel_rfl) (by kernel_rfl) (by kernel_rfl)
  (fun W base args ds p hval hsz hA hlt G => by
    rw [Tryz.params13] at hval hA; obtain ⟨a, b, c, e, rfl⟩ := topFall_args (hsz.trans (by rw [Tryz.params13]; rfl)); obtain ⟨v0, v1, v2, v3, d0, d1, d2, d3, p0, p1, p2, p3, hv, rfl, rfl, h0, h1, h2, h3⟩ := trodAll_four hA
    cases hv
    obtain ⟨len, f, hs⟩ := open_sizes (hval 0 22 a rfl rfl) h0 (fun x hx => hlt x (by simp [hx]))
    obtain ⟨alen, g, ha⟩ := Ac.open_acts (hval 1 23 b rfl rfl) h1 (fun x hx => hlt x (by simp [hx]))
    obtain ⟨fuse, rfl, hfuse⟩ := val_int Tryz.underlying3 (hval 2 3 c rfl rfl); obtain ⟨K, rfl, hK⟩ := val_int Tryz.underlying35 (hval 3 35 e rfl rfl); exact Hs.topFall_law len f a alen g b fuse K W hs ha G)
theorem topFall_row : Rows.TopFallSaid :=
 OpenClaim.holds_of_cond 13 Tryz.f13 rfl rfl rfl rfl rfl rfl rfl ⟨rfl, rfl, rfl, rfl, rfl⟩ rfl rfl rfl rfl rfl (by kernel_rfl) Tryz.func13 Hs.topFall_facts
  (of_decide_eq_true (by kernel_rfl)) (by unfold Func.isWrapper; first | (rw [if_pos (by decide +kernel)]; kernel_rfl) | (rw [if_neg (by decide +kernel)]; exact ⟨rfl, rfl⟩))
  (fun os started H enc _ I => by rw [OpenClaim.pre_eq_preRow]; exact topFall_lifted os started H enc I)
theorem topFall_plain (f : FuncId) (fn : Func) (hf : Tryz.pinned.checked.prog.funcNamed Tryz.f13.name = some f) (hfn : Tryz.pinned.checked.prog.funcs[f]? = some fn) :
  true = Tryz.pinned.checked.prog.looks [] /\ ∀ (j : Nat) t, fn.params[j]? = some t -> Tryz.pinned.checked.prog.wantsStandIn t = false := by
 obtain rfl : f = 13 := Option.some.inj ((show Tryz.prog.funcNamed Tryz.f13.name = some 13 by kernel_rfl).symm.trans hf) |>.symm
 obtain rfl : fn = Tryz.f13 := (Option.some.inj (Tryz.func13.symm.trans hfn)).symm; refine ⟨by kernel_rfl, fun j t ht => ?_⟩
 rw [Tryz.params13] at ht
 rcases j with _ | _ | _ | _ | j
 ·simp at ht; subst ht; kernel_rfl
 ·simp at ht; subst ht; kernel_rfl
 ·simp at ht; subst ht; kernel_rfl
 ·simp at ht; subst ht; kernel_rfl
 ·simp at ht
theorem topFall_card : Rows.TopFallCardSaid :=
 Claim7.holds_tied_plain_at .later [] _ _ _ _ topFall_row (fun _ h => by cases h) (by kernel_rfl) (fun _ h => by cases h) topFall_row_tie rfl ⟨rfl, rfl⟩ (by kernel_rfl) rfl topFall_plain (by kernel_rfl)
end Go.Proofs.YtopgllmjeliklaaGreatDoor
