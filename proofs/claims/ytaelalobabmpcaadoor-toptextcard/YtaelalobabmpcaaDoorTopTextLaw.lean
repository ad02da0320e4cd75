/- The statement TopText (its card): a book's text is read as it; no condition beside what the card ties (tables and errors of the library, as their text lays them). -/
import Derived.Test.YtaelalobabmpcaaDoorTopText
import Derived.Test.YtaelalobabmpcaaDoorCardKit
import Derived.Test.YtaelalobabmpcaaDoorCards
import Derived.Test.YtaelalobabmpcaaDoorTie
namespace Go.Proofs.YtaelalobabmpcaaDoor
open Go.ChangeShapes Go.WideShapes Go.ChangeAt Go.RowKit
set_option maxRecDepth 100000
set_option linter.unusedVariables false

theorem topText_reads (os : Os) {H : Type} (enc : TypeId × Value → H) : ∃ places, DataW.whole enc Tryd.prog ((World.laidAll Tryd.prog os Rows.topTextRow.laid).forCall (fun _ _ => 0) ⟨#[], #[.agg #[.int .i64 0, .slice none 0 0, .slice none 0 0], .int .i64 0], []⟩).memory Tryd.f4.params.toList Rows.topTextSpec.vars false (#[.agg #[.int .i64 0, .slice none 0 0, .slice none 0 0], .int .i64 0] : Array Value).toList 8 = some ([.agg [.lit (.int .i64 0), .nil, .nil], .lit (.int .i64 0)], [], places) :=
  ⟨[], by kernel_rfl⟩
theorem topText_laid (os : Os) : laidMetH Tryd.prog Rows.topTextRow.laid ((World.laidAll Tryd.prog os Rows.topTextRow.laid).forCall (fun _ _ => 0) ⟨#[], #[.agg #[.int .i64 0, .slice none 0 0, .slice none 0 0], .int .i64 0], []⟩).memory := by
  rw [Go.MakeChecks.laidMetH_plain _ _ _ (by kernel_rfl)]
  exact laidMet_laidAll _ (by kernel_rfl) (by kernel_rfl)
theorem topText_lifted (os : Os) (started : os.Started) (H : Type) (enc : TypeId × Value → H) (I : Stop.Interp) :
    ReturnsInHanded {} Tryd.checked os 4 .any ((OpenSpec.ofChange Rows.topTextSpec).preRow enc Tryd.prog Tryd.f4 Rows.topTextRow.domain false Rows.topTextRow.laid) (((OpenSpec.ofChange Rows.topTextSpec).at I).post enc Tryd.prog Tryd.f4 false true false false) := by
  obtain ⟨places, hx⟩ := topText_reads os enc
  exact Tx.row_lifted (s := Rows.topTextSpec) os started H enc I (by kernel_rfl) Tryd.func4
    (witness_row_at (enc := enc) (C := Tryd.checked) false (World.laidAll Tryd.prog os Rows.topTextRow.laid) #[.agg #[.int .i64 0, .slice none 0 0, .slice none 0 0], .int .i64 0] rfl (by kernel_rfl) (by kernel_rfl) (by kernel_rfl)
      (OpenSpec.preRow_of_cond 8 hx (by kernel_rfl) (fun k hk => by cases hk) (by kernel_rfl) (topText_laid os)))
    (by kernel_rfl) (by kernel_rfl) rfl
    (fun ds h => by
      match ds, h with
      | [_, _], _ => rfl)
    (by kernel_rfl) (by kernel_rfl) (by kernel_rfl) (by kernel_rfl)
    (fun W base args ds p hval hsz hA hlt G => by
      rw [Tryd.params4] at hval hA
      obtain ⟨a, b, rfl⟩ := array_of_size2 (hsz.trans (by rw [Tryd.params4]; rfl))
      obtain ⟨v0, vs1, d0, ds1, p0, p1, hv, rfl, rfl, h0, h1⟩ := trodAll_cons hA
      cases hv
      obtain ⟨bk, rfl, hb, _⟩ := Bk.open_book (hval 0 25 a rfl rfl) h0 (fun x hx => hlt x (by simp [hx]))
      obtain ⟨lv, rfl, _⟩ := val_int Tryd.underlying3 (hval 1 3 b rfl rfl)
      exact Tx.topText_any bk lv W hb G)

theorem topText_row : Rows.TopTextSaid :=
  OpenClaim.holds_of_cond 4 Tryd.f4 rfl rfl rfl rfl rfl rfl rfl ⟨rfl, rfl, rfl, rfl, rfl⟩ rfl rfl rfl rfl rfl (by kernel_rfl) Tryd.func4 (by kernel_rfl)
    (of_decide_eq_true (by kernel_rfl)) (by unfold Func.isWrapper; first | (rw [if_pos (by decide +kernel)]; kernel_rfl) | (rw [if_neg (by decide +kernel)]; exact ⟨rfl, rfl⟩))
    (fun os started H enc _ I => by rw [OpenClaim.pre_eq_preRow]; exact topText_lifted os started H enc I)

theorem topText_plain (f : FuncId) (fn : Func) (hf : Tryd.pinned.checked.prog.funcNamed Tryd.f4.name = some f) (hfn : Tryd.pinned.checked.prog.funcs[f]? = some fn) :
    true = Tryd.pinned.checked.prog.looks [] ∧ ∀ (j : Nat) t, fn.params[j]? = some t → Tryd.pinned.checked.prog.wantsStandIn t = false := by
  obtain rfl : f = 4 := Option.some.inj ((show Tryd.prog.funcNamed Tryd.f4.name = some 4 by kernel_rfl).symm.trans hf) |>.symm
  obtain rfl : fn = Tryd.f4 := (Option.some.inj (Tryd.func4.symm.trans hfn)).symm
  refine ⟨by kernel_rfl, fun j t ht => ?_⟩
  rw [Tryd.params4] at ht
  rcases j with _ | _ | j
  · simp at ht; subst ht; kernel_rfl
  · simp at ht; subst ht; kernel_rfl
  · simp at ht

/-- The statement: the card. -/
theorem topText_card : Rows.TopTextCardSaid :=
  Claim7.holds_tied_plain_at .later [] _ _ _ _ topText_row (fun _ h => by cases h) (by kernel_rfl) (fun _ h => by cases h) topText_row_tie rfl ⟨rfl, rfl⟩ (by kernel_rfl) rfl topText_plain (by kernel_rfl)

end Go.Proofs.YtaelalobabmpcaaDoor
