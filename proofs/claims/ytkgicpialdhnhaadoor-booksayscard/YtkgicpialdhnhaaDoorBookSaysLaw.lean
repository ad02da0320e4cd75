/- The statement BookSays (its card): any book, any text, of any levels; no condition beside what the card ties (tables and errors of the library, as their text lays them). -/
import Derived.Test.YtkgicpialdhnhaaDoorBookSays
import Derived.Test.YtkgicpialdhnhaaDoorCardKit
import Derived.Test.YtkgicpialdhnhaaDoorCards
import Derived.Test.YtkgicpialdhnhaaDoorTie
namespace Go.Proofs.YtkgicpialdhnhaaDoor
open Go.ChangeShapes Go.WideShapes Go.ChangeAt Go.RowKit
set_option maxRecDepth 100000
set_option linter.unusedVariables false

theorem cell_string {P : Program} {w : World} {b : Nat} {t : TypeId} {v : Value} (ht : P.underlying t = some .string) (h : Cell.okWide P w .any b t v) : ∃ s, v = .string s := by
  cases v <;> simp [Cell.okWide, Cell.ok, ht] at h
  exact ⟨_, rfl⟩
theorem val_string {P : Program} {w : World} {b : Nat} {t : TypeId} {v : Value} (ht : P.underlying t = some .string) (h : Value.okWide P w .any b t v) : ∃ s, v = .string s := by
  unfold Value.okWide at h
  rw [ht] at h
  exact cell_string ht h
theorem array_of_size5 {α : Type} {cs : Array α} (h : cs.size = 5) : ∃ a b c d e, cs = #[a, b, c, d, e] := by
  obtain ⟨l⟩ := cs
  match l, h with
  | [a, b, c, d, e], _ => exact ⟨a, b, c, d, e, rfl⟩

theorem bookSays_reads (os : Os) {H : Type} (enc : TypeId × Value → H) : ∃ places, DataW.whole enc Tryd.prog ((World.laidAll Tryd.prog os Rows.bookSaysRow.laid).forCall (fun _ _ => 0) ⟨#[], #[.agg #[.int .i64 0, .slice none 0 0, .slice none 0 0], .string ⟨#[]⟩, .int .i64 0, .int .i64 0, .int .i64 0], []⟩).memory Tryd.f3.params.toList Rows.bookSaysSpec.vars false (#[.agg #[.int .i64 0, .slice none 0 0, .slice none 0 0], .string ⟨#[]⟩, .int .i64 0, .int .i64 0, .int .i64 0] : Array Value).toList 8 = some ([.agg [.lit (.int .i64 0), .nil, .nil], .lit (.string []), .lit (.int .i64 0), .lit (.int .i64 0), .lit (.int .i64 0)], [], places) :=
  ⟨[], by kernel_rfl⟩
theorem bookSays_laid (os : Os) : laidMetH Tryd.prog Rows.bookSaysRow.laid ((World.laidAll Tryd.prog os Rows.bookSaysRow.laid).forCall (fun _ _ => 0) ⟨#[], #[.agg #[.int .i64 0, .slice none 0 0, .slice none 0 0], .string ⟨#[]⟩, .int .i64 0, .int .i64 0, .int .i64 0], []⟩).memory := by
  rw [Go.MakeChecks.laidMetH_plain _ _ _ (by kernel_rfl)]
  exact laidMet_laidAll _ (by kernel_rfl) (by kernel_rfl)
theorem bookSays_lifted (os : Os) (started : os.Started) (H : Type) (enc : TypeId × Value → H) (I : Stop.Interp) :
    ReturnsInHanded {} Tryd.checked os 3 .any ((OpenSpec.ofChange Rows.bookSaysSpec).preRow enc Tryd.prog Tryd.f3 Rows.bookSaysRow.domain false Rows.bookSaysRow.laid) (((OpenSpec.ofChange Rows.bookSaysSpec).at I).post enc Tryd.prog Tryd.f3 false true false false) := by
  obtain ⟨places, hx⟩ := bookSays_reads os enc
  exact Tx.row_lifted (s := Rows.bookSaysSpec) os started H enc I (by kernel_rfl) Tryd.func3
    (witness_row_at (enc := enc) (C := Tryd.checked) false (World.laidAll Tryd.prog os Rows.bookSaysRow.laid) #[.agg #[.int .i64 0, .slice none 0 0, .slice none 0 0], .string ⟨#[]⟩, .int .i64 0, .int .i64 0, .int .i64 0] rfl (by kernel_rfl) (by kernel_rfl) (by kernel_rfl)
      (OpenSpec.preRow_of_cond 8 hx (by kernel_rfl) (fun k hk => by cases hk) (by kernel_rfl) (bookSays_laid os)))
    (by kernel_rfl) (by kernel_rfl) rfl
    (fun ds h => by
      match ds, h with
      | [_, _, _, _, _], _ => rfl)
    (by kernel_rfl) (by kernel_rfl) (by kernel_rfl) (by kernel_rfl)
    (fun W base args ds p hval hsz hA hlt G => by
      rw [Tryd.params3] at hval hA
      obtain ⟨a, b, c, d', e, rfl⟩ := array_of_size5 (hsz.trans (by rw [Tryd.params3]; rfl))
      obtain ⟨v0, vs1, d0, ds1, p0, p1, hv, rfl, rfl, h0, h1⟩ := trodAll_cons hA
      cases hv
      obtain ⟨bk, rfl, hb, _⟩ := Bk.open_book (hval 0 25 a rfl rfl) h0 (fun x hx => hlt x (by simp [hx]))
      obtain ⟨s, rfl⟩ := val_string Tryd.underlying9 (hval 1 9 b rfl rfl)
      obtain ⟨n1, rfl, _⟩ := val_int Tryd.underlying3 (hval 2 3 c rfl rfl)
      obtain ⟨n2, rfl, _⟩ := val_int Tryd.underlying3 (hval 3 3 d' rfl rfl)
      obtain ⟨n3, rfl, _⟩ := val_int Tryd.underlying3 (hval 4 3 e rfl rfl)
      exact Tx.bookSays_any bk s n1 n2 n3 W hb G)

theorem bookSays_row : Rows.BookSaysSaid :=
  OpenClaim.holds_of_cond 3 Tryd.f3 rfl rfl rfl rfl rfl rfl rfl ⟨rfl, rfl, rfl, rfl, rfl⟩ rfl rfl rfl rfl rfl (by kernel_rfl) Tryd.func3 (by kernel_rfl)
    (of_decide_eq_true (by kernel_rfl)) (by unfold Func.isWrapper; first | (rw [if_pos (by decide +kernel)]; kernel_rfl) | (rw [if_neg (by decide +kernel)]; exact ⟨rfl, rfl⟩))
    (fun os started H enc _ I => by rw [OpenClaim.pre_eq_preRow]; exact bookSays_lifted os started H enc I)

theorem bookSays_plain (f : FuncId) (fn : Func) (hf : Tryd.pinned.checked.prog.funcNamed Tryd.f3.name = some f) (hfn : Tryd.pinned.checked.prog.funcs[f]? = some fn) :
    true = Tryd.pinned.checked.prog.looks [] ∧ ∀ (j : Nat) t, fn.params[j]? = some t → Tryd.pinned.checked.prog.wantsStandIn t = false := by
  obtain rfl : f = 3 := Option.some.inj ((show Tryd.prog.funcNamed Tryd.f3.name = some 3 by kernel_rfl).symm.trans hf) |>.symm
  obtain rfl : fn = Tryd.f3 := (Option.some.inj (Tryd.func3.symm.trans hfn)).symm
  refine ⟨by kernel_rfl, fun j t ht => ?_⟩
  rw [Tryd.params3] at ht
  rcases j with _ | _ | _ | _ | _ | j
  · simp at ht; subst ht; kernel_rfl
  · simp at ht; subst ht; kernel_rfl
  · simp at ht; subst ht; kernel_rfl
  · simp at ht; subst ht; kernel_rfl
  · simp at ht; subst ht; kernel_rfl
  · simp at ht

/-- The statement: the card. -/
theorem bookSays_card : Rows.BookSaysCardSaid :=
  Claim7.holds_tied_plain_at .later [] _ _ _ _ bookSays_row (fun _ h => by cases h) (by kernel_rfl) (fun _ h => by cases h) bookSays_row_tie rfl ⟨rfl, rfl⟩ (by kernel_rfl) rfl bookSays_plain (by kernel_rfl)

end Go.Proofs.YtkgicpialdhnhaaDoor
