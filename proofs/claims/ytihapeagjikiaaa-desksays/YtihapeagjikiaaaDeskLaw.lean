/- DeskSays, proved: for every book of the levels that is right, all levels that may be, every car, every job, gone or not: the place that is given, parking, wanting and being done answer as the document says, errors by their numbers; where book or levels are not right, nothing is asked. -/
import Derived.Test.YtihapeagjikiaaaDeskSays
namespace Go.Proofs.Ytihapeagjikiaaa
open Go.ChangeShapes Go.WideShapes Go.ChangeAt Go.RowKit
set_option maxRecDepth 100000
set_option linter.unusedSimpArgs false
set_option linter.unusedVariables false
open Bk

theorem open_job5 {w : World} {b : Nat} {v : Value} (h : Value.okWide Try.prog w .any b 32 v) : ∃ (t : Int) (f : Bool), v = .agg #[.int .i64 t, .bool f] := by
  obtain ⟨cs, rfl, hs, hh⟩ := val_struct (ts := [3, 4]) Try.underlying32 (by kernel_rfl) (by kernel_rfl) h
  obtain ⟨c0, c1, rfl⟩ := array_of_size2 hs
  obtain ⟨x, rfl, _⟩ := cell_int Try.underlying3 (hh 0 _ _ rfl rfl)
  obtain ⟨y, rfl⟩ := cell_bool Try.underlying4 (hh 1 _ _ rfl rfl)
  exact ⟨x, y, rfl⟩
theorem array_of_size5 {α : Type} {cs : Array α} (h : cs.size = 5) : ∃ a b c d e, cs = #[a, b, c, d, e] := by
  obtain ⟨l⟩ := cs
  match l, h with
  | [a, b, c, d, e], _ => exact ⟨a, b, c, d, e, rfl⟩
theorem trod_five {H : Type} {enc : TypeId × Value → H} {P : Program} {w : World} {base : Nat} {spare : Nat → Bool} {held : Bool} {t0 t1 t2 t3 t4 : TypeId} {a0 a1 a2 a3 a4 : Value} {ds : List (DataW H)} {ps : List MemPlace} (h : DataW.TrodAll enc P w base spare held [t0, t1, t2, t3, t4] [a0, a1, a2, a3, a4] ds ps) :
    ∃ d0 d1 p0 p1 q, ps = p0 ++ (p1 ++ q) ∧ DataW.Trod enc P w base spare held t0 a0 d0 p0 ∧ DataW.Trod enc P w base spare held t1 a1 d1 p1 := by
  obtain ⟨v, vs, d, ds', p, q, hargs, rfl, rfl, hd, hrest⟩ := trodAll_cons h
  obtain ⟨v', vs', d', ds'', p', q', hargs', rfl, rfl, hd', hrest'⟩ := trodAll_cons hrest
  cases hargs
  cases hargs'
  exact ⟨d, d', p, p', q', rfl, hd, hd'⟩

/-- The statement: for every input 'DeskSays' answers true. -/
theorem deskSays_holds : Rows.DeskSaysSaid :=
  OpenClaim.holds_of_wide 3 Try.f3 rfl rfl rfl rfl rfl rfl rfl ⟨rfl, rfl, rfl, rfl, rfl⟩ rfl rfl rfl rfl rfl (by kernel_rfl) Try.func3 (by kernel_rfl)
    (of_decide_eq_true (by kernel_rfl)) (by unfold Func.isWrapper; first | (rw [if_pos (by decide +kernel)]; kernel_rfl) | (rw [if_neg (by decide +kernel)]; exact ⟨rfl, rfl⟩))
    (fun os started H enc _ => law_lifted (s := Rows.deskSaysSpec) os started H enc (by kernel_rfl) Try.func3
      (ChangeSpec.witness6 (enc := enc) (C := Try.checked) false ⟨#[], #[.agg #[.int .i64 0, .slice none 0 0, .slice none 0 0], .slice none 0 0, .agg #[.int .i64 0, .int .i64 0, .int .i64 0, .int .i64 0], .agg #[.int .i64 0, .bool false], .bool false], []⟩ 8 (by kernel_rfl) (by kernel_rfl) (by kernel_rfl) (by kernel_rfl))
      (by kernel_rfl) (by kernel_rfl) rfl
      (fun ds h => by
        match ds, h with
        | [d1, d2, d3, d4, d5], _ => rfl)
      (fun W base args ds p hval hsz hA hlt => by
        rw [Try.params3] at hval hA
        obtain ⟨a, b, c, d, g, rfl⟩ := array_of_size5 (hsz.trans (by rw [Try.params3]; rfl))
        obtain ⟨d0, d1, p0, p1, q, rfl, h0, h1⟩ := trod_five hA
        obtain ⟨bk, rfl, hb, _⟩ := open_book (hval 0 25 a rfl rfl) h0 (fun x hx => hlt x (by simp [hx]))
        obtain ⟨len, f, hs⟩ := open_sizes (hval 1 26 b rfl rfl) h1 (fun x hx => hlt x (by simp [hx]))
        obtain ⟨ci, ca, cb, cc, rfl, _⟩ := open_car (hval 2 30 c rfl rfl)
        obtain ⟨t, f', rfl⟩ := open_job5 (hval 3 32 d rfl rfl)
        obtain ⟨gone, rfl⟩ := val_bool Try.underlying4 (hval 4 4 g rfl rfl)
        exact deskSays_run bk b len f ci ca cb cc t f' gone W hb hs))

end Go.Proofs.Ytihapeagjikiaaa
