/- Chapter 3, the statement 'GuardSays': for every byte and every reading of the machine, the guard answers as the document (C1); no condition. -/
import Derived.Test.YticjjnmmedmbiaaGuardA
import Derived.Test.YticjjnmmedmbiaaGuardB
import Derived.Test.YticjjnmmedmbiaaGuardC
import Derived.Deep.Light
namespace Go.Proofs.Yticjjnmmedmbiaa
open Go.ChangeShapes Go.WideShapes Go.ChangeAt Go.RowKit
set_option maxRecDepth 100000
set_option linter.unusedSimpArgs false
set_option linter.unusedVariables false

theorem rmay_any (c h ex : Int) (dr : Bool) (pe li ba : Int) (he tl tr : Bool) (w : World) (hh : IntKind.i64.has h) (hx : IntKind.i64.has ex) :
    Calls Try.prog 45 #[.int .u8 c, .agg #[.int .i64 h, .int .i64 ex, .bool dr, .int .i64 pe, .int .i64 li, .int .i64 ba, .bool he, .bool tl, .bool tr]] w fun e w' => e = .returned (.bool (mayB c h ex dr pe li ba he tl tr)) ∧ Below w.heap.size w w' := by
  have hh := i64_bounds hh
  have hx := i64_bounds hx
  by_cases n45 : c = 45
  · subst n45; exact rmay_45 h ex dr pe li ba he tl tr w hh hx
  by_cases n117 : c = 117
  · subst n117; exact rmay_117 h ex dr pe li ba he tl tr w hh hx
  by_cases n100 : c = 100
  · subst n100; exact rmay_100 h ex dr pe li ba he tl tr w hh hx
  by_cases n108 : c = 108
  · subst n108; exact rmay_108 h ex dr pe li ba he tl tr w hh hx
  by_cases n114 : c = 114
  · subst n114; exact rmay_114 h ex dr pe li ba he tl tr w hh hx
  by_cases n103 : c = 103
  · subst n103; exact rmay_103 h ex dr pe li ba he tl tr w hh hx
  by_cases n112 : c = 112
  · subst n112; exact rmay_112 h ex dr pe li ba he tl tr w hh hx
  by_cases n111 : c = 111
  · subst n111; exact rmay_111 h ex dr pe li ba he tl tr w hh hx
  by_cases n99 : c = 99
  · subst n99; exact rmay_99 h ex dr pe li ba he tl tr w hh hx
  by_cases n110 : c = 110
  · subst n110; exact rmay_110 h ex dr pe li ba he tl tr w hh hx
  by_cases n120 : c = 120
  · subst n120; exact rmay_120 h ex dr pe li ba he tl tr w hh hx
  exact rmay_other c h ex dr pe li ba he tl tr w hh (by simpa using n45) (by simpa using n117) (by simpa using n100) (by simpa using n108) (by simpa using n114) (by simpa using n103) (by simpa using n112) (by simpa using n111) (by simpa using n99) (by simpa using n110) (by simpa using n120)

theorem has0 : IntKind.i64.has 0 := by simp [IntKind.has, IntKind.min, IntKind.max, IntKind.bits, IntKind.signed]
theorem bcell {W w1 : World} (hb : Below W.heap.size W w1) : (∀ b o, b < W.heap.size → w1.cell? ⟨b, o, none⟩ = W.cell? ⟨b, o, none⟩) ∧ (∀ b o, b < W.heap.size → w1.frozen? ⟨b, o, none⟩ = W.frozen? ⟨b, o, none⟩) :=
  ⟨fun b o h => hb.cell (p := ⟨b, o, none⟩) h, fun b o h => hb.frozen (p := ⟨b, o, none⟩) h⟩

set_option maxHeartbeats 4000000 in
theorem guardSays_any (c h ex : Int) (dr : Bool) (pe li ba : Int) (he tl tr : Bool) (w : World) (hh : IntKind.i64.has h) (hx : IntKind.i64.has ex) :
    Calls Try.prog 5 #[.int .u8 c, .agg #[.int .i64 h, .int .i64 ex, .bool dr, .int .i64 pe, .int .i64 li, .int .i64 ba, .bool he, .bool tl, .bool tr]] w fun e w' => e = .returned (.bool true) ∧ Below w.heap.size w w' := by
  go_enter Try.func5, Try.ntmps5
  go_wp2_with fail
  refine (may_any _ _ _ _ _ _ _ _ _ _ _ has0 has0).mono ?_
  rw [show mayB 45 0 0 false 0 0 0 false false false = true from by decide]
  rintro e w1 ⟨rfl, hb1⟩
  go_wp2_with fail
  refine (may_any _ _ _ _ _ _ _ _ _ _ _ has0 has0).mono ?_
  rw [show mayB 117 0 0 true 0 0 0 false false false = false from by decide]
  rintro e w2 ⟨rfl, hb2⟩
  have HB : Hid (Below w.heap.size w w2) := ((Below.refl _ _).alloc (Nat.le_refl _) _).trans ((hb1.mono (by simp)).trans (hb2.mono (by have := hb1.size; simp at this; omega)))
  have hz : w.heap.size < w2.heap.size := by have := hb1.size; have := hb2.size; simp at *; omega
  obtain ⟨hc1, _⟩ := bcell hb1
  obtain ⟨hc2, _⟩ := bcell hb2
  have cells : ∀ o, w2.cell? ⟨w.heap.size, o, none⟩ = (#[.int .i64 h, .int .i64 ex, .bool dr, .int .i64 pe, .int .i64 li, .int .i64 ba, .bool he, .bool tl, .bool tr] : Array Value)[o]? := by
    intro o
    rw [hc2 _ _ (by have := hb1.size; simp at this; omega), hc1 _ _ (by simp)]
    exact World.cell?_alloc_mark w _ _ _ o
  clear hc1 hc2 hb1 hb2
  go_wp2_with fail
  go_region_with (first
    | (go_at_call 44; refine (may_any _ _ _ _ _ _ _ _ _ _ _ hh hx).mono ?_; rintro e w3 ⟨rfl, hb3⟩; have hc3 : ∀ o, w3.cell? ⟨w.heap.size, o, none⟩ = (#[.int .i64 h, .int .i64 ex, .bool dr, .int .i64 pe, .int .i64 li, .int .i64 ba, .bool he, .bool tl, .bool tr] : Array Value)[o]? := fun o => ((bcell hb3).1 _ o (by simpa using hz)).trans (cells o))
    | (go_at_call 45; refine (rmay_any _ _ _ _ _ _ _ _ _ _ _ hh hx).mono ?_; rintro e w4 ⟨rfl, hb4⟩))
  all_goals
    go_wp2
    go_returns
    have h3 := hb3.size
    exact ⟨rfl, HB.out.drew.trans ((hb3.mono (B' := w.heap.size) (by simp; omega)).trans (hb4.mono (B' := w.heap.size) (by simp at h3 ⊢; omega)))⟩

/-- The statement: for every byte and every reading 'GuardSays' answers true. -/
theorem guardSays_holds : Rows.GuardSaysSaid :=
  OpenClaim.holds_of_wide 5 Try.f5 rfl rfl rfl rfl rfl rfl rfl ⟨rfl, rfl, rfl, rfl, rfl⟩ rfl rfl rfl rfl rfl (by kernel_rfl) Try.func5 (by kernel_rfl)
    (of_decide_eq_true (by kernel_rfl)) (by unfold Func.isWrapper; first | (rw [if_pos (by decide +kernel)]; kernel_rfl) | (rw [if_neg (by decide +kernel)]; exact ⟨rfl, rfl⟩))
    (fun os started H enc _ => law_lifted (s := Rows.guardSaysSpec) os started H enc (by kernel_rfl) Try.func5
      (ChangeSpec.witness6 (enc := enc) (C := Try.checked) false ⟨#[], #[.int .u8 0, .agg #[.int .i64 0, .int .i64 0, .bool false, .int .i64 0, .int .i64 0, .int .i64 0, .bool false, .bool false, .bool false]], []⟩ 8 (by kernel_rfl) (by kernel_rfl) (by kernel_rfl) (by kernel_rfl))
      (by kernel_rfl) (by kernel_rfl) rfl
      (fun ds h => by
        match ds, h with
        | [d1, d2], _ => rfl)
      (fun W base args ds p hval hsz _ _ => by
        rw [Try.params5] at hval
        obtain ⟨a, b, rfl⟩ := array_args2 (hsz.trans (by rw [Try.params5]; rfl))
        obtain ⟨c, rfl, _⟩ := val_int Try.underlying5 (hval 0 5 a rfl rfl)
        obtain ⟨h, ex, dr, pe, li, ba, he, tl, tr, rfl, hh, hx, _⟩ := open_sensed (hval 1 71 b rfl rfl)
        exact guardSays_any c h ex dr pe li ba he tl tr W hh hx))

end Go.Proofs.Yticjjnmmedmbiaa
