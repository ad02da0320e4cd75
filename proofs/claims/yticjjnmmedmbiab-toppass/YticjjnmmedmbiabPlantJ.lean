/- Chapter 2: what is done in a tick (B3); contract. -/
import Derived.Test.YticjjnmmedmbiabPlantI
namespace Go.Proofs.Yticjjnmmedmbiab
open Go.ChangeShapes Go.WideShapes Go.ChangeAt Go.RowKit Go.Maps
set_option maxRecDepth 100000
set_option linter.unusedSimpArgs false
set_option linter.unusedVariables false

namespace Pl
def openS (s : St) : St := { s with hu := s.hu || !decide (s.h = 0 ∧ s.ex = 0), op := true }
def shutS (s : St) : St := { s with hu := s.hu || s.pe != 0, op := false }
/-- What is done, if the machine does not stall. -/
def doS (c : Int) (s : St) : St :=
  if c = 117 then raiseS 1 s else if c = 100 then raiseS (-1) s else if c = 108 then slideS (-1) s else if c = 114 then slideS 1 s else if c = 103 then grabS s else if c = 112 then putS s
  else if c = 111 then openS s else if c = 99 then shutS s else if c = 110 then takeInS s else if c = 120 then giveOutS s else s
def stepS (c : Int) (s : St) : St := if 0 < s.st ∧ c ≠ 45 then { s with st := s.st - 1 } else doS c s
abbrev StepTo (pb mb n : Nat) (c : Int) (w : World) (s' : St) : Prop :=
  Calls Try.prog 18 #[.pointer (some ⟨pb, 0, none⟩), .int .u8 c] w fun e w' => e = .returned (.tuple #[]) ∧ IsP w' pb mb (n + 1) s' ∧ Turn pb mb w w'

set_option maxHeartbeats 1000000 in
theorem step_u (pb mb n : Nat) (s : St) (w : World) (hp : IsP w pb mb n s) (ok : Ok s) (hn : n < maxLen) (hl : (Lit.int .i64 s.li).wf = true) (hs : ¬ 0 < s.st) : StepTo pb mb n 117 w (raiseS 1 s) := by
  have HC := raise_any pb mb n s 1 w hp ok (by omega) (by omega)
  have c8 := hp.c8
  generalize hst : s.st = st at c8 hs
  generalize raiseS 1 s = s' at HC ⊢
  have HC' : Hid (Calls _ _ _ _ _) := HC
  clear HC hp ok hl hst
  go_enter Try.func18, Try.ntmps18
  go_wp2_with fail
  refine HC'.out.mono ?_
  rintro e w1 ⟨rfl, p1, t1⟩
  have P1 : Hid (IsP w1 pb mb n s') := p1
  have T1 : Hid (Turn pb mb w w1) := t1
  clear p1 t1 HC'
  go_wp2
  go_returns
  exact ⟨rfl, P1.out.mono, T1.out⟩

set_option maxHeartbeats 1000000 in
theorem step_d (pb mb n : Nat) (s : St) (w : World) (hp : IsP w pb mb n s) (ok : Ok s) (hn : n < maxLen) (hl : (Lit.int .i64 s.li).wf = true) (hs : ¬ 0 < s.st) : StepTo pb mb n 100 w (raiseS (-1) s) := by
  have HC := raise_any pb mb n s (-1) w hp ok (by omega) (by omega)
  have c8 := hp.c8
  generalize hst : s.st = st at c8 hs
  generalize raiseS (-1) s = s' at HC ⊢
  have HC' : Hid (Calls _ _ _ _ _) := HC
  clear HC hp ok hl hst
  go_enter Try.func18, Try.ntmps18
  go_wp2_with fail
  refine HC'.out.mono ?_
  rintro e w1 ⟨rfl, p1, t1⟩
  have P1 : Hid (IsP w1 pb mb n s') := p1
  have T1 : Hid (Turn pb mb w w1) := t1
  clear p1 t1 HC'
  go_wp2
  go_returns
  exact ⟨rfl, P1.out.mono, T1.out⟩

set_option maxHeartbeats 1000000 in
theorem step_l (pb mb n : Nat) (s : St) (w : World) (hp : IsP w pb mb n s) (ok : Ok s) (hn : n < maxLen) (hl : (Lit.int .i64 s.li).wf = true) (hs : ¬ 0 < s.st) : StepTo pb mb n 108 w (slideS (-1) s) := by
  have HC := slide_any pb mb n s (-1) w hp ok (by omega) (by omega)
  have c8 := hp.c8
  generalize hst : s.st = st at c8 hs
  generalize slideS (-1) s = s' at HC ⊢
  have HC' : Hid (Calls _ _ _ _ _) := HC
  clear HC hp ok hl hst
  go_enter Try.func18, Try.ntmps18
  go_wp2_with fail
  refine HC'.out.mono ?_
  rintro e w1 ⟨rfl, p1, t1⟩
  have P1 : Hid (IsP w1 pb mb n s') := p1
  have T1 : Hid (Turn pb mb w w1) := t1
  clear p1 t1 HC'
  go_wp2
  go_returns
  exact ⟨rfl, P1.out.mono, T1.out⟩

set_option maxHeartbeats 1000000 in
theorem step_r (pb mb n : Nat) (s : St) (w : World) (hp : IsP w pb mb n s) (ok : Ok s) (hn : n < maxLen) (hl : (Lit.int .i64 s.li).wf = true) (hs : ¬ 0 < s.st) : StepTo pb mb n 114 w (slideS 1 s) := by
  have HC := slide_any pb mb n s 1 w hp ok (by omega) (by omega)
  have c8 := hp.c8
  generalize hst : s.st = st at c8 hs
  generalize slideS 1 s = s' at HC ⊢
  have HC' : Hid (Calls _ _ _ _ _) := HC
  clear HC hp ok hl hst
  go_enter Try.func18, Try.ntmps18
  go_wp2_with fail
  refine HC'.out.mono ?_
  rintro e w1 ⟨rfl, p1, t1⟩
  have P1 : Hid (IsP w1 pb mb n s') := p1
  have T1 : Hid (Turn pb mb w w1) := t1
  clear p1 t1 HC'
  go_wp2
  go_returns
  exact ⟨rfl, P1.out.mono, T1.out⟩

set_option maxHeartbeats 1000000 in
theorem step_g (pb mb n : Nat) (s : St) (w : World) (hp : IsP w pb mb n s) (ok : Ok s) (hn : n < maxLen) (hl : (Lit.int .i64 s.li).wf = true) (hs : ¬ 0 < s.st) : StepTo pb mb n 103 w (grabS s) := by
  have HC := grab_any pb mb n s w hp ok
  have c8 := hp.c8
  generalize hst : s.st = st at c8 hs
  generalize grabS s = s' at HC ⊢
  have HC' : Hid (Calls _ _ _ _ _) := HC
  clear HC hp ok hl hst
  go_enter Try.func18, Try.ntmps18
  go_wp2_with fail
  refine HC'.out.mono ?_
  rintro e w1 ⟨rfl, p1, t1⟩
  have P1 : Hid (IsP w1 pb mb n s') := p1
  have T1 : Hid (Turn pb mb w w1) := t1
  clear p1 t1 HC'
  go_wp2
  go_returns
  exact ⟨rfl, P1.out.mono, T1.out⟩

set_option maxHeartbeats 1000000 in
theorem step_p (pb mb n : Nat) (s : St) (w : World) (hp : IsP w pb mb n s) (ok : Ok s) (hn : n < maxLen) (hl : (Lit.int .i64 s.li).wf = true) (hs : ¬ 0 < s.st) : StepTo pb mb n 112 w (putS s) := by
  have HC := put_any pb mb n s w hp ok hn hl
  have c8 := hp.c8
  generalize hst : s.st = st at c8 hs
  generalize putS s = s' at HC ⊢
  have HC' : Hid (Calls _ _ _ _ _) := HC
  clear HC hp ok hl hst
  go_enter Try.func18, Try.ntmps18
  go_wp2_with fail
  refine HC'.out.mono ?_
  rintro e w1 ⟨rfl, p1, t1⟩
  have P1 : Hid (IsP w1 pb mb (n + 1) s') := p1
  have T1 : Hid (Turn pb mb w w1) := t1
  clear p1 t1 HC'
  go_wp2
  go_returns
  exact ⟨rfl, P1.out, T1.out⟩

set_option maxHeartbeats 1000000 in
theorem step_n (pb mb n : Nat) (s : St) (w : World) (hp : IsP w pb mb n s) (ok : Ok s) (hn : n < maxLen) (hl : (Lit.int .i64 s.li).wf = true) (hs : ¬ 0 < s.st) : StepTo pb mb n 110 w (takeInS s) := by
  have HC := takeIn_any pb mb n s w hp
  have c8 := hp.c8
  generalize hst : s.st = st at c8 hs
  generalize takeInS s = s' at HC ⊢
  have HC' : Hid (Calls _ _ _ _ _) := HC
  clear HC hp ok hl hst
  go_enter Try.func18, Try.ntmps18
  go_wp2_with fail
  refine HC'.out.mono ?_
  rintro e w1 ⟨rfl, p1, t1⟩
  have P1 : Hid (IsP w1 pb mb n s') := p1
  have T1 : Hid (Turn pb mb w w1) := t1
  clear p1 t1 HC'
  go_wp2
  go_returns
  exact ⟨rfl, P1.out.mono, T1.out⟩

set_option maxHeartbeats 1000000 in
theorem step_x (pb mb n : Nat) (s : St) (w : World) (hp : IsP w pb mb n s) (ok : Ok s) (hn : n < maxLen) (hl : (Lit.int .i64 s.li).wf = true) (hs : ¬ 0 < s.st) : StepTo pb mb n 120 w (giveOutS s) := by
  have HC := giveOut_any pb mb n s w hp
  have c8 := hp.c8
  generalize hst : s.st = st at c8 hs
  generalize giveOutS s = s' at HC ⊢
  have HC' : Hid (Calls _ _ _ _ _) := HC
  clear HC hp ok hl hst
  go_enter Try.func18, Try.ntmps18
  go_wp2_with fail
  refine HC'.out.mono ?_
  rintro e w1 ⟨rfl, p1, t1⟩
  have P1 : Hid (IsP w1 pb mb n s') := p1
  have T1 : Hid (Turn pb mb w w1) := t1
  clear p1 t1 HC'
  go_wp2
  go_returns
  exact ⟨rfl, P1.out.mono, T1.out⟩

set_option maxHeartbeats 1000000 in
theorem step_o (pb mb n : Nat) (s : St) (w : World) (hp : IsP w pb mb n s) (hs : ¬ 0 < s.st) : StepTo pb mb n 111 w (openS s) := by
  have c8 := hp.c8
  have HB := below_any pb s.h s.ex w hp.c1 hp.c2
  have HH := hurtP pb mb n s (!decide (s.h = 0 ∧ s.ex = 0)) _ w hp rfl
  have HD : Hid (∀ w1, IsP w1 pb mb n { s with hu := s.hu || !decide (s.h = 0 ∧ s.ex = 0) } → IsP (w1.setCell ⟨pb, 3, none⟩ (.bool true)) pb mb n (openS s)) := fun w1 h => h.set 3 _ rfl rfl
  generalize openS s = s' at HD ⊢
  generalize hst : s.st = st at c8 hs
  generalize (decide (s.h = 0 ∧ s.ex = 0)) = q at HB HH HD
  generalize hs2 : ({ s with hu := s.hu || !q } : St) = s2 at HH HD
  have HB' : Hid (Calls _ _ _ _ _) := HB
  have HH' : Hid (Calls _ _ _ _ _) := HH
  clear HB HH hp hst hs2
  go_enter Try.func18, Try.ntmps18
  go_wp2_with fail
  refine HB'.out.mono ?_
  rintro e w1 ⟨rfl, rfl⟩
  go_wp2_with fail
  refine HH'.out.mono ?_
  rintro e w1 ⟨rfl, p1, t1⟩
  have P1 : Hid (IsP w1 pb mb n s2) := p1
  have T1 : Hid (Turn pb mb _ w1) := t1
  have d3 := p1.c3
  have f3 := p1.free 3
  clear p1 t1 HB' HH' c8
  go_wp2
  go_returns
  exact ⟨rfl, (HD.out _ P1.out).mono, T1.out.trans (Turn.set _ _ _)⟩

set_option maxHeartbeats 1000000 in
theorem step_c (pb mb n : Nat) (s : St) (w : World) (hp : IsP w pb mb n s) (hs : ¬ 0 < s.st) : StepTo pb mb n 99 w (shutS s) := by
  have c8 := hp.c8
  have c4 := hp.c4
  have HH := hurtP pb mb n s (s.pe != 0) _ w hp rfl
  have HD : Hid (∀ w1, IsP w1 pb mb n { s with hu := s.hu || s.pe != 0 } → IsP (w1.setCell ⟨pb, 3, none⟩ (.bool false)) pb mb n (shutS s)) := fun w1 h => h.set 3 _ rfl rfl
  generalize shutS s = s' at HD ⊢
  generalize hst : s.st = st at c8 hs
  generalize hs2 : ({ s with hu := s.hu || s.pe != 0 } : St) = s2 at HH HD
  generalize hpe : s.pe = pe at HH c4
  have HH' : Hid (Calls _ _ _ _ _) := HH
  clear HH hp hst hs2 hpe
  go_enter Try.func18, Try.ntmps18
  go_wp2_with fail
  refine HH'.out.mono ?_
  rintro e w1 ⟨rfl, p1, t1⟩
  have P1 : Hid (IsP w1 pb mb n s2) := p1
  have T1 : Hid (Turn pb mb _ w1) := t1
  have d3 := p1.c3
  have f3 := p1.free 3
  clear p1 t1 HH' c8
  go_wp2
  go_returns
  exact ⟨rfl, (HD.out _ P1.out).mono, T1.out.trans (Turn.set _ _ _)⟩

set_option maxHeartbeats 1000000 in
theorem step_stall (pb mb n : Nat) (s : St) (c : Int) (w : World) (hp : IsP w pb mb n s) (hs : 0 < s.st) (h5 : s.st ≤ 5) (hc : ¬ c = 45) : StepTo pb mb n c w { s with st := s.st - 1 } := by
  have c8 := hp.c8
  have f8 := hp.free 8
  have HD : Hid (∀ v, v = s.st - 1 → IsP (w.setCell ⟨pb, 8, none⟩ (.int .i64 v)) pb mb n { s with st := s.st - 1 }) := fun v hv => hp.set 8 _ (by rw [hv]; rfl) rfl
  generalize hst : s.st = st at c8 hs h5 HD
  generalize hs2 : ({ s with st := st - 1 } : St) = s2 at HD ⊢
  have m1 : IntKind.i64.wrap (st - 1) = st - 1 := by rw [IntKind.wrap_i64]; omega
  clear hp hst hs2
  go_enter Try.func18, Try.ntmps18
  go_wp2
  go_returns
  exact ⟨rfl, (HD.out _ rfl).mono, Turn.set _ _ _⟩

set_option maxHeartbeats 1000000 in
theorem step_none (pb mb n : Nat) (s : St) (c : Int) (w : World) (hp : IsP w pb mb n s) (hs : ¬ (0 < s.st ∧ c ≠ 45)) (k1 : ¬ c = 117) (k2 : ¬ c = 100) (k3 : ¬ c = 108) (k4 : ¬ c = 114) (k5 : ¬ c = 103) (k6 : ¬ c = 112) (k7 : ¬ c = 111) (k8 : ¬ c = 99) (k9 : ¬ c = 110) (k10 : ¬ c = 120) : StepTo pb mb n c w s := by
  have c8 := hp.c8
  have P : Hid (IsP w pb mb n s) := hp
  by_cases hc : c = 45
  · subst hc
    generalize hst : s.st = st at c8
    clear hp hst hs
    go_enter Try.func18, Try.ntmps18
    go_wp2
    all_goals (go_returns; exact ⟨rfl, P.out.mono, Turn.refl _ _ _⟩)
  · have hs' : ¬ 0 < s.st := fun h => hs ⟨h, hc⟩
    generalize hst : s.st = st at c8 hs'
    clear hp hst hs
    go_enter Try.func18, Try.ntmps18
    go_wp2
    all_goals (go_returns; exact ⟨rfl, P.out.mono, Turn.refl _ _ _⟩)

theorem step_any (pb mb n : Nat) (s : St) (c : Int) (w : World) (hp : IsP w pb mb n s) (ok : Ok s) (hn : n < maxLen) (hl : (Lit.int .i64 s.li).wf = true) (h5 : s.st ≤ 5) : StepTo pb mb n c w (stepS c s) := by
  by_cases hs : 0 < s.st ∧ c ≠ 45
  · rw [show stepS c s = { s with st := s.st - 1 } from if_pos hs]
    exact step_stall pb mb n s c w hp hs.1 h5 hs.2
  · rw [show stepS c s = doS c s from if_neg hs]
    unfold doS
    by_cases k1 : c = 117
    · subst k1
      simp only [if_true]
      exact step_u pb mb n s w hp ok hn hl (by omega)
    rw [if_neg k1]
    by_cases k2 : c = 100
    · subst k2
      simp only [if_true]
      exact step_d pb mb n s w hp ok hn hl (by omega)
    rw [if_neg k2]
    by_cases k3 : c = 108
    · subst k3
      simp only [if_true]
      exact step_l pb mb n s w hp ok hn hl (by omega)
    rw [if_neg k3]
    by_cases k4 : c = 114
    · subst k4
      simp only [if_true]
      exact step_r pb mb n s w hp ok hn hl (by omega)
    rw [if_neg k4]
    by_cases k5 : c = 103
    · subst k5
      simp only [if_true]
      exact step_g pb mb n s w hp ok hn hl (by omega)
    rw [if_neg k5]
    by_cases k6 : c = 112
    · subst k6
      simp only [if_true]
      exact step_p pb mb n s w hp ok hn hl (by omega)
    rw [if_neg k6]
    by_cases k7 : c = 111
    · subst k7
      simp only [if_true]
      exact step_o pb mb n s w hp (by omega)
    rw [if_neg k7]
    by_cases k8 : c = 99
    · subst k8
      simp only [if_true]
      exact step_c pb mb n s w hp (by omega)
    rw [if_neg k8]
    by_cases k9 : c = 110
    · subst k9
      simp only [if_true]
      exact step_n pb mb n s w hp ok hn hl (by omega)
    rw [if_neg k9]
    by_cases k10 : c = 120
    · subst k10
      simp only [if_true]
      exact step_x pb mb n s w hp ok hn hl (by omega)
    rw [if_neg k10]
    exact step_none pb mb n s c w hp hs k1 k2 k3 k4 k5 k6 k7 k8 k9 k10

end Pl
end Go.Proofs.Yticjjnmmedmbiab
