/- Chapter 2: what is done in a tick (B3); contract. -/
import Derived.Test.YtopgllmjeliklaaGreatDoorJPlantD
import Derived.ChangeKeys
import Derived.Maps.Views
import Derived.Maps.RangeWalk
namespace Go.Proofs.YtopgllmjeliklaaGreatDoor
open Go.ChangeShapes Go.WideShapes Go.ChangeAt Go.RowKit Go.Maps
set_option maxRecDepth 100000
set_option linter.unusedSimpArgs false
set_option linter.unusedVariables false

namespace Pl
def openS (s : St) : St := { s with hu := s.hu || !decide (s.h = 0 ∧ s.ex = 0), op := true }
def shutS (s : St) : St := { s with hu := s.hu || s.pe != 0, op := false }
/-- What is done, if the machine does not stall. -/
def doS (c : Int) (s : St) : St :=
  if c = 117 then raiseS 1 s else if c = 100 then raiseS (-1) s else if c = 108 then slideS (-1) s else if c = 114 then slideS 1 s else if c = 103 then grabS s else if c = 112 then putS s
  else if c = 111 then openS s else if c = 99 then shutS s else if c = 110 then takeInS s else if c = 120 then giveOutS s else s
def stepS (c : Int) (s : St) : St := if 0 < s.st ∧ c ≠ 45 then { s with st := s.st - 1 } else doS c s
abbrev StepTo (pb mb n : Nat) (c : Int) (w : World) (s' : St) : Prop :=
  Calls Tryz.prog 74 #[.pointer (some ⟨pb, 0, none⟩), .int .u8 c] w fun e w' => e = .returned (.tuple #[]) ∧ IsP w' pb mb (n + 1) s' ∧ Turn pb mb w w'

set_option maxHeartbeats 1000000 in
theorem step_u (pb mb n : Nat) (s : St) (w : World) (hp : IsP w pb mb n s) (ok : Ok s) (hn : n < maxLen) (hl : (Lit.int .i64 s.li).wf = true) (hs : ¬ 0 < s.st) : StepTo pb mb n 117 w (raiseS 1 s) := by
  have HC := raise_any pb mb n s 1 w hp ok (by omega) (by omega)
  have c8 := hp.c8
  generalize hst : s.st = st at c8 hs
  generalize raiseS 1 s = s' at HC ⊢
  have HC' : Hid (Calls _ _ _ _ _) := HC
  clear HC hp ok hl hst
  go_enter Tryz.func74, Tryz.ntmps74
  go_wp2_with fail
  refine HC'.out.mono ?_
  rintro e w1 ⟨rfl, p1, t1⟩
  have P1 : Hid (IsP w1 pb mb n s') := p1
  have T1 : Hid (Turn pb mb w w1) := t1
  clear p1 t1 HC'
  go_wp2
  go_returns
  exact ⟨rfl, P1.out.mono, T1.out⟩

set_option maxHeartbeats 1000000 in
theorem step_d (pb mb n : Nat) (s : St) (w : World) (hp : IsP w pb mb n s) (ok : Ok s) (hn : n < maxLen) (hl : (Lit.int .i64 s.li).wf = true) (hs : ¬ 0 < s.st) : StepTo pb mb n 100 w (raiseS (-1) s) := by
  have HC := raise_any pb mb n s (-1) w hp ok (by omega) (by omega)
  have c8 := hp.c8
  generalize hst : s.st = st at c8 hs
  generalize raiseS (-1) s = s' at HC ⊢
  have HC' : Hid (Calls _ _ _ _ _) := HC
  clear HC hp ok hl hst
  go_enter Tryz.func74, Tryz.ntmps74
  go_wp2_with fail
  refine HC'.out.mono ?_
  rintro e w1 ⟨rfl, p1, t1⟩
  have P1 : Hid (IsP w1 pb mb n s') := p1
  have T1 : Hid (Turn pb mb w w1) := t1
  clear p1 t1 HC'
  go_wp2
  go_returns
  exact ⟨rfl, P1.out.mono, T1.out⟩

set_option maxHeartbeats 1000000 in
theorem step_l (pb mb n : Nat) (s : St) (w : World) (hp : IsP w pb mb n s) (ok : Ok s) (hn : n < maxLen) (hl : (Lit.int .i64 s.li).wf = true) (hs : ¬ 0 < s.st) : StepTo pb mb n 108 w (slideS (-1) s) := by
  have HC := slide_any pb mb n s (-1) w hp ok (by omega) (by omega)
  have c8 := hp.c8
  generalize hst : s.st = st at c8 hs
  generalize slideS (-1) s = s' at HC ⊢
  have HC' : Hid (Calls _ _ _ _ _) := HC
  clear HC hp ok hl hst
  go_enter Tryz.func74, Tryz.ntmps74
  go_wp2_with fail
  refine HC'.out.mono ?_
  rintro e w1 ⟨rfl, p1, t1⟩
  have P1 : Hid (IsP w1 pb mb n s') := p1
  have T1 : Hid (Turn pb mb w w1) := t1
  clear p1 t1 HC'
  go_wp2
  go_returns
  exact ⟨rfl, P1.out.mono, T1.out⟩

set_option maxHeartbeats 1000000 in
theorem step_r (pb mb n : Nat) (s : St) (w : World) (hp : IsP w pb mb n s) (ok : Ok s) (hn : n < maxLen) (hl : (Lit.int .i64 s.li).wf = true) (hs : ¬ 0 < s.st) : StepTo pb mb n 114 w (slideS 1 s) := by
  have HC := slide_any pb mb n s 1 w hp ok (by omega) (by omega)
  have c8 := hp.c8
  generalize hst : s.st = st at c8 hs
  generalize slideS 1 s = s' at HC ⊢
  have HC' : Hid (Calls _ _ _ _ _) := HC
  clear HC hp ok hl hst
  go_enter Tryz.func74, Tryz.ntmps74
  go_wp2_with fail
  refine HC'.out.mono ?_
  rintro e w1 ⟨rfl, p1, t1⟩
  have P1 : Hid (IsP w1 pb mb n s') := p1
  have T1 : Hid (Turn pb mb w w1) := t1
  clear p1 t1 HC'
  go_wp2
  go_returns
  exact ⟨rfl, P1.out.mono, T1.out⟩

set_option maxHeartbeats 1000000 in
theorem step_g (pb mb n : Nat) (s : St) (w : World) (hp : IsP w pb mb n s) (ok : Ok s) (hn : n < maxLen) (hl : (Lit.int .i64 s.li).wf = true) (hs : ¬ 0 < s.st) : StepTo pb mb n 103 w (grabS s) := by
  have HC := grab_any pb mb n s w hp ok
  have c8 := hp.c8
  generalize hst : s.st = st at c8 hs
  generalize grabS s = s' at HC ⊢
  have HC' : Hid (Calls _ _ _ _ _) := HC
  clear HC hp ok hl hst
  go_enter Tryz.func74, Tryz.ntmps74
  go_wp2_with fail
  refine HC'.out.mono ?_
  rintro e w1 ⟨rfl, p1, t1⟩
  have P1 : Hid (IsP w1 pb mb n s') := p1
  have T1 : Hid (Turn pb mb w w1) := t1
  clear p1 t1 HC'
  go_wp2
  go_returns
  exact ⟨rfl, P1.out.mono, T1.out⟩

set_option maxHeartbeats 1000000 in
theorem step_p (pb mb n : Nat) (s : St) (w : World) (hp : IsP w pb mb n s) (ok : Ok s) (hn : n < maxLen) (hl : (Lit.int .i64 s.li).wf = true) (hs : ¬ 0 < s.st) : StepTo pb mb n 112 w (putS s) := by
  have HC := put_any pb mb n s w hp ok hn hl
  have c8 := hp.c8
  generalize hst : s.st = st at c8 hs
  generalize putS s = s' at HC ⊢
  have HC' : Hid (Calls _ _ _ _ _) := HC
  clear HC hp ok hl hst
  go_enter Tryz.func74, Tryz.ntmps74
  go_wp2_with fail
  refine HC'.out.mono ?_
  rintro e w1 ⟨rfl, p1, t1⟩
  have P1 : Hid (IsP w1 pb mb (n + 1) s') := p1
  have T1 : Hid (Turn pb mb w w1) := t1
  clear p1 t1 HC'
  go_wp2
  go_returns
  exact ⟨rfl, P1.out, T1.out⟩

set_option maxHeartbeats 1000000 in
theorem step_n (pb mb n : Nat) (s : St) (w : World) (hp : IsP w pb mb n s) (ok : Ok s) (hn : n < maxLen) (hl : (Lit.int .i64 s.li).wf = true) (hs : ¬ 0 < s.st) : StepTo pb mb n 110 w (takeInS s) := by
  have HC := takeIn_any pb mb n s w hp
  have c8 := hp.c8
  generalize hst : s.st = st at c8 hs
  generalize takeInS s = s' at HC ⊢
  have HC' : Hid (Calls _ _ _ _ _) := HC
  clear HC hp ok hl hst
  go_enter Tryz.func74, Tryz.ntmps74
  go_wp2_with fail
  refine HC'.out.mono ?_
  rintro e w1 ⟨rfl, p1, t1⟩
  have P1 : Hid (IsP w1 pb mb n s') := p1
  have T1 : Hid (Turn pb mb w w1) := t1
  clear p1 t1 HC'
  go_wp2
  go_returns
  exact ⟨rfl, P1.out.mono, T1.out⟩

set_option maxHeartbeats 1000000 in
theorem step_x (pb mb n : Nat) (s : St) (w : World) (hp : IsP w pb mb n s) (ok : Ok s) (hn : n < maxLen) (hl : (Lit.int .i64 s.li).wf = true) (hs : ¬ 0 < s.st) : StepTo pb mb n 120 w (giveOutS s) := by
  have HC := giveOut_any pb mb n s w hp
  have c8 := hp.c8
  generalize hst : s.st = st at c8 hs
  generalize giveOutS s = s' at HC ⊢
  have HC' : Hid (Calls _ _ _ _ _) := HC
  clear HC hp ok hl hst
  go_enter Tryz.func74, Tryz.ntmps74
  go_wp2_with fail
  refine HC'.out.mono ?_
  rintro e w1 ⟨rfl, p1, t1⟩
  have P1 : Hid (IsP w1 pb mb n s') := p1
  have T1 : Hid (Turn pb mb w w1) := t1
  clear p1 t1 HC'
  go_wp2
  go_returns
  exact ⟨rfl, P1.out.mono, T1.out⟩

set_option maxHeartbeats 1000000 in
theorem step_o (pb mb n : Nat) (s : St) (w : World) (hp : IsP w pb mb n s) (hs : ¬ 0 < s.st) : StepTo pb mb n 111 w (openS s) := by
  have c8 := hp.c8
  have HB := below_any pb s.h s.ex w hp.c1 hp.c2
  have HH := hurtP pb mb n s (!decide (s.h = 0 ∧ s.ex = 0)) _ w hp rfl
  have HD : Hid (∀ w1, IsP w1 pb mb n { s with hu := s.hu || !decide (s.h = 0 ∧ s.ex = 0) } → IsP (w1.setCell ⟨pb, 3, none⟩ (.bool true)) pb mb n (openS s)) := fun w1 h => h.set 3 _ rfl rfl
  generalize openS s = s' at HD ⊢
  generalize hst : s.st = st at c8 hs
  generalize (decide (s.h = 0 ∧ s.ex = 0)) = q at HB HH HD
  generalize hs2 : ({ s with hu := s.hu || !q } : St) = s2 at HH HD
  have HB' : Hid (Calls _ _ _ _ _) := HB
  have HH' : Hid (Calls _ _ _ _ _) := HH
  clear HB HH hp hst hs2
  go_enter Tryz.func74, Tryz.ntmps74
  go_wp2_with fail
  refine HB'.out.mono ?_
  rintro e w1 ⟨rfl, rfl⟩
  go_wp2_with fail
  refine HH'.out.mono ?_
  rintro e w1 ⟨rfl, p1, t1⟩
  have P1 : Hid (IsP w1 pb mb n s2) := p1
  have T1 : Hid (Turn pb mb _ w1) := t1
  have d3 := p1.c3
  have f3 := p1.free 3
  clear p1 t1 HB' HH' c8
  go_wp2
  go_returns
  exact ⟨rfl, (HD.out _ P1.out).mono, T1.out.trans (Turn.set _ _ _)⟩

set_option maxHeartbeats 1000000 in
theorem step_c (pb mb n : Nat) (s : St) (w : World) (hp : IsP w pb mb n s) (hs : ¬ 0 < s.st) : StepTo pb mb n 99 w (shutS s) := by
  have c8 := hp.c8
  have c4 := hp.c4
  have HH := hurtP pb mb n s (s.pe != 0) _ w hp rfl
  have HD : Hid (∀ w1, IsP w1 pb mb n { s with hu := s.hu || s.pe != 0 } → IsP (w1.setCell ⟨pb, 3, none⟩ (.bool false)) pb mb n (shutS s)) := fun w1 h => h.set 3 _ rfl rfl
  generalize shutS s = s' at HD ⊢
  generalize hst : s.st = st at c8 hs
  generalize hs2 : ({ s with hu := s.hu || s.pe != 0 } : St) = s2 at HH HD
  generalize hpe : s.pe = pe at HH c4
  have HH' : Hid (Calls _ _ _ _ _) := HH
  clear HH hp hst hs2 hpe
  go_enter Tryz.func74, Tryz.ntmps74
  go_wp2_with fail
  refine HH'.out.mono ?_
  rintro e w1 ⟨rfl, p1, t1⟩
  have P1 : Hid (IsP w1 pb mb n s2) := p1
  have T1 : Hid (Turn pb mb _ w1) := t1
  have d3 := p1.c3
  have f3 := p1.free 3
  clear p1 t1 HH' c8
  go_wp2
  go_returns
  exact ⟨rfl, (HD.out _ P1.out).mono, T1.out.trans (Turn.set _ _ _)⟩

set_option maxHeartbeats 1000000 in
theorem step_stall (pb mb n : Nat) (s : St) (c : Int) (w : World) (hp : IsP w pb mb n s) (hs : 0 < s.st) (h5 : s.st ≤ 5) (hc : ¬ c = 45) : StepTo pb mb n c w { s with st := s.st - 1 } := by
  have c8 := hp.c8
  have f8 := hp.free 8
  have HD : Hid (∀ v, v = s.st - 1 → IsP (w.setCell ⟨pb, 8, none⟩ (.int .i64 v)) pb mb n { s with st := s.st - 1 }) := fun v hv => hp.set 8 _ (by rw [hv]; rfl) rfl
  generalize hst : s.st = st at c8 hs h5 HD
  generalize hs2 : ({ s with st := st - 1 } : St) = s2 at HD ⊢
  have m1 : IntKind.i64.wrap (st - 1) = st - 1 := by rw [IntKind.wrap_i64]; omega
  clear hp hst hs2
  go_enter Tryz.func74, Tryz.ntmps74
  go_wp2
  go_returns
  exact ⟨rfl, (HD.out _ rfl).mono, Turn.set _ _ _⟩

set_option maxHeartbeats 1000000 in
theorem step_none (pb mb n : Nat) (s : St) (c : Int) (w : World) (hp : IsP w pb mb n s) (hs : ¬ (0 < s.st ∧ c ≠ 45)) (k1 : ¬ c = 117) (k2 : ¬ c = 100) (k3 : ¬ c = 108) (k4 : ¬ c = 114) (k5 : ¬ c = 103) (k6 : ¬ c = 112) (k7 : ¬ c = 111) (k8 : ¬ c = 99) (k9 : ¬ c = 110) (k10 : ¬ c = 120) : StepTo pb mb n c w s := by
  have c8 := hp.c8
  have P : Hid (IsP w pb mb n s) := hp
  by_cases hc : c = 45
  · subst hc
    generalize hst : s.st = st at c8
    clear hp hst hs
    go_enter Tryz.func74, Tryz.ntmps74
    go_wp2
    all_goals (go_returns; exact ⟨rfl, P.out.mono, Turn.refl _ _ _⟩)
  · have hs' : ¬ 0 < s.st := fun h => hs ⟨h, hc⟩
    generalize hst : s.st = st at c8 hs'
    clear hp hst hs
    go_enter Tryz.func74, Tryz.ntmps74
    go_wp2
    all_goals (go_returns; exact ⟨rfl, P.out.mono, Turn.refl _ _ _⟩)

theorem step_any (pb mb n : Nat) (s : St) (c : Int) (w : World) (hp : IsP w pb mb n s) (ok : Ok s) (hn : n < maxLen) (hl : (Lit.int .i64 s.li).wf = true) (h5 : s.st ≤ 5) : StepTo pb mb n c w (stepS c s) := by
  by_cases hs : 0 < s.st ∧ c ≠ 45
  · rw [show stepS c s = { s with st := s.st - 1 } from if_pos hs]
    exact step_stall pb mb n s c w hp hs.1 h5 hs.2
  · rw [show stepS c s = doS c s from if_neg hs]
    unfold doS
    by_cases k1 : c = 117
    · subst k1
      simp only [if_true]
      exact step_u pb mb n s w hp ok hn hl (by omega)
    rw [if_neg k1]
    by_cases k2 : c = 100
    · subst k2
      simp only [if_true]
      exact step_d pb mb n s w hp ok hn hl (by omega)
    rw [if_neg k2]
    by_cases k3 : c = 108
    · subst k3
      simp only [if_true]
      exact step_l pb mb n s w hp ok hn hl (by omega)
    rw [if_neg k3]
    by_cases k4 : c = 114
    · subst k4
      simp only [if_true]
      exact step_r pb mb n s w hp ok hn hl (by omega)
    rw [if_neg k4]
    by_cases k5 : c = 103
    · subst k5
      simp only [if_true]
      exact step_g pb mb n s w hp ok hn hl (by omega)
    rw [if_neg k5]
    by_cases k6 : c = 112
    · subst k6
      simp only [if_true]
      exact step_p pb mb n s w hp ok hn hl (by omega)
    rw [if_neg k6]
    by_cases k7 : c = 111
    · subst k7
      simp only [if_true]
      exact step_o pb mb n s w hp (by omega)
    rw [if_neg k7]
    by_cases k8 : c = 99
    · subst k8
      simp only [if_true]
      exact step_c pb mb n s w hp (by omega)
    rw [if_neg k8]
    by_cases k9 : c = 110
    · subst k9
      simp only [if_true]
      exact step_n pb mb n s w hp ok hn hl (by omega)
    rw [if_neg k9]
    by_cases k10 : c = 120
    · subst k10
      simp only [if_true]
      exact step_x pb mb n s w hp ok hn hl (by omega)
    rw [if_neg k10]
    exact step_none pb mb n s c w hp hs k1 k2 k3 k4 k5 k6 k7 k8 k9 k10

end Pl
end Go.Proofs.YtopgllmjeliklaaGreatDoor

namespace Go.Proofs.YtopgllmjeliklaaGreatDoor
open Go.ChangeShapes Go.WideShapes Go.ChangeAt Go.RowKit Go.Maps
set_option maxRecDepth 100000
set_option linter.unusedSimpArgs false
set_option linter.unusedVariables false

namespace Pl
/-- What reads as a place's key is three numbers. -/
theorem key_inv {v : Value} {kl : Lit} (h : keyOf Tryz.prog 65 v = some kl) :
    ∃ x y z : Int, v = .agg #[.int .i64 x, .int .i64 y, .int .i64 z] ∧ kl = pk x y z ∧ (Lit.int .i64 x).wf = true ∧ (Lit.int .i64 y).wf = true ∧ (Lit.int .i64 z).wf = true := by
  have hn : ∃ m, Tryz.prog.types.size + 1 = m + 2 := ⟨Tryz.prog.types.size - 1, by have h1 : (65 : Nat) < Tryz.prog.types.size := rowP; omega⟩
  obtain ⟨m, hm⟩ := hn
  have hk : Tryz.prog.keyType 65 = true := deepP
  have one : ∀ a l, Tryz.prog.keyLits (m + 1) 3 [a] = some l → ∃ x : Int, a = .int .i64 x ∧ l = [.int .i64 x] ∧ (Lit.int .i64 x).wf = true := by
    intro a l hl
    cases a <;> simp [Program.keyLits, Tryz.underlying3] at hl
    obtain ⟨⟨rfl, hw⟩, rfl⟩ := hl
    exact ⟨_, rfl, rfl, hw⟩
  cases v with
  | agg cs =>
    by_cases hs : cs.size = 3
    · obtain ⟨a, b, c, rfl⟩ := array_of_size3 hs
      have hf : (Value.agg #[a, b, c]).formed Tryz.prog 65 = true := by simp [Value.formed, Tryz.underlying65, cellsP]
      unfold keyOf at h
      rw [Tryz.underlying65] at h
      simp only [hk, hf, Bool.and_self, if_true, hm] at h
      rw [Option.map_eq_some_iff] at h
      obtain ⟨ls, hls, rfl⟩ := h
      unfold Program.keyLits at hls
      simp only [Tryz.underlying65] at hls
      simp [cellsP, Value.cells, cellsI] at hls
      cases ha : Tryz.prog.keyLits (m + 1) 3 [a] with
      | none => simp [ha] at hls
      | some la =>
        cases hb : Tryz.prog.keyLits (m + 1) 3 [b] with
        | none => simp [ha, hb] at hls
        | some lb =>
          cases hc : Tryz.prog.keyLits (m + 1) 3 [c] with
          | none => simp [ha, hb, hc] at hls
          | some lc =>
            obtain ⟨x, rfl, rfl, wx⟩ := one _ _ ha
            obtain ⟨y, rfl, rfl, wy⟩ := one _ _ hb
            obtain ⟨z, rfl, rfl, wz⟩ := one _ _ hc
            simp [ha, hb, hc] at hls
            exact ⟨x, y, z, rfl, by rw [← hls]; rfl, wx, wy, wz⟩
    · unfold keyOf at h
      rw [Tryz.underlying65] at h
      simp [Value.formed, Tryz.underlying65, cellsP, hs] at h
  | _ =>
    unfold keyOf at h
    rw [Tryz.underlying65] at h
    simp [Value.formed, Tryz.underlying65] at h

/-- Two places with one key are one. -/
theorem pk_inj {x y z x' y' z' : Int} (hx : (Lit.int .i64 x).wf = true) (hy : (Lit.int .i64 y).wf = true) (hz : (Lit.int .i64 z).wf = true) (hx' : (Lit.int .i64 x').wf = true) (hy' : (Lit.int .i64 y').wf = true) (hz' : (Lit.int .i64 z').wf = true)
    (h : pk x y z = pk x' y' z') : x = x' ∧ y = y' ∧ z = z' := by
  have h' : keyBytes [.int .i64 x, .int .i64 y, .int .i64 z] = keyBytes [.int .i64 x', .int .i64 y', .int .i64 z'] := by simpa [pk] using h
  have := keyBytes_inj (l := [.int .i64 x, .int .i64 y, .int .i64 z]) (l' := [.int .i64 x', .int .i64 y', .int .i64 z']) ⟨rfl, rfl, rfl, trivial⟩ (by simp [Lit.keyWf, hx, hy, hz]) (by simp [Lit.keyWf, hx', hy', hz']) h'
  simpa using this

theorem pk_key (x y z : Int) : WideAt.IsKeyLit (pk x y z) := trivial

/-- The cars: each key is a place of the levels, each car a number from 1 on. -/
structure DOk (lv : Int) (D : DataW Unit) : Prop where
  isMap : IsMap D
  keys : ∀ k, has D k = true → ∃ x y z : Int, k = pk x y z ∧ (1 ≤ x ∧ x ≤ lv) ∧ (0 ≤ y ∧ y ≤ 1) ∧ (0 ≤ z ∧ z ≤ 1) ∧ ∃ c : Int, (∀ zd, D.atKey k zd = .lit (.int .i64 c)) ∧ 1 ≤ c ∧ c ≤ 999

theorem DOk.empty (lv : Int) : DOk lv (.map []) := ⟨isMap_empty, fun k h => by simp [has] at h⟩

theorem carOf_put {D : DataW Unit} (hD : IsMap D) {X Y Z x y z c : Int} (hX : (Lit.int .i64 X).wf = true) (hY : (Lit.int .i64 Y).wf = true) (hZ : (Lit.int .i64 Z).wf = true) (hx : (Lit.int .i64 x).wf = true) (hy : (Lit.int .i64 y).wf = true) (hz : (Lit.int .i64 z).wf = true) :
    carOf (D.put (pk X Y Z) (.lit (.int .i64 c))) x y z = if x = X ∧ y = Y ∧ z = Z then c else carOf D x y z := by
  by_cases h : x = X ∧ y = Y ∧ z = Z
  · obtain ⟨rfl, rfl, rfl⟩ := h
    rw [if_pos ⟨rfl, rfl, rfl⟩]
    exact carOf_of (atKey_put_same hD (pk_key _ _ _) _ _)
  · rw [if_neg h]
    have hne : pk x y z ≠ pk X Y Z := fun e => h (pk_inj hx hy hz hX hY hZ e)
    simp only [carOf, atKey_put_other hne]

theorem carOf_del {D : DataW Unit} {X Y Z x y z : Int} (hX : (Lit.int .i64 X).wf = true) (hY : (Lit.int .i64 Y).wf = true) (hZ : (Lit.int .i64 Z).wf = true) (hx : (Lit.int .i64 x).wf = true) (hy : (Lit.int .i64 y).wf = true) (hz : (Lit.int .i64 z).wf = true) :
    carOf (D.del (pk X Y Z)) x y z = if x = X ∧ y = Y ∧ z = Z then 0 else carOf D x y z := by
  by_cases h : x = X ∧ y = Y ∧ z = Z
  · obtain ⟨rfl, rfl, rfl⟩ := h
    rw [if_pos ⟨rfl, rfl, rfl⟩]
    exact carOf_of (atKey_del_same _)
  · rw [if_neg h]
    have hne : pk x y z ≠ pk X Y Z := fun e => h (pk_inj hx hy hz hX hY hZ e)
    simp only [carOf, atKey_del_other hne]

theorem DOk.put {lv : Int} {D : DataW Unit} (h : DOk lv D) {X Y Z c : Int} (hX : 1 ≤ X ∧ X ≤ lv) (hY : 0 ≤ Y ∧ Y ≤ 1) (hZ : 0 ≤ Z ∧ Z ≤ 1) (hc : 1 ≤ c ∧ c ≤ 999) : DOk lv (D.put (pk X Y Z) (.lit (.int .i64 c))) := by
  refine ⟨h.isMap.put _ _, fun k hk => ?_⟩
  by_cases e : k = pk X Y Z
  · subst e
    exact ⟨X, Y, Z, rfl, hX, hY, hZ, c, fun zd => atKey_put_same h.isMap (pk_key _ _ _) _ _, hc⟩
  · rw [has_put_other e] at hk
    obtain ⟨x, y, z, rfl, h1, h2, h3, c', h4, h5⟩ := h.keys k hk
    exact ⟨x, y, z, rfl, h1, h2, h3, c', fun zd => by rw [atKey_put_other e]; exact h4 zd, h5⟩

theorem DOk.del {lv : Int} {D : DataW Unit} (h : DOk lv D) (k0 : Lit) : DOk lv (D.del k0) := by
  refine ⟨h.isMap.del _, fun k hk => ?_⟩
  by_cases e : k = k0
  · subst e
    rw [has_del_same] at hk
    cases hk
  · rw [has_del_other e] at hk
    obtain ⟨x, y, z, rfl, h1, h2, h3, c', h4, h5⟩ := h.keys k hk
    exact ⟨x, y, z, rfl, h1, h2, h3, c', fun zd => by rw [atKey_del_other e]; exact h4 zd, h5⟩

/-- Which cars there may be at a place. -/
theorem DOk.car {lv : Int} {D : DataW Unit} (h : DOk lv D) (x y z : Int) : 0 ≤ carOf D x y z ∧ carOf D x y z ≤ 999 := by
  cases k : has D (pk x y z) with
  | true =>
    obtain ⟨_, _, _, _, _, _, _, c, hc, h1, h2⟩ := h.keys _ k
    rw [carOf_of (hc _)]
    omega
  | false =>
    rw [carOf_of (c := 0) (atKey_of_not_has k _)]
    omega
/-- A car is where the map has its key. -/
theorem DOk.has_iff {lv : Int} {D : DataW Unit} (h : DOk lv D) (x y z : Int) : has D (pk x y z) = true ↔ carOf D x y z ≠ 0 := by
  cases k : has D (pk x y z) with
  | true =>
    obtain ⟨_, _, _, _, _, _, _, c, hc, h1, h2⟩ := h.keys _ k
    rw [carOf_of (hc _)]
    simp; omega
  | false =>
    rw [carOf_of (c := 0) (atKey_of_not_has k _)]
    simp
/-- Where there is a car, there is a place. -/
theorem DOk.place {lv : Int} {D : DataW Unit} (h : DOk lv D) (h4 : lv ≤ 4) {x y z : Int} (hx : (Lit.int .i64 x).wf = true) (hy : (Lit.int .i64 y).wf = true) (hz : (Lit.int .i64 z).wf = true) (hc : carOf D x y z ≠ 0) : (1 ≤ x ∧ x ≤ lv) ∧ (0 ≤ y ∧ y ≤ 1) ∧ (0 ≤ z ∧ z ≤ 1) := by
  obtain ⟨x', y', z', e, h1, h2, h3, _⟩ := h.keys _ ((h.has_iff x y z).2 hc)
  obtain ⟨rfl, rfl, rfl⟩ := pk_inj hx hy hz (wfI (by omega)) (wfI (by omega)) (wfI (by omega)) e
  exact ⟨h1, h2, h3⟩

end Pl
end Go.Proofs.YtopgllmjeliklaaGreatDoor

namespace Go.Proofs.YtopgllmjeliklaaGreatDoor
open Go.ChangeShapes Go.WideShapes Go.ChangeAt Go.RowKit Go.Maps
set_option maxRecDepth 100000
set_option linter.unusedSimpArgs false
set_option linter.unusedVariables false

namespace Pl
def mkP (p : Int × Int × Int) : Value := .agg #[.int .i64 p.1, .int .i64 p.2.1, .int .i64 p.2.2]
theorem invP (key : Value) (kl : Lit) (h : keyOf Tryz.prog 65 key = some kl) : ∃ p, key = mkP p := by
  obtain ⟨x, y, z, rfl, _⟩ := key_inv h
  exact ⟨(x, y, z), rfl⟩
theorem invI (v : Value) (y : DataW Unit × List MemPlace) (h : plainElem Tryz.prog 3 v = some y) : ∃ c, v = Value.int .i64 c := by
  obtain ⟨c, rfl, _⟩ := plainElem_int_inv Tryz.underlying3 h
  exact ⟨c, rfl⟩

/-- What Where answers: a place that has the car; or none has. -/
def WhereP (D : DataW Unit) (id : Int) (x y z : Int) (b : Bool) : Prop :=
  (b = true ∧ has D (pk x y z) = true ∧ (∀ zd, D.atKey (pk x y z) zd = .lit (.int .i64 id)) ∧ (Lit.int .i64 x).wf = true ∧ (Lit.int .i64 y).wf = true ∧ (Lit.int .i64 z).wf = true) ∨
  (b = false ∧ x = 0 ∧ y = 0 ∧ z = 0 ∧ ∀ k, has D k = true → ∀ c, (∀ zd, D.atKey k zd = .lit (.int .i64 c)) → c ≠ id)

theorem grown_below {a b : World} (h : a.grownBy b none) : Below a.heap.size a b := ⟨h.os, h.tape, h.output, h.size, fun k hk => h.block k hk (by simp)⟩
theorem grown_new {a b c : World} {r : Nat} (h : Below a.heap.size a b) (k : b.grownBy c (some r)) (hr : a.heap.size ≤ r) : Below a.heap.size a c :=
  ⟨k.os.trans h.os, k.tape.trans h.tape, k.output.trans h.output, Nat.le_trans h.size k.size, fun i hi => (k.block i (Nat.lt_of_lt_of_le hi h.size) (by simp; omega)).trans (h.block i hi)⟩

set_option maxHeartbeats 2000000 in
theorem where_any (pb mb n : Nat) (s : St) (id : Int) (w : World) (hp : IsP w pb mb n s) :
    Calls Tryz.prog 31 #[.pointer (some ⟨pb, 0, none⟩), .int .i64 id] w fun e w' => ∃ x y z b, e = .returned (.tuple #[.agg #[.int .i64 x, .int .i64 y, .int .i64 z], .bool b]) ∧ WhereP s.D id x y z b ∧ Below w.heap.size w w' := by
  have hlt : pb < w.heap.size := hp.lt
  have c7 : ∀ o, (w.alloc o).cell? ⟨pb, 7, none⟩ = some (.map (some mb)) := fun o => ((B.cell (B.new1 w o)) pb 7 hlt).trans hp.c7
  have hown : ∀ o, Cars (w.alloc o) mb n s.D := fun o => World.ownsMap.alloc hp.cars o
  generalize s.D = D at hown ⊢
  clear hp
  go_enter Tryz.func31, Tryz.ntmps31
  go_wp2_with (first
    | (at_range; refine wpList_range_own _ rfl _ 90 rfl 65 3 law Tryz.underlying90 _ mb n _ rfl (hown _) ?_; intro w0 hrg0 hg0 hs0)
    | go_in)
  go_frame
  have e1 : (w.alloc (.cells #[.int .i64 0, .int .i64 0, .int .i64 0] 65)).heap.size = w.heap.size + 1 := by simp
  rw [e1] at hrg0 hs0
  simp only [e1]
  have b0 : Below w.heap.size w w0 := B.next (B.new1 w _) (grown_below hg0) (by simp)
  have g0 : ∀ o, w0.cell? ⟨w.heap.size, o, none⟩ = (#[.int .i64 0, .int .i64 0, .int .i64 0] : Array Value)[o]? := B.row (grown_below hg0) (B.row_new w _ _) (by simp)
  have f0 : ∀ o, w0.frozen? ⟨w.heap.size, o, none⟩ = false := fun o => (B.frozen (grown_below hg0) _ o (by simp)).trans (by simp)
  clear hown c7 hg0
  go_loopw [7] (fun _ wr => ∃ (left : Lit → Bool) (cnt : Nat), wr.ranges Tryz.prog 65 (plainElem Tryz.prog 3) mb (w.heap.size + 1) n D left cnt ∧ Below w.heap.size w wr ∧ w.heap.size + 2 ≤ wr.heap.size ∧
      (∀ o, wr.cell? ⟨w.heap.size, o, none⟩ = (#[.int .i64 0, .int .i64 0, .int .i64 0] : Array Value)[o]?) ∧ (∀ o, wr.frozen? ⟨w.heap.size, o, none⟩ = false) ∧ (∀ k, left k = true → has D k = true) ∧
      (∀ k, has D k = true → left k = true ∨ ∀ c, (∀ zd, D.atKey k zd = .lit (.int .i64 c)) → c ≠ id))
    (fun _ wr => wr.rangeLeft mb (w.heap.size + 1))
  case atStart => exact ⟨_, _, hrg0, b0, by omega, g0, f0, fun k hk => hk, fun k hk => Or.inl hk⟩
  case round =>
    obtain ⟨left, cnt, hrg, hb, hz, hg, hf, hle, hno⟩ := hrel
    have HB : Hid (Below w.heap.size w wr) := hb
    have HNO : Hid (∀ k, has D k = true → left k = true ∨ ∀ c, (∀ zd, D.atKey k zd = .lit (.int .i64 c)) → c ≠ id) := hno
    have HLE : Hid (∀ k, left k = true → has D k = true) := hle
    have HG : Hid (∀ o, wr.cell? ⟨w.heap.size, o, none⟩ = (#[.int .i64 0, .int .i64 0, .int .i64 0] : Array Value)[o]?) := hg
    have HF : Hid (∀ o, wr.frozen? ⟨w.heap.size, o, none⟩ = false) := hf
    clear hb hno hle hg hf g0 f0 b0
    go_wp2_with (first
      | (at_next; refine wpList_next_ranges _ rfl _ rfl 65 law (plainElem Tryz.prog 3) mkP (Value.int .i64) invP invI mb (w.heap.size + 1) n _ _ _ rfl hrg ?_ ?_)
      | go_in)
    · intro _ hl0
      have q0 := set3_0 HG.out
      have q1 := set3_1 HG.out
      have q2 := set3_2 HG.out
      have g0 := HG.out 0; have g1 := HG.out 1; have g2 := HG.out 2
      have f0 := HF.out 0; have f1 := HF.out 1; have f2 := HF.out 2
      simp at g0 g1 g2
      have HL0 : Hid (∀ kl, left kl = false) := hl0
      clear hl0 hrg
      go_wp2
      (try simp only [Exit.inBlock, Exit.then])
      refine bodyPost_ret (by simp [results, Tryz.results31, go_sem, q0, q1, q2]; try rfl) rfl ?_
      refine ⟨0, 0, 0, false, by simp, Or.inr ⟨rfl, rfl, rfl, rfl, fun k hk => ?_⟩, by have := HB.out; go_grown⟩
      rcases HNO.out k hk with h | h
      · rw [HL0.out k] at h; cases h
      · exact h
    · intro x y z c kl v vp w1 cnt1 hkey hlx hv hat hrg1 hlt1 hg1 hs1 hen
      obtain ⟨x', y', z', e', hkl, wx, wy, wz⟩ := key_inv hkey
      simp only [mkP, Value.agg.injEq, Array.mk.injEq, List.cons.injEq, Value.int.injEq, true_and, and_true] at e'
      obtain ⟨rfl, rfl, rfl⟩ := e'
      subst hkl
      obtain ⟨c', ec, ev, wc⟩ := plainElem_int_inv Tryz.underlying3 hv
      cases ec
      cases ev
      simp only [mkP] at hen ⊢
      have HB1 : Hid (Below w.heap.size w w1) := grown_new HB.out hg1 (by omega)
      have HG1 : Hid (∀ o, w1.cell? ⟨w.heap.size, o, none⟩ = (#[.int .i64 0, .int .i64 0, .int .i64 0] : Array Value)[o]?) := fun o => by
        have := hg1.block w.heap.size (by omega) (by simp)
        rw [← HG.out o]; simp only [World.cell?, this]
      have HF1 : Hid (∀ o, w1.frozen? ⟨w.heap.size, o, none⟩ = false) := fun o => by
        have := hg1.block w.heap.size (by omega) (by simp)
        rw [← HF.out o]; simp only [World.frozen?, this]
      have HAT : Hid (∀ zd, D.atKey (pk x y z) zd = .lit (.int .i64 c)) := hat
      have HLX : Hid (left (pk x y z) = true) := hlx
      have HRG : Hid (wr.ranges Tryz.prog 65 (plainElem Tryz.prog 3) mb (w.heap.size + 1) n D left cnt) := hrg
      have HRG1 : Hid (w1.ranges Tryz.prog 65 (plainElem Tryz.prog 3) mb (w.heap.size + 1) n D (fun z' => left z' && !z'.sameKey (pk x y z)) cnt1) := hrg1
      clear hat hlx hrg hrg1 hg1 hv hkey
      have z1 : w.heap.size < w1.heap.size := by omega
      have HG2 : Hid (∀ o' o, (w1.alloc o').cell? ⟨w.heap.size, o, none⟩ = (#[.int .i64 0, .int .i64 0, .int .i64 0] : Array Value)[o]?) := fun o' o => (B.cell (B.new1 w1 o') _ o z1).trans (HG1.out o)
      have HF2 : Hid (∀ o' o, (w1.alloc o').frozen? ⟨w.heap.size, o, none⟩ = false) := fun o' o => (B.frozen (B.new1 w1 o') _ o z1).trans (HF1.out o)
      have g0 : ∀ o', (w1.alloc o').cell? ⟨w.heap.size, 0, none⟩ = some (.int .i64 0) := fun o' => HG2.out o' 0
      have g1 : ∀ o', (w1.alloc o').cell? ⟨w.heap.size, 1, none⟩ = some (.int .i64 0) := fun o' => HG2.out o' 1
      have g2 : ∀ o', (w1.alloc o').cell? ⟨w.heap.size, 2, none⟩ = some (.int .i64 0) := fun o' => HG2.out o' 2
      have f0 : ∀ o', (w1.alloc o').frozen? ⟨w.heap.size, 0, none⟩ = false := fun o' => HF2.out o' 0
      have f1 : ∀ o', (w1.alloc o').frozen? ⟨w.heap.size, 1, none⟩ = false := fun o' => HF2.out o' 1
      have f2 : ∀ o', (w1.alloc o').frozen? ⟨w.heap.size, 2, none⟩ = false := fun o' => HF2.out o' 2
      have q0 := fun o' => set3_0 (HG2.out o')
      have q1 := fun o' => set3_1 (HG2.out o')
      have q2 := fun o' => set3_2 (HG2.out o')
      by_cases hc : c = id
      · subst hc
        go_wp2
        (try simp only [Exit.inBlock, Exit.then])
        refine bodyPost_ret (by simp [results, Tryz.results31, go_sem, q0, q1, q2]; try rfl) rfl ?_
        exact ⟨x, y, z, true, by simp, Or.inl ⟨rfl, HLE.out _ HLX.out, HAT.out, wx, wy, wz⟩, by have := HB1.out; go_grown⟩
      · have hc' : (c == id) = false := by simpa using hc
        have HC : Hid (c ≠ id) := hc
        clear hc
        go_wp2
        refine ⟨⟨_, cnt1, World.ranges.alloc HRG1.out _, HB1.out.alloc (by omega) _, by simp; omega, fun o => HG2.out _ o, fun o => HF2.out _ o, fun k hk => ?_, fun k hk => ?_⟩, ?_⟩
        · simp only [Bool.and_eq_true] at hk
          exact HLE.out k hk.1
        · by_cases hkk : k = pk x y z
          · subst hkk
            exact Or.inr fun c2 h2 e2 => HC.out (by have := (h2 (.lit (.int .i64 0))).symm.trans (HAT.out _); simp at this; omega)
          · rcases HNO.out k hk with h | h
            · exact Or.inl (by rw [h, sameKey_ne hkk]; rfl)
            · exact Or.inr h
        · rw [(World.ranges.alloc HRG1.out _).left_eq, HRG.out.left_eq]
          exact hlt1

/-- Is a car in some place? -/
def whereB (D : DataW Unit) (id : Int) : Prop := ∃ x y z, WhereP D id x y z true

theorem WhereP.iff {D : DataW Unit} {id x y z : Int} {b : Bool} (h : WhereP D id x y z b) : b = true ↔ whereB D id := by
  rcases h with ⟨rfl, h1, h2, h3⟩ | ⟨rfl, h0, h1, h2, h3⟩
  · exact ⟨fun _ => ⟨x, y, z, Or.inl ⟨rfl, h1, h2, h3⟩⟩, fun _ => rfl⟩
  · refine ⟨fun h => absurd h (by simp), fun ⟨x', y', z', h'⟩ => ?_⟩
    rcases h' with ⟨_, k1, k2, _⟩ | ⟨k, _⟩
    · exact absurd rfl (h3 _ k1 _ k2)
    · cases k

end Pl
end Go.Proofs.YtopgllmjeliklaaGreatDoor
