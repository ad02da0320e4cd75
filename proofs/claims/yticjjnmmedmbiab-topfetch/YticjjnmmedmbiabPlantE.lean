/- Chapter 2: cars go in and out of the lift (B3); contracts. -/
import Derived.Test.YticjjnmmedmbiabPlantD
namespace Go.Proofs.Yticjjnmmedmbiab
open Go.ChangeShapes Go.WideShapes Go.ChangeAt Go.RowKit Go.Maps
set_option maxRecDepth 100000
set_option linter.unusedSimpArgs false
set_option linter.unusedVariables false

namespace Pl

def takeInS (s : St) : St := if s.h = 0 ∧ s.ex = 0 ∧ s.li = 0 then { s with hu := s.hu || (s.op || s.pe != 0), li := s.ba, ba := 0 } else { s with hu := s.hu || (s.op || s.pe != 0) }
set_option maxHeartbeats 1000000 in
theorem takeIn_any (pb mb n : Nat) (s : St) (w : World) (hp : IsP w pb mb n s) :
    Calls Try.prog 77 #[.pointer (some ⟨pb, 0, none⟩)] w fun e w' => e = .returned (.tuple #[]) ∧ IsP w' pb mb n (takeInS s) ∧ Turn pb mb w w' := by
  obtain ⟨lv, h, ex, op, pe, li, ba, D, st, hu⟩ := s
  have c3 := hp.c3; have c4 := hp.c4
  simp only at c3 c4
  have P : Hid (IsP w pb mb n ⟨lv, h, ex, op, pe, li, ba, D, st, hu⟩) := hp
  clear hp
  have HY : Hid (h = 0 → ex = 0 → li = 0 → takeInS ⟨lv, h, ex, op, pe, li, ba, D, st, hu⟩ = { (⟨lv, h, ex, op, pe, li, ba, D, st, hu || (op || pe != 0)⟩ : St) with li := ba, ba := 0 }) := by
    intro h1 h2 h3
    simp [takeInS, h1, h2, h3]
  have HN : Hid (¬(h = 0 ∧ ex = 0 ∧ li = 0) → takeInS ⟨lv, h, ex, op, pe, li, ba, D, st, hu⟩ = ⟨lv, h, ex, op, pe, li, ba, D, st, hu || (op || pe != 0)⟩) := by
    intro h1
    simp only [takeInS, h1, if_false]
  generalize takeInS ⟨lv, h, ex, op, pe, li, ba, D, st, hu⟩ = s' at HY HN ⊢
  go_enter Try.func77, Try.ntmps77
  go_wp2_with fail
  all_goals
    refine (hurtP pb mb n ⟨lv, h, ex, op, pe, li, ba, D, st, hu⟩ _ (op || pe != 0) w P.out (by simp [*])).mono ?_
    rintro e w1 ⟨rfl, p1, t1⟩
    have T1 : Hid (Turn pb mb w w1) := t1
    have P1 : Hid (IsP w1 pb mb n ⟨lv, h, ex, op, pe, li, ba, D, st, hu || (op || pe != 0)⟩) := p1
    have d5 := p1.c5; have d6 := p1.c6; have f5 := p1.free 5; have f6 := p1.free 6
    simp only at d5 d6
    clear p1 t1 P c3 c4
    go_wp2_with fail
    refine (below_any pb h ex w1 P1.out.c1 P1.out.c2).mono ?_
    rintro e wx ⟨rfl, hwx⟩
    subst hwx
    by_cases k : h = 0 ∧ ex = 0
    · have K : Hid (h = 0 ∧ ex = 0) := k
      rw [decide_eq_true k]
      clear k
      by_cases kl : li = 0
      · have KL : Hid (li = 0) := kl
        have kl' : (li == 0) = true := by simpa using kl
        clear kl
        go_wp2
        go_returns
        refine ⟨rfl, ?_, ?_⟩
        · rw [HY.out K.out.1 K.out.2 KL.out]
          exact (P1.out.set 5 (.int .i64 ba) (s' := { (⟨lv, h, ex, op, pe, li, ba, D, st, hu || (op || pe != 0)⟩ : St) with li := ba }) rfl rfl).set 6 _ rfl rfl
        · exact (T1.out.trans (Turn.set _ _ _)).trans (Turn.set _ _ _)
      · have KL : Hid (¬ li = 0) := kl
        have kl' : (li == 0) = false := by simpa using kl
        clear kl
        go_wp2
        go_returns
        refine ⟨rfl, ?_, T1.out⟩
        rw [HN.out (fun q => KL.out q.2.2)]
        exact P1.out
    · have K : Hid (¬(h = 0 ∧ ex = 0)) := k
      rw [decide_eq_false k]
      clear k
      go_wp2
      go_returns
      refine ⟨rfl, ?_, T1.out⟩
      rw [HN.out (fun q => K.out ⟨q.1, q.2.1⟩)]
      exact P1.out

def giveOutS (s : St) : St := if s.h = 0 ∧ s.ex = 0 ∧ s.ba = 0 then { s with hu := s.hu || (s.op || s.pe != 0), ba := s.li, li := 0 } else { s with hu := s.hu || (s.op || s.pe != 0) }
set_option maxHeartbeats 1000000 in
theorem giveOut_any (pb mb n : Nat) (s : St) (w : World) (hp : IsP w pb mb n s) :
    Calls Try.prog 78 #[.pointer (some ⟨pb, 0, none⟩)] w fun e w' => e = .returned (.tuple #[]) ∧ IsP w' pb mb n (giveOutS s) ∧ Turn pb mb w w' := by
  obtain ⟨lv, h, ex, op, pe, li, ba, D, st, hu⟩ := s
  have c3 := hp.c3; have c4 := hp.c4
  simp only at c3 c4
  have P : Hid (IsP w pb mb n ⟨lv, h, ex, op, pe, li, ba, D, st, hu⟩) := hp
  clear hp
  have HY : Hid (h = 0 → ex = 0 → ba = 0 → giveOutS ⟨lv, h, ex, op, pe, li, ba, D, st, hu⟩ = { (⟨lv, h, ex, op, pe, li, ba, D, st, hu || (op || pe != 0)⟩ : St) with ba := li, li := 0 }) := by
    intro h1 h2 h3
    simp [giveOutS, h1, h2, h3]
  have HN : Hid (¬(h = 0 ∧ ex = 0 ∧ ba = 0) → giveOutS ⟨lv, h, ex, op, pe, li, ba, D, st, hu⟩ = ⟨lv, h, ex, op, pe, li, ba, D, st, hu || (op || pe != 0)⟩) := by
    intro h1
    simp only [giveOutS, h1, if_false]
  generalize giveOutS ⟨lv, h, ex, op, pe, li, ba, D, st, hu⟩ = s' at HY HN ⊢
  go_enter Try.func78, Try.ntmps78
  go_wp2_with fail
  all_goals
    refine (hurtP pb mb n ⟨lv, h, ex, op, pe, li, ba, D, st, hu⟩ _ (op || pe != 0) w P.out (by simp [*])).mono ?_
    rintro e w1 ⟨rfl, p1, t1⟩
    have T1 : Hid (Turn pb mb w w1) := t1
    have P1 : Hid (IsP w1 pb mb n ⟨lv, h, ex, op, pe, li, ba, D, st, hu || (op || pe != 0)⟩) := p1
    have d5 := p1.c5; have d6 := p1.c6; have f5 := p1.free 5; have f6 := p1.free 6
    simp only at d5 d6
    clear p1 t1 P c3 c4
    go_wp2_with fail
    refine (below_any pb h ex w1 P1.out.c1 P1.out.c2).mono ?_
    rintro e wx ⟨rfl, hwx⟩
    subst hwx
    by_cases k : h = 0 ∧ ex = 0
    · have K : Hid (h = 0 ∧ ex = 0) := k
      rw [decide_eq_true k]
      clear k
      by_cases kl : ba = 0
      · have KL : Hid (ba = 0) := kl
        have kl' : (ba == 0) = true := by simpa using kl
        clear kl
        go_wp2
        go_returns
        refine ⟨rfl, ?_, ?_⟩
        · rw [HY.out K.out.1 K.out.2 KL.out]
          exact (P1.out.set 6 (.int .i64 li) (s' := { (⟨lv, h, ex, op, pe, li, ba, D, st, hu || (op || pe != 0)⟩ : St) with ba := li }) rfl rfl).set 5 _ rfl rfl
        · exact (T1.out.trans (Turn.set _ _ _)).trans (Turn.set _ _ _)
      · have KL : Hid (¬ ba = 0) := kl
        have kl' : (ba == 0) = false := by simpa using kl
        clear kl
        go_wp2
        go_returns
        refine ⟨rfl, ?_, T1.out⟩
        rw [HN.out (fun q => KL.out q.2.2)]
        exact P1.out
    · have K : Hid (¬(h = 0 ∧ ex = 0)) := k
      rw [decide_eq_false k]
      clear k
      go_wp2
      go_returns
      refine ⟨rfl, ?_, T1.out⟩
      rw [HN.out (fun q => K.out ⟨q.1, q.2.1⟩)]
      exact P1.out

end Pl
end Go.Proofs.Yticjjnmmedmbiab
