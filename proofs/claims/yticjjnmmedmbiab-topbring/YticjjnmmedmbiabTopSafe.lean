/- TopSafe: nothing goes wrong where just that is done which may be (B3, C1). -/
import Derived.Test.YticjjnmmedmbiabMoved
import Derived.Test.YticjjnmmedmbiabGuardA
namespace Go.Proofs.Yticjjnmmedmbiab
open Go.ChangeShapes Go.WideShapes Go.ChangeAt Go.RowKit Go.Maps
set_option maxRecDepth 100000
set_option linter.unusedSimpArgs false
set_option linter.unusedVariables false

namespace Pl
open Ac
/-- May it be done, by what is seen? -/
def mayS (c : Int) (s : St) : Bool := mayB c s.h s.ex s.op s.pe s.li s.ba (carAtI s.D s.lv s.h s.ex != 0) (carAtI s.D s.lv s.h (s.ex - 1) != 0) (carAtI s.D s.lv s.h (s.ex + 1) != 0)
def guardS (c : Int) (s : St) : St := if mayS c s = true then stepS c s else s

theorem may_sense (c : Int) (s : St) (iv : Inv s) (w : World) : Calls Try.prog 79 #[.int .u8 c, senseV s] w fun e w' => e = .returned (.bool (mayS c s)) ∧ Below w.heap.size w w' :=
  may_any c s.h s.ex s.op s.pe s.li s.ba _ _ _ w (B.has_of (by have := iv.ok.h0; have := iv.ok.h12; have := iv.ok.lv4; omega)) (B.has_of (by have := iv.ok.e0; have := iv.ok.e2; omega))

/-- Where the shuttle may reach there is a place. -/
theorem endB_level {lv h ex : Int} (h0 : 0 ≤ h) (h12 : h ≤ lv * 3) (hl : levelB h = true) (e0 : -2 ≤ ex) (e2 : ex ≤ 2) (hne : ex ≠ 0) : endB lv h ex = true := by
  simp only [levelB, Bool.and_eq_true, decide_eq_true_eq, beq_iff_eq] at hl
  simp only [endB, placeB, Bool.and_eq_true, decide_eq_true_eq]
  refine ⟨⟨hl.1, hl.2, hne⟩, ?_⟩
  by_cases hn : ex < 0 <;> simp only [hn, if_true, if_false] <;> omega

theorem slide_safe {s : St} (iv : Inv s) (b : Int) (hu : s.hu = false) (hr : reachB (s.ex + b) s.h s.li (carAtI s.D s.lv s.h (s.ex + b) != 0) = true) : (slideS b s).hu = false := by
  have i0 := iv.ok.h0; have i1 := iv.ok.h12
  simp only [reachB, Bool.and_eq_true, decide_eq_true_eq, Bool.or_eq_true, beq_iff_eq, Bool.not_eq_true'] at hr
  obtain ⟨⟨r1, r2⟩, r3⟩ := hr
  unfold slideS
  rw [if_pos ⟨r1, r2⟩]
  simp only [hu, Bool.false_or]
  by_cases hx : s.ex + b = 0
  · have he : endB s.lv s.h 0 = false := by simp [endB]
    simp [hx, carAtI, he]
  · rcases r3 with r3 | ⟨r3, r4⟩
    · exact absurd r3 hx
    · have he := endB_level i0 i1 r3 r1 r2 hx
      rw [he]
      rcases r4 with r4 | r4
      · simp [r4]
      · rw [r4]; simp

theorem may_safe {s : St} (iv : Inv s) (c : Int) (hu : s.hu = false) (hm : mayS c s = true) : (doS c s).hu = false := by
  unfold mayS mayB at hm
  unfold doS
  by_cases k0 : c = 45
  · subst k0; simpa using hu
  rw [if_neg k0] at hm
  by_cases k1 : c = 117
  · subst k1
    simp only [true_or, if_true, closedB, Bool.and_eq_true, beq_iff_eq, Bool.not_eq_true'] at hm ⊢
    simp [raiseS, hu, hm.1, hm.2.1, hm.2.2]
  by_cases k2 : c = 100
  · subst k2
    simp only [or_true, if_true, closedB, Bool.and_eq_true, beq_iff_eq, Bool.not_eq_true'] at hm ⊢
    simp [raiseS, hu, hm.1, hm.2.1, hm.2.2]
  rw [if_neg (by omega)] at hm
  rw [if_neg k1, if_neg k2]
  by_cases k3 : c = 108
  · subst k3
    simp only [if_true] at hm ⊢
    exact slide_safe iv (-1) hu hm
  rw [if_neg k3] at hm
  rw [if_neg k3]
  by_cases k4 : c = 114
  · subst k4
    simp only [if_true] at hm ⊢
    exact slide_safe iv 1 hu hm
  rw [if_neg k4] at hm
  rw [if_neg k4]
  by_cases k5 : c = 103
  · subst k5; simp only [if_true]; unfold grabS; split <;> exact hu
  rw [if_neg k5] at hm
  rw [if_neg k5]
  by_cases k6 : c = 112
  · subst k6; simp only [if_true]; unfold putS; split <;> exact hu
  rw [if_neg k6] at hm
  rw [if_neg k6]
  by_cases k7 : c = 111
  · subst k7
    simp only [if_true, belowB, Bool.and_eq_true, beq_iff_eq] at hm ⊢
    simp [openS, hu, hm.1, hm.2]
  rw [if_neg k7] at hm
  rw [if_neg k7]
  by_cases k8 : c = 99
  · subst k8
    simp only [if_true, beq_iff_eq] at hm ⊢
    simp [shutS, hu, hm]
  rw [if_neg k8] at hm
  rw [if_neg k8]
  by_cases k9 : c = 110
  · subst k9
    simp only [if_true, closedB, Bool.and_eq_true, beq_iff_eq, Bool.not_eq_true'] at hm ⊢
    unfold takeInS
    split <;> simp [hu, hm.1.1.2.1, hm.1.1.2.2]
  rw [if_neg k9] at hm
  rw [if_neg k9]
  by_cases k10 : c = 120
  · subst k10
    simp only [if_true, closedB, Bool.and_eq_true, beq_iff_eq, Bool.not_eq_true'] at hm ⊢
    unfold giveOutS
    split <;> simp [hu, hm.1.1.2.1, hm.1.1.2.2]
  rw [if_neg k10] at hm
  cases hm

theorem guard_safe {s : St} (iv : Inv s) (c : Int) (hu : s.hu = false) : (guardS c s).hu = false := by
  unfold guardS
  split
  · rename_i hm
    unfold stepS
    split
    · exact hu
    · exact may_safe iv c hu hm
  · exact hu
theorem Inv.guard {s : St} (iv : Inv s) (c : Int) : Inv (guardS c s) := by
  unfold guardS
  split
  · exact iv.step c
  · exact iv
theorem out_safe {s : St} (x : ActC) (hu : s.hu = false) (hk : (x.kind.toList == [115, 116, 101, 112]) = false) : (outS x s).hu = false := by
  unfold outS
  rw [if_neg (by simp [hk])]
  split; · unfold walkS; split <;> exact hu
  split; · unfold arriveS; split <;> exact hu
  split; · unfold leaveS; split <;> exact hu
  split; · unfold stallS; split <;> exact hu
  exact hu

-- left out: this seat has not what it speaks of

end Pl
end Go.Proofs.Yticjjnmmedmbiab
