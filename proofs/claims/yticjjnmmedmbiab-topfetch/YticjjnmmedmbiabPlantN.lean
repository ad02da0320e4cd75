/- Chapter 2: what always holds of a machine, whatever is done (B1 to B4); pure facts. -/
import Derived.Test.YticjjnmmedmbiabPlantM
namespace Go.Proofs.Yticjjnmmedmbiab
open Go.ChangeShapes Go.WideShapes Go.ChangeAt Go.RowKit Go.Maps
set_option maxRecDepth 100000
set_option linter.unusedSimpArgs false
set_option linter.unusedVariables false

namespace Pl
theorem endB_in {lv h ex : Int} (k : endB lv h ex = true) : (1 ≤ endX lv h ex ∧ endX lv h ex ≤ lv) ∧ (0 ≤ endY lv h ex ∧ endY lv h ex ≤ 1) ∧ (0 ≤ endZ lv h ex ∧ endZ lv h ex ≤ 1) := by
  simp only [endX, endY, endZ, k, if_true]
  simp only [endB, placeB, Bool.and_eq_true, decide_eq_true_eq] at k
  obtain ⟨_, k⟩ := k
  by_cases h0 : ex < 0 <;> simp only [h0, if_true, if_false] at k ⊢ <;> omega

theorem Inv.new {lv : Int} (h1 : 1 ≤ lv) (h4 : lv ≤ 4) : Inv (newS lv) := by
  refine ⟨⟨h1, h4, ?_, ?_, ?_, ?_⟩, ?_, ?_, ?_, ?_, DOk.empty _⟩ <;> simp only [newS] <;> omega

theorem Inv.hurt {s : St} (h : Inv s) (b : Bool) : Inv { s with hu := b } := ⟨⟨h.ok.lv1, h.ok.lv4, h.ok.h0, h.ok.h12, h.ok.e0, h.ok.e2⟩, h.pe, h.st, h.li, h.ba, h.D⟩

theorem Inv.raise {s : St} (h : Inv s) (b : Int) : Inv (raiseS b s) := by
  have h1 := h.ok.lv1; have h4 := h.ok.lv4; have h0 := h.ok.h0; have h12 := h.ok.h12
  exact ⟨⟨h1, h4, by simp only [raiseS]; omega, by simp only [raiseS]; omega, h.ok.e0, h.ok.e2⟩, h.pe, h.st, h.li, h.ba, h.D⟩

theorem Inv.slide {s : St} (h : Inv s) (b : Int) : Inv (slideS b s) := by
  unfold slideS
  split
  · rename_i k
    exact ⟨⟨h.ok.lv1, h.ok.lv4, h.ok.h0, h.ok.h12, k.1, k.2⟩, h.pe, h.st, h.li, h.ba, h.D⟩
  · exact h

theorem Inv.grab {s : St} (h : Inv s) : Inv (grabS s) := by
  unfold grabS
  split
  · exact ⟨⟨h.ok.lv1, h.ok.lv4, h.ok.h0, h.ok.h12, h.ok.e0, h.ok.e2⟩, h.pe, h.st, h.D.car _ _ _, h.ba, h.D.del _⟩
  · exact h

theorem Inv.put {s : St} (h : Inv s) : Inv (putS s) := by
  unfold putS
  split
  · rename_i k
    simp only [putB, Bool.and_eq_true, bne_iff_ne, ne_eq] at k
    obtain ⟨p1, p2, p3⟩ := endB_in k.1.1
    have hl := h.li
    have k2 := k.1.2
    exact ⟨⟨h.ok.lv1, h.ok.lv4, h.ok.h0, h.ok.h12, h.ok.e0, h.ok.e2⟩, h.pe, h.st, by simp, h.ba, h.D.put p1 p2 p3 (by omega)⟩
  · exact h

theorem Inv.open {s : St} (h : Inv s) : Inv (openS s) := ⟨⟨h.ok.lv1, h.ok.lv4, h.ok.h0, h.ok.h12, h.ok.e0, h.ok.e2⟩, h.pe, h.st, h.li, h.ba, h.D⟩
theorem Inv.shut {s : St} (h : Inv s) : Inv (shutS s) := ⟨⟨h.ok.lv1, h.ok.lv4, h.ok.h0, h.ok.h12, h.ok.e0, h.ok.e2⟩, h.pe, h.st, h.li, h.ba, h.D⟩

theorem Inv.takeIn {s : St} (h : Inv s) : Inv (takeInS s) := by
  unfold takeInS
  split
  · exact ⟨⟨h.ok.lv1, h.ok.lv4, h.ok.h0, h.ok.h12, h.ok.e0, h.ok.e2⟩, h.pe, h.st, h.ba, by simp, h.D⟩
  · exact h.hurt _
theorem Inv.giveOut {s : St} (h : Inv s) : Inv (giveOutS s) := by
  unfold giveOutS
  split
  · exact ⟨⟨h.ok.lv1, h.ok.lv4, h.ok.h0, h.ok.h12, h.ok.e0, h.ok.e2⟩, h.pe, h.st, by simp, h.li, h.D⟩
  · exact h.hurt _

theorem Inv.do {s : St} (h : Inv s) (c : Int) : Inv (doS c s) := by
  unfold doS
  split; · exact h.raise 1
  split; · exact h.raise (-1)
  split; · exact h.slide (-1)
  split; · exact h.slide 1
  split; · exact h.grab
  split; · exact h.put
  split; · exact h.open
  split; · exact h.shut
  split; · exact h.takeIn
  split; · exact h.giveOut
  exact h

theorem Inv.step {s : St} (h : Inv s) (c : Int) : Inv (stepS c s) := by
  unfold stepS
  split
  · rename_i k
    have := h.st
    exact ⟨⟨h.ok.lv1, h.ok.lv4, h.ok.h0, h.ok.h12, h.ok.e0, h.ok.e2⟩, h.pe, by simp only; omega, h.li, h.ba, h.D⟩
  · exact h.do c

theorem Inv.walk {s : St} (h : Inv s) (k : Int) : Inv (walkS k s) := by
  unfold walkS
  split
  · exact ⟨⟨h.ok.lv1, h.ok.lv4, h.ok.h0, h.ok.h12, h.ok.e0, h.ok.e2⟩, by simp only; omega, h.st, h.li, h.ba, h.D⟩
  · exact h
theorem Inv.arrive {s : St} (h : Inv s) (id : Int) : Inv (arriveS id s) := by
  unfold arriveS
  split
  · rename_i k
    simp only [arriveB, Bool.and_eq_true, decide_eq_true_eq] at k
    exact ⟨⟨h.ok.lv1, h.ok.lv4, h.ok.h0, h.ok.h12, h.ok.e0, h.ok.e2⟩, h.pe, h.st, h.li, by simp only; omega, h.D⟩
  · exact h
theorem Inv.leave {s : St} (h : Inv s) : Inv (leaveS s) := by
  unfold leaveS
  split
  · exact ⟨⟨h.ok.lv1, h.ok.lv4, h.ok.h0, h.ok.h12, h.ok.e0, h.ok.e2⟩, h.pe, h.st, h.li, by simp, h.D⟩
  · exact h
theorem Inv.stall {s : St} (h : Inv s) (k : Int) : Inv (stallS k s) := by
  unfold stallS
  split
  · exact ⟨⟨h.ok.lv1, h.ok.lv4, h.ok.h0, h.ok.h12, h.ok.e0, h.ok.e2⟩, h.pe, by simp only; omega, h.li, h.ba, h.D⟩
  · exact h

end Pl
end Go.Proofs.Yticjjnmmedmbiab
