/- The document's picking of a place: what bars one, in the document's words and in the program's: no memory, no steps. -/
import Derived.Test.YtkgicpialdhnhaaDoorBookPure
namespace Go.Proofs.YtkgicpialdhnhaaDoor
open Go.Shelf Go.Lib Go.ChangeShapes Go.WideShapes Go.ChangeAt Go.RowKit
set_option linter.unusedSimpArgs false
set_option linter.unusedVariables false

namespace Bk
/-- A stay has a place, or the one in front of it. -/
def rhasP (px py pz : Int) (s : Stay) : Bool := s.x == px && s.y == py && (s.z == pz || s.z == 0)
/-- A job is to fill the place behind. -/
def rfillP (px py : Int) (s : Stay) (j : Job) : Bool := !j.f && j.t == s.t && s.x == px && s.y == py && s.z == 1
def rbarP (px py pz : Int) (jobs : List Job) (s : Stay) : Bool := rhasP px py pz s || jobs.any (rfillP px py s)
theorem any_fill (px py : Int) (s : Stay) (jobs : List Job) : jobs.any (rfillP px py s) = (hasJob jobs ⟨s.t, false⟩ && (s.x == px && s.y == py && s.z == 1)) := by
  unfold hasJob
  rw [Bool.eq_iff_iff]
  simp only [List.any_eq_true, Bool.and_eq_true, rfillP]
  constructor
  · rintro ⟨j, hj, h⟩
    obtain ⟨⟨⟨⟨h1, h2⟩, h3⟩, h4⟩, h5⟩ := h
    refine ⟨⟨j, hj, ?_, ?_⟩, ⟨h3, h4⟩, h5⟩
    · have := eq_of_beq h2
      simp [this]
    · cases hf : j.f <;> simp_all
  · rintro ⟨⟨j, hj, h1, h2⟩, ⟨h3, h4⟩, h5⟩
    refine ⟨j, hj, ⟨⟨⟨?_, ?_⟩, h3⟩, h4⟩, h5⟩
    · cases hf : j.f <;> simp_all
    · have := eq_of_beq h1
      simp [this]
theorem rbarP_eq (px py pz : Int) (jobs : List Job) (s : Stay) (hz : s.z = 0 ∨ s.z = 1) (hp : pz = 0 ∨ pz = 1) : rbarP px py pz jobs s = barP px py pz jobs s := by
  unfold rbarP
  rw [any_fill]
  unfold rhasP barP eqP
  cases hasJob jobs ⟨s.t, false⟩ <;> rcases hz with hz | hz <;> rcases hp with hp | hp <;> rw [hz, hp] <;> cases (s.x == px) <;> cases (s.y == py) <;> rfl
theorem any_same {α : Type} {l : List α} {p q : α → Bool} (h : ∀ x ∈ l, p x = q x) : l.any p = l.any q := by
  rw [Bool.eq_iff_iff]
  simp only [List.any_eq_true]
  exact ⟨fun ⟨x, hx, e⟩ => ⟨x, hx, by rw [← h x hx]; exact e⟩, fun ⟨x, hx, e⟩ => ⟨x, hx, by rw [h x hx]; exact e⟩⟩
/-- In a book that is right, a place of depth 0 or 1 is barred by the document's words as by the program's. -/
theorem rbarred_eq {last : Int} {n : Nat} {b : Book} (h : StaysOK last n b.stays) (px py pz : Int) (hp : pz = 0 ∨ pz = 1) : b.stays.any (rbarP px py pz b.jobs) = barredB px py pz b := by
  unfold barredB
  refine any_same fun s hs => rbarP_eq px py pz b.jobs s ?_ hp
  have := (h.each s hs)
  unfold okS placeB at this
  simp at this
  omega

end Bk
end Go.Proofs.YtkgicpialdhnhaaDoor
