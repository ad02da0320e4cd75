/- The text of a right book: its length, and what it is read as (pure). -/
import Derived.Test.YtkgicpialdhnhaaDoorParse
import Derived.Test.YtkgicpialdhnhaaDoorTopPickA
namespace Go.Proofs.YtkgicpialdhnhaaDoor
open Go.Shelf Go.ChangeShapes Go.WideShapes Go.ChangeAt Go.RowKit
set_option maxRecDepth 100000
set_option linter.unusedSimpArgs false
set_option linter.unusedVariables false

namespace Tx
open Bk
def tot (l : List Int) : Nat := (l.map fun n => (Lib.itoa n).length + 1).sum
theorem tot_append (a b : List Int) : tot (a ++ b) = tot a + tot b := by unfold tot; rw [List.map_append, List.sum_append_nat]
theorem tot_cons (a : Int) (b : List Int) : tot (a :: b) = (Lib.itoa a).length + 1 + tot b := by unfold tot; rw [List.map_cons, List.sum_cons]
theorem tot_nil : tot [] = 0 := rfl
theorem join_tot : ∀ l : List Int, (Lib.join (l.map Lib.itoa) [32]).length ≤ tot l
  | [] => by simp [Lib.join_nil]
  | [a] => by rw [List.map_cons, List.map_nil, Lib.join_one, tot_cons]; omega
  | a :: b :: r => by
    have ih := join_tot (b :: r)
    rw [List.map_cons, List.map_cons, join_two, List.length_append, List.length_cons, tot_cons]
    rw [List.map_cons] at ih
    omega
theorem len_le {n : Int} (k : Nat) (h0 : 0 ≤ n) (h1 : n < ((10 ^ (k + 1) : Nat) : Int)) : (Lib.itoa n).length ≤ k + 1 := itoa_len k h0 h1
theorem tot_stays {last : Int} {n : Nat} (hl : last ≤ 999999) (hn : n ≤ 4) : ∀ l : List Stay, (∀ s ∈ l, okS last n s) → tot (l.flatMap stayNs) ≤ 26 * l.length
  | [], _ => by simp [tot]
  | s :: l, h => by
    have ih := tot_stays hl hn l (fun x hx => h x (by simp [hx]))
    have h0 := h s (by simp)
    have h1 := car_bounds h0.1
    have h2 := place_bounds hn h0.2.1
    have h3 : 1 ≤ s.t ∧ s.t ≤ last := by simpa using h0.2.2.1
    rw [List.flatMap_cons, tot_append, List.length_cons]
    have e : tot (stayNs s) ≤ 26 := by
      unfold stayNs
      simp only [tot_cons, tot_nil]
      have a1 := len_le 5 (n := s.t) (by omega) (by omega)
      have a2 := len_le 2 (n := s.id) (by omega) (by omega)
      have a3 := len_le 1 (n := s.a) (by omega) (by omega)
      have a4 := len_le 1 (n := s.b) (by omega) (by omega)
      have a5 := len_le 1 (n := s.c) (by omega) (by omega)
      have a6 := len_le 0 (n := s.x) (by omega) (by omega)
      have a7 := len_le 0 (n := s.y) (by omega) (by omega)
      have a8 := len_le 0 (n := s.z) (by omega) (by omega)
      omega
    omega
theorem tot_jobs : ∀ l : List Job, (∀ j ∈ l, 0 ≤ j.t ∧ j.t ≤ 999999) → tot (l.flatMap jobNs) ≤ 9 * l.length
  | [], _ => by simp [tot]
  | j :: l, h => by
    have ih := tot_jobs l (fun x hx => h x (by simp [hx]))
    have h0 := h j (by simp)
    rw [List.flatMap_cons, tot_append, List.length_cons]
    have e : tot (jobNs j) ≤ 9 := by
      unfold jobNs
      simp only [tot_cons, tot_nil]
      have a1 := len_le 5 (n := j.t) (by omega) (by omega)
      have a2 := len_le 0 (n := if j.f = true then 1 else 0) (by split <;> omega) (by split <;> omega)
      omega
    omega
theorem text_500 {last : Int} {n : Nat} {stays : List Stay} {jobs : List Job} (hn : n ≤ 4) (h : BookOK last n stays jobs) : (textL last stays jobs).length ≤ 500 := by
  have h1 := join_tot (numsOf last stays jobs)
  have h2 := tot_stays h.lim.2 hn stays h.s.each
  have h3 := tot_jobs jobs (fun j hj => by
    obtain ⟨s, hs, e⟩ := h.j.each j hj
    have := (h.s.each s hs).2.2.1
    have h4 : 1 ≤ s.t ∧ s.t ≤ last := by simpa using this
    have := h.lim
    omega)
  have h4 := h.fewS
  have h5 := h.fewJ
  have h6 := h.lim
  have a1 := len_le 5 (n := last) (by omega) (by omega)
  have a2 := len_le 1 (n := (stays.length : Int)) (by omega) (by omega)
  have a3 := len_le 0 (n := (jobs.length : Int)) (by omega) (by omega)
  unfold numsOf at h1
  rw [tot_append, tot_append] at h1
  simp only [tot_cons, tot_nil] at h1
  unfold textL numsOf
  omega
theorem text_300 : (textL 3 [] []) = [51, 32, 48, 32, 48] := by
  have e3 : Lib.itoa 3 = [51] := by rw [itoa_pos (by decide)]; exact Lib.decDigits_one (by decide)
  have e0 : Lib.itoa 0 = [48] := by rw [itoa_pos (by decide)]; exact Lib.decDigits_one (by decide)
  show Lib.join ([3, ((0 : Nat) : Int), ((0 : Nat) : Int)].map Lib.itoa) [32] = _
  simp only [List.map_cons, List.map_nil, Int.natCast_zero, e3, e0]
  rw [join_two, join_two, Lib.join_one]
  rfl
theorem parse_text {last : Int} {n : Nat} {stays : List Stay} {jobs : List Job} (hn : n ≤ 4) (h : BookOK last n stays jobs) : parseP ⟨(textL last stays jobs).toArray⟩ n = some ⟨last, stays, jobs⟩ := by
  have h1 : numsP ⟨(textL last stays jobs).toArray⟩ = some (numsOf last stays jobs) := by
    refine numsP_text _ ?_ ?_ (ok_nums hn h)
    · intro e
      have := nums_len last stays jobs
      rw [e] at this
      simp at this
      omega
    · have := nums_len last stays jobs
      have := h.fewS
      have := h.fewJ
      omega
  unfold parseP
  rw [h1]
  show (fromP (numsOf last stays jobs)).bind _ = _
  rw [fromP_nums last stays jobs h.fewS h.fewJ]
  show (if bookN (PB.book ⟨last, stays, jobs⟩) n = 0 ∧ PB.text ⟨last, stays, jobs⟩ = _ then _ else _) = _
  rw [if_pos ⟨(bookN_zero _ _).2 h, by simp [PB.text]⟩]

end Tx
end Go.Proofs.YtkgicpialdhnhaaDoor
