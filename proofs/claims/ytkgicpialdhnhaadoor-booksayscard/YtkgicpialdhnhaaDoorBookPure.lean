/- Chapter 6: what a book that may be is, list by list (E1); and what becomes of it when a job is done (E5); pure. -/
import Derived.Test.YtkgicpialdhnhaaDoorBookCheckB
import Derived.Test.YtkgicpialdhnhaaDoorDone
namespace Go.Proofs.YtkgicpialdhnhaaDoor
open Go.Shelf Go.Lib Go.ChangeShapes Go.WideShapes Go.ChangeAt Go.RowKit
set_option maxRecDepth 100000
set_option linter.unusedSimpArgs false
set_option linter.unusedVariables false

namespace Bk
/-- A stay that may be, by itself. -/
def okS (last : Int) (n : Nat) (s : Stay) : Prop := carN s.id s.a s.b s.c = 0 ∧ placeB s.x s.y s.z n = true ∧ decide (1 ≤ s.t ∧ s.t ≤ last) = true ∧ hasPlace (placesTo n (2 * n)) (s.x, s.y, s.z) = true
structure StaysOK (last : Int) (n : Nat) (l : List Stay) : Prop where
  each : ∀ s ∈ l, okS last n s
  pair : l.Pairwise (fun a s => a.t < s.t ∧ clash s a = false)
structure JobsOK (stays : List Stay) (jobs : List Job) : Prop where
  each : ∀ x ∈ jobs, ∃ s ∈ stays, s.t = x.t
  pair : jobs.Pairwise (fun a x => a ≠ x)

theorem stayN_zero {last : Int} {n : Nat} {ahead : List Stay} {s : Stay} : stayN last n ahead s = 0 ↔ okS last n s ∧ ¬ (0 < ahead.length ∧ s.t ≤ (ahead.getD (ahead.length - 1) default).t) ∧ ahead.any (clash s) = false := by
  unfold stayN okS
  by_cases h1 : carN s.id s.a s.b s.c = 0
  · rw [if_neg (by simp [h1])]
    cases h2 : placeB s.x s.y s.z n
    · simp [h1]
    · rw [if_neg (by decide)]
      cases h3 : decide (1 ≤ s.t ∧ s.t ≤ last)
      · simp [h1]
      · rw [if_neg (by decide)]
        cases h4 : hasPlace (placesTo n (2 * n)) (s.x, s.y, s.z)
        · simp [h1]
        · rw [if_neg (by decide)]
          by_cases h5 : 0 < ahead.length ∧ s.t ≤ (ahead.getD (ahead.length - 1) default).t
          · rw [if_pos h5]
            exact ⟨fun h => absurd h (by decide), fun h => absurd h5 h.2.1⟩
          · rw [if_neg h5]
            cases h6 : ahead.any (clash s)
            · exact ⟨fun _ => ⟨⟨h1, rfl, rfl, rfl⟩, h5, rfl⟩, fun _ => rfl⟩
            · exact ⟨fun h => absurd h (by decide), fun h => absurd h.2.2 (by decide)⟩
  · rw [if_pos h1]
    simp [h1]

theorem staysF_zero (last : Int) (n : Nat) (l : List Stay) : ∀ m i, staysF last n l m i = 0 ↔ ∀ j, i ≤ j → j < i + m → stayN last n (l.take j) l[j]! = 0
  | 0, i => ⟨fun _ j h1 h2 => by omega, fun _ => rfl⟩
  | m + 1, i => by
    unfold staysF
    by_cases h : stayN last n (l.take i) l[i]! = 0
    · rw [if_pos h, staysF_zero last n l m (i + 1)]
      refine ⟨fun hh j h1 h2 => ?_, fun hh j h1 h2 => hh j (by omega) (by omega)⟩
      by_cases e : j = i
      · subst e; exact h
      · exact hh j (by omega) (by omega)
    · rw [if_neg h]
      exact ⟨fun e => absurd e h, fun hh => hh i (Nat.le_refl _) (by omega)⟩

theorem staysOK_iff (last : Int) (n : Nat) (l : List Stay) : staysF last n l l.length 0 = 0 ↔ StaysOK last n l := by
  rw [staysF_zero]
  constructor
  · intro h
    have h' : ∀ j (hj : j < l.length), okS last n l[j] ∧ ¬ (0 < (l.take j).length ∧ l[j].t ≤ ((l.take j).getD ((l.take j).length - 1) default).t) ∧ (l.take j).any (clash l[j]) = false := fun j hj => by
      have := stayN_zero.1 (h j (Nat.zero_le _) (by omega))
      rwa [getElem!_pos l j hj] at this
    refine ⟨fun s hs => ?_, ?_⟩
    · obtain ⟨j, hj, rfl⟩ := List.getElem_of_mem hs
      exact (h' j hj).1
    · have hinc : ∀ j (hj : j < l.length) i (hi : i < j), (l[i]'(by omega)).t < l[j].t := by
        intro j
        induction j with
        | zero => intro _ i hi; omega
        | succ j ih =>
          intro hj i hi
          have h2 := (h' (j + 1) hj).2.1
          have hlen : (l.take (j + 1)).length = j + 1 := by simp; omega
          rw [hlen] at h2
          have hg : (l.take (j + 1)).getD (j + 1 - 1) default = l[j] := by simp [List.getD, List.getElem?_take, show j < j + 1 from by omega, show j < l.length from by omega]
          rw [hg] at h2
          have h3 : (l[j]'(by omega)).t < l[j + 1].t := by
            rcases Int.lt_or_le (l[j]'(by omega)).t l[j + 1].t with h | h
            · exact h
            · exact absurd ⟨by omega, h⟩ h2
          by_cases e : i = j
          · subst e; exact h3
          · have := ih (by omega) i (by omega); omega
      rw [List.pairwise_iff_getElem]
      intro i j hi hj hij
      refine ⟨hinc j hj i hij, ?_⟩
      have h3 := (h' j hj).2.2
      rw [List.any_eq_false] at h3
      have hm : l[i] ∈ l.take j := by
        rw [List.mem_take_iff_getElem]
        exact ⟨i, by omega, rfl⟩
      cases hc : clash l[j] l[i] with
      | false => rfl
      | true => exact absurd hc (by simpa using h3 _ hm)
  · intro h j _ hj
    have hj : j < l.length := by omega
    rw [getElem!_pos l j hj, stayN_zero]
    have hp := List.pairwise_iff_getElem.1 h.pair
    refine ⟨h.each _ (List.getElem_mem hj), ?_, ?_⟩
    · rintro ⟨h0, hle⟩
      have hlen : (l.take j).length = j := by simp; omega
      rw [hlen] at h0 hle
      have hg : (l.take j).getD (j - 1) default = l[j - 1] := by simp [List.getD, List.getElem?_take, show j - 1 < j from by omega, show j - 1 < l.length from by omega]
      rw [hg] at hle
      have := (hp (j - 1) j (by omega) hj (by omega)).1
      omega
    · rw [List.any_eq_false]
      intro a ha
      rw [List.mem_take_iff_getElem] at ha
      obtain ⟨i, hi, rfl⟩ := ha
      rw [(hp i j (by omega) hj (by omega)).2]
      decide

theorem jobsF_zero (b : Book) : ∀ m i, jobsF b m i = 0 ↔ ∀ j, i ≤ j → j < i + m → jobBad b j = false
  | 0, i => ⟨fun _ j h1 h2 => by omega, fun _ => rfl⟩
  | m + 1, i => by
    unfold jobsF
    cases h : jobBad b i with
    | true =>
      rw [if_pos rfl]
      exact ⟨fun e => absurd e (by decide), fun hh => by rw [hh i (Nat.le_refl _) (by omega)] at h; cases h⟩
    | false =>
      rw [if_neg (by decide), jobsF_zero b m (i + 1)]
      refine ⟨fun hh j h1 h2 => ?_, fun hh j h1 h2 => hh j (by omega) (by omega)⟩
      by_cases e : j = i
      · subst e; exact h
      · exact hh j (by omega) (by omega)

theorem findI_nonneg (b : Book) (k : Int) : 0 ≤ findI b k ↔ ∃ s ∈ b.stays, s.t = k := by
  have := stayIdx_nonneg (fun s => s.t == k) b.stays
  unfold findI
  constructor
  · intro h
    rw [decide_eq_true h] at this
    obtain ⟨s, hs, e⟩ := List.any_eq_true.1 this.symm
    exact ⟨s, hs, by simpa using e⟩
  · rintro ⟨s, hs, e⟩
    have h2 : b.stays.any (fun s => s.t == k) = true := List.any_eq_true.2 ⟨s, hs, by simpa using e⟩
    rw [h2] at this
    exact of_decide_eq_true this
theorem hasJob_iff (l : List Job) (x : Job) : hasJob l x = true ↔ x ∈ l := by
  unfold hasJob
  rw [List.any_eq_true]
  constructor
  · rintro ⟨y, hy, h⟩
    simp at h
    obtain ⟨t, f⟩ := x
    obtain ⟨t', f'⟩ := y
    simp at h
    obtain ⟨rfl, rfl⟩ := h
    exact hy
  · intro h
    exact ⟨x, h, by simp⟩

theorem jobsOK_iff (b : Book) : jobsF b b.jobs.length 0 = 0 ↔ JobsOK b.stays b.jobs := by
  rw [jobsF_zero]
  constructor
  · intro h
    have h' : ∀ j (hj : j < b.jobs.length), (∃ s ∈ b.stays, s.t = b.jobs[j].t) ∧ b.jobs[j] ∉ b.jobs.take j := fun j hj => by
      have := h j (Nat.zero_le _) (by omega)
      unfold jobBad at this
      rw [getElem!_pos b.jobs j hj, Bool.or_eq_false_iff] at this
      refine ⟨(findI_nonneg b _).1 (by have := of_decide_eq_false this.1; omega), fun hm => ?_⟩
      rw [(hasJob_iff _ _).2 hm] at this
      exact absurd this.2 (by decide)
    refine ⟨fun x hx => ?_, ?_⟩
    · obtain ⟨j, hj, rfl⟩ := List.getElem_of_mem hx
      exact (h' j hj).1
    · rw [List.pairwise_iff_getElem]
      intro i j hi hj hij e
      refine (h' j hj).2 ?_
      rw [← e, List.mem_take_iff_getElem]
      exact ⟨i, by omega, rfl⟩
  · intro h j _ hj
    have hj : j < b.jobs.length := by omega
    unfold jobBad
    rw [getElem!_pos b.jobs j hj, Bool.or_eq_false_iff]
    refine ⟨decide_eq_false (by have := (findI_nonneg b b.jobs[j].t).2 (h.each _ (List.getElem_mem hj)); omega), ?_⟩
    cases hc : hasJob (b.jobs.take j) b.jobs[j] with
    | false => rfl
    | true =>
      have hm := (hasJob_iff _ _).1 hc
      rw [List.mem_take_iff_getElem] at hm
      obtain ⟨i, hi, e⟩ := hm
      exact absurd e (List.pairwise_iff_getElem.1 h.pair i j (by omega) hj (by omega))

/-- A book that may be. -/
structure BookOK (last : Int) (n : Nat) (stays : List Stay) (jobs : List Job) : Prop where
  lim : 0 ≤ last ∧ last ≤ 999999
  fewS : stays.length ≤ 16
  fewJ : jobs.length ≤ 8
  s : StaysOK last n stays
  j : JobsOK stays jobs
theorem bookN_zero (b : Book) (n : Nat) : bookN b n = 0 ↔ BookOK b.last n b.stays b.jobs := by
  unfold bookN
  by_cases h1 : 0 ≤ b.last ∧ b.last ≤ 999999
  · rw [if_neg (by simp [h1])]
    by_cases h2 : 16 < b.stays.length ∨ 8 < b.jobs.length
    · rw [if_pos h2]
      exact ⟨fun h => absurd h (by decide), fun h => by have := h.fewS; have := h.fewJ; omega⟩
    · rw [if_neg h2]
      by_cases h3 : staysF b.last n b.stays b.stays.length 0 = 0
      · rw [if_neg (by simp [h3]), jobsOK_iff]
        exact ⟨fun h => ⟨h1, by omega, by omega, (staysOK_iff _ _ _).1 h3, h⟩, fun h => h.j⟩
      · rw [if_pos h3]
        exact ⟨fun h => absurd h h3, fun h => absurd ((staysOK_iff _ _ _).2 h.s) h3⟩
  · rw [if_pos (by simpa using h1)]
    exact ⟨fun h => absurd h (by decide), fun h => absurd h.lim h1⟩

/-! ### a job is done -/
def keepS (t : Int) (en : Bool) (s : Stay) : Bool := !(en && s.t == t)
theorem doneStays_eq (t : Int) (en : Bool) (l : List Stay) : doneStays t en l = l.filter (keepS t en) := by
  unfold doneStays keepS
  cases en
  · simp only [Bool.false_and, Bool.not_false, Bool.false_eq_true, if_false]
    exact (List.filter_eq_self.2 (fun _ _ => rfl)).symm
  · simp
theorem BookOK.done {last : Int} {n : Nat} {stays : List Stay} {jobs : List Job} (h : BookOK last n stays jobs) (t : Int) (f en : Bool) (hf : f = true → en = true) : BookOK last n (doneStays t en stays) (doneJobs t f en jobs) := by
  rw [doneStays_eq]
  refine ⟨h.lim, Nat.le_trans (List.length_filter_le _ _) h.fewS, Nat.le_trans (List.length_filter_le _ _) h.fewJ, ⟨fun s hs => h.s.each s (List.mem_filter.1 hs).1, h.s.pair.filter _⟩, ⟨fun x hx => ?_, h.j.pair.filter _⟩⟩
  have hm := List.mem_filter.1 hx
  obtain ⟨s, hs, e⟩ := h.j.each x hm.1
  refine ⟨s, List.mem_filter.2 ⟨hs, ?_⟩, e⟩
  unfold keepS
  cases en with
  | false => rfl
  | true =>
    have h2 := hm.2
    simp [goesJ] at h2
    simp [e, h2.2]

/-- How many of the first i are kept. -/
def posOf {α : Type} (k : α → Bool) (l : List α) (i : Nat) : Nat := ((l.take i).filter k).length
theorem posOf_succ {α : Type} (k : α → Bool) (l : List α) (i : Nat) (hi : i < l.length) : posOf k l (i + 1) = posOf k l i + (if k l[i] = true then 1 else 0) := by
  unfold posOf
  rw [List.take_succ_eq_append_getElem hi, List.filter_append, List.length_append]
  cases h : k l[i] <;> simp [h]
theorem posOf_all {α : Type} (k : α → Bool) (l : List α) : posOf k l l.length = (l.filter k).length := by unfold posOf; rw [List.take_length]
theorem posOf_le {α : Type} (k : α → Bool) (l : List α) (i : Nat) : posOf k l i ≤ (l.filter k).length := by
  unfold posOf
  exact List.Sublist.length_le ((List.take_sublist i l).filter k)
theorem filter_at {α : Type} (k : α → Bool) (l : List α) (i : Nat) (hi : i < l.length) (hk : k l[i] = true) : (l.filter k)[posOf k l i]? = some l[i] := by
  have e : l.filter k = (l.take i).filter k ++ (l[i] :: l.drop (i + 1)).filter k := by
    rw [← List.filter_append]
    congr 1
    rw [← List.drop_eq_getElem_cons hi, List.take_append_drop]
  rw [e]
  unfold posOf
  rw [List.getElem?_append_right (Nat.le_refl _), Nat.sub_self, List.filter_cons, if_pos hk]
  rfl

/-- Where a ticket's stay is. -/
theorem findI_at (b : Book) (i : Nat) (hi : i < b.stays.length) (hp : b.stays.Pairwise (fun a s => a.t < s.t ∧ clash s a = false)) : findI b b.stays[i].t = i := by
  have := idxByFrom_spec (fun (_ y : Stay) => y.t == b.stays[i].t) default b.stays 0
  unfold findI stayIdx Lib.idxBy
  rcases this with ⟨_, h⟩ | ⟨k, hk, e, h1, _⟩
  · have := h i hi
    rw [getElem!_pos b.stays i hi] at this
    simp at this
  · rw [e]
    rw [getElem!_pos b.stays k hk] at h1
    have hk2 : k = i := by
      have hp' := List.pairwise_iff_getElem.1 hp
      have h1' : b.stays[k].t = b.stays[i].t := by simpa using h1
      rcases Nat.lt_trichotomy k i with h | h | h
      · have := (hp' k i hk hi h).1; omega
      · exact h
      · have := (hp' i k hi hk h).1; omega
    subst hk2
    simp
end Bk
end Go.Proofs.YtkgicpialdhnhaaDoor
