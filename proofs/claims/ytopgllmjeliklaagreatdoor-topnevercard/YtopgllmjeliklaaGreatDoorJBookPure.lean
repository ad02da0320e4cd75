/- Chapter 6: what a book that may be is, list by list (E1); and what becomes of it when a job is done (E5); pure. -/
import Derived.Test.YtopgllmjeliklaaGreatDoorJDone
import Derived.Test.YtopgllmjeliklaaGreatDoorJRead
import Derived.Test.YtopgllmjeliklaaGreatDoorJBookCheckB
import Derived.Lib.AtoiTie
import Derived.Lib.IndexBytes
import Derived.Deep.RegionHeld3
import Derived.Deep.AppendLies
import Derived.Deep.DeepCutAuto
import Derived.Deep.LoopGhost
namespace Go.Proofs.YtopgllmjeliklaaGreatDoor
open Go.Shelf Go.Lib Go.ChangeShapes Go.WideShapes Go.ChangeAt Go.RowKit
set_option maxRecDepth 100000
set_option linter.unusedSimpArgs false
set_option linter.unusedVariables false

namespace Bk
/-- A stay that may be, by itself. -/
def okS (last : Int) (n : Nat) (s : Stay) : Prop := carN s.id s.a s.b s.c = 0 ∧ placeB s.x s.y s.z n = true ∧ decide (1 ≤ s.t ∧ s.t ≤ last) = true ∧ hasPlace (placesTo n (2 * n)) (s.x, s.y, s.z) = true
structure StaysOK (last : Int) (n : Nat) (l : List Stay) : Prop where
  each : ∀ s ∈ l, okS last n s
  pair : l.Pairwise (fun a s => a.t < s.t ∧ clash s a = false)
structure JobsOK (stays : List Stay) (jobs : List Job) : Prop where
  each : ∀ x ∈ jobs, ∃ s ∈ stays, s.t = x.t
  pair : jobs.Pairwise (fun a x => a ≠ x)

theorem stayN_zero {last : Int} {n : Nat} {ahead : List Stay} {s : Stay} : stayN last n ahead s = 0 ↔ okS last n s ∧ ¬ (0 < ahead.length ∧ s.t ≤ (ahead.getD (ahead.length - 1) default).t) ∧ ahead.any (clash s) = false := by
  unfold stayN okS
  by_cases h1 : carN s.id s.a s.b s.c = 0
  · rw [if_neg (by simp [h1])]
    cases h2 : placeB s.x s.y s.z n
    · simp [h1]
    · rw [if_neg (by decide)]
      cases h3 : decide (1 ≤ s.t ∧ s.t ≤ last)
      · simp [h1]
      · rw [if_neg (by decide)]
        cases h4 : hasPlace (placesTo n (2 * n)) (s.x, s.y, s.z)
        · simp [h1]
        · rw [if_neg (by decide)]
          by_cases h5 : 0 < ahead.length ∧ s.t ≤ (ahead.getD (ahead.length - 1) default).t
          · rw [if_pos h5]
            exact ⟨fun h => absurd h (by decide), fun h => absurd h5 h.2.1⟩
          · rw [if_neg h5]
            cases h6 : ahead.any (clash s)
            · exact ⟨fun _ => ⟨⟨h1, rfl, rfl, rfl⟩, h5, rfl⟩, fun _ => rfl⟩
            · exact ⟨fun h => absurd h (by decide), fun h => absurd h.2.2 (by decide)⟩
  · rw [if_pos h1]
    simp [h1]

theorem staysF_zero (last : Int) (n : Nat) (l : List Stay) : ∀ m i, staysF last n l m i = 0 ↔ ∀ j, i ≤ j → j < i + m → stayN last n (l.take j) l[j]! = 0
  | 0, i => ⟨fun _ j h1 h2 => by omega, fun _ => rfl⟩
  | m + 1, i => by
    unfold staysF
    by_cases h : stayN last n (l.take i) l[i]! = 0
    · rw [if_pos h, staysF_zero last n l m (i + 1)]
      refine ⟨fun hh j h1 h2 => ?_, fun hh j h1 h2 => hh j (by omega) (by omega)⟩
      by_cases e : j = i
      · subst e; exact h
      · exact hh j (by omega) (by omega)
    · rw [if_neg h]
      exact ⟨fun e => absurd e h, fun hh => hh i (Nat.le_refl _) (by omega)⟩

theorem staysOK_iff (last : Int) (n : Nat) (l : List Stay) : staysF last n l l.length 0 = 0 ↔ StaysOK last n l := by
  rw [staysF_zero]
  constructor
  · intro h
    have h' : ∀ j (hj : j < l.length), okS last n l[j] ∧ ¬ (0 < (l.take j).length ∧ l[j].t ≤ ((l.take j).getD ((l.take j).length - 1) default).t) ∧ (l.take j).any (clash l[j]) = false := fun j hj => by
      have := stayN_zero.1 (h j (Nat.zero_le _) (by omega))
      rwa [getElem!_pos l j hj] at this
    refine ⟨fun s hs => ?_, ?_⟩
    · obtain ⟨j, hj, rfl⟩ := List.getElem_of_mem hs
      exact (h' j hj).1
    · have hinc : ∀ j (hj : j < l.length) i (hi : i < j), (l[i]'(by omega)).t < l[j].t := by
        intro j
        induction j with
        | zero => intro _ i hi; omega
        | succ j ih =>
          intro hj i hi
          have h2 := (h' (j + 1) hj).2.1
          have hlen : (l.take (j + 1)).length = j + 1 := by simp; omega
          rw [hlen] at h2
          have hg : (l.take (j + 1)).getD (j + 1 - 1) default = l[j] := by simp [List.getD, List.getElem?_take, show j < j + 1 from by omega, show j < l.length from by omega]
          rw [hg] at h2
          have h3 : (l[j]'(by omega)).t < l[j + 1].t := by
            rcases Int.lt_or_le (l[j]'(by omega)).t l[j + 1].t with h | h
            · exact h
            · exact absurd ⟨by omega, h⟩ h2
          by_cases e : i = j
          · subst e; exact h3
          · have := ih (by omega) i (by omega); omega
      rw [List.pairwise_iff_getElem]
      intro i j hi hj hij
      refine ⟨hinc j hj i hij, ?_⟩
      have h3 := (h' j hj).2.2
      rw [List.any_eq_false] at h3
      have hm : l[i] ∈ l.take j := by
        rw [List.mem_take_iff_getElem]
        exact ⟨i, by omega, rfl⟩
      cases hc : clash l[j] l[i] with
      | false => rfl
      | true => exact absurd hc (by simpa using h3 _ hm)
  · intro h j _ hj
    have hj : j < l.length := by omega
    rw [getElem!_pos l j hj, stayN_zero]
    have hp := List.pairwise_iff_getElem.1 h.pair
    refine ⟨h.each _ (List.getElem_mem hj), ?_, ?_⟩
    · rintro ⟨h0, hle⟩
      have hlen : (l.take j).length = j := by simp; omega
      rw [hlen] at h0 hle
      have hg : (l.take j).getD (j - 1) default = l[j - 1] := by simp [List.getD, List.getElem?_take, show j - 1 < j from by omega, show j - 1 < l.length from by omega]
      rw [hg] at hle
      have := (hp (j - 1) j (by omega) hj (by omega)).1
      omega
    · rw [List.any_eq_false]
      intro a ha
      rw [List.mem_take_iff_getElem] at ha
      obtain ⟨i, hi, rfl⟩ := ha
      rw [(hp i j (by omega) hj (by omega)).2]
      decide

theorem jobsF_zero (b : Book) : ∀ m i, jobsF b m i = 0 ↔ ∀ j, i ≤ j → j < i + m → jobBad b j = false
  | 0, i => ⟨fun _ j h1 h2 => by omega, fun _ => rfl⟩
  | m + 1, i => by
    unfold jobsF
    cases h : jobBad b i with
    | true =>
      rw [if_pos rfl]
      exact ⟨fun e => absurd e (by decide), fun hh => by rw [hh i (Nat.le_refl _) (by omega)] at h; cases h⟩
    | false =>
      rw [if_neg (by decide), jobsF_zero b m (i + 1)]
      refine ⟨fun hh j h1 h2 => ?_, fun hh j h1 h2 => hh j (by omega) (by omega)⟩
      by_cases e : j = i
      · subst e; exact h
      · exact hh j (by omega) (by omega)

theorem findI_nonneg (b : Book) (k : Int) : 0 ≤ findI b k ↔ ∃ s ∈ b.stays, s.t = k := by
  have := stayIdx_nonneg (fun s => s.t == k) b.stays
  unfold findI
  constructor
  · intro h
    rw [decide_eq_true h] at this
    obtain ⟨s, hs, e⟩ := List.any_eq_true.1 this.symm
    exact ⟨s, hs, by simpa using e⟩
  · rintro ⟨s, hs, e⟩
    have h2 : b.stays.any (fun s => s.t == k) = true := List.any_eq_true.2 ⟨s, hs, by simpa using e⟩
    rw [h2] at this
    exact of_decide_eq_true this
theorem hasJob_iff (l : List Job) (x : Job) : hasJob l x = true ↔ x ∈ l := by
  unfold hasJob
  rw [List.any_eq_true]
  constructor
  · rintro ⟨y, hy, h⟩
    simp at h
    obtain ⟨t, f⟩ := x
    obtain ⟨t', f'⟩ := y
    simp at h
    obtain ⟨rfl, rfl⟩ := h
    exact hy
  · intro h
    exact ⟨x, h, by simp⟩

theorem jobsOK_iff (b : Book) : jobsF b b.jobs.length 0 = 0 ↔ JobsOK b.stays b.jobs := by
  rw [jobsF_zero]
  constructor
  · intro h
    have h' : ∀ j (hj : j < b.jobs.length), (∃ s ∈ b.stays, s.t = b.jobs[j].t) ∧ b.jobs[j] ∉ b.jobs.take j := fun j hj => by
      have := h j (Nat.zero_le _) (by omega)
      unfold jobBad at this
      rw [getElem!_pos b.jobs j hj, Bool.or_eq_false_iff] at this
      refine ⟨(findI_nonneg b _).1 (by have := of_decide_eq_false this.1; omega), fun hm => ?_⟩
      rw [(hasJob_iff _ _).2 hm] at this
      exact absurd this.2 (by decide)
    refine ⟨fun x hx => ?_, ?_⟩
    · obtain ⟨j, hj, rfl⟩ := List.getElem_of_mem hx
      exact (h' j hj).1
    · rw [List.pairwise_iff_getElem]
      intro i j hi hj hij e
      refine (h' j hj).2 ?_
      rw [← e, List.mem_take_iff_getElem]
      exact ⟨i, by omega, rfl⟩
  · intro h j _ hj
    have hj : j < b.jobs.length := by omega
    unfold jobBad
    rw [getElem!_pos b.jobs j hj, Bool.or_eq_false_iff]
    refine ⟨decide_eq_false (by have := (findI_nonneg b b.jobs[j].t).2 (h.each _ (List.getElem_mem hj)); omega), ?_⟩
    cases hc : hasJob (b.jobs.take j) b.jobs[j] with
    | false => rfl
    | true =>
      have hm := (hasJob_iff _ _).1 hc
      rw [List.mem_take_iff_getElem] at hm
      obtain ⟨i, hi, e⟩ := hm
      exact absurd e (List.pairwise_iff_getElem.1 h.pair i j (by omega) hj (by omega))

/-- A book that may be. -/
structure BookOK (last : Int) (n : Nat) (stays : List Stay) (jobs : List Job) : Prop where
  lim : 0 ≤ last ∧ last ≤ 999999
  fewS : stays.length ≤ 16
  fewJ : jobs.length ≤ 8
  s : StaysOK last n stays
  j : JobsOK stays jobs
theorem bookN_zero (b : Book) (n : Nat) : bookN b n = 0 ↔ BookOK b.last n b.stays b.jobs := by
  unfold bookN
  by_cases h1 : 0 ≤ b.last ∧ b.last ≤ 999999
  · rw [if_neg (by simp [h1])]
    by_cases h2 : 16 < b.stays.length ∨ 8 < b.jobs.length
    · rw [if_pos h2]
      exact ⟨fun h => absurd h (by decide), fun h => by have := h.fewS; have := h.fewJ; omega⟩
    · rw [if_neg h2]
      by_cases h3 : staysF b.last n b.stays b.stays.length 0 = 0
      · rw [if_neg (by simp [h3]), jobsOK_iff]
        exact ⟨fun h => ⟨h1, by omega, by omega, (staysOK_iff _ _ _).1 h3, h⟩, fun h => h.j⟩
      · rw [if_pos h3]
        exact ⟨fun h => absurd h h3, fun h => absurd ((staysOK_iff _ _ _).2 h.s) h3⟩
  · rw [if_pos (by simpa using h1)]
    exact ⟨fun h => absurd h (by decide), fun h => absurd h.lim h1⟩

/-! ### a job is done -/
def keepS (t : Int) (en : Bool) (s : Stay) : Bool := !(en && s.t == t)
theorem doneStays_eq (t : Int) (en : Bool) (l : List Stay) : doneStays t en l = l.filter (keepS t en) := by
  unfold doneStays keepS
  cases en
  · simp only [Bool.false_and, Bool.not_false, Bool.false_eq_true, if_false]
    exact (List.filter_eq_self.2 (fun _ _ => rfl)).symm
  · simp
theorem BookOK.done {last : Int} {n : Nat} {stays : List Stay} {jobs : List Job} (h : BookOK last n stays jobs) (t : Int) (f en : Bool) (hf : f = true → en = true) : BookOK last n (doneStays t en stays) (doneJobs t f en jobs) := by
  rw [doneStays_eq]
  refine ⟨h.lim, Nat.le_trans (List.length_filter_le _ _) h.fewS, Nat.le_trans (List.length_filter_le _ _) h.fewJ, ⟨fun s hs => h.s.each s (List.mem_filter.1 hs).1, h.s.pair.filter _⟩, ⟨fun x hx => ?_, h.j.pair.filter _⟩⟩
  have hm := List.mem_filter.1 hx
  obtain ⟨s, hs, e⟩ := h.j.each x hm.1
  refine ⟨s, List.mem_filter.2 ⟨hs, ?_⟩, e⟩
  unfold keepS
  cases en with
  | false => rfl
  | true =>
    have h2 := hm.2
    simp [goesJ] at h2
    simp [e, h2.2]

/-- How many of the first i are kept. -/
def posOf {α : Type} (k : α → Bool) (l : List α) (i : Nat) : Nat := ((l.take i).filter k).length
theorem posOf_succ {α : Type} (k : α → Bool) (l : List α) (i : Nat) (hi : i < l.length) : posOf k l (i + 1) = posOf k l i + (if k l[i] = true then 1 else 0) := by
  unfold posOf
  rw [List.take_succ_eq_append_getElem hi, List.filter_append, List.length_append]
  cases h : k l[i] <;> simp [h]
theorem posOf_all {α : Type} (k : α → Bool) (l : List α) : posOf k l l.length = (l.filter k).length := by unfold posOf; rw [List.take_length]
theorem posOf_le {α : Type} (k : α → Bool) (l : List α) (i : Nat) : posOf k l i ≤ (l.filter k).length := by
  unfold posOf
  exact List.Sublist.length_le ((List.take_sublist i l).filter k)
theorem filter_at {α : Type} (k : α → Bool) (l : List α) (i : Nat) (hi : i < l.length) (hk : k l[i] = true) : (l.filter k)[posOf k l i]? = some l[i] := by
  have e : l.filter k = (l.take i).filter k ++ (l[i] :: l.drop (i + 1)).filter k := by
    rw [← List.filter_append]
    congr 1
    rw [← List.drop_eq_getElem_cons hi, List.take_append_drop]
  rw [e]
  unfold posOf
  rw [List.getElem?_append_right (Nat.le_refl _), Nat.sub_self, List.filter_cons, if_pos hk]
  rfl

/-- Where a ticket's stay is. -/
theorem findI_at (b : Book) (i : Nat) (hi : i < b.stays.length) (hp : b.stays.Pairwise (fun a s => a.t < s.t ∧ clash s a = false)) : findI b b.stays[i].t = i := by
  have := idxByFrom_spec (fun (_ y : Stay) => y.t == b.stays[i].t) default b.stays 0
  unfold findI stayIdx Lib.idxBy
  rcases this with ⟨_, h⟩ | ⟨k, hk, e, h1, _⟩
  · have := h i hi
    rw [getElem!_pos b.stays i hi] at this
    simp at this
  · rw [e]
    rw [getElem!_pos b.stays k hk] at h1
    have hk2 : k = i := by
      have hp' := List.pairwise_iff_getElem.1 hp
      have h1' : b.stays[k].t = b.stays[i].t := by simpa using h1
      rcases Nat.lt_trichotomy k i with h | h | h
      · have := (hp' k i hk hi h).1; omega
      · exact h
      · have := (hp' i k hi hk h).1; omega
    subst hk2
    simp
end Bk
end Go.Proofs.YtopgllmjeliklaaGreatDoor

namespace Go.Proofs.YtopgllmjeliklaaGreatDoor
open Go.Shelf Go.ChangeShapes Go.WideShapes Go.ChangeAt Go.RowKit
set_option maxRecDepth 100000
set_option linter.unusedSimpArgs false
set_option linter.unusedVariables false

namespace Tx
open Bk
theorem decFrom_snoc : ∀ (l : List UInt8) (acc : Nat) (b : UInt8), Lib.decFrom acc (l ++ [b]) = (Lib.decFrom acc l).bind fun n => (Lib.digitVal b).map fun d => n * 10 + d
  | [], acc, b => by
    simp only [List.nil_append, Lib.decFrom, Option.bind_some]
    cases Lib.digitVal b <;> rfl
  | a :: t, acc, b => by
    simp only [List.cons_append, Lib.decFrom]
    cases Lib.digitVal a with
    | none => rfl
    | some d => exact decFrom_snoc t _ b
theorem digit_ofNat {d : Nat} (h : d < 10) : (UInt8.ofNat (48 + d)).toNat = 48 + d := by
  simp only [UInt8.toNat_ofNat']
  omega
theorem digitVal_ofNat {d : Nat} (h : d < 10) : Lib.digitVal (UInt8.ofNat (48 + d)) = some d := by
  unfold Lib.digitVal
  rw [digit_ofNat h, if_pos (by omega)]
  congr 1
  omega
theorem decFrom_digits (u : Nat) : Lib.decFrom 0 (Lib.decDigits u) = some u := by
  induction u using Nat.strongRecOn with
  | _ u ih =>
    by_cases h : u < 10
    · rw [Lib.decDigits_one h]
      unfold Lib.decFrom
      rw [digitVal_ofNat h]
      simp only [Nat.zero_mul, Nat.zero_add]
      rfl
    · rw [Lib.decDigits, dif_neg h, decFrom_snoc, ih (u / 10) (by omega), digitVal_ofNat (by omega)]
      simp only [Option.bind_some, Option.map_some, Option.some.injEq]
      omega
theorem digits_mem (u : Nat) : ∀ b ∈ Lib.decDigits u, 48 ≤ b.toNat ∧ b.toNat ≤ 57 := by
  induction u using Nat.strongRecOn with
  | _ u ih =>
    intro b hb
    by_cases h : u < 10
    · rw [Lib.decDigits_one h] at hb
      simp only [List.mem_singleton] at hb
      subst hb
      rw [digit_ofNat h]
      omega
    · rw [Lib.decDigits, dif_neg h] at hb
      rcases List.mem_append.1 hb with hb | hb
      · exact ih (u / 10) (by omega) b hb
      · simp only [List.mem_singleton] at hb
        subst hb
        rw [digit_ofNat (by omega)]
        omega
theorem digits_len : ∀ (k u : Nat), u < 10 ^ (k + 1) → (Lib.decDigits u).length ≤ k + 1
  | 0, u, h => by rw [Lib.decDigits_one (by simpa using h)]; simp
  | k + 1, u, h => by
    by_cases h1 : u < 10
    · rw [Lib.decDigits_one h1]; simp
    · rw [Lib.decDigits, dif_neg h1, List.length_append, List.length_singleton]
      have := digits_len k (u / 10) (by rw [Nat.pow_succ] at h; omega)
      omega
theorem digits_ne (u : Nat) : Lib.decDigits u ≠ [] := by
  intro e
  have := decFrom_digits u
  have hl : (Lib.decDigits u).length = 0 := by rw [e]; rfl
  rw [Lib.decDigits_length] at hl
  have := Lib.nDigits_pos u
  omega
theorem atoi_digits (u : Nat) (h : u ≤ 999999) : Lib.atoiAll (Lib.decDigits u) = .ok (u : Int) := by
  have hl := digits_len 5 u (by omega)
  rw [Lib.atoiAll_short _ (by omega)]
  have hm := digits_mem u
  have hd := decFrom_digits u
  have hn := digits_ne u
  generalize Lib.decDigits u = l at *
  cases l with
  | nil => exact absurd rfl hn
  | cons b r =>
    have hb := hm b (by simp)
    have e1 : (b == 45) = false := by
      cases hc : b == 45 with
      | false => rfl
      | true => rw [beq_iff_eq] at hc; subst hc; exact absurd hb.1 (by decide)
    have e2 : (b == 43) = false := by
      cases hc : b == 43 with
      | false => rfl
      | true => rw [beq_iff_eq] at hc; subst hc; exact absurd hb.1 (by decide)
    have e3 : Lib.decNat (b :: r) = some u := by
      unfold Lib.decNat
      rw [if_neg (by simp)]
      exact hd
    unfold Lib.atoi
    simp only [e1, e2, e3]
    rfl
theorem itoa_pos {n : Int} (h0 : 0 ≤ n) : Lib.itoa n = Lib.decDigits n.toNat := by
  unfold Lib.itoa
  rw [if_neg (by omega)]
theorem atoi_itoa {n : Int} (h0 : 0 ≤ n) (h1 : n ≤ 999999) : Lib.atoiAll (Lib.itoa n) = .ok n := by
  rw [itoa_pos h0, atoi_digits _ (by omega)]
  congr 1
  omega
theorem itoa_mem {n : Int} (h0 : 0 ≤ n) : ∀ b ∈ Lib.itoa n, 48 ≤ b.toNat ∧ b.toNat ≤ 57 := by
  rw [itoa_pos h0]
  exact digits_mem _
theorem no32 {n : Int} (h0 : 0 ≤ n) : (32 : UInt8) ∉ Lib.itoa n := fun h => absurd (itoa_mem h0 32 h).1 (by decide)
theorem itoa_len (k : Nat) {n : Int} (h0 : 0 ≤ n) (h1 : n < ((10 ^ (k + 1) : Nat) : Int)) : (Lib.itoa n).length ≤ k + 1 := by
  rw [itoa_pos h0]
  exact digits_len k _ (by omega)

/-! ### Words -/
theorem index_absent : ∀ l : List UInt8, (32 : UInt8) ∉ l → Lib.index l [32] = -1
  | [], _ => rfl
  | b :: l, h => by
    have hb : ([32] : List UInt8).isPrefixOf (b :: l) = false := by
      simp only [List.isPrefixOf, Bool.and_true]
      exact beq_eq_false_iff_ne.2 fun e => h (by rw [e]; simp)
    have ih := index_absent l (fun hm => h (by simp [hm]))
    unfold Lib.index
    rw [if_neg (by rw [hb]; decide), ih]
    rfl
theorem index_at : ∀ (w r : List UInt8), (32 : UInt8) ∉ w → Lib.index (w ++ 32 :: r) [32] = w.length
  | [], r, _ => by
    rw [List.nil_append]
    unfold Lib.index
    rw [if_pos (by simp [List.isPrefixOf])]
    rfl
  | b :: w, r, h => by
    have hb : ([32] : List UInt8).isPrefixOf (b :: (w ++ 32 :: r)) = false := by
      simp only [List.isPrefixOf, Bool.and_true]
      exact beq_eq_false_iff_ne.2 fun e => h (by rw [e]; simp)
    have ih := index_at w r (fun hm => h (by simp [hm]))
    rw [List.cons_append]
    unfold Lib.index
    rw [if_neg (by rw [hb]; decide), ih, if_neg (by simp only [beq_iff_eq]; omega)]
    simp
theorem join_two (w v : List UInt8) (r : List (List UInt8)) : Lib.join (w :: v :: r) [32] = w ++ 32 :: Lib.join (v :: r) [32] := by
  rw [Lib.join_cons, Lib.join_cons]
  simp [Lib.joinTail]
theorem splitK_join : ∀ (ws : List (List UInt8)) (k : Nat), ws ≠ [] → ws.length ≤ k + 1 → (∀ w ∈ ws, (32 : UInt8) ∉ w) → Lib.splitK [32] 0 k (Lib.join ws [32]) = ws
  | [], _, h, _, _ => absurd rfl h
  | [w], k, _, _, h => by
    rw [Lib.join_one]
    cases k with
    | zero => rfl
    | succ k =>
      unfold Lib.splitK
      rw [if_pos (by rw [index_absent w (h w (by simp))]; rfl)]
  | w :: v :: r, 0, _, hk, _ => by simp at hk
  | w :: v :: r, k + 1, _, hk, h => by
    have hw := h w (by simp)
    rw [join_two]
    unfold Lib.splitK
    rw [index_at w _ hw, if_neg (by simp only [beq_iff_eq]; omega)]
    have ih := splitK_join (v :: r) k (by simp) (by simpa using hk) (fun x hx => h x (by simp [hx]))
    have e1 : (w ++ 32 :: Lib.join (v :: r) [32]).take ((w.length : Int).toNat + 0) = w := by simp
    have e2 : (w ++ 32 :: Lib.join (v :: r) [32]).drop ((w.length : Int).toNat + [(32 : UInt8)].length) = Lib.join (v :: r) [32] := by
      rw [show (w.length : Int).toNat + [(32 : UInt8)].length = w.length + 1 from by simp, ← List.drop_drop, List.drop_left]
      rfl
    rw [e1, e2, ih]
theorem join_count : ∀ (ws : List (List UInt8)), ws.length ≤ (Lib.join ws [32]).length + 1
  | [] => by simp
  | [w] => by simp
  | w :: v :: r => by
    have := join_count (v :: r)
    rw [join_two, List.length_append]
    simp only [List.length_cons] at this ⊢
    omega
theorem words_join (ws : List (List UInt8)) (h0 : ws ≠ []) (h1 : ws.length ≤ 147) (h : ∀ w ∈ ws, (32 : UInt8) ∉ w) : (wordsB ⟨(Lib.join ws [32]).toArray⟩).map (·.data.toList) = ws := by
  unfold wordsB
  rw [Lib.splitB_data]
  have hc := join_count ws
  have hs : (⟨(Lib.join ws [32]).toArray⟩ : ByteArray).size = (Lib.join ws [32]).length := by
    show (Lib.join ws [32]).toArray.size = _
    simp
  rw [hs]
  exact splitK_join ws _ h0 (by omega) h
theorem atoiO_of {x : ByteArray} {n : Int} (hx : x.data.toList = Lib.itoa n) (h0 : 0 ≤ n) (h1 : n ≤ 999999) : atoiO x = some n := by
  unfold atoiO
  rw [hx, atoi_itoa h0 h1]
theorem mapM_itoa : ∀ (l : List ByteArray) (ns : List Int), l.map (·.data.toList) = ns.map Lib.itoa → (∀ n ∈ ns, 0 ≤ n ∧ n ≤ 999999) → l.mapM atoiO = some ns
  | [], [], _, _ => rfl
  | [], n :: ns, h, _ => by simp at h
  | x :: l, [], h, _ => by simp at h
  | x :: l, n :: ns, h, hn => by
    simp only [List.map_cons, List.cons.injEq] at h
    rw [List.mapM_cons, atoiO_of h.1 (hn n (by simp)).1 (hn n (by simp)).2, mapM_itoa l ns h.2 (fun k hk => hn k (by simp [hk]))]
    rfl
theorem numsP_text (ns : List Int) (h0 : ns ≠ []) (h1 : ns.length ≤ 147) (h : ∀ n ∈ ns, 0 ≤ n ∧ n ≤ 999999) : numsP ⟨(Lib.join (ns.map Lib.itoa) [32]).toArray⟩ = some ns := by
  unfold numsP
  refine mapM_itoa _ _ (words_join _ (by simpa using h0) (by simpa using h1) ?_) h
  intro w hw
  obtain ⟨n, hn, rfl⟩ := List.mem_map.1 hw
  exact no32 (h n hn).1

/-! ### The book that numbers stand for -/
def stayP (L : List Int) : Stay := ⟨L.getD 0 0, L.getD 1 0, L.getD 2 0, L.getD 3 0, L.getD 4 0, L.getD 5 0, L.getD 6 0, L.getD 7 0⟩
def jobP (L : List Int) : Job := ⟨L.getD 0 0, decide (L.getD 1 0 = 1)⟩
def staysP : Nat → List Int → List Stay
  | 0, _ => []
  | k + 1, L => stayP L :: staysP k (L.drop 8)
def jobsP : Nat → List Int → List Job
  | 0, _ => []
  | k + 1, L => jobP L :: jobsP k (L.drop 2)
/-- A book without its memory. -/
structure PB where
  last : Int
  stays : List Stay
  jobs : List Job
def PB.book (b : PB) : Book := ⟨b.last, none, 0, none, 0, b.stays, b.jobs⟩
def PB.text (b : PB) : List UInt8 := textL b.last b.stays b.jobs
def okNs (a b : Int) (m : Nat) : Bool := decide (0 ≤ a ∧ a ≤ 16) && (decide (0 ≤ b ∧ b ≤ 8) && decide ((m : Int) = a * 8 + b * 2))
def fromP (L : List Int) : Option PB :=
  if L.length < 3 then none else
  if okNs (L.getD 1 0) (L.getD 2 0) (L.length - 3) = true then some ⟨L.getD 0 0, staysP (L.getD 1 0).toNat (L.drop 3), jobsP (L.getD 2 0).toNat (L.drop (3 + 8 * (L.getD 1 0).toNat))⟩ else none
theorem bookN_pure (b : Book) (n : Nat) : bookN b n = bookN (PB.book ⟨b.last, b.stays, b.jobs⟩) n := by
  have hf : ∀ k, findI b k = findI (PB.book ⟨b.last, b.stays, b.jobs⟩) k := fun k => rfl
  have hj : ∀ i, jobBad b i = jobBad (PB.book ⟨b.last, b.stays, b.jobs⟩) i := fun i => rfl
  have hF : ∀ m i, jobsF b m i = jobsF (PB.book ⟨b.last, b.stays, b.jobs⟩) m i := by
    intro m
    induction m with
    | zero => intro i; rfl
    | succ m ih => intro i; unfold jobsF; rw [hj, ih]
  unfold bookN
  rw [hF]
  rfl
def parseP (s : ByteArray) (n : Nat) : Option PB := (numsP s).bind fun L => (fromP L).bind fun b => if bookN b.book n = 0 ∧ b.text = s.data.toList then some b else none
theorem stayP_ns (x : Stay) (r : List Int) : stayP (stayNs x ++ r) = x := rfl
theorem staysP_ns : ∀ (l : List Stay) (r : List Int), staysP l.length (l.flatMap stayNs ++ r) = l
  | [], _ => rfl
  | x :: l, r => by
    rw [List.flatMap_cons, List.append_assoc, List.length_cons]
    unfold staysP
    rw [stayP_ns, show (stayNs x ++ (l.flatMap stayNs ++ r)).drop 8 = l.flatMap stayNs ++ r from rfl, staysP_ns l r]
theorem jobP_ns (x : Job) (r : List Int) : jobP (jobNs x ++ r) = x := by
  obtain ⟨t, f⟩ := x
  cases f <;> rfl
theorem jobsP_ns : ∀ (l : List Job) (r : List Int), jobsP l.length (l.flatMap jobNs ++ r) = l
  | [], _ => rfl
  | x :: l, r => by
    rw [List.flatMap_cons, List.append_assoc, List.length_cons]
    unfold jobsP
    rw [jobP_ns, show (jobNs x ++ (l.flatMap jobNs ++ r)).drop 2 = l.flatMap jobNs ++ r from rfl, jobsP_ns l r]
theorem stays_flat : ∀ (l : List Stay), (l.flatMap stayNs).length = 8 * l.length
  | [] => rfl
  | x :: l => by rw [List.flatMap_cons, List.length_append, stays_flat l, List.length_cons]; simp [stayNs]; omega
theorem jobs_flat : ∀ (l : List Job), (l.flatMap jobNs).length = 2 * l.length
  | [] => rfl
  | x :: l => by rw [List.flatMap_cons, List.length_append, jobs_flat l, List.length_cons]; simp [jobNs]; omega
theorem nums_len (last : Int) (stays : List Stay) (jobs : List Job) : (numsOf last stays jobs).length = 3 + 8 * stays.length + 2 * jobs.length := by
  unfold numsOf
  rw [List.length_append, List.length_append, stays_flat, jobs_flat]
  rfl
theorem fromP_nums (last : Int) (stays : List Stay) (jobs : List Job) (hs : stays.length ≤ 16) (hj : jobs.length ≤ 8) : fromP (numsOf last stays jobs) = some ⟨last, stays, jobs⟩ := by
  have hl := nums_len last stays jobs
  have e0 : (numsOf last stays jobs).getD 0 0 = last := rfl
  have e1 : (numsOf last stays jobs).getD 1 0 = (stays.length : Int) := rfl
  have e2 : (numsOf last stays jobs).getD 2 0 = (jobs.length : Int) := rfl
  have e3 : (numsOf last stays jobs).drop 3 = stays.flatMap stayNs ++ jobs.flatMap jobNs := rfl
  unfold fromP
  rw [if_neg (by omega), e0, e1, e2]
  have e4 : (numsOf last stays jobs).drop (3 + 8 * ((stays.length : Int)).toNat) = jobs.flatMap jobNs ++ [] := by
    rw [← List.drop_drop, e3, Int.toNat_natCast, ← stays_flat, List.drop_left, List.append_nil]
  rw [if_pos (by unfold okNs; rw [hl]; simp only [Bool.and_eq_true, decide_eq_true_eq]; omega), e3, e4]
  simp only [Int.toNat_natCast]
  rw [staysP_ns, jobsP_ns]
theorem car_bounds {id a b c : Int} (h : carN id a b c = 0) : (1 ≤ id ∧ id ≤ 999) ∧ (1 ≤ a ∧ a ≤ 99) ∧ (1 ≤ b ∧ b ≤ 99) ∧ (1 ≤ c ∧ c ≤ 99) := by
  unfold carN faultN at h
  cases hb : decide (1 ≤ id ∧ id ≤ 999) && sizeB a b c with
  | false => rw [hb] at h; simp at h
  | true =>
    unfold sizeB at hb
    simp only [Bool.and_eq_true, decide_eq_true_eq] at hb
    omega
theorem place_bounds {x y z : Int} {n : Nat} (hn : n ≤ 4) (h : placeB x y z n = true) : (1 ≤ x ∧ x ≤ 4) ∧ (0 ≤ y ∧ y ≤ 1) ∧ (0 ≤ z ∧ z ≤ 1) := by
  unfold placeB at h
  simp only [decide_eq_true_eq] at h
  omega
end Tx
end Go.Proofs.YtopgllmjeliklaaGreatDoor

namespace Go.Proofs.YtopgllmjeliklaaGreatDoor
open Go.Shelf Go.ChangeShapes Go.WideShapes Go.ChangeAt Go.RowKit
set_option maxRecDepth 100000
set_option linter.unusedSimpArgs false
set_option linter.unusedVariables false

namespace Tx
open Bk
/-- Numbers lie in a row. -/
def NumsAt (w : World) (g o : Nat) (L : List Int) : Prop := ∀ j, j < L.length → w.cell? ⟨g, o + j, none⟩ = some (.int .i64 (L.getD j 0))
theorem NumsAt.below {w w' : World} {g o : Nat} {L : List Int} (h : NumsAt w g o L) (hg : g < w.heap.size) (hb : Below w.heap.size w w') : NumsAt w' g o L := fun j hj => (hb.cell (p := ⟨g, _, none⟩) hg).trans (h j hj)
theorem NumsAt.drop {w : World} {g o : Nat} {L : List Int} (h : NumsAt w g o L) (k : Nat) : NumsAt w g (o + k) (L.drop k) := fun j hj => by
  rw [List.length_drop] at hj
  have := h (k + j) (by omega)
  rw [Nat.add_assoc, this]
  simp [List.getD, List.getElem?_drop]

set_option maxHeartbeats 16000000 in
theorem stayFrom_any (g o cap : Nat) (L : List Int) (w : World) (h8 : 8 ≤ L.length) (hcap : L.length ≤ cap) (hm : cap ≤ 1000000) (hg : g < w.heap.size) (h : NumsAt w g o L) :
    Calls Tryz.prog 159 #[.slice (some ⟨g, o, none⟩) L.length cap] w fun e w' => e = .returned (.agg #[.int .i64 (stayP L).t, .int .i64 (stayP L).id, .int .i64 (stayP L).a, .int .i64 (stayP L).b, .int .i64 (stayP L).c, .int .i64 (stayP L).x, .int .i64 (stayP L).y, .int .i64 (stayP L).z]) ∧ Below w.heap.size w w' := by
  have s0 := h 0 (by omega)
  have s1 := h 1 (by omega)
  have s2 := h 2 (by omega)
  have s3 := h 3 (by omega)
  have s4 := h 4 (by omega)
  have s5 := h 5 (by omega)
  have s6 := h 6 (by omega)
  have s7 := h 7 (by omega)
  rw [Nat.add_zero] at s0
  clear h
  unfold stayP
  simp only
  generalize L.getD 0 0 = x0 at *
  generalize L.getD 1 0 = x1 at *
  generalize L.getD 2 0 = x2 at *
  generalize L.getD 3 0 = x3 at *
  generalize L.getD 4 0 = x4 at *
  generalize L.getD 5 0 = x5 at *
  generalize L.getD 6 0 = x6 at *
  generalize L.getD 7 0 = x7 at *
  generalize L.length = n at *
  have b0 : (0 : Int) < (n : Int) := by omega
  have b0' : 0 < n := by omega
  have b1 : (1 : Int) < (n : Int) := by omega
  have b2 : (2 : Int) < (n : Int) := by omega
  have b3 : (3 : Int) < (n : Int) := by omega
  have b4 : (4 : Int) < (n : Int) := by omega
  have b5 : (5 : Int) < (n : Int) := by omega
  have b6 : (6 : Int) < (n : Int) := by omega
  have b7 : (7 : Int) < (n : Int) := by omega
  obtain ⟨wa, hwa⟩ : ∃ wa, w.alloc (.cells #[.int .i64 0, .int .i64 0, .int .i64 0, .int .i64 0, .int .i64 0, .int .i64 0, .int .i64 0, .int .i64 0] 67) = wa := ⟨_, rfl⟩
  have NA : Hid (Below w.heap.size w wa ∧ Blk wa w.heap.size #[.int .i64 0, .int .i64 0, .int .i64 0, .int .i64 0, .int .i64 0, .int .i64 0, .int .i64 0, .int .i64 0] 67 ∧ ∀ j, wa.cell? ⟨g, o + j, none⟩ = w.cell? ⟨g, o + j, none⟩) := by
    show _ ∧ _ ∧ _
    rw [← hwa]
    have hb : Below w.heap.size w (w.alloc (.cells #[.int .i64 0, .int .i64 0, .int .i64 0, .int .i64 0, .int .i64 0, .int .i64 0, .int .i64 0, .int .i64 0] 67)) := B.new1 _ _
    exact ⟨hb, Blk.new _ _ _, fun j => hb.cell (p := ⟨g, o + j, none⟩) hg⟩
  have t0 : wa.cell? ⟨g, o, none⟩ = _ := (NA.out.2.2 0).trans s0
  have t1 := (NA.out.2.2 1).trans s1
  have t2 := (NA.out.2.2 2).trans s2
  have t3 := (NA.out.2.2 3).trans s3
  have t4 := (NA.out.2.2 4).trans s4
  have t5 := (NA.out.2.2 5).trans s5
  have t6 := (NA.out.2.2 6).trans s6
  have t7 := (NA.out.2.2 7).trans s7
  have KZ := NA.out.2.1
  have ff : ∀ o, wa.frozen? ⟨w.heap.size, o, none⟩ = false := KZ.free
  have gg : ∀ o, wa.cell? ⟨w.heap.size, o, none⟩ = #[.int .i64 0, .int .i64 0, .int .i64 0, .int .i64 0, .int .i64 0, .int .i64 0, .int .i64 0, .int .i64 0][o]? := KZ.cell
  obtain ⟨w9, hw9⟩ : ∃ w9, ((((((((wa.setCell ⟨w.heap.size, 0, none⟩ (.int .i64 x0)).setCell ⟨w.heap.size, 1, none⟩ (.int .i64 x1)).setCell ⟨w.heap.size, 2, none⟩ (.int .i64 x2)).setCell ⟨w.heap.size, 3, none⟩ (.int .i64 x3)).setCell ⟨w.heap.size, 4, none⟩ (.int .i64 x4)).setCell ⟨w.heap.size, 5, none⟩ (.int .i64 x5)).setCell ⟨w.heap.size, 6, none⟩ (.int .i64 x6)).setCell ⟨w.heap.size, 7, none⟩ (.int .i64 x7)) = w9 := ⟨_, rfl⟩
  have K9 : Hid (Blk w9 w.heap.size #[.int .i64 x0, .int .i64 x1, .int .i64 x2, .int .i64 x3, .int .i64 x4, .int .i64 x5, .int .i64 x6, .int .i64 x7] 67 ∧ Below w.heap.size w w9) := by
    show _ ∧ _
    rw [← hw9]
    exact ⟨((((((((KZ.set 0 (.int .i64 x0)).set 1 (.int .i64 x1)).set 2 (.int .i64 x2)).set 3 (.int .i64 x3)).set 4 (.int .i64 x4)).set 5 (.int .i64 x5)).set 6 (.int .i64 x6)).set 7 (.int .i64 x7)), ((((((((NA.out.1.setCell (p := ⟨w.heap.size, 0, none⟩) (Nat.le_refl _) _).setCell (p := ⟨w.heap.size, 1, none⟩) (Nat.le_refl _) _).setCell (p := ⟨w.heap.size, 2, none⟩) (Nat.le_refl _) _).setCell (p := ⟨w.heap.size, 3, none⟩) (Nat.le_refl _) _).setCell (p := ⟨w.heap.size, 4, none⟩) (Nat.le_refl _) _).setCell (p := ⟨w.heap.size, 5, none⟩) (Nat.le_refl _) _).setCell (p := ⟨w.heap.size, 6, none⟩) (Nat.le_refl _) _).setCell (p := ⟨w.heap.size, 7, none⟩) (Nat.le_refl _) _)⟩
  have HS1 : Hid (wa.drew.cell? ⟨g, o, none⟩ = some (.int .i64 x0) ∧ wa.drew.cell? ⟨g, o + 1, none⟩ = some (.int .i64 x1) ∧ wa.drew.cell? ⟨g, o + 2, none⟩ = some (.int .i64 x2) ∧ wa.drew.cell? ⟨g, o + 3, none⟩ = some (.int .i64 x3) ∧ wa.drew.cell? ⟨g, o + 4, none⟩ = some (.int .i64 x4) ∧ wa.drew.cell? ⟨g, o + 5, none⟩ = some (.int .i64 x5) ∧ wa.drew.cell? ⟨g, o + 6, none⟩ = some (.int .i64 x6) ∧ wa.drew.cell? ⟨g, o + 7, none⟩ = some (.int .i64 x7)) := ⟨t0, t1, t2, t3, t4, t5, t6, t7⟩
  have HS9 : Hid (w9.drew.cell? ⟨g, o, none⟩ = some (.int .i64 x0) ∧ w9.drew.cell? ⟨g, o + 1, none⟩ = some (.int .i64 x1) ∧ w9.drew.cell? ⟨g, o + 2, none⟩ = some (.int .i64 x2) ∧ w9.drew.cell? ⟨g, o + 3, none⟩ = some (.int .i64 x3) ∧ w9.drew.cell? ⟨g, o + 4, none⟩ = some (.int .i64 x4) ∧ w9.drew.cell? ⟨g, o + 5, none⟩ = some (.int .i64 x5) ∧ w9.drew.cell? ⟨g, o + 6, none⟩ = some (.int .i64 x6) ∧ w9.drew.cell? ⟨g, o + 7, none⟩ = some (.int .i64 x7)) := by
    have e : ∀ p : Addr, p.block = g → w9.drew.cell? p = w.cell? p := fun p hp => K9.out.2.cell (by rw [hp]; exact hg)
    exact ⟨(e _ rfl).trans s0, (e _ rfl).trans s1, (e _ rfl).trans s2, (e _ rfl).trans s3, (e _ rfl).trans s4, (e _ rfl).trans s5, (e _ rfl).trans s6, (e _ rfl).trans s7⟩
  clear KZ s0 s1 s2 s3 s4 s5 s6 s7
  have g9 := K9.out.1.cell
  go_enter Tryz.func159, Tryz.ntmps159
  go_wp2_with fail
  go_region_held3 (fun W => W.cell? ⟨g, o, none⟩ = some (.int .i64 x0) ∧ W.cell? ⟨g, o + 1, none⟩ = some (.int .i64 x1) ∧ W.cell? ⟨g, o + 2, none⟩ = some (.int .i64 x2) ∧ W.cell? ⟨g, o + 3, none⟩ = some (.int .i64 x3) ∧ W.cell? ⟨g, o + 4, none⟩ = some (.int .i64 x4) ∧ W.cell? ⟨g, o + 5, none⟩ = some (.int .i64 x5) ∧ W.cell? ⟨g, o + 6, none⟩ = some (.int .i64 x6) ∧ W.cell? ⟨g, o + 7, none⟩ = some (.int .i64 x7)) (first | with_reducible exact HS1.out | with_reducible exact HS9.out) (fail)
  go_wp2
  (try simp only [Exit.inBlock, Exit.then])
  refine bodyPost_ret (v := .agg #[.int .i64 x0, .int .i64 x1, .int .i64 x2, .int .i64 x3, .int .i64 x4, .int .i64 x5, .int .i64 x6, .int .i64 x7]) (by simp [results, Tryz.results159, go_sem, g9]; try rfl) rfl ?_
  exact ⟨rfl, K9.out.2.drew⟩

theorem ownGe {α : Type} [Inhabited α] {w : World} {base : Nat} {T : TypeId} {k : Nat} {enc : α → List Value} {v : Value} {l : List α} (h : OwnAt w base T k enc v l) : ∀ g, v.ownBlock = some g → base ≤ g ∧ g < w.heap.size := by
  intro g e
  rcases h with ⟨rfl, _⟩ | ⟨n, cap, cur, rfl, hg, hk, _⟩
  · cases e
  · have : n = g := by simpa [Value.ownBlock] using e
    subst this
    exact ⟨hg, hk.lt⟩
theorem ownSet {α : Type} [Inhabited α] {w : World} {base : Nat} {T : TypeId} {k : Nat} {enc : α → List Value} {v : Value} {l : List α} (h : OwnAt w base T k enc v l) {b o : Nat} (u : Value) (hne : b < base) : OwnAt (w.setCell ⟨b, o, none⟩ u) base T k enc v l := by
  rcases h with h | ⟨n, cap, cur, rfl, hg, hk, r⟩
  · exact Or.inl h
  · exact Or.inr ⟨n, cap, cur, rfl, hg, hk.other (by omega) _ _, r⟩
/-- What fromNumbers holds. -/
structure FI (w wx : World) (last : Int) (vs vj : Value) (S : List Stay) (J : List Job) : Prop where
  below : Below w.heap.size w wx
  b0 : Blk wx w.heap.size #[.int .i64 0, .slice none 0 0, .slice none 0 0] 39
  b1 : Blk wx (w.heap.size + 1) #[.int .i64 last, vs, vj] 39
  s : OwnAt wx (w.heap.size + 2) 67 8 Stay.enc vs S
  j : OwnAt wx (w.heap.size + 2) 88 2 Job.enc vj J
theorem FI.next {w wx : World} {last : Int} {vs vj : Value} {S : List Stay} {J : List Job} (h : FI w wx last vs vj S J) {wy : World} (hb : Below wx.heap.size wx wy) : FI w wy last vs vj S J :=
  ⟨B.next h.below hb h.below.size, h.b0.below hb, h.b1.below hb, h.s.below hb, h.j.below hb⟩
theorem ownNeT {α : Type} [Inhabited α] {w : World} {b : Nat} {T T' : TypeId} {k : Nat} {enc : α → List Value} {v : Value} {l : List α} {n : Nat} {a : Array Value} (h : OwnAt w b T k enc v l) (hk : Blk w n a T') (hT : T ≠ T') : v.ownBlock ≠ some n := by
  intro e
  rcases h with ⟨rfl, _⟩ | ⟨g, cap, cur, rfl, hg, hb, _⟩
  · simp [Value.ownBlock] at e
  · simp [Value.ownBlock] at e
    subst e
    exact hT (blkType (a := cur) hb hk)
theorem FI.apart {w wx : World} {last : Int} {vs vj : Value} {S : List Stay} {J : List Job} (h : FI w wx last vs vj S J) : ∀ g, vs.ownBlock = some g → vj.ownBlock ≠ some g := fun g e e' => by
  rcases h.j with ⟨rfl, _⟩ | ⟨g', cap, cur, rfl, hg, hk, _⟩
  · cases e'
  · simp [Value.ownBlock] at e'
    subst e'
    exact ownNeT h.s hk (by decide) e
theorem FI.moreS {w wx : World} {last : Int} {vs vj : Value} {S : List Stay} {J : List Job} (h : FI w wx last vs vj S J) {wy : World} {vs' : Value} {S' : List Stay} (g : wx.grownBy wy vs.ownBlock) (ho : OwnAt wy (w.heap.size + 2) 67 8 Stay.enc vs' S') : FI w (wy.setCell ⟨w.heap.size + 1, 1, none⟩ vs') last vs' vj S' J := by
  have kb : ∀ {n : Nat} {a : Array Value} {T : TypeId}, Blk wx n a T → n < w.heap.size + 2 → Blk wy n a T := fun hk hn => (g.block _ hk.lt (fun e => by have := (ownGe h.s _ e.symm).1; omega)).trans hk
  refine ⟨(grown_below' h.below g (fun n e => Nat.le_trans (by omega) (ownGe h.s n e).1) h.below.size).setCell (p := ⟨w.heap.size + 1, 1, none⟩) (by show w.heap.size ≤ w.heap.size + 1; omega) _, (kb h.b0 (by omega)).other (by omega) _ _, (kb h.b1 (by omega)).set 1 _, ownSet ho _ (by omega), ownSet (h.j.grown g (fun n e e' => h.apart n e' e)) _ (by omega)⟩
theorem FI.moreJ {w wx : World} {last : Int} {vs vj : Value} {S : List Stay} {J : List Job} (h : FI w wx last vs vj S J) {wy : World} {vj' : Value} {J' : List Job} (g : wx.grownBy wy vj.ownBlock) (ho : OwnAt wy (w.heap.size + 2) 88 2 Job.enc vj' J') : FI w (wy.setCell ⟨w.heap.size + 1, 2, none⟩ vj') last vs vj' S J' := by
  have kb : ∀ {n : Nat} {a : Array Value} {T : TypeId}, Blk wx n a T → n < w.heap.size + 2 → Blk wy n a T := fun hk hn => (g.block _ hk.lt (fun e => by have := (ownGe h.j _ e.symm).1; omega)).trans hk
  refine ⟨(grown_below' h.below g (fun n e => Nat.le_trans (by omega) (ownGe h.j n e).1) h.below.size).setCell (p := ⟨w.heap.size + 1, 2, none⟩) (by show w.heap.size ≤ w.heap.size + 1; omega) _, (kb h.b0 (by omega)).other (by omega) _ _, (kb h.b1 (by omega)).set 2 _, ownSet (h.s.grown g (fun n e e' => h.apart n e e')) _ (by omega), ownSet ho _ (by omega)⟩
theorem FI.appS {w wx : World} {last : Int} {vs vj : Value} {S : List Stay} {J : List Job} (h : FI w wx last vs vj S J) {wy : World} {sv : Stay} {g cap : Nat} (hg : wx.grownBy wy vs.ownBlock) (ho : wy.ownsRow (w.heap.size + 2) 67 8 (.slice (some ⟨g, 0, none⟩) (S.length + 1) cap) (S.length + 1) (S.flatMap Stay.enc ++ [.int .i64 sv.t, .int .i64 sv.id, .int .i64 sv.a, .int .i64 sv.b, .int .i64 sv.c, .int .i64 sv.x, .int .i64 sv.y, .int .i64 sv.z])) : FI w (wy.setCell ⟨w.heap.size + 1, 1, none⟩ (.slice (some ⟨g, 0, none⟩) (S.length + 1) cap)) last (.slice (some ⟨g, 0, none⟩) (S.length + 1) cap) vj (S ++ [sv]) J :=
  h.moreS hg (OwnAt.of_owns stay_len (by rw [List.length_append, List.flatMap_append]; exact ho))
theorem FI.appJ {w wx : World} {last : Int} {vs vj : Value} {S : List Stay} {J : List Job} (h : FI w wx last vs vj S J) {wy : World} {a : Int} {q : Bool} {g cap : Nat} (hg : wx.grownBy wy vj.ownBlock) (ho : wy.ownsRow (w.heap.size + 2) 88 2 (.slice (some ⟨g, 0, none⟩) (J.length + 1) cap) (J.length + 1) (J.flatMap Job.enc ++ [.int .i64 a, .bool q])) : FI w (wy.setCell ⟨w.heap.size + 1, 2, none⟩ (.slice (some ⟨g, 0, none⟩) (J.length + 1) cap)) last vs (.slice (some ⟨g, 0, none⟩) (J.length + 1) cap) S (J ++ [⟨a, q⟩]) :=
  h.moreJ hg (OwnAt.of_owns job_len (by rw [List.length_append, List.flatMap_append]; exact ho))
def FromPost (L : List Int) (w : World) (e : Ending) (w' : World) : Prop := Below w.heap.size w w' ∧
  ((fromP L = none ∧ e = .returned (.tuple #[.agg #[.int .i64 0, .slice none 0 0, .slice none 0 0], .bool false])) ∨
   ∃ b vs vj, fromP L = some b ∧ e = .returned (.tuple #[.agg #[.int .i64 b.last, vs, vj], .bool true]) ∧ OwnBook w' w.heap.size vs vj b.stays b.jobs)

end Tx
end Go.Proofs.YtopgllmjeliklaaGreatDoor
