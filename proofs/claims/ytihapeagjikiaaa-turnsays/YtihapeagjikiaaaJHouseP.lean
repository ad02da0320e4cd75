/- Chapter 10, the document's words: in a right book the first job and its stay are what the program finds. -/
import Derived.Test.YtihapeagjikiaaaJBookPure
import Derived.Test.YtihapeagjikiaaaJHouseA
import Derived.Test.YtihapeagjikiaaaJViewG
import Derived.Test.YtihapeagjikiaaaJCars
namespace Go.Proofs.Ytihapeagjikiaaa
open Go.Shelf Go.Lib Go.ChangeShapes Go.WideShapes Go.ChangeAt Go.RowKit
set_option maxRecDepth 100000
set_option linter.unusedSimpArgs false
set_option linter.unusedVariables false

namespace Tn
open Bk Pl
theorem find_same {α : Type} {p q : α → Bool} : ∀ l : List α, (∀ x ∈ l, p x = q x) → l.find? p = l.find? q
  | [], _ => rfl
  | a :: l, h => by
    have h1 := h a (by simp)
    have h2 := find_same l (fun x hx => h x (by simp [hx]))
    simp only [List.find?, h1, h2]
theorem stay_facts {last : Int} {n : Nat} {l : List Stay} (h : StaysOK last n l) (hn : n ≤ 4) {s : Stay} (hs : s ∈ l) : 1 ≤ s.t ∧ 1 ≤ s.id ∧ sIn s := by
  obtain ⟨h1, h2, h3, _⟩ := h.each s hs
  simp only [decide_eq_true_eq] at h3
  have h4 : 1 ≤ s.id := by
    unfold Go.Proofs.Ytihapeagjikiaaa.carN faultN at h1
    split at h1
    · rename_i hb
      simp only [Bool.and_eq_true, decide_eq_true_eq] at hb
      exact hb.1.1
    · cases h1
  simp only [placeB, decide_eq_true_eq] at h2
  exact ⟨h3.1, h4, h2.1, by omega, h2.2.2.1, h2.2.2.2.1, h2.2.2.2.2.1, h2.2.2.2.2.2⟩
/-- Two stays of one ticket, or of one car, are one. -/
theorem same_stay {last : Int} {n : Nat} {l : List Stay} (h : StaysOK last n l) {x y : Stay} (hx : x ∈ l) (hy : y ∈ l) (e : x.t = y.t ∨ x.id = y.id) : x = y := by
  obtain ⟨i, hi, rfl⟩ := List.getElem_of_mem hx
  obtain ⟨j, hj, rfl⟩ := List.getElem_of_mem hy
  have hp := List.pairwise_iff_getElem.1 h.pair
  have key : ∀ a b (ha : a < l.length) (hb : b < l.length), a < b → (l[a].t = l[b].t ∨ l[a].id = l[b].id) → False := fun a b ha hb hab e => by
    obtain ⟨h1, h2⟩ := hp a b ha hb hab
    unfold clash at h2
    simp only [Bool.or_eq_false_iff, beq_eq_false_iff_ne, ne_eq] at h2
    rcases e with e | e
    · omega
    · exact h2.2 e
  rcases Nat.lt_trichotomy i j with hij | hij | hij
  · exact (key i j hi hj hij e).elim
  · subst hij; rfl
  · exact (key j i hj hi hij (e.imp Eq.symm Eq.symm)).elim
theorem stayO_car {last : Int} {n : Nat} (b : Book) (h : StaysOK last n b.stays) (hn : n ≤ 4) (c : Int) : stayO b 0 c = carO b c := by
  unfold stayO carO
  refine find_same _ fun x hx => ?_
  obtain ⟨h1, _⟩ := stay_facts h hn hx
  unfold stayIs
  have e : (x.t == 0) = false := by
    have : x.t ≠ 0 := by omega
    simpa using this
  rw [e]
  simp
theorem stayO_tick {last : Int} {n : Nat} (b : Book) (h : StaysOK last n b.stays) (hn : n ≤ 4) (t : Int) : stayO b t 0 = tickO b t := by
  unfold stayO tickO
  refine find_same _ fun x hx => ?_
  obtain ⟨_, h1, _⟩ := stay_facts h hn hx
  unfold stayIs
  have e : (x.id == 0) = false := by
    have : x.id ≠ 0 := by omega
    simpa using this
  rw [e]
  simp
theorem yO_job {last : Int} {n : Nat} (b : Book) (h : StaysOK last n b.stays) (hn : n ≤ 4) (t : Int) : yO b t = StayOfJob b t := by
  unfold yO StayOfJob
  rw [stayO_tick b h hn]
/-- The stay of a ticket that has one. -/
theorem tick_of {last : Int} {n : Nat} (b : Book) (h : StaysOK last n b.stays) {x : Stay} (hx : x ∈ b.stays) : StayOfJob b x.t = x := by
  unfold StayOfJob tickO
  cases hf : b.stays.find? (fun s => s.t == x.t) with
  | none =>
    have := List.find?_eq_none.1 hf x hx
    simp at this
  | some y =>
    have h1 := List.mem_of_find?_eq_some hf
    have h2 := List.find?_some hf
    simp only [beq_iff_eq] at h2
    exact same_stay h h1 hx (Or.inl h2)
theorem rfirst_eq {last : Int} {n : Nat} (b : Book) (s : St) (h : BookOK last n b.stays b.jobs) (hn : n ≤ 4) : rfirstJ b s = vJ b s := by
  unfold vJ
  by_cases hj : b.jobs = []
  · rw [if_pos hj]
    unfold rfirstJ
    rw [hj]
    rfl
  rw [if_neg hj]
  have h0 : b.jobs.getD 0 ⟨0, false⟩ = b.jobs[0]! := by
    obtain ⟨j0, js, e⟩ := List.exists_cons_of_ne_nil hj
    rw [e]; rfl
  unfold rfirstJ
  rw [h0]
  have hst : ∀ j ∈ b.jobs, ∃ x ∈ b.stays, x.t = j.t ∧ yO b j.t = x := fun j hj' => by
    obtain ⟨x, hx, e⟩ := h.j.each j hj'
    exact ⟨x, hx, e, by rw [yO_job b h.s hn, ← e]; exact tick_of b h.s hx⟩
  have hby : ∀ j ∈ b.jobs, bayJ b s.ba j = true → ∃ x ∈ b.stays, x.id = s.ba ∧ j = ⟨x.t, false⟩ := fun j hj' hb => by
    obtain ⟨x, hx, e1, e2⟩ := hst j hj'
    unfold bayJ at hb
    rw [e2] at hb
    simp only [Bool.and_eq_true, Bool.not_eq_true', beq_iff_eq] at hb
    obtain ⟨jt, jf⟩ := j
    simp only at hb e1
    refine ⟨x, hx, hb.2, ?_⟩
    rw [hb.1, e1]
  unfold firstJ
  cases hc : carO b s.ba with
  | none =>
    have hno : b.jobs.find? (bayJ b s.ba) = none := List.find?_eq_none.2 fun j hj' hb => by
      obtain ⟨x, hx, e, _⟩ := hby j hj' hb
      have := List.find?_eq_none.1 hc x hx
      simp [e] at this
    rw [hno]
    rfl
  | some x =>
    have hx := carO_mem hc
    have hxi : x.id = s.ba := by
      have := List.find?_some hc
      simpa using this
    simp only [firstO]
    by_cases hh : hasJob b.jobs ⟨x.t, false⟩ = true
    · rw [if_pos hh]
      have hm := (hasJob_iff _ _).1 hh
      cases hf : b.jobs.find? (bayJ b s.ba) with
      | none =>
        have := List.find?_eq_none.1 hf _ hm
        refine absurd ?_ this
        unfold bayJ
        simp only
        rw [yO_job b h.s hn, tick_of b h.s hx, hxi]
        simp
      | some j =>
        obtain ⟨y, hy, e1, e2⟩ := hby j (List.mem_of_find?_eq_some hf) (List.find?_some hf)
        have : x = y := same_stay h.s hx hy (Or.inr (hxi.trans e1.symm))
        rw [e2, this]
        rfl
    · rw [if_neg hh]
      have hno : b.jobs.find? (bayJ b s.ba) = none := List.find?_eq_none.2 fun j hj' hb => by
        obtain ⟨y, hy, e1, e2⟩ := hby j hj' hb
        have : x = y := same_stay h.s hx hy (Or.inr (hxi.trans e1.symm))
        subst this
        rw [e2] at hj'
        exact hh ((hasJob_iff _ _).2 hj')
      rw [hno]
      rfl
theorem vS_eq {last : Int} {n : Nat} (b : Book) (s : St) (h : BookOK last n b.stays b.jobs) (hn : n ≤ 4) : yO b (vJ b s).t = vS b s := by
  rw [yO_job b h.s hn]
  unfold vJ vS
  by_cases hj : b.jobs = []
  · rw [if_pos hj, if_pos hj]
    unfold StayOfJob
    have : tickO b 0 = none := List.find?_eq_none.2 fun x hx => by
      have := (stay_facts h.s hn hx).1
      simp only [beq_iff_eq]
      omega
    show (tickO b 0).getD zS = zS
    rw [this]
    rfl
  · rw [if_neg hj, if_neg hj]
/-- The stay of the first job, while there is one, is of a car, and has a place. -/
theorem vS_mem {last : Int} {n : Nat} (b : Book) (s : St) (h : BookOK last n b.stays b.jobs) (hn : n ≤ 4) (hj : b.jobs ≠ []) : vS b s ∈ b.stays := by
  have hm : rfirstJ b s ∈ b.jobs := by
    unfold rfirstJ
    cases hf : b.jobs.find? (bayJ b s.ba) with
    | none =>
      obtain ⟨j0, js, e⟩ := List.exists_cons_of_ne_nil hj
      rw [e]; simp
    | some j => exact List.mem_of_find?_eq_some hf
  rw [rfirst_eq b s h hn] at hm
  obtain ⟨x, hx, e⟩ := h.j.each _ hm
  rw [← vS_eq b s h hn, yO_job b h.s hn, ← e, tick_of b h.s hx]
  exact hx
/-- What the document does to fetch a car. -/
def FetchQ (s : St) (vs : Stay) (l : List (Int × Int)) : Prop :=
  if s.ba ≠ 0 then l = welG s else if s.op = true then l = [(5, 0)] else
  ∃ x y z ok, RWhereP s vs.id x y z ok ∧ ((ok = false ∧ l = []) ∨ (ok = true ∧ l = if (z == 1 && carOf s.D x y 0 != 0) = true then gThere 3 x y 0 else gThere 3 x y z))
/-- What the document has to be done, where the book stays. -/
def RNextL (b : Book) (s : St) (lv : Int) (bz : Bool) (jt : Int) (jf : Bool) (vs : Stay) (l : List (Int × Int)) : Prop :=
  (s.li ≠ 0 ∧ l = unloadG b s bz jt jf vs lv 1 0) ∨ (s.li = 0 ∧ spareB b s lv bz jf vs = true ∧ l = gThere 3 lv 1 0) ∨
  (s.li = 0 ∧ spareB b s lv bz jf vs = false ∧ bz = false ∧ l = welG s) ∨
  (s.li = 0 ∧ spareB b s lv bz jf vs = false ∧ bz = true ∧ overB s jf vs = false ∧ ((jf = true ∧ FetchQ s vs l) ∨ (jf = false ∧ l = putG s vs)))
def RNextPost (b : Book) (s : St) (lv : Int) (w : World) (e : Ending) (w' : World) : Prop :=
  (∃ v l, e = .returned (.tuple #[v, .agg #[.int .i64 0, .slice none 0 0, .slice none 0 0], .bool false]) ∧ RNextL b s lv (vB b) (vJ b s).t (vJ b s).f (vS b s) l ∧ Goals w' v l ∧ Below w.heap.size w w') ∨
  (NextC b s lv (vB b) (vJ b s).f (vS b s) ∧ ∃ xs xj, e = .returned (.tuple #[.slice none 0 0, .agg #[.int .i64 b.last, xs, xj], .bool true]) ∧ OwnBook w' w.heap.size xs xj (doneStays (vJ b s).t ((vJ b s).f || !hasB s (vS b s).id) b.stays) (doneJobs (vJ b s).t (vJ b s).f ((vJ b s).f || !hasB s (vS b s).id) b.jobs) ∧ Below w.heap.size w w')
/-- Either has the book changed, or not. -/
theorem next_not {b : Book} {s : St} {lv : Int} {bz : Bool} {jt : Int} {jf : Bool} {vs : Stay} {l : List (Int × Int)} (h : NextL b s lv bz jt jf vs l) (h' : NextC b s lv bz jf vs) : False := by
  obtain ⟨c', d', e', f'⟩ := h'
  rcases h with ⟨c, h⟩ | ⟨c, d, h⟩ | ⟨c, d, e, h⟩ | ⟨c, d, e, f, h⟩
  · exact c c'
  · rw [d] at d'; cases d'
  · rw [e] at e'; cases e'
  · rw [f] at f'; cases f'
theorem rnext_not {b : Book} {s : St} {lv : Int} {bz : Bool} {jt : Int} {jf : Bool} {vs : Stay} {l : List (Int × Int)} (h : RNextL b s lv bz jt jf vs l) (h' : NextC b s lv bz jf vs) : False := by
  obtain ⟨c', d', e', f'⟩ := h'
  rcases h with ⟨c, h⟩ | ⟨c, d, h⟩ | ⟨c, d, e, h⟩ | ⟨c, d, e, f, h⟩
  · exact c c'
  · rw [d] at d'; cases d'
  · rw [e] at e'; cases e'
  · rw [f] at f'; cases f'
theorem has_home {s : St} {vs : Stay} (hi : sIn vs) (h0 : vs.id ≠ 0) (h : carOf s.D vs.x vs.y vs.z = vs.id) : hasB s vs.id = true := by
  have : atB s.D vs.id = true := atB_iff.2 ⟨vs.x, vs.y, vs.z, ⟨⟨hi.1, hi.2.1⟩, ⟨hi.2.2.1, hi.2.2.2.1⟩, hi.2.2.2.2.1, hi.2.2.2.2.2⟩, h⟩
  unfold hasB
  rw [this]
  simp [h0]
theorem has_bay {s : St} {id : Int} (h0 : id ≠ 0) (h : s.ba = id) : hasB s id = true := by
  unfold hasB
  rw [h]
  simp [h0]
theorem rblocks_eq {b : Book} {s : St} {bz jf : Bool} {vs x : Stay} {id : Int} (hc : carO b id = some x) : blocksB b s bz jf vs id = (bz && rblocksB s.D vs x jf) := by
  unfold blocksB rblocksB blocksO
  rw [hc]
  simp only
  cases bz <;> cases jf <;> simp only [Bool.true_and, Bool.false_and]
  cases (vs.z == 1) <;> cases (carOf s.D vs.x vs.y vs.z == vs.id) <;> cases (eqP vs.x vs.y 0 x.x x.y x.z) <;> rfl

end Tn
end Go.Proofs.Ytihapeagjikiaaa
