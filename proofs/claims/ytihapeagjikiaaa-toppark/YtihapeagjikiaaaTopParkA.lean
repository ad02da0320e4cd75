/- Chapter 7: a book in which a car was parked may be (E4); what the statement 'TopPark' asks besides; pure. -/
import Derived.Test.YtihapeagjikiaaaPark
import Derived.Test.YtihapeagjikiaaaSameBook
namespace Go.Proofs.Ytihapeagjikiaaa
open Go.Shelf Go.Lib Go.ChangeShapes Go.WideShapes Go.ChangeAt Go.RowKit
set_option maxRecDepth 100000
set_option linter.unusedSimpArgs false
set_option linter.unusedVariables false

namespace Bk
theorem nodup_le {α : Type} [BEq α] [LawfulBEq α] : ∀ (l m : List α), l.Pairwise (fun a b => a ≠ b) → (∀ x ∈ l, x ∈ m) → l.length ≤ m.length
  | [], m, _, _ => Nat.zero_le _
  | a :: l, m, hp, hs => by
    rw [List.pairwise_cons] at hp
    have ha : a ∈ m := hs a (by simp)
    have := nodup_le l (m.erase a) hp.2 (fun x hx => (List.mem_erase_of_ne (fun e => hp.1 x hx e.symm)).2 (hs x (by simp [hx])))
    rw [List.length_erase_of_mem ha] at this
    have h0 : 0 < m.length := List.length_pos_of_mem ha
    simp only [List.length_cons]
    omega
theorem eqP_iff {a b c x y z : Int} : eqP a b c x y z = true ↔ a = x ∧ b = y ∧ c = z := by
  unfold eqP
  simp [and_assoc]
theorem hasPlace_iff (l : List (Int × Int × Int)) (p : Int × Int × Int) : hasPlace l p = true ↔ p ∈ l := by
  unfold hasPlace
  rw [List.any_eq_true]
  constructor
  · rintro ⟨y, hy, h⟩
    simp at h
    obtain ⟨p1, p2, p3⟩ := p
    obtain ⟨y1, y2, y3⟩ := y
    simp at h
    obtain ⟨⟨rfl, rfl⟩, rfl⟩ := h
    exact hy
  · intro h
    exact ⟨p, h, by simp⟩
/-- There are no more stays than places. -/
theorem stays_few {last : Int} {n : Nat} {l : List Stay} (h1 : 1 ≤ n) (h4 : n ≤ 4) (h : StaysOK last n l) : l.length ≤ 14 := by
  have hp : (l.map (fun s => (s.x, s.y, s.z))).Pairwise (fun a b => a ≠ b) := by
    rw [List.pairwise_map]
    refine h.pair.imp ?_
    intro a b hab e
    have := hab.2
    unfold clash at this
    simp only [Prod.mk.injEq] at e
    rw [eqP_iff.2 ⟨e.1, e.2.1, e.2.2⟩] at this
    simp at this
  have := nodup_le _ (placesTo n (2 * n)) hp (fun x hx => by
    obtain ⟨s, hs, rfl⟩ := List.mem_map.1 hx
    exact (hasPlace_iff _ _).1 (h.each s hs).2.2.2)
  rw [List.length_map, places_len n h1 h4] at this
  omega

theorem BookOK.parked {last : Int} {n : Nat} {stays : List Stay} {jobs : List Job} {sa ja : Option Addr} {sc jc : Nat} {f : Nat → Int × Int × Int} {ci ca cb cc : Int} {po : Int × Int × Int} (h1 : 1 ≤ n) (h4 : n ≤ 4) (h : BookOK last n stays jobs)
    (hk : parkN ⟨last, sa, sc, ja, jc, stays, jobs⟩ f n ci ca cb cc = 0) (hpo : pickO ⟨last, sa, sc, ja, jc, stays, jobs⟩ f ca cb cc n = some po) :
    BookOK (last + 1) n (stays ++ [⟨last + 1, ci, ca, cb, cc, po.1, po.2.1, po.2.2⟩]) (jobs ++ [⟨last + 1, false⟩]) := by
  have hcar : carN ci ca cb cc = 0 := by
    unfold parkN at hk
    by_cases e : carN ci ca cb cc = 0
    · exact e
    · rw [if_pos e] at hk; exact hk
  have hof : ¬ 0 ≤ ofI ⟨last, sa, sc, ja, jc, stays, jobs⟩ ci := by
    intro e
    unfold parkN at hk
    rw [if_neg (by simp [hcar]), if_pos e] at hk
    exact absurd hk (by decide)
  have hfull : ¬ (999999 ≤ last ∨ 8 ≤ jobs.length) := by
    intro e
    unfold parkN at hk
    rw [if_neg (by simp [hcar]), if_neg hof, if_pos (Or.inr e)] at hk
    exact absurd hk (by decide)
  have hid : ∀ s ∈ stays, s.id ≠ ci := by
    intro s hs e
    have := stayIdx_nonneg (fun s => s.id == ci) stays
    have h2 : stays.any (fun s => s.id == ci) = true := List.any_eq_true.2 ⟨s, hs, by simpa using e⟩
    rw [h2] at this
    exact hof (of_decide_eq_true this)
  have hfew := stays_few h1 h4 h.s
  have hmem : po ∈ placesTo n (2 * n) := List.mem_of_find?_eq_some hpo
  have hok : okP ⟨last, sa, sc, ja, jc, stays, jobs⟩ f ca cb cc po = true := List.find?_some hpo
  have hbar : ∀ s ∈ stays, eqP s.x s.y s.z po.1 po.2.1 po.2.2 = false := by
    intro s hs
    unfold okP barredB at hok
    simp only [Bool.and_eq_true, Bool.not_eq_true'] at hok
    have h2 := List.any_eq_false.1 hok.2 s hs
    unfold barP at h2
    cases hq : eqP s.x s.y s.z po.1 po.2.1 po.2.2 with
    | false => rfl
    | true => rw [hq] at h2; simp at h2
  have hpl : placeB po.1 po.2.1 po.2.2 n = true := by
    obtain ⟨i, hi, e⟩ := List.getElem_of_mem hmem
    have := (places_good n h1 h4 i (by rw [← places_len n h1 h4]; exact hi)).1
    have e2 : (placesTo n (2 * n)).getD i (0, 0, 0) = po := by simp [List.getD, hi, e]
    simp only [e2] at this
    exact this
  refine ⟨by have := h.lim; omega, by rw [List.length_append]; simp; omega, by rw [List.length_append]; simp; omega, ⟨?_, ?_⟩, ⟨?_, ?_⟩⟩
  · intro s hs
    rcases List.mem_append.1 hs with hs | hs
    · obtain ⟨a, b, c, d⟩ := h.s.each s hs
      refine ⟨a, b, ?_, d⟩
      simp only [decide_eq_true_eq] at c ⊢
      omega
    · simp only [List.mem_singleton] at hs
      subst hs
      refine ⟨hcar, hpl, ?_, (hasPlace_iff _ _).2 hmem⟩
      have := h.lim
      simp only [decide_eq_true_eq]
      omega
  · rw [List.pairwise_append]
    refine ⟨h.s.pair, List.pairwise_singleton _ _, fun a ha b hb => ?_⟩
    simp only [List.mem_singleton] at hb
    subst hb
    have hr := (h.s.each a ha).2.2.1
    simp only [decide_eq_true_eq] at hr
    refine ⟨by show a.t < last + 1; omega, ?_⟩
    unfold clash
    simp only [hbar a ha, Bool.false_or]
    simpa using hid a ha
  · intro x hx
    rcases List.mem_append.1 hx with hx | hx
    · obtain ⟨s, hs, e⟩ := h.j.each x hx
      exact ⟨s, List.mem_append_left _ hs, e⟩
    · simp only [List.mem_singleton] at hx
      subst hx
      exact ⟨_, List.mem_append_right _ (List.mem_singleton.2 rfl), rfl⟩
  · rw [List.pairwise_append]
    refine ⟨h.j.pair, List.pairwise_singleton _ _, fun a ha b hb e => ?_⟩
    simp only [List.mem_singleton] at hb
    subst hb
    obtain ⟨s, hs, es⟩ := h.j.each a ha
    have hr := (h.s.each s hs).2.2.1
    simp only [decide_eq_true_eq] at hr
    rw [e] at es
    simp only at es
    omega

theorem eqCar_run (i a b c : Int) (w : World) : Sem.run Try.prog (binOp .eql 30 (.agg #[.int .i64 i, .int .i64 a, .int .i64 b, .int .i64 c]) (.agg #[.int .i64 i, .int .i64 a, .int .i64 b, .int .i64 c])) w = .ok (.bool true) w := by
  have u3 := Try.underlying3
  have a3 := Try.isAgg3
  have z3 := Try.sizeOf3
  have hS : Try.prog.underlying 30 = some (.struct (Try.prog.fieldsOf 30)) := by kernel_rfl
  have hp : Try.prog.stoodInHeld 30 = false := by kernel_rfl
  have aZ := Try.isAgg28
  have zZ := Try.sizeOf28
  rw [run_eql_struct, show (10000 : Nat) = 9999 + 1 from rfl, run_equalIn_agg w 9999 30 _ _ hS hp]
  simp only [Program.fieldsOf, Try.underlying30]
  have e1' : ∀ w, Sem.run Try.prog (Op.equalIn 9999 28 (.agg #[.int .i64 a, .int .i64 b, .int .i64 c]) (.agg #[.int .i64 a, .int .i64 b, .int .i64 c])) w = .ok true w := fun w => eqIn3 28 9997 a b c w (by kernel_rfl) (by kernel_rfl) (Or.inr rfl)
  clear hS hp
  go_simp
theorem guardCar_run (op : BinOp) (u v : Operand) (a b : Array Value) (w : World) : Sem.run Try.prog (eqGuard op 30 u v (.agg a) (.agg b)) w = .ok () w := run_eqGuard_agg w op 30 u v a b (by kernel_rfl)

theorem park_four : parkN ⟨4, none, 0, none, 0, [], []⟩ (fun _ => (99, 99, 99)) 1 1 1 1 1 = 0 := by decide

end Bk
end Go.Proofs.Ytihapeagjikiaaa
