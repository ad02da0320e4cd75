/- Plans as they lie in memory, behind the machine; a calm machine has its levels (D2). -/
import Derived.Test.YticjjnmmedmbiabBut
import Derived.Test.YticjjnmmedmbiabVisit
namespace Go.Proofs.Yticjjnmmedmbiab
open Go.ChangeShapes Go.WideShapes Go.ChangeAt Go.RowKit Go.Maps
set_option maxRecDepth 100000
set_option linter.unusedSimpArgs false
set_option linter.unusedVariables false

namespace Pl
open Ac
theorem flatG_at : ∀ (l : List (Int × Int)) (i : Nat), i < l.length → (flatG l)[2 * i]? = some (.int .i64 (l.getD i (0, 0)).1) ∧ (flatG l)[2 * i + 1]? = some (.int .i64 (l.getD i (0, 0)).2)
  | [], i, h => by simp at h
  | g :: l, 0, _ => by simp [flatG]
  | g :: l, i + 1, h => by
    have := flatG_at l i (by simpa using h)
    rw [show 2 * (i + 1) = 2 * i + 1 + 1 from by omega]
    simpa [flatG] using this
/-- A plan lies in new memory: apart from a machine that was there. -/
theorem goals_own {w w' : World} {v : Value} {l : List (Int × Int)} {pb mb : Nat} (h : GoalsOwn w w' v l) (h1 : pb < w.heap.size) (h2 : mb < w.heap.size) : GoalsAt pb mb w' v l := by
  rcases h.1.2 with ⟨rfl, h0⟩ | ⟨g, cap, cur, rfl, hg, r⟩
  · exact ⟨none, 0, by rw [h0], by omega, Nat.zero_le _, fun h => by omega⟩
  · have hlt := (h.1.lt g rfl).2
    have ad : ∀ j, (⟨g, 0, none⟩ : Addr).add j = ⟨g, 0 + j, none⟩ := by
      intro j
      unfold Addr.add
      split
      · rename_i h; subst h; rfl
      · simp
    refine ⟨some ⟨g, 0, none⟩, cap, rfl, r.2.1, r.2.2.1, fun h0 => ⟨g, 0, rfl, hlt, by omega, by omega, fun i hi => ?_⟩⟩
    obtain ⟨f1, f2⟩ := flatG_at l i hi
    have c1 := h.1.cells (g := g) rfl (2 * i) _ f1
    have c2 := h.1.cells (g := g) rfl (2 * i + 1) _ f2
    rw [ad] at c1 c2
    rw [show 0 + i * 2 = 0 + 2 * i from by omega]
    exact ⟨c1, c2⟩

set_option maxHeartbeats 400000 in
theorem fetch_any (x y z : Int) (w : World) (pb mb : Nat) (h1 : pb < w.heap.size) (h2 : mb < w.heap.size) (hx1 : 1 ≤ x) (hx4 : x ≤ 4) (hz0 : 0 ≤ z) (hz1 : z ≤ 1) :
    Calls Try.prog 24 #[.agg #[.int .i64 x, .int .i64 y, .int .i64 z]] w fun e w' =>
      ∃ v, e = .returned v ∧ GoalsAt pb mb w' v [(2, 0), (5, 0), (1, x * 3), (2, extI y z), (3, 0), (2, 0)] ∧ Below w.heap.size w w' := by
  go_enter Try.func24, Try.ntmps24
  go_wp2_with fail
  refine (visit_any _ _ _ _ _ hx1 hx4 hz0 hz1).mono ?_
  rintro e w1 ⟨v, rfl, ho⟩
  have X : Hid (GoalsAt pb mb w1 v [(2, 0), (5, 0), (1, x * 3), (2, extI y z), (3, 0), (2, 0)]) := goals_own ho (by simp; omega) (by simp; omega)
  have Y : Hid (Below w.heap.size w w1) := B.next (B.new1 _ _) ho.2 (by simp)
  clear ho
  go_wp2
  go_returns
  exact ⟨_, rfl, X.out, Y.out⟩

set_option maxHeartbeats 400000 in
theorem bring_any (x y z : Int) (w : World) (pb mb : Nat) (h1 : pb < w.heap.size) (h2 : mb < w.heap.size) (hx1 : 1 ≤ x) (hx4 : x ≤ 4) (hz0 : 0 ≤ z) (hz1 : z ≤ 1) :
    Calls Try.prog 27 #[.agg #[.int .i64 x, .int .i64 y, .int .i64 z]] w fun e w' =>
      ∃ v, e = .returned v ∧ GoalsAt pb mb w' v [(2, 0), (5, 0), (1, x * 3), (2, extI y z), (4, 0), (2, 0)] ∧ Below w.heap.size w w' := by
  go_enter Try.func27, Try.ntmps27
  go_wp2_with fail
  refine (visit_any _ _ _ _ _ hx1 hx4 hz0 hz1).mono ?_
  rintro e w1 ⟨v, rfl, ho⟩
  have X : Hid (GoalsAt pb mb w1 v [(2, 0), (5, 0), (1, x * 3), (2, extI y z), (4, 0), (2, 0)]) := goals_own ho (by simp; omega) (by simp; omega)
  have Y : Hid (Below w.heap.size w w1) := B.next (B.new1 _ _) ho.2 (by simp)
  clear ho
  go_wp2
  go_returns
  exact ⟨_, rfl, X.out, Y.out⟩

theorem step_lv (c : Int) (s : St) : (stepS c s).lv = s.lv := by
  unfold stepS
  split
  · rfl
  unfold doS
  split; · rfl
  split; · rfl
  split; · unfold slideS; split <;> rfl
  split; · unfold slideS; split <;> rfl
  split; · unfold grabS; split <;> rfl
  split; · unfold putS; split <;> rfl
  split; · rfl
  split; · rfl
  split; · unfold takeInS; split <;> rfl
  split; · unfold giveOutS; split <;> rfl
  rfl
theorem guard_lv (c : Int) (s : St) : (guardS c s).lv = s.lv := by
  unfold guardS
  split
  · exact step_lv c s
  · rfl
theorem out_lv (x : ActC) (s : St) : (outS x s).lv = s.lv := by
  unfold outS
  split; · exact step_lv _ s
  split; · unfold walkS; split <;> rfl
  split; · unfold arriveS; split <;> rfl
  split; · unfold leaveS; split <;> rfl
  split; · unfold stallS; split <;> rfl
  rfl
theorem acts_lv (f : Nat → ActC) (s : St) : ∀ k, (actsS f k s).lv = s.lv
  | 0 => rfl
  | k + 1 => by
    unfold actsS actG
    split
    · exact (guard_lv _ _).trans (acts_lv f s k)
    · exact (out_lv _ _).trans (acts_lv f s k)
theorem run_lv : ∀ t l (s : St), (runS t l s).2.lv = s.lv
  | 0, _, _ => rfl
  | _ + 1, [], _ => rfl
  | t + 1, g :: l, s => by
    unfold runS
    split
    · exact run_lv t l s
    · exact (run_lv t (g :: l) _).trans (guard_lv _ s)
theorem calm_lv (lv : Int) (len : Nat) (f : Nat → ActC) : (calmSt lv len f).lv = lv := by
  have h1 : (calm1 lv len f).lv = lv := by
    unfold calm1 walkS
    have h0 : (stallS 0 (actsS f len (newS lv))).lv = lv := by
      have : (actsS f len (newS lv)).lv = lv := acts_lv f (newS lv) len
      unfold stallS
      split <;> exact this
    split <;> exact h0
  have h2 : (calm2 (calm1 lv len f)).lv = lv := by
    unfold calm2
    split
    · exact (step_lv _ _).trans h1
    · exact h1
  exact (run_lv 20 _ _).trans h2

end Pl
end Go.Proofs.Yticjjnmmedmbiab
