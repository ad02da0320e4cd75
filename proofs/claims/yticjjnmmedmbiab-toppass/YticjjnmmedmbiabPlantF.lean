/- Chapter 2: what comes from outside (B4), and a new machine (B1); contracts. -/
import Derived.Test.YticjjnmmedmbiabPlantE
namespace Go.Proofs.Yticjjnmmedmbiab
open Go.ChangeShapes Go.WideShapes Go.ChangeAt Go.RowKit Go.Maps
set_option maxRecDepth 100000
set_option linter.unusedSimpArgs false
set_option linter.unusedVariables false

namespace Pl
def leaveB (s : St) : Bool := s.op && s.ba != 0
def leaveV (s : St) : Value := .tuple #[.int .i64 (if leaveB s = true then s.ba else 0), if leaveB s = true then .nilIface else errV 7]
def leaveS (s : St) : St := if leaveB s = true then { s with ba := 0 } else s
set_option maxHeartbeats 1000000 in
theorem leave_any (pb mb n : Nat) (s : St) (w : World) (hp : IsP w pb mb n s) :
    Calls Try.prog 66 #[.pointer (some ⟨pb, 0, none⟩)] w fun e w' => e = .returned (leaveV s) ∧ IsP w' pb mb n (leaveS s) ∧ Turn pb mb w w' := by
  have P : Hid (IsP w pb mb n s) := hp
  have c3 := hp.c3; have c6 := hp.c6; have f6 := hp.free 6
  clear hp
  cases ko : s.op with
  | false =>
    have KB : leaveB s = false := by simp [leaveB, ko]
    have K1 : Hid (leaveV s = .tuple #[.int .i64 0, errV 7]) := by show _ = _; simp [leaveV, KB]
    have K2 : Hid (leaveS s = s) := by show _ = _; simp [leaveS, KB]
    rw [ko] at c3
    clear KB ko
    rw [K1.out, K2.out, errV_ne (by decide)]
    go_enter Try.func66, Try.ntmps66
    go_wp2
    go_returns
    exact ⟨rfl, P.out, Turn.refl _ _ _⟩
  | true =>
    rw [ko] at c3
    by_cases kb : s.ba = 0
    · have KB : leaveB s = false := by simp [leaveB, kb]
      have K1 : Hid (leaveV s = .tuple #[.int .i64 0, errV 7]) := by show _ = _; simp [leaveV, KB]
      have K2 : Hid (leaveS s = s) := by show _ = _; simp [leaveS, KB]
      have kb' : (s.ba == 0) = true := by simpa using kb
      clear KB ko kb
      rw [K1.out, K2.out, errV_ne (by decide)]
      go_enter Try.func66, Try.ntmps66
      go_wp2
      go_returns
      exact ⟨rfl, P.out, Turn.refl _ _ _⟩
    · have KB : leaveB s = true := by simp [leaveB, ko, kb]
      have K1 : Hid (leaveV s = .tuple #[.int .i64 s.ba, .nilIface]) := by show _ = _; simp [leaveV, KB]
      have K2 : Hid (leaveS s = { s with ba := 0 }) := by show _ = _; simp [leaveS, KB]
      have kb' : (s.ba == 0) = false := by simpa using kb
      clear KB ko kb
      rw [K1.out, K2.out]
      go_enter Try.func66, Try.ntmps66
      go_wp2
      go_returns
      exact ⟨rfl, P.out.set 6 _ rfl rfl, Turn.set _ _ _⟩

/-- A new machine. -/
def newS (lv : Int) : St := ⟨lv, 0, 0, true, 0, 0, 0, .map [], 0, false⟩
set_option maxHeartbeats 1000000 in
theorem new_any (lv : Int) (w : World) (h1 : 1 ≤ lv) (h4 : lv ≤ 4) :
    Calls Try.prog 14 #[.int .i64 lv] w fun e w' => e = .returned (.tuple #[.pointer (some ⟨w.heap.size + 1, 0, none⟩), .nilIface]) ∧ IsP w' (w.heap.size + 1) w.heap.size 0 (newS lv) ∧ Below w.heap.size w w' := by
  have hmm := @run_makeMap Try.prog
  go_enter Try.func14, Try.ntmps14
  go_wp2
  all_goals first
    | (exfalso; go_light; omega)
    | skip
  go_returns
  refine ⟨rfl, ⟨?_, ?_⟩, by go_grown⟩
  · rw [show w.heap.size + 1 = (w.alloc (.map #[] 0)).heap.size from by simp]
    exact (MapKept.heap_alloc _ _).1
  · exact (World.ownsMap_made w _ _ _).alloc _

set_option maxHeartbeats 1000000 in
theorem new_bad (lv : Int) (w : World) (h : ¬(1 ≤ lv ∧ lv ≤ 4)) :
    Calls Try.prog 14 #[.int .i64 lv] w fun e w' => e = .returned (.tuple #[.pointer none, errV 1]) ∧ w' = w := by
  have HK : Hid (¬(1 ≤ lv ∧ lv ≤ 4)) := h
  clear h
  rw [errV_ne (by decide)]
  go_enter Try.func14, Try.ntmps14
  go_wp2
  all_goals first
    | (exfalso; go_light; have := HK.out; omega)
    | (go_returns; exact ⟨rfl, rfl⟩)

/-- People come or leave. -/
def walkE (k : Int) (s : St) : Value := if -9 ≤ k ∧ k ≤ 9 then (if s.op = true then .nilIface else errV 7) else errV 1
def walkS (k : Int) (s : St) : St := if (-9 ≤ k ∧ k ≤ 9) ∧ s.op = true then { s with pe := min (max (s.pe + k) 0) 9 } else s
set_option maxHeartbeats 1000000 in
theorem walk_any (pb mb n : Nat) (s : St) (k : Int) (w : World) (hp : IsP w pb mb n s) (p0 : 0 ≤ s.pe) (p9 : s.pe ≤ 9) :
    Calls Try.prog 65 #[.pointer (some ⟨pb, 0, none⟩), .int .i64 k] w fun e w' => e = .returned (walkE k s) ∧ IsP w' pb mb n (walkS k s) ∧ Turn pb mb w w' := by
  have P : Hid (IsP w pb mb n s) := hp
  have c3 := hp.c3; have c4 := hp.c4; have f4 := hp.free 4
  clear hp
  by_cases hk : -9 ≤ k ∧ k ≤ 9
  · cases ko : s.op with
    | false =>
      have K1 : Hid (walkE k s = errV 7) := by show _ = _; simp [walkE, hk, ko]
      have K2 : Hid (walkS k s = s) := by show _ = _; simp [walkS, ko]
      obtain ⟨k1, k2⟩ := hk
      rw [ko] at c3
      rw [K1.out, K2.out, errV_ne (by decide)]
      clear ko
      go_enter Try.func65, Try.ntmps65
      go_wp2
      all_goals first
        | (exfalso; go_light; omega)
        | (go_returns; exact ⟨rfl, P.out, Turn.refl _ _ _⟩)
    | true =>
      have K1 : Hid (walkE k s = .nilIface) := by show _ = _; simp [walkE, hk, ko]
      have HA : Hid (∀ v, v = min (max (s.pe + k) 0) 9 → (arr s mb).setIfInBounds 4 (.int .i64 v) = arr (walkS k s) mb) := by
        intro v hv
        rw [hv]
        simp only [walkS, hk, ko, and_self, if_true]
        simp [arr, ko]
      have HD : Hid ((walkS k s).D = s.D) := by show _ = _; simp only [walkS]; split <;> rfl
      obtain ⟨k1, k2⟩ := hk
      rw [ko] at c3
      rw [K1.out]
      generalize walkS k s = s' at HA HD ⊢
      clear ko
      go_enter Try.func65, Try.ntmps65
      go_wp2
      all_goals first
        | (exfalso; go_light; omega)
        | (go_returns; go_light; exact ⟨rfl, P.out.set 4 _ (HA.out _ (by omega)) HD.out, Turn.set _ _ _⟩)
  · have K1 : Hid (walkE k s = errV 1) := by show _ = _; simp only [walkE, hk, if_false]
    have K2 : Hid (walkS k s = s) := by show _ = _; simp only [walkS, hk, false_and, if_false]
    have HK : Hid (¬(-9 ≤ k ∧ k ≤ 9)) := hk
    clear hk
    rw [K1.out, K2.out, errV_ne (by decide)]
    go_enter Try.func65, Try.ntmps65
    go_wp2
    all_goals first
      | (exfalso; go_light; have := HK.out; omega)
      | (go_returns; exact ⟨rfl, P.out, Turn.refl _ _ _⟩)

end Pl
end Go.Proofs.Yticjjnmmedmbiab
