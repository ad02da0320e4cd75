/- Chapter 2: what is done to the machine (B3); contracts. -/
import Derived.Test.YticjjnmmedmbiabPlantC
namespace Go.Proofs.Yticjjnmmedmbiab
open Go.ChangeShapes Go.WideShapes Go.ChangeAt Go.RowKit Go.Maps
set_option maxRecDepth 100000
set_option linter.unusedSimpArgs false
set_option linter.unusedVariables false

namespace Pl
/-- Nothing has turned but the machine's own two blocks, and what is new. -/
structure Turn (pb mb : Nat) (w w' : World) : Prop where
  os : w'.os = w.os
  tape : w'.tape = w.tape
  output : w'.output = w.output
  size : w.heap.size ≤ w'.heap.size
  block : ∀ k, k < w.heap.size → k ≠ pb → k ≠ mb → w'.heap[k]? = w.heap[k]?

theorem Turn.of_below {pb mb : Nat} {w w' : World} (h : Below w.heap.size w w') : Turn pb mb w w' := ⟨h.os, h.tape, h.output, h.size, fun k hk _ _ => h.block k hk⟩
theorem Turn.refl (pb mb : Nat) (w : World) : Turn pb mb w w := Turn.of_below (Below.refl _ _)
theorem Turn.trans {pb mb : Nat} {a b c : World} (h : Turn pb mb a b) (k : Turn pb mb b c) : Turn pb mb a c :=
  ⟨k.os.trans h.os, k.tape.trans h.tape, k.output.trans h.output, Nat.le_trans h.size k.size, fun i hi h1 h2 => (k.block i (Nat.lt_of_lt_of_le hi h.size) h1 h2).trans (h.block i hi h1 h2)⟩
theorem Turn.set {pb mb : Nat} (w : World) (o : Nat) (v : Value) : Turn pb mb w (w.setCell ⟨pb, o, none⟩ v) :=
  ⟨rfl, rfl, rfl, by simp [World.setCell], fun k hk h1 _ => Below.heap_setCell _ _ _ _ (by simpa using h1)⟩
theorem Turn.drew {pb mb : Nat} (w : World) : Turn pb mb w w.drew := Turn.of_below (Below.refl _ _).drew

theorem IsP.drew {w : World} {pb mb n : Nat} {s : St} (h : IsP w pb mb n s) : IsP w.drew pb mb n s := h.below (Below.refl _ _).drew

theorem hurtP (pb mb n : Nat) (s : St) (b b' : Bool) (w : World) (hp : IsP w pb mb n s) (hb : b = b') :
    Calls Try.prog 75 #[.pointer (some ⟨pb, 0, none⟩), .bool b] w fun e w' => e = .returned (.tuple #[]) ∧ IsP w' pb mb n { s with hu := s.hu || b' } ∧ Turn pb mb w w' := by
  subst hb
  refine (hurtIf_any pb s.hu b w hp.c9 (hp.free 9)).mono ?_
  rintro e w1 ⟨rfl, rfl⟩
  exact ⟨rfl, hp.set 9 _ rfl rfl, Turn.set _ _ _⟩

def stallE (k : Int) : Value := errV (faultN (decide (0 ≤ k ∧ k ≤ 5)))
def stallS (k : Int) (s : St) : St := if 0 ≤ k ∧ k ≤ 5 then { s with st := k } else s
set_option maxHeartbeats 1000000 in
theorem stall_any (pb mb n : Nat) (s : St) (k : Int) (w : World) (hp : IsP w pb mb n s) :
    Calls Try.prog 67 #[.pointer (some ⟨pb, 0, none⟩), .int .i64 k] w fun e w' =>
      e = .returned (stallE k) ∧ IsP w' pb mb n (stallS k s) ∧ Turn pb mb w w' := by
  have c8 := hp.c8
  have f8 := hp.free 8
  have P : Hid (IsP w pb mb n s) := hp
  clear hp
  by_cases hk : 0 ≤ k ∧ k ≤ 5
  · have K : Hid (stallS k s = { s with st := k }) := by show _ = _; simp [stallS, hk]
    have K2 : Hid (stallE k = .nilIface) := by show _ = _; simp [stallE, hk, faultN, errV]
    obtain ⟨k1, k2⟩ := hk
    go_enter Try.func67, Try.ntmps67
    go_wp2
    all_goals first
      | (go_returns; rw [K.out, K2.out]; exact ⟨rfl, P.out.set 8 _ rfl rfl, Turn.set _ _ _⟩)
      | (exfalso; go_light; omega)
  · have K : Hid (stallS k s = s) := by show _ = _; simp [stallS, hk]
    have K2 : Hid (stallE k = .iface 117 (.int .i64 1)) := by show _ = _; simp only [stallE, hk, decide_false, faultN_f]; exact errV_ne (by decide)
    have HK : Hid (¬(0 ≤ k ∧ k ≤ 5)) := hk
    clear hk
    go_enter Try.func67, Try.ntmps67
    go_wp2
    all_goals first
      | (exfalso; go_light; have := HK.out; omega)
      | (go_returns; rw [K.out, K2.out]; exact ⟨rfl, P.out, Turn.refl _ _ _⟩)

def raiseS (b : Int) (s : St) : St := { s with hu := s.hu || (s.ex != 0 || s.op || s.pe != 0), h := min (max (s.h + b) 0) (s.lv * 3) }
set_option maxHeartbeats 1000000 in
theorem raise_any (pb mb n : Nat) (s : St) (b : Int) (w : World) (hp : IsP w pb mb n s) (ok : Ok s) (b1 : -1 ≤ b) (b2 : b ≤ 1) :
    Calls Try.prog 71 #[.pointer (some ⟨pb, 0, none⟩), .int .i64 b] w fun e w' =>
      e = .returned (.tuple #[]) ∧ IsP w' pb mb n (raiseS b s) ∧ Turn pb mb w w' := by
  obtain ⟨lv, h, ex, op, pe, li, ba, D, st, hu⟩ := s
  obtain ⟨lv1, lv4, h0, h12, e0, e2⟩ := ok
  simp only at lv1 lv4 h0 h12 e0 e2
  have c0 := hp.c0; have c1 := hp.c1; have c2 := hp.c2; have c3 := hp.c3; have c4 := hp.c4; have c9 := hp.c9
  simp only at c0 c1 c2 c3 c4 c9
  have P : Hid (IsP w pb mb n ⟨lv, h, ex, op, pe, li, ba, D, st, hu⟩) := hp
  clear hp
  have HA : Hid (∀ v, v = min (max (h + b) 0) (lv * 3) → (arr ⟨lv, h, ex, op, pe, li, ba, D, st, hu || (ex != 0 || op || pe != 0)⟩ mb).setIfInBounds 1 (.int .i64 v) = arr (raiseS b ⟨lv, h, ex, op, pe, li, ba, D, st, hu⟩) mb) := by
    intro v hv
    rw [hv]
    rfl
  have HD : Hid ((raiseS b ⟨lv, h, ex, op, pe, li, ba, D, st, hu⟩).D = D) := rfl
  generalize raiseS b ⟨lv, h, ex, op, pe, li, ba, D, st, hu⟩ = s' at HA HD ⊢
  have m1 : IntKind.i64.wrap (h + b) = h + b := by rw [IntKind.wrap_i64]; omega
  have m2 : IntKind.i64.wrap (lv * 3) = lv * 3 := by rw [IntKind.wrap_i64]; omega
  go_enter Try.func71, Try.ntmps71
  go_wp2_with fail
  all_goals
    refine (hurtP pb mb n ⟨lv, h, ex, op, pe, li, ba, D, st, hu⟩ _ (ex != 0 || op || pe != 0) w P.out (by simp [*])).mono ?_
    rintro e w1 ⟨rfl, p1, t1⟩
    have d0 := p1.c0; have d1 := p1.c1; have f1 := p1.free 1
    simp only at d0 d1
    have T1 : Hid (Turn pb mb w w1) := t1
    have P1 : Hid (IsP w1 pb mb n _) := p1
    clear p1 t1 P c0 c1 c2 c3 c4 c9
    go_wp2_with fail
    go_region
    all_goals go_wp2
    all_goals go_returns
    all_goals go_light
    all_goals exact ⟨rfl, (P1.out.set 1 _ (HA.out _ (by omega)) HD.out).drew, (T1.out.trans (Turn.set _ _ _)).trans (Turn.drew _)⟩

end Pl
end Go.Proofs.Yticjjnmmedmbiab
