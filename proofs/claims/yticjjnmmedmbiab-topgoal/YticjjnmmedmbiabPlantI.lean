/- Chapter 2: the shuttle reaches out, and back (B3); contract. -/
import Derived.Test.YticjjnmmedmbiabPlantH
namespace Go.Proofs.Yticjjnmmedmbiab
open Go.ChangeShapes Go.WideShapes Go.ChangeAt Go.RowKit Go.Maps
set_option maxRecDepth 100000
set_option linter.unusedSimpArgs false
set_option linter.unusedVariables false

namespace Pl
def slideS (b : Int) (s : St) : St := if -2 ≤ s.ex + b ∧ s.ex + b ≤ 2 then { s with ex := s.ex + b, hu := (s.hu || (s.ex + b != 0 && !endB s.lv s.h (s.ex + b))) || (s.li != 0 && carAtI s.D s.lv s.h (s.ex + b) != 0) } else s


set_option maxHeartbeats 2000000 in
theorem slide_z (pb mb n : Nat) (lv h ex : Int) (op : Bool) (pe li ba : Int) (D : DataW Unit) (st : Int) (hu : Bool) (b : Int) (w : World) (hp : IsP w pb mb n ⟨lv, h, ex, op, pe, li, ba, D, st, hu⟩) (lv1 : 1 ≤ lv) (lv4 : lv ≤ 4) (h0 : 0 ≤ h) (h12 : h ≤ lv * 3) (m1 : IntKind.i64.wrap (ex + b) = 0) :
    Calls Try.prog 72 #[.pointer (some ⟨pb, 0, none⟩), .int .i64 b] w fun e w' => e = .returned (.tuple #[]) ∧ IsP w' pb mb n ⟨lv, h, 0, op, pe, li, ba, D, st, (hu || ((0 : Int) != 0 && !endB lv h 0)) || (li != 0 && carAtI D lv h 0 != 0)⟩ ∧ Turn pb mb w w' := by
  have P : Hid (IsP w pb mb n ⟨lv, h, ex, op, pe, li, ba, D, st, hu⟩) := hp
  have c2 := hp.c2; have f2 := hp.free 2
  simp only at c2
  clear hp
  have HE : Hid (∀ w s', IsP w pb mb n s' → s'.lv = lv → s'.h = h → Calls Try.prog 112 #[.pointer (some ⟨pb, 0, none⟩), .int .i64 0] w fun e w' => e = .returned (endV lv h 0) ∧ Below w.heap.size w w') := fun w s' hp e1 e2 => end_any pb lv h 0 w (e1 ▸ hp.c0) (e2 ▸ hp.c1) h0 (by omega) (by omega) (by omega)
  have HC : Hid (∀ w s', IsP w pb mb n s' → s'.lv = lv → s'.h = h → s'.D = D → Calls Try.prog 68 #[.pointer (some ⟨pb, 0, none⟩), .int .i64 0] w fun e w' => e = .returned (.int .i64 (carAtI D lv h 0)) ∧ Below w.heap.size w w') := fun w s' hp e1 e2 e3 => carAt_any pb mb n D lv h 0 w (e1 ▸ hp.c0) (e2 ▸ hp.c1) hp.c7 (e3 ▸ hp.cars) h0 (by omega) (by omega) (by omega)
  have KV : Hid (endV lv h 0 = .tuple #[.agg #[.int .i64 (endX lv h 0), .int .i64 (endY lv h 0), .int .i64 (endZ lv h 0)], .bool (endB lv h 0)]) := rfl
  generalize endX lv h 0 = X at KV
  generalize endY lv h 0 = Y at KV
  generalize endZ lv h 0 = Z at KV
  generalize endB lv h 0 = q at KV ⊢
  obtain ⟨c, HCc⟩ : ∃ c, Hid (carAtI D lv h 0 = c) := ⟨_, rfl⟩
  rw [HCc.out]
  have P1 : Hid (IsP (w.setCell ⟨pb, 2, none⟩ (.int .i64 0)) pb mb n ⟨lv, h, 0, op, pe, li, ba, D, st, hu⟩) := IsP.set (s' := ⟨lv, h, 0, op, pe, li, ba, D, st, hu⟩) P.out 2 (.int .i64 0) rfl rfl
  have hlt := P.out.lt
  obtain ⟨r, HR⟩ : ∃ r, Hid (((0 : Int) != 0 && !q) = r) := ⟨_, rfl⟩
  rw [HR.out]
  have HL : Hid ((li == 0) = true ∨ (li == 0) = false) := by show _ ∨ _; cases (li == 0) <;> simp
  go_enter Try.func72, Try.ntmps72
  go_wp2_with fail
  all_goals first
    | (exfalso; go_light; omega)
    | skip
  refine (HE.out _ _ P1.out rfl rfl).mono ?_
  rw [KV.out]
  rintro e w1 ⟨rfl, hb1⟩
  have z1 := hb1.size
  have P2 : Hid (IsP (w1.alloc (.cells #[.int .i64 X, .int .i64 Y, .int .i64 Z] 52)) pb mb n ⟨lv, h, 0, op, pe, li, ba, D, st, hu⟩) := P1.out.below (hb1.alloc z1 _)
  have T2 : Hid (Turn pb mb w (w1.alloc (.cells #[.int .i64 X, .int .i64 Y, .int .i64 Z] 52))) := (Turn.set w 2 (.int .i64 0)).trans (Turn.of_below (hb1.alloc z1 _))
  clear hb1
  go_wp2_with fail
  refine (hurtP pb mb n ⟨lv, h, 0, op, pe, li, ba, D, st, hu⟩ _ r _ P2.out (by first | exact HR.out | (rw [← HR.out]; simp))).mono ?_
  rintro e w3 ⟨rfl, p3, t3⟩
  have P3 : Hid (IsP w3 pb mb n ⟨lv, h, 0, op, pe, li, ba, D, st, hu || r⟩) := p3
  have T3 : Hid (Turn pb mb w w3) := T2.out.trans t3
  have d5 := p3.c5
  simp only at d5
  clear p3 t3 P1 P2 T2 HE KV z1
  rcases HL.out with kl' | kl'
  · have kl : li = 0 := by simpa using kl'
    subst kl
    go_wp2_with fail
    refine (hurtP pb mb n ⟨lv, h, 0, op, pe, 0, ba, D, st, hu || r⟩ _ ((0 : Int) != 0 && c != 0) _ P3.out (by simp)).mono ?_
    rintro e w4 ⟨rfl, p4, t4⟩
    have P4 : Hid (IsP w4 pb mb n _) := p4
    have T4 : Hid (Turn pb mb w w4) := T3.out.trans t4
    clear p4 t4
    go_wp2
    go_returns
    exact ⟨rfl, P4.out, T4.out⟩
  · have KL : ¬ li = 0 := by simpa using kl'
    go_wp2_with fail
    refine (HC.out _ _ P3.out rfl rfl rfl).mono ?_
    rw [HCc.out]
    rintro e w4 ⟨rfl, hb4⟩
    have P4 : Hid (IsP w4 pb mb n ⟨lv, h, 0, op, pe, li, ba, D, st, hu || r⟩) := P3.out.below hb4
    have T4 : Hid (Turn pb mb w w4) := T3.out.below hb4
    clear hb4 d5 HC
    go_wp2_with fail
    refine (hurtP pb mb n ⟨lv, h, 0, op, pe, li, ba, D, st, hu || r⟩ _ (li != 0 && c != 0) _ P4.out (by first | rfl | simp [KL])).mono ?_
    rintro e w5 ⟨rfl, p5, t5⟩
    have P5 : Hid (IsP w5 pb mb n _) := p5
    have T5 : Hid (Turn pb mb w w5) := T4.out.trans t5
    clear p5 t5
    go_wp2
    go_returns
    exact ⟨rfl, P5.out, T5.out⟩

set_option maxHeartbeats 2000000 in
theorem slide_x (pb mb n : Nat) (lv h ex : Int) (op : Bool) (pe li ba : Int) (D : DataW Unit) (st : Int) (hu : Bool) (b x : Int) (w : World) (hp : IsP w pb mb n ⟨lv, h, ex, op, pe, li, ba, D, st, hu⟩) (lv1 : 1 ≤ lv) (lv4 : lv ≤ 4) (h0 : 0 ≤ h) (h12 : h ≤ lv * 3) (m1 : IntKind.i64.wrap (ex + b) = x) (kx : ¬ x = 0) (k1 : -2 ≤ x) (k2 : x ≤ 2) :
    Calls Try.prog 72 #[.pointer (some ⟨pb, 0, none⟩), .int .i64 b] w fun e w' => e = .returned (.tuple #[]) ∧ IsP w' pb mb n ⟨lv, h, x, op, pe, li, ba, D, st, (hu || ((x : Int) != 0 && !endB lv h x)) || (li != 0 && carAtI D lv h x != 0)⟩ ∧ Turn pb mb w w' := by
  have P : Hid (IsP w pb mb n ⟨lv, h, ex, op, pe, li, ba, D, st, hu⟩) := hp
  have c2 := hp.c2; have f2 := hp.free 2
  simp only at c2
  clear hp
  have HE : Hid (∀ w s', IsP w pb mb n s' → s'.lv = lv → s'.h = h → Calls Try.prog 112 #[.pointer (some ⟨pb, 0, none⟩), .int .i64 x] w fun e w' => e = .returned (endV lv h x) ∧ Below w.heap.size w w') := fun w s' hp e1 e2 => end_any pb lv h x w (e1 ▸ hp.c0) (e2 ▸ hp.c1) h0 (by omega) (by omega) (by omega)
  have HC : Hid (∀ w s', IsP w pb mb n s' → s'.lv = lv → s'.h = h → s'.D = D → Calls Try.prog 68 #[.pointer (some ⟨pb, 0, none⟩), .int .i64 x] w fun e w' => e = .returned (.int .i64 (carAtI D lv h x)) ∧ Below w.heap.size w w') := fun w s' hp e1 e2 e3 => carAt_any pb mb n D lv h x w (e1 ▸ hp.c0) (e2 ▸ hp.c1) hp.c7 (e3 ▸ hp.cars) h0 (by omega) (by omega) (by omega)
  have KV : Hid (endV lv h x = .tuple #[.agg #[.int .i64 (endX lv h x), .int .i64 (endY lv h x), .int .i64 (endZ lv h x)], .bool (endB lv h x)]) := rfl
  generalize endX lv h x = X at KV
  generalize endY lv h x = Y at KV
  generalize endZ lv h x = Z at KV
  generalize endB lv h x = q at KV ⊢
  obtain ⟨c, HCc⟩ : ∃ c, Hid (carAtI D lv h x = c) := ⟨_, rfl⟩
  rw [HCc.out]
  have P1 : Hid (IsP (w.setCell ⟨pb, 2, none⟩ (.int .i64 x)) pb mb n ⟨lv, h, x, op, pe, li, ba, D, st, hu⟩) := IsP.set (s' := ⟨lv, h, x, op, pe, li, ba, D, st, hu⟩) P.out 2 (.int .i64 x) rfl rfl
  have hlt := P.out.lt
  obtain ⟨r, HR⟩ : ∃ r, Hid (((x : Int) != 0 && !q) = r) := ⟨_, rfl⟩
  rw [HR.out]
  have HL : Hid ((li == 0) = true ∨ (li == 0) = false) := by show _ ∨ _; cases (li == 0) <;> simp
  go_enter Try.func72, Try.ntmps72
  go_wp2_with fail
  all_goals first
    | (exfalso; go_light; omega)
    | skip
  refine (HE.out _ _ P1.out rfl rfl).mono ?_
  rw [KV.out]
  rintro e w1 ⟨rfl, hb1⟩
  have z1 := hb1.size
  have P2 : Hid (IsP (w1.alloc (.cells #[.int .i64 X, .int .i64 Y, .int .i64 Z] 52)) pb mb n ⟨lv, h, x, op, pe, li, ba, D, st, hu⟩) := P1.out.below (hb1.alloc z1 _)
  have T2 : Hid (Turn pb mb w (w1.alloc (.cells #[.int .i64 X, .int .i64 Y, .int .i64 Z] 52))) := (Turn.set w 2 (.int .i64 x)).trans (Turn.of_below (hb1.alloc z1 _))
  clear hb1
  go_wp2_with fail
  refine (hurtP pb mb n ⟨lv, h, x, op, pe, li, ba, D, st, hu⟩ _ r _ P2.out (by first | exact HR.out | (rw [← HR.out]; simp [kx]))).mono ?_
  rintro e w3 ⟨rfl, p3, t3⟩
  have P3 : Hid (IsP w3 pb mb n ⟨lv, h, x, op, pe, li, ba, D, st, hu || r⟩) := p3
  have T3 : Hid (Turn pb mb w w3) := T2.out.trans t3
  have d5 := p3.c5
  simp only at d5
  clear p3 t3 P1 P2 T2 HE KV z1
  rcases HL.out with kl' | kl'
  · have kl : li = 0 := by simpa using kl'
    subst kl
    go_wp2_with fail
    refine (hurtP pb mb n ⟨lv, h, x, op, pe, 0, ba, D, st, hu || r⟩ _ ((0 : Int) != 0 && c != 0) _ P3.out (by simp)).mono ?_
    rintro e w4 ⟨rfl, p4, t4⟩
    have P4 : Hid (IsP w4 pb mb n _) := p4
    have T4 : Hid (Turn pb mb w w4) := T3.out.trans t4
    clear p4 t4
    go_wp2
    go_returns
    exact ⟨rfl, P4.out, T4.out⟩
  · have KL : ¬ li = 0 := by simpa using kl'
    go_wp2_with fail
    refine (HC.out _ _ P3.out rfl rfl rfl).mono ?_
    rw [HCc.out]
    rintro e w4 ⟨rfl, hb4⟩
    have P4 : Hid (IsP w4 pb mb n ⟨lv, h, x, op, pe, li, ba, D, st, hu || r⟩) := P3.out.below hb4
    have T4 : Hid (Turn pb mb w w4) := T3.out.below hb4
    clear hb4 d5 HC
    go_wp2_with fail
    refine (hurtP pb mb n ⟨lv, h, x, op, pe, li, ba, D, st, hu || r⟩ _ (li != 0 && c != 0) _ P4.out (by first | rfl | simp [KL])).mono ?_
    rintro e w5 ⟨rfl, p5, t5⟩
    have P5 : Hid (IsP w5 pb mb n _) := p5
    have T5 : Hid (Turn pb mb w w5) := T4.out.trans t5
    clear p5 t5
    go_wp2
    go_returns
    exact ⟨rfl, P5.out, T5.out⟩

set_option maxHeartbeats 2000000 in
theorem slide_any (pb mb n : Nat) (s : St) (b : Int) (w : World) (hp : IsP w pb mb n s) (ok : Ok s) (b1 : -1 ≤ b) (b2 : b ≤ 1) :
    Calls Try.prog 72 #[.pointer (some ⟨pb, 0, none⟩), .int .i64 b] w fun e w' => e = .returned (.tuple #[]) ∧ IsP w' pb mb n (slideS b s) ∧ Turn pb mb w w' := by
  obtain ⟨lv, h, ex, op, pe, li, ba, D, st, hu⟩ := s
  obtain ⟨lv1, lv4, h0, h12, e0, e2⟩ := ok
  simp only at lv1 lv4 h0 h12 e0 e2
  obtain ⟨x, HX⟩ : ∃ x : Int, Hid (x = ex + b) := ⟨_, rfl⟩
  have m1 : IntKind.i64.wrap (ex + b) = x := by rw [IntKind.wrap_i64, HX.out]; omega
  have m2 : ex + b = x := HX.out.symm
  by_cases hk : -2 ≤ x ∧ x ≤ 2
  · have K : slideS b ⟨lv, h, ex, op, pe, li, ba, D, st, hu⟩ = ⟨lv, h, x, op, pe, li, ba, D, st, (hu || (x != 0 && !endB lv h x)) || (li != 0 && carAtI D lv h x != 0)⟩ := by simp only [slideS, m2, hk, and_self, if_true]
    rw [K]
    clear K m2
    by_cases kx : x = 0
    · subst kx
      exact slide_z pb mb n lv h ex op pe li ba D st hu b w hp lv1 lv4 h0 h12 m1
    · exact slide_x pb mb n lv h ex op pe li ba D st hu b x w hp lv1 lv4 h0 h12 m1 kx hk.1 hk.2
  · have P : Hid (IsP w pb mb n ⟨lv, h, ex, op, pe, li, ba, D, st, hu⟩) := hp
    have c2 := hp.c2; have f2 := hp.free 2
    simp only at c2
    clear hp
    have K : Hid (slideS b ⟨lv, h, ex, op, pe, li, ba, D, st, hu⟩ = ⟨lv, h, ex, op, pe, li, ba, D, st, hu⟩) := by
      show _ = _
      simp only [slideS, m2, hk, if_false]
    have HK : Hid (¬(-2 ≤ x ∧ x ≤ 2)) := hk
    rw [K.out]
    clear hk K m2
    go_enter Try.func72, Try.ntmps72
    go_wp2_with fail
    all_goals first
      | (exfalso; go_light; have := HK.out; omega)
      | (go_returns; exact ⟨rfl, P.out, Turn.refl _ _ _⟩)

end Pl
end Go.Proofs.Yticjjnmmedmbiab
