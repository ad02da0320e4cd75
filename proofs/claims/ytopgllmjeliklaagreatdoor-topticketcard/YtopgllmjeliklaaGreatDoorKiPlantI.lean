/- PlantI PlantJ. -/
import Derived.Test.YtopgllmjeliklaaGreatDoorKiPlantD
set_option maxRecDepth 100000
set_option linter.unusedSimpArgs false
set_option linter.unusedVariables false
namespace Go.Proofs.YtopgllmjeliklaaGreatDoor
open Go.ChangeShapes Go.WideShapes Go.ChangeAt Go.RowKit Go.Maps
namespace Pl
def slideS (b : Int) (s : St) : St := if -2 ≤ s.ex + b ∧ s.ex + b ≤ 2 then { s with ex := s.ex + b, hu := (s.hu || (s.ex + b != 0 && !endB s.lv s.h (s.ex + b))) || (s.li != 0 && carAtI s.D s.lv s.h (s.ex + b) != 0) } else s
set_option maxHeartbeats 2000000 in
theorem slide_z (pb mb n : Nat) (lv h ex : Int) (op : Bool) (pe li ba : Int) (D : DataW Unit) (st : Int) (hu : Bool) (b : Int) (w : World) (hp : IsP w pb mb n ⟨lv, h, ex, op, pe, li, ba, D, st, hu⟩) (lv1 : 1 ≤ lv) (lv4 : lv ≤ 4) (h0 : 0 ≤ h) (h12 : h ≤ lv * 3) (m1 : IntKind.i64.wrap (ex + b) = 0) :
  Calls Tryz.prog 105 #[.pointer (some ⟨pb, 0, none⟩), .int .i64 b] w fun e w' => e = .returned (.tuple #[]) ∧ IsP w' pb mb n ⟨lv, h, 0, op, pe, li, ba, D, st, (hu || ((0 : Int) != 0 && !endB lv h 0)) || (li != 0 && carAtI D lv h 0 != 0)⟩ ∧ Turn pb mb w w' := by
 have P : Hid (IsP w pb mb n ⟨lv, h, ex, op, pe, li, ba, D, st, hu⟩) := hp; have c2 := hp.c2; have f2 := hp.free 2; simp only at c2; clear hp; have HE : Hid (∀ w s', IsP w pb mb n s' → s'.lv = lv → s'.h = h → Calls Tryz.prog 76 #[.pointer (some ⟨pb, 0, none⟩), .int .i64 0] w fun e w' => e = .returned (endV lv h 0) ∧ Below w.heap.size w w') := fun w s' hp e1 e2 => end_any pb lv h 0 w (e1 ▸ hp.c0) (e2 ▸ hp.c1) h0 (by omega) (by omega) (by omega)
 have HC : Hid (∀ w s', IsP w pb mb n s' → s'.lv = lv → s'.h = h → s'.D = D → Calls Tryz.prog 50 #[.pointer (some ⟨pb, 0, none⟩), .int .i64 0] w fun e w' => e = .returned (.int .i64 (carAtI D lv h 0)) ∧ Below w.heap.size w w') := fun w s' hp e1 e2 e3 => carAt_any pb mb n D lv h 0 w (e1 ▸ hp.c0) (e2 ▸ hp.c1) hp.c7 (e3 ▸ hp.cars) h0 (by omega) (by omega) (by omega)
 have KV : Hid (endV lv h 0 = .tuple #[.agg #[.int .i64 (endX lv h 0), .int .i64 (endY lv h 0), .int .i64 (endZ lv h 0)], .bool (endB lv h 0)]) := rfl; generalize endX lv h 0 = X at KV; generalize endY lv h 0 = Y at KV; generalize endZ lv h 0 = Z at KV; generalize endB lv h 0 = q at KV ⊢; obtain ⟨c, HCc⟩ : ∃ c, Hid (carAtI D lv h 0 = c) := ⟨_, rfl⟩
 rw [HCc.out]; have P1 : Hid (IsP (w.setCell ⟨pb, 2, none⟩ (.int .i64 0)) pb mb n ⟨lv, h, 0, op, pe, li, ba, D, st, hu⟩) := IsP.set (s' := ⟨lv, h, 0, op, pe, li, ba, D, st, hu⟩) P.out 2 (.int .i64 0) rfl rfl; have hlt := P.out.lt; obtain ⟨r, HR⟩ : ∃ r, Hid (((0 : Int) != 0 && !q) = r) := ⟨_, rfl⟩
 rw [HR.out]; have HL : Hid ((li == 0) = true ∨ (li == 0) = false) := by show _ ∨ _; cases (li == 0) <;> simp
 go_enter Tryz.func105, Tryz.ntmps105
 go_wp2_with fail
 all_goals first
  | (exfalso; go_light; omega)
  | skip
 refine (HE.out _ _ P1.out rfl rfl).mono ?_; rw [KV.out]; rintro e w1 ⟨rfl, hb1⟩; have z1 := hb1.size; have P2 : Hid (IsP (w1.alloc (.cells #[.int .i64 X, .int .i64 Y, .int .i64 Z] 65)) pb mb n ⟨lv, h, 0, op, pe, li, ba, D, st, hu⟩) := P1.out.below (hb1.alloc z1 _); have T2 : Hid (Turn pb mb w (w1.alloc (.cells #[.int .i64 X, .int .i64 Y, .int .i64 Z] 65))) := (Turn.set w 2 (.int .i64 0)).trans (Turn.of_below (hb1.alloc z1 _)); clear hb1; go_wp2_with fail; refine (hurtP pb mb n ⟨lv, h, 0, op, pe, li, ba, D, st, hu⟩ _ r _ P2.out (by first | exact HR.out | (rw [← HR.out]; simp))).mono ?_
 rintro e w3 ⟨rfl, p3, t3⟩; have P3 : Hid (IsP w3 pb mb n ⟨lv, h, 0, op, pe, li, ba, D, st, hu || r⟩) := p3
 have T3 : Hid (Turn pb mb w w3) := T2.out.trans t3; have d5 := p3.c5; simp only at d5; clear p3 t3 P1 P2 T2 HE KV z1
 rcases HL.out with kl' | kl'
 ·have kl : li = 0 := by simpa using kl'
  subst kl; go_wp2_with fail; refine (hurtP pb mb n ⟨lv, h, 0, op, pe, 0, ba, D, st, hu || r⟩ _ ((0 : Int) != 0 && c != 0) _ P3.out (by simp)).mono ?_
  rintro e w4 ⟨rfl, p4, t4⟩; have P4 : Hid (IsP w4 pb mb n _) := p4; have T4 : Hid (Turn pb mb w w4) := T3.out.trans t4; clear p4 t4; go_wp2; go_returns; exact ⟨rfl, P4.out, T4.out⟩
 ·have KL : ¬ li = 0 := by simpa using kl'
  go_wp2_with fail; refine (HC.out _ _ P3.out rfl rfl rfl).mono ?_; rw [HCc.out]; rintro e w4 ⟨rfl, hb4⟩; have P4 : Hid (IsP w4 pb mb n ⟨lv, h, 0, op, pe, li, ba, D, st, hu || r⟩) := P3.out.below hb4
  have T4 : Hid (Turn pb mb w w4) := T3.out.below hb4; clear hb4 d5 HC; go_wp2_with fail; refine (hurtP pb mb n ⟨lv, h, 0, op, pe, li, ba, D, st, hu || r⟩ _ (li != 0 && c != 0) _ P4.out (by first | rfl | simp [KL])).mono ?_
  rintro e w5 ⟨rfl, p5, t5⟩; have P5 : Hid (IsP w5 pb mb n _) := p5; have T5 : Hid (Turn pb mb w w5) := T4.out.trans t5; clear p5 t5; go_wp2; go_returns; exact ⟨rfl, P5.out, T5.out⟩
set_option maxHeartbeats 2000000 in
theorem slide_x (pb mb n : Nat) (lv h ex : Int) (op : Bool) (pe li ba : Int) (D : DataW Unit) (st : Int) (hu : Bool) (b x : Int) (w : World) (hp : IsP w pb mb n ⟨lv, h, ex, op, pe, li, ba, D, st, hu⟩) (lv1 : 1 ≤ lv) (lv4 : lv ≤ 4) (h0 : 0 ≤ h) (h12 : h ≤ lv * 3) (m1 : IntKind.i64.wrap (ex + b) = x) (kx : ¬ x = 0) (k1 : -2 ≤ x) (k2 : x ≤ 2) :
  Calls Tryz.prog 105 #[.pointer (some ⟨pb, 0, none⟩), .int .i64 b] w fun e w' => e = .returned (.tuple #[]) ∧ IsP w' pb mb n ⟨lv, h, x, op, pe, li, ba, D, st, (hu || ((x : Int) != 0 && !endB lv h x)) || (li != 0 && carAtI D lv h x != 0)⟩ ∧ Turn pb mb w w' := by
 have P : Hid (IsP w pb mb n ⟨lv, h, ex, op, pe, li, ba, D, st, hu⟩) := hp; have c2 := hp.c2; have f2 := hp.free 2; simp only at c2; clear hp; have HE : Hid (∀ w s', IsP w pb mb n s' → s'.lv = lv → s'.h = h → Calls Tryz.prog 76 #[.pointer (some ⟨pb, 0, none⟩), .int .i64 x] w fun e w' => e = .returned (endV lv h x) ∧ Below w.heap.size w w') := fun w s' hp e1 e2 => end_any pb lv h x w (e1 ▸ hp.c0) (e2 ▸ hp.c1) h0 (by omega) (by omega) (by omega)
 have HC : Hid (∀ w s', IsP w pb mb n s' → s'.lv = lv → s'.h = h → s'.D = D → Calls Tryz.prog 50 #[.pointer (some ⟨pb, 0, none⟩), .int .i64 x] w fun e w' => e = .returned (.int .i64 (carAtI D lv h x)) ∧ Below w.heap.size w w') := fun w s' hp e1 e2 e3 => carAt_any pb mb n D lv h x w (e1 ▸ hp.c0) (e2 ▸ hp.c1) hp.c7 (e3 ▸ hp.cars) h0 (by omega) (by omega) (by omega)
 have KV : Hid (endV lv h x = .tuple #[.agg #[.int .i64 (endX lv h x), .int .i64 (endY lv h x), .int .i64 (endZ lv h x)], .bool (endB lv h x)]) := rfl; generalize endX lv h x = X at KV; generalize endY lv h x = Y at KV; generalize endZ lv h x = Z at KV; generalize endB lv h x = q at KV ⊢; obtain ⟨c, HCc⟩ : ∃ c, Hid (carAtI D lv h x = c) := ⟨_, rfl⟩
 rw [HCc.out]; have P1 : Hid (IsP (w.setCell ⟨pb, 2, none⟩ (.int .i64 x)) pb mb n ⟨lv, h, x, op, pe, li, ba, D, st, hu⟩) := IsP.set (s' := ⟨lv, h, x, op, pe, li, ba, D, st, hu⟩) P.out 2 (.int .i64 x) rfl rfl; have hlt := P.out.lt; obtain ⟨r, HR⟩ : ∃ r, Hid (((x : Int) != 0 && !q) = r) := ⟨_, rfl⟩
 rw [HR.out]; have HL : Hid ((li == 0) = true ∨ (li == 0) = false) := by show _ ∨ _; cases (li == 0) <;> simp
 go_enter Tryz.func105, Tryz.ntmps105
 go_wp2_with fail
 all_goals first
  | (exfalso; go_light; omega)
  | skip
 refine (HE.out _ _ P1.out rfl rfl).mono ?_; rw [KV.out]; rintro e w1 ⟨rfl, hb1⟩; have z1 := hb1.size; have P2 : Hid (IsP (w1.alloc (.cells #[.int .i64 X, .int .i64 Y, .int .i64 Z] 65)) pb mb n ⟨lv, h, x, op, pe, li, ba, D, st, hu⟩) := P1.out.below (hb1.alloc z1 _); have T2 : Hid (Turn pb mb w (w1.alloc (.cells #[.int .i64 X, .int .i64 Y, .int .i64 Z] 65))) := (Turn.set w 2 (.int .i64 x)).trans (Turn.of_below (hb1.alloc z1 _)); clear hb1; go_wp2_with fail; refine (hurtP pb mb n ⟨lv, h, x, op, pe, li, ba, D, st, hu⟩ _ r _ P2.out (by first | exact HR.out | (rw [← HR.out]; simp [kx]))).mono ?_
 rintro e w3 ⟨rfl, p3, t3⟩; have P3 : Hid (IsP w3 pb mb n ⟨lv, h, x, op, pe, li, ba, D, st, hu || r⟩) := p3
 have T3 : Hid (Turn pb mb w w3) := T2.out.trans t3; have d5 := p3.c5; simp only at d5; clear p3 t3 P1 P2 T2 HE KV z1
 rcases HL.out with kl' | kl'
 ·have kl : li = 0 := by simpa using kl'
  subst kl; go_wp2_with fail; refine (hurtP pb mb n ⟨lv, h, x, op, pe, 0, ba, D, st, hu || r⟩ _ ((0 : Int) != 0 && c != 0) _ P3.out (by simp)).mono ?_
  rintro e w4 ⟨rfl, p4, t4⟩; have P4 : Hid (IsP w4 pb mb n _) := p4; have T4 : Hid (Turn pb mb w w4) := T3.out.trans t4; clear p4 t4; go_wp2; go_returns; exact ⟨rfl, P4.out, T4.out⟩
 ·have KL : ¬ li = 0 := by simpa using kl'
  go_wp2_with fail; refine (HC.out _ _ P3.out rfl rfl rfl).mono ?_; rw [HCc.out]; rintro e w4 ⟨rfl, hb4⟩; have P4 : Hid (IsP w4 pb mb n ⟨lv, h, x, op, pe, li, ba, D, st, hu || r⟩) := P3.out.below hb4
  have T4 : Hid (Turn pb mb w w4) := T3.out.below hb4; clear hb4 d5 HC; go_wp2_with fail; refine (hurtP pb mb n ⟨lv, h, x, op, pe, li, ba, D, st, hu || r⟩ _ (li != 0 && c != 0) _ P4.out (by first | rfl | simp [KL])).mono ?_
  rintro e w5 ⟨rfl, p5, t5⟩; have P5 : Hid (IsP w5 pb mb n _) := p5; have T5 : Hid (Turn pb mb w w5) := T4.out.trans t5; clear p5 t5; go_wp2; go_returns; exact ⟨rfl, P5.out, T5.out⟩
set_option maxHeartbeats 2000000 in
theorem slide_any (pb mb n : Nat) (s : St) (b : Int) (w : World) (hp : IsP w pb mb n s) (ok : Ok s) (b1 : -1 ≤ b) (b2 : b ≤ 1) :
  Calls Tryz.prog 105 #[.pointer (some ⟨pb, 0, none⟩), .int .i64 b] w fun e w' => e = .returned (.tuple #[]) ∧ IsP w' pb mb n (slideS b s) ∧ Turn pb mb w w' := by
 obtain ⟨lv, h, ex, op, pe, li, ba, D, st, hu⟩ := s; obtain ⟨lv1, lv4, h0, h12, e0, e2⟩ := ok; simp only at lv1 lv4 h0 h12 e0 e2; obtain ⟨x, HX⟩ : ∃ x : Int, Hid (x = ex + b) := ⟨_, rfl⟩
 have m1 : IntKind.i64.wrap (ex + b) = x := by rw [IntKind.wrap_i64, HX.out]; omega
 have m2 : ex + b = x := HX.out.symm
 by_cases hk : -2 ≤ x ∧ x ≤ 2
 ·have K : slideS b ⟨lv, h, ex, op, pe, li, ba, D, st, hu⟩ = ⟨lv, h, x, op, pe, li, ba, D, st, (hu || (x != 0 && !endB lv h x)) || (li != 0 && carAtI D lv h x != 0)⟩ := by simp only [slideS, m2, hk, and_self, if_true]
  rw [K]; clear K m2
  by_cases kx : x = 0
  ·subst kx
   exact slide_z pb mb n lv h ex op pe li ba D st hu b w hp lv1 lv4 h0 h12 m1
  ·exact slide_x pb mb n lv h ex op pe li ba D st hu b x w hp lv1 lv4 h0 h12 m1 kx hk.1 hk.2
 ·have P : Hid (IsP w pb mb n ⟨lv, h, ex, op, pe, li, ba, D, st, hu⟩) := hp
  have c2 := hp.c2; have f2 := hp.free 2; simp only at c2; clear hp
  have K : Hid (slideS b ⟨lv, h, ex, op, pe, li, ba, D, st, hu⟩ = ⟨lv, h, ex, op, pe, li, ba, D, st, hu⟩) := by
   show _ = _
   simp only [slideS, m2, hk, if_false]
  have HK : Hid (¬(-2 ≤ x ∧ x ≤ 2)) := hk; rw [K.out]; clear hk K m2
  go_enter Tryz.func105, Tryz.ntmps105
  go_wp2_with fail
  all_goals first
   | (exfalso; go_light; have := HK.out; omega)
   | (go_returns; exact ⟨rfl, P.out, Turn.refl _ _ _⟩)
end Pl
namespace Pl
def openS (s : St) : St := { s with hu := s.hu || !decide (s.h = 0 ∧ s.ex = 0), op := true }
def shutS (s : St) : St := { s with hu := s.hu || s.pe != 0, op := false }
def doS (c : Int) (s : St) : St :=
 if c = 117 then raiseS 1 s else if c = 100 then raiseS (-1) s else if c = 108 then slideS (-1) s else if c = 114 then slideS 1 s else if c = 103 then grabS s else if c = 112 then putS s
 else if c = 111 then openS s else if c = 99 then shutS s else if c = 110 then takeInS s else if c = 120 then giveOutS s else s
def stepS (c : Int) (s : St) : St := if 0 < s.st ∧ c ≠ 45 then { s with st := s.st - 1 } else doS c s
abbrev StepTo (pb mb n : Nat) (c : Int) (w : World) (s' : St) : Prop :=
 Calls Tryz.prog 74 #[.pointer (some ⟨pb, 0, none⟩), .int .u8 c] w fun e w' => e = .returned (.tuple #[]) ∧ IsP w' pb mb (n + 1) s' ∧ Turn pb mb w w'
set_option maxHeartbeats 1000000 in
theorem step_u (pb mb n : Nat) (s : St) (w : World) (hp : IsP w pb mb n s) (ok : Ok s) (hn : n < maxLen) (hl : (Lit.int .i64 s.li).wf = true) (hs : ¬ 0 < s.st) : StepTo pb mb n 117 w (raiseS 1 s) := by
 have HC := raise_any pb mb n s 1 w hp ok (by omega) (by omega); have c8 := hp.c8; generalize hst : s.st = st at c8 hs; generalize raiseS 1 s = s' at HC ⊢; have HC' : Hid (Calls _ _ _ _ _) := HC; clear HC hp ok hl hst
 go_enter Tryz.func74, Tryz.ntmps74
 go_wp2_with fail; refine HC'.out.mono ?_; rintro e w1 ⟨rfl, p1, t1⟩; have P1 : Hid (IsP w1 pb mb n s') := p1; have T1 : Hid (Turn pb mb w w1) := t1; clear p1 t1 HC'; go_wp2; go_returns; exact ⟨rfl, P1.out.mono, T1.out⟩
set_option maxHeartbeats 1000000 in
theorem step_d (pb mb n : Nat) (s : St) (w : World) (hp : IsP w pb mb n s) (ok : Ok s) (hn : n < maxLen) (hl : (Lit.int .i64 s.li).wf = true) (hs : ¬ 0 < s.st) : StepTo pb mb n 100 w (raiseS (-1) s) := by
 have HC := raise_any pb mb n s (-1) w hp ok (by omega) (by omega); have c8 := hp.c8; generalize hst : s.st = st at c8 hs; generalize raiseS (-1) s = s' at HC ⊢; have HC' : Hid (Calls _ _ _ _ _) := HC; clear HC hp ok hl hst
 go_enter Tryz.func74, Tryz.ntmps74
 go_wp2_with fail; refine HC'.out.mono ?_; rintro e w1 ⟨rfl, p1, t1⟩; have P1 : Hid (IsP w1 pb mb n s') := p1; have T1 : Hid (Turn pb mb w w1) := t1; clear p1 t1 HC'; go_wp2; go_returns; exact ⟨rfl, P1.out.mono, T1.out⟩
set_option maxHeartbeats 1000000 in
theorem step_l (pb mb n : Nat) (s : St) (w : World) (hp : IsP w pb mb n s) (ok : Ok s) (hn : n < maxLen) (hl : (Lit.int .i64 s.li).wf = true) (hs : ¬ 0 < s.st) : StepTo pb mb n 108 w (slideS (-1) s) := by
 have HC := slide_any pb mb n s (-1) w hp ok (by omega) (by omega); have c8 := hp.c8; generalize hst : s.st = st at c8 hs; generalize slideS (-1) s = s' at HC ⊢; have HC' : Hid (Calls _ _ _ _ _) := HC; clear HC hp ok hl hst
 go_enter Tryz.func74, Tryz.ntmps74
 go_wp2_with fail; refine HC'.out.mono ?_; rintro e w1 ⟨rfl, p1, t1⟩; have P1 : Hid (IsP w1 pb mb n s') := p1; have T1 : Hid (Turn pb mb w w1) := t1; clear p1 t1 HC'; go_wp2; go_returns; exact ⟨rfl, P1.out.mono, T1.out⟩
set_option maxHeartbeats 1000000 in
theorem step_r (pb mb n : Nat) (s : St) (w : World) (hp : IsP w pb mb n s) (ok : Ok s) (hn : n < maxLen) (hl : (Lit.int .i64 s.li).wf = true) (hs : ¬ 0 < s.st) : StepTo pb mb n 114 w (slideS 1 s) := by
 have HC := slide_any pb mb n s 1 w hp ok (by omega) (by omega); have c8 := hp.c8; generalize hst : s.st = st at c8 hs; generalize slideS 1 s = s' at HC ⊢; have HC' : Hid (Calls _ _ _ _ _) := HC; clear HC hp ok hl hst
 go_enter Tryz.func74, Tryz.ntmps74
 go_wp2_with fail; refine HC'.out.mono ?_; rintro e w1 ⟨rfl, p1, t1⟩; have P1 : Hid (IsP w1 pb mb n s') := p1; have T1 : Hid (Turn pb mb w w1) := t1; clear p1 t1 HC'; go_wp2; go_returns; exact ⟨rfl, P1.out.mono, T1.out⟩
set_option maxHeartbeats 1000000 in
theorem step_g (pb mb n : Nat) (s : St) (w : World) (hp : IsP w pb mb n s) (ok : Ok s) (hn : n < maxLen) (hl : (Lit.int .i64 s.li).wf = true) (hs : ¬ 0 < s.st) : StepTo pb mb n 103 w (grabS s) := by
 have HC := grab_any pb mb n s w hp ok; have c8 := hp.c8; generalize hst : s.st = st at c8 hs; generalize grabS s = s' at HC ⊢; have HC' : Hid (Calls _ _ _ _ _) := HC; clear HC hp ok hl hst
 go_enter Tryz.func74, Tryz.ntmps74
 go_wp2_with fail; refine HC'.out.mono ?_; rintro e w1 ⟨rfl, p1, t1⟩; have P1 : Hid (IsP w1 pb mb n s') := p1; have T1 : Hid (Turn pb mb w w1) := t1; clear p1 t1 HC'; go_wp2; go_returns; exact ⟨rfl, P1.out.mono, T1.out⟩
set_option maxHeartbeats 1000000 in
theorem step_p (pb mb n : Nat) (s : St) (w : World) (hp : IsP w pb mb n s) (ok : Ok s) (hn : n < maxLen) (hl : (Lit.int .i64 s.li).wf = true) (hs : ¬ 0 < s.st) : StepTo pb mb n 112 w (putS s) := by
 have HC := put_any pb mb n s w hp ok hn hl; have c8 := hp.c8; generalize hst : s.st = st at c8 hs; generalize putS s = s' at HC ⊢; have HC' : Hid (Calls _ _ _ _ _) := HC; clear HC hp ok hl hst
 go_enter Tryz.func74, Tryz.ntmps74
 go_wp2_with fail; refine HC'.out.mono ?_; rintro e w1 ⟨rfl, p1, t1⟩; have P1 : Hid (IsP w1 pb mb (n + 1) s') := p1; have T1 : Hid (Turn pb mb w w1) := t1; clear p1 t1 HC'; go_wp2; go_returns; exact ⟨rfl, P1.out, T1.out⟩
set_option maxHeartbeats 1000000 in
theorem step_n (pb mb n : Nat) (s : St) (w : World) (hp : IsP w pb mb n s) (ok : Ok s) (hn : n < maxLen) (hl : (Lit.int .i64 s.li).wf = true) (hs : ¬ 0 < s.st) : StepTo pb mb n 110 w (takeInS s) := by
 have HC := takeIn_any pb mb n s w hp; have c8 := hp.c8; generalize hst : s.st = st at c8 hs; generalize takeInS s = s' at HC ⊢; have HC' : Hid (Calls _ _ _ _ _) := HC; clear HC hp ok hl hst
 go_enter Tryz.func74, Tryz.ntmps74
 go_wp2_with fail; refine HC'.out.mono ?_; rintro e w1 ⟨rfl, p1, t1⟩; have P1 : Hid (IsP w1 pb mb n s') := p1; have T1 : Hid (Turn pb mb w w1) := t1; clear p1 t1 HC'; go_wp2; go_returns; exact ⟨rfl, P1.out.mono, T1.out⟩
set_option maxHeartbeats 1000000 in
theorem step_x (pb mb n : Nat) (s : St) (w : World) (hp : IsP w pb mb n s) (ok : Ok s) (hn : n < maxLen) (hl : (Lit.int .i64 s.li).wf = true) (hs : ¬ 0 < s.st) : StepTo pb mb n 120 w (giveOutS s) := by
 have HC := giveOut_any pb mb n s w hp; have c8 := hp.c8; generalize hst : s.st = st at c8 hs; generalize giveOutS s = s' at HC ⊢; have HC' : Hid (Calls _ _ _ _ _) := HC; clear HC hp ok hl hst
 go_enter Tryz.func74, Tryz.ntmps74
 go_wp2_with fail; refine HC'.out.mono ?_; rintro e w1 ⟨rfl, p1, t1⟩; have P1 : Hid (IsP w1 pb mb n s') := p1; have T1 : Hid (Turn pb mb w w1) := t1; clear p1 t1 HC'; go_wp2; go_returns; exact ⟨rfl, P1.out.mono, T1.out⟩
set_option maxHeartbeats 1000000 in
theorem step_o (pb mb n : Nat) (s : St) (w : World) (hp : IsP w pb mb n s) (hs : ¬ 0 < s.st) : StepTo pb mb n 111 w (openS s) := by
 have c8 := hp.c8; have HB := below_any pb s.h s.ex w hp.c1 hp.c2; have HH := hurtP pb mb n s (!decide (s.h = 0 ∧ s.ex = 0)) _ w hp rfl; have HD : Hid (∀ w1, IsP w1 pb mb n { s with hu := s.hu || !decide (s.h = 0 ∧ s.ex = 0) } → IsP (w1.setCell ⟨pb, 3, none⟩ (.bool true)) pb mb n (openS s)) := fun w1 h => h.set 3 _ rfl rfl
 generalize openS s = s' at HD ⊢; generalize hst : s.st = st at c8 hs; generalize (decide (s.h = 0 ∧ s.ex = 0)) = q at HB HH HD; generalize hs2 : ({ s with hu := s.hu || !q } : St) = s2 at HH HD
 have HB' : Hid (Calls _ _ _ _ _) := HB; have HH' : Hid (Calls _ _ _ _ _) := HH; clear HB HH hp hst hs2
 go_enter Tryz.func74, Tryz.ntmps74
 go_wp2_with fail; refine HB'.out.mono ?_; rintro e w1 ⟨rfl, rfl⟩; go_wp2_with fail; refine HH'.out.mono ?_; rintro e w1 ⟨rfl, p1, t1⟩; have P1 : Hid (IsP w1 pb mb n s2) := p1; have T1 : Hid (Turn pb mb _ w1) := t1; have d3 := p1.c3; have f3 := p1.free 3; clear p1 t1 HB' HH' c8; go_wp2; go_returns; exact ⟨rfl, (HD.out _ P1.out).mono, T1.out.trans (Turn.set _ _ _)⟩
set_option maxHeartbeats 1000000 in
theorem step_c (pb mb n : Nat) (s : St) (w : World) (hp : IsP w pb mb n s) (hs : ¬ 0 < s.st) : StepTo pb mb n 99 w (shutS s) := by
 have c8 := hp.c8; have c4 := hp.c4; have HH := hurtP pb mb n s (s.pe != 0) _ w hp rfl; have HD : Hid (∀ w1, IsP w1 pb mb n { s with hu := s.hu || s.pe != 0 } → IsP (w1.setCell ⟨pb, 3, none⟩ (.bool false)) pb mb n (shutS s)) := fun w1 h => h.set 3 _ rfl rfl
 generalize shutS s = s' at HD ⊢; generalize hst : s.st = st at c8 hs; generalize hs2 : ({ s with hu := s.hu || s.pe != 0 } : St) = s2 at HH HD
 generalize hpe : s.pe = pe at HH c4; have HH' : Hid (Calls _ _ _ _ _) := HH; clear HH hp hst hs2 hpe
 go_enter Tryz.func74, Tryz.ntmps74
 go_wp2_with fail; refine HH'.out.mono ?_; rintro e w1 ⟨rfl, p1, t1⟩; have P1 : Hid (IsP w1 pb mb n s2) := p1; have T1 : Hid (Turn pb mb _ w1) := t1; have d3 := p1.c3; have f3 := p1.free 3; clear p1 t1 HH' c8; go_wp2; go_returns; exact ⟨rfl, (HD.out _ P1.out).mono, T1.out.trans (Turn.set _ _ _)⟩
set_option maxHeartbeats 1000000 in
theorem step_stall (pb mb n : Nat) (s : St) (c : Int) (w : World) (hp : IsP w pb mb n s) (hs : 0 < s.st) (h5 : s.st ≤ 5) (hc : ¬ c = 45) : StepTo pb mb n c w { s with st := s.st - 1 } := by
 have c8 := hp.c8; have f8 := hp.free 8; have HD : Hid (∀ v, v = s.st - 1 → IsP (w.setCell ⟨pb, 8, none⟩ (.int .i64 v)) pb mb n { s with st := s.st - 1 }) := fun v hv => hp.set 8 _ (by rw [hv]; rfl) rfl
 generalize hst : s.st = st at c8 hs h5 HD; generalize hs2 : ({ s with st := st - 1 } : St) = s2 at HD ⊢; have m1 : IntKind.i64.wrap (st - 1) = st - 1 := by rw [IntKind.wrap_i64]; omega
 clear hp hst hs2
 go_enter Tryz.func74, Tryz.ntmps74
 go_wp2; go_returns; exact ⟨rfl, (HD.out _ rfl).mono, Turn.set _ _ _⟩
set_option maxHeartbeats 1000000 in
theorem step_none (pb mb n : Nat) (s : St) (c : Int) (w : World) (hp : IsP w pb mb n s) (hs : ¬ (0 < s.st ∧ c ≠ 45)) (k1 : ¬ c = 117) (k2 : ¬ c = 100) (k3 : ¬ c = 108) (k4 : ¬ c = 114) (k5 : ¬ c = 103) (k6 : ¬ c = 112) (k7 : ¬ c = 111) (k8 : ¬ c = 99) (k9 : ¬ c = 110) (k10 : ¬ c = 120) : StepTo pb mb n c w s := by
 have c8 := hp.c8; have P : Hid (IsP w pb mb n s) := hp
 by_cases hc : c = 45
 ·subst hc
  generalize hst : s.st = st at c8; clear hp hst hs
  go_enter Tryz.func74, Tryz.ntmps74
  go_wp2
  all_goals (go_returns; exact ⟨rfl, P.out.mono, Turn.refl _ _ _⟩)
 ·have hs' : ¬ 0 < s.st := fun h => hs ⟨h, hc⟩
  generalize hst : s.st = st at c8 hs'; clear hp hst hs
  go_enter Tryz.func74, Tryz.ntmps74
  go_wp2
  all_goals (go_returns; exact ⟨rfl, P.out.mono, Turn.refl _ _ _⟩)
theorem step_any (pb mb n : Nat) (s : St) (c : Int) (w : World) (hp : IsP w pb mb n s) (ok : Ok s) (hn : n < maxLen) (hl : (Lit.int .i64 s.li).wf = true) (h5 : s.st ≤ 5) : StepTo pb mb n c w (stepS c s) := by
 by_cases hs : 0 < s.st ∧ c ≠ 45
 ·rw [show stepS c s = { s with st := s.st - 1 } from if_pos hs]
  exact step_stall pb mb n s c w hp hs.1 h5 hs.2
 ·rw [show stepS c s = doS c s from if_neg hs]
  unfold doS
  by_cases k1 : c = 117
  ·subst k1
   simp only [if_true]; exact step_u pb mb n s w hp ok hn hl (by omega)
  rw [if_neg k1]
  by_cases k2 : c = 100
  ·subst k2
   simp only [if_true]; exact step_d pb mb n s w hp ok hn hl (by omega)
  rw [if_neg k2]
  by_cases k3 : c = 108
  ·subst k3
   simp only [if_true]; exact step_l pb mb n s w hp ok hn hl (by omega)
  rw [if_neg k3]
  by_cases k4 : c = 114
  ·subst k4
   simp only [if_true]; exact step_r pb mb n s w hp ok hn hl (by omega)
  rw [if_neg k4]
  by_cases k5 : c = 103
  ·subst k5
   simp only [if_true]; exact step_g pb mb n s w hp ok hn hl (by omega)
  rw [if_neg k5]
  by_cases k6 : c = 112
  ·subst k6
   simp only [if_true]; exact step_p pb mb n s w hp ok hn hl (by omega)
  rw [if_neg k6]
  by_cases k7 : c = 111
  ·subst k7
   simp only [if_true]; exact step_o pb mb n s w hp (by omega)
  rw [if_neg k7]
  by_cases k8 : c = 99
  ·subst k8
   simp only [if_true]; exact step_c pb mb n s w hp (by omega)
  rw [if_neg k8]
  by_cases k9 : c = 110
  ·subst k9
   simp only [if_true]; exact step_n pb mb n s w hp ok hn hl (by omega)
  rw [if_neg k9]
  by_cases k10 : c = 120
  ·subst k10
   simp only [if_true]; exact step_x pb mb n s w hp ok hn hl (by omega)
  rw [if_neg k10]; exact step_none pb mb n s c w hp hs k1 k2 k3 k4 k5 k6 k7 k8 k9 k10
end Pl
end Go.Proofs.YtopgllmjeliklaaGreatDoor
