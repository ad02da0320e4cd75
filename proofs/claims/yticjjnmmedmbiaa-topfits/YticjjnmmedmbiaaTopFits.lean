/- Chapter 1, the statement 'TopFits': for all sizes and levels, what fits where there is less room fits where there is more, and whatever fits any level fits the last one (A1, A2); no condition. -/
import Derived.Test.YticjjnmmedmbiaaLevels
import Derived.Deep.DeepCutAuto
import Derived.Deep.LoopGhost
namespace Go.Proofs.Yticjjnmmedmbiaa
open Go.ChangeShapes Go.WideShapes Go.ChangeAt Go.RowKit
set_option maxRecDepth 100000
set_option linter.unusedSimpArgs false
set_option linter.unusedVariables false

theorem fits_self (a b c : Int) : fitsB a b c a b c = true := by simp [fitsB]
theorem fits_trans {a b c x y z p q r : Int} (h : fitsB a b c x y z = true) (k : fitsB x y z p q r = true) : fitsB a b c p q r = true := by
  simp only [fitsB, decide_eq_true_eq] at *; omega
theorem fits_both {a b c x y z : Int} (h : fitsB a b c x y z = true) (k : fitsB x y z a b c = true) : a = x ∧ b = y ∧ c = z := by
  simp only [fitsB, decide_eq_true_eq] at *; omega

/-- The three sizes that were boxed first, and what lies below. -/
def TF (w wx : World) (a1 a2 a3 b1 b2 b3 c1 c2 c3 : Int) : Prop :=
  Below w.heap.size w wx ∧ w.heap.size + 3 ≤ wx.heap.size ∧ (∀ o, wx.cell? ⟨w.heap.size, o, none⟩ = (#[.int .i64 a1, .int .i64 a2, .int .i64 a3] : Array Value)[o]?) ∧
    (∀ o, wx.cell? ⟨w.heap.size + 1, o, none⟩ = (#[.int .i64 b1, .int .i64 b2, .int .i64 b3] : Array Value)[o]?) ∧ (∀ o, wx.cell? ⟨w.heap.size + 1 + 1, o, none⟩ = (#[.int .i64 c1, .int .i64 c2, .int .i64 c3] : Array Value)[o]?)
theorem TF.next {w wx wy : World} {a1 a2 a3 b1 b2 b3 c1 c2 c3 : Int} (h : TF w wx a1 a2 a3 b1 b2 b3 c1 c2 c3) (hb : Below wx.heap.size wx wy) : TF w wy a1 a2 a3 b1 b2 b3 c1 c2 c3 := by
  obtain ⟨h0, h1, h2, h3, h4⟩ := h
  have hz := hb.size
  exact ⟨B.next h0 hb (by omega), by omega, B.row hb h2 (by omega), B.row hb h3 (by omega), B.row hb h4 (by omega)⟩
theorem TF.drew {w wx : World} {a1 a2 a3 b1 b2 b3 c1 c2 c3 : Int} (h : TF w wx a1 a2 a3 b1 b2 b3 c1 c2 c3) : TF w wx.drew a1 a2 a3 b1 b2 b3 c1 c2 c3 := by
  obtain ⟨h0, h1, h2, h3, h4⟩ := h
  exact ⟨h0.drew, by simpa using h1, by simpa using h2, by simpa using h3, by simpa using h4⟩
theorem TF.start (w : World) (a1 a2 a3 b1 b2 b3 c1 c2 c3 : Int) : TF w (((w.alloc (.cells #[.int .i64 a1, .int .i64 a2, .int .i64 a3] 24)).alloc (.cells #[.int .i64 b1, .int .i64 b2, .int .i64 b3] 24)).alloc (.cells #[.int .i64 c1, .int .i64 c2, .int .i64 c3] 24)) a1 a2 a3 b1 b2 b3 c1 c2 c3 := by
  have e1 := B.row_new (w.alloc (.cells #[.int .i64 a1, .int .i64 a2, .int .i64 a3] 24)) #[.int .i64 b1, .int .i64 b2, .int .i64 b3] 24
  have e2 := B.row_new ((w.alloc (.cells #[.int .i64 a1, .int .i64 a2, .int .i64 a3] 24)).alloc (.cells #[.int .i64 b1, .int .i64 b2, .int .i64 b3] 24)) #[.int .i64 c1, .int .i64 c2, .int .i64 c3] 24
  rw [show (w.alloc (.cells #[.int .i64 a1, .int .i64 a2, .int .i64 a3] 24)).heap.size = w.heap.size + 1 from by simp] at e1
  rw [show ((w.alloc (.cells #[.int .i64 a1, .int .i64 a2, .int .i64 a3] 24)).alloc (.cells #[.int .i64 b1, .int .i64 b2, .int .i64 b3] 24)).heap.size = w.heap.size + 1 + 1 from by simp] at e2
  exact ⟨((B.new1 _ _).trans ((B.new1 _ _).mono (by simp))).trans ((B.new1 _ _).mono (by simp; omega)), by simp, B.row_old _ (B.row_old _ (B.row_new w _ _) (by simp)) (by simp; omega), B.row_old _ e1 (by simp), e2⟩

set_option maxHeartbeats 1000000 in
theorem topFits_long (a1 a2 a3 b1 b2 b3 c1 c2 c3 : Int) (s : Option Addr) (len cap : Nat) (w : World) (hl : 10 < (len : Int)) :
    Calls Try.prog 10 #[.agg #[.int .i64 a1, .int .i64 a2, .int .i64 a3], .agg #[.int .i64 b1, .int .i64 b2, .int .i64 b3], .agg #[.int .i64 c1, .int .i64 c2, .int .i64 c3], .slice s len cap] w fun e w' => e = .returned (.bool true) ∧ Below w.heap.size w w' := by
  have F0 : Hid (TF w (((w.alloc (.cells #[.int .i64 a1, .int .i64 a2, .int .i64 a3] 24)).alloc (.cells #[.int .i64 b1, .int .i64 b2, .int .i64 b3] 24)).alloc (.cells #[.int .i64 c1, .int .i64 c2, .int .i64 c3] 24)) a1 a2 a3 b1 b2 b3 c1 c2 c3) := TF.start w a1 a2 a3 b1 b2 b3 c1 c2 c3
  go_enter Try.func10, Try.ntmps10
  go_wp2_with fail
  refine (fits_any _ _ _ _ _ _ _).mono ?_
  rw [show fitsB 1 1 1 1 2 1 = true from by decide]
  rintro e w1 ⟨rfl, hb1⟩
  have F1 : Hid (TF w w1 a1 a2 a3 b1 b2 b3 c1 c2 c3) := F0.out.next hb1
  obtain ⟨_, z1, ra1, rb1, rc1⟩ := F1.out
  clear hb1 F0
  go_wp2
  go_returns
  exact ⟨rfl, F1.out.1⟩

set_option maxHeartbeats 4000000 in
theorem topFits_n (a1 a2 a3 b1 b2 b3 c1 c2 c3 : Int) (s : Option Addr) (len cap : Nat) (w : World) (hl : ¬ 10 < (len : Int)) (f : Nat → Int × Int × Int) (hs : SizesAt w (.slice s len cap) len f) (hn : levelsN len f ≠ 0) :
    Calls Try.prog 10 #[.agg #[.int .i64 a1, .int .i64 a2, .int .i64 a3], .agg #[.int .i64 b1, .int .i64 b2, .int .i64 b3], .agg #[.int .i64 c1, .int .i64 c2, .int .i64 c3], .slice s len cap] w fun e w' => e = .returned (.bool true) ∧ Below w.heap.size w w' := by
  have HS : Hid (SizesAt w (.slice s len cap) len f) := hs
  have HN : Hid (levelsN len f ≠ 0) := hn
  clear hs hn
  have F0 : Hid (TF w (((w.alloc (.cells #[.int .i64 a1, .int .i64 a2, .int .i64 a3] 24)).alloc (.cells #[.int .i64 b1, .int .i64 b2, .int .i64 b3] 24)).alloc (.cells #[.int .i64 c1, .int .i64 c2, .int .i64 c3] 24)) a1 a2 a3 b1 b2 b3 c1 c2 c3) := TF.start w a1 a2 a3 b1 b2 b3 c1 c2 c3
  go_enter Try.func10, Try.ntmps10
  go_wp2_with fail
  refine (fits_any _ _ _ _ _ _ _).mono ?_
  rw [show fitsB 1 1 1 1 2 1 = true from by decide]
  rintro e w1 ⟨rfl, hb1⟩
  have F1 : Hid (TF w w1 a1 a2 a3 b1 b2 b3 c1 c2 c3) := F0.out.next hb1
  obtain ⟨_, z1, ra1, rb1, rc1⟩ := F1.out
  clear hb1 F0
  go_upto_region 5 with fail
  go_cut [51] (fun s51 wx => s51 = .bool false ∧ Hid (TF w wx a1 a2 a3 b1 b2 b3 c1 c2 c3))
  case first =>
    cases ab : fitsB a1 a2 a3 b1 b2 b3
    · have AB : Hid (fitsB a1 a2 a3 b1 b2 b3 = false) := ab
      clear ab
      go_wp2_with fail
      refine (fits_any _ _ _ _ _ _ _).mono ?_
      rw [AB.out]
      rintro e w2 ⟨rfl, hb2⟩
      have F2 : Hid (TF w w2 a1 a2 a3 b1 b2 b3 c1 c2 c3) := F1.out.next hb2
      obtain ⟨_, z2, ra2, rb2, rc2⟩ := F2.out
      clear hb2 F1 z1 ra1 rb1 rc1
      go_wp2_with fail
      refine (fits_any _ _ _ _ _ _ _).mono ?_
      rw [fits_self]
      rintro e w3 ⟨rfl, hb3⟩
      have F3 : Hid (TF w w3 a1 a2 a3 b1 b2 b3 c1 c2 c3) := F2.out.next hb3
      obtain ⟨_, z3, ra3, rb3, rc3⟩ := F3.out
      clear hb3 F2 z2 ra2 rb2 rc2
      go_wp2_with fail
      refine (fits_any _ _ _ _ _ _ _).mono ?_
      rw [AB.out]
      rintro e w4 ⟨rfl, hb4⟩
      have F4 : Hid (TF w w4 a1 a2 a3 b1 b2 b3 c1 c2 c3) := F3.out.next hb4
      obtain ⟨_, z4, ra4, rb4, rc4⟩ := F4.out
      clear hb4 F3 z3 ra3 rb3 rc3
      go_wp2_with fail
      go_meet
      exact ⟨rfl, F4⟩
    cases bc : fitsB b1 b2 b3 c1 c2 c3
    · cases ba : fitsB b1 b2 b3 a1 a2 a3
      · have AB : Hid (fitsB a1 a2 a3 b1 b2 b3 = true) := ab
        have BC : Hid (fitsB b1 b2 b3 c1 c2 c3 = false) := bc
        have BA : Hid (fitsB b1 b2 b3 a1 a2 a3 = false) := ba
        clear ab bc ba
        go_wp2_with fail
        refine (fits_any _ _ _ _ _ _ _).mono ?_
        rw [AB.out]
        rintro e w2 ⟨rfl, hb2⟩
        have F2 : Hid (TF w w2 a1 a2 a3 b1 b2 b3 c1 c2 c3) := F1.out.next hb2
        obtain ⟨_, z2, ra2, rb2, rc2⟩ := F2.out
        clear hb2 F1 z1 ra1 rb1 rc1
        go_wp2_with fail
        refine (fits_any _ _ _ _ _ _ _).mono ?_
        rw [BC.out]
        rintro e w3 ⟨rfl, hb3⟩
        have F3 : Hid (TF w w3 a1 a2 a3 b1 b2 b3 c1 c2 c3) := F2.out.next hb3
        obtain ⟨_, z3, ra3, rb3, rc3⟩ := F3.out
        clear hb3 F2 z2 ra2 rb2 rc2
        go_wp2_with fail
        refine (fits_any _ _ _ _ _ _ _).mono ?_
        rw [fits_self]
        rintro e w4 ⟨rfl, hb4⟩
        have F4 : Hid (TF w w4 a1 a2 a3 b1 b2 b3 c1 c2 c3) := F3.out.next hb4
        obtain ⟨_, z4, ra4, rb4, rc4⟩ := F4.out
        clear hb4 F3 z3 ra3 rb3 rc3
        go_wp2_with fail
        refine (fits_any _ _ _ _ _ _ _).mono ?_
        rw [AB.out]
        rintro e w5 ⟨rfl, hb5⟩
        have F5 : Hid (TF w w5 a1 a2 a3 b1 b2 b3 c1 c2 c3) := F4.out.next hb5
        obtain ⟨_, z5, ra5, rb5, rc5⟩ := F5.out
        clear hb5 F4 z4 ra4 rb4 rc4
        go_wp2_with fail
        refine (fits_any _ _ _ _ _ _ _).mono ?_
        rw [BA.out]
        rintro e w6 ⟨rfl, hb6⟩
        have F6 : Hid (TF w w6 a1 a2 a3 b1 b2 b3 c1 c2 c3) := F5.out.next hb6
        obtain ⟨_, z6, ra6, rb6, rc6⟩ := F6.out
        clear hb6 F5 z5 ra5 rb5 rc5
        go_wp2_with fail
        go_meet
        exact ⟨rfl, F6⟩
      · have AB : Hid (fitsB a1 a2 a3 b1 b2 b3 = true) := ab
        have BC : Hid (fitsB b1 b2 b3 c1 c2 c3 = false) := bc
        have BA : Hid (fitsB b1 b2 b3 a1 a2 a3 = true) := ba
        have E : Hid _ := fits_both ab ba
        clear ab bc ba
        go_wp2_with fail
        refine (fits_any _ _ _ _ _ _ _).mono ?_
        rw [AB.out]
        rintro e w2 ⟨rfl, hb2⟩
        have F2 : Hid (TF w w2 a1 a2 a3 b1 b2 b3 c1 c2 c3) := F1.out.next hb2
        obtain ⟨_, z2, ra2, rb2, rc2⟩ := F2.out
        clear hb2 F1 z1 ra1 rb1 rc1
        go_wp2_with fail
        refine (fits_any _ _ _ _ _ _ _).mono ?_
        rw [BC.out]
        rintro e w3 ⟨rfl, hb3⟩
        have F3 : Hid (TF w w3 a1 a2 a3 b1 b2 b3 c1 c2 c3) := F2.out.next hb3
        obtain ⟨_, z3, ra3, rb3, rc3⟩ := F3.out
        clear hb3 F2 z2 ra2 rb2 rc2
        go_wp2_with fail
        refine (fits_any _ _ _ _ _ _ _).mono ?_
        rw [fits_self]
        rintro e w4 ⟨rfl, hb4⟩
        have F4 : Hid (TF w w4 a1 a2 a3 b1 b2 b3 c1 c2 c3) := F3.out.next hb4
        obtain ⟨_, z4, ra4, rb4, rc4⟩ := F4.out
        clear hb4 F3 z3 ra3 rb3 rc3
        go_wp2_with fail
        refine (fits_any _ _ _ _ _ _ _).mono ?_
        rw [AB.out]
        rintro e w5 ⟨rfl, hb5⟩
        have F5 : Hid (TF w w5 a1 a2 a3 b1 b2 b3 c1 c2 c3) := F4.out.next hb5
        obtain ⟨_, z5, ra5, rb5, rc5⟩ := F5.out
        clear hb5 F4 z4 ra4 rb4 rc4
        go_wp2_with fail
        refine (fits_any _ _ _ _ _ _ _).mono ?_
        rw [BA.out]
        rintro e w6 ⟨rfl, hb6⟩
        have F6 : Hid (TF w w6 a1 a2 a3 b1 b2 b3 c1 c2 c3) := F5.out.next hb6
        obtain ⟨_, z6, ra6, rb6, rc6⟩ := F6.out
        clear hb6 F5 z5 ra5 rb5 rc5
        have e1 : (a1 == b1) = true := by simp [E.out.1]
        have e2 : (a2 == b2) = true := by simp [E.out.2.1]
        have e3 : (a3 == b3) = true := by simp [E.out.2.2]
        clear E
        go_wp2_with fail
        go_meet
        exact ⟨rfl, F6⟩
    · have ac := fits_trans ab bc
      cases ba : fitsB b1 b2 b3 a1 a2 a3
      · have AB : Hid (fitsB a1 a2 a3 b1 b2 b3 = true) := ab
        have BC : Hid (fitsB b1 b2 b3 c1 c2 c3 = true) := bc
        have AC : Hid (fitsB a1 a2 a3 c1 c2 c3 = true) := ac
        have BA : Hid (fitsB b1 b2 b3 a1 a2 a3 = false) := ba
        clear ab bc ba ac
        go_wp2_with fail
        refine (fits_any _ _ _ _ _ _ _).mono ?_
        rw [AB.out]
        rintro e w2 ⟨rfl, hb2⟩
        have F2 : Hid (TF w w2 a1 a2 a3 b1 b2 b3 c1 c2 c3) := F1.out.next hb2
        obtain ⟨_, z2, ra2, rb2, rc2⟩ := F2.out
        clear hb2 F1 z1 ra1 rb1 rc1
        go_wp2_with fail
        refine (fits_any _ _ _ _ _ _ _).mono ?_
        rw [BC.out]
        rintro e w3 ⟨rfl, hb3⟩
        have F3 : Hid (TF w w3 a1 a2 a3 b1 b2 b3 c1 c2 c3) := F2.out.next hb3
        obtain ⟨_, z3, ra3, rb3, rc3⟩ := F3.out
        clear hb3 F2 z2 ra2 rb2 rc2
        go_wp2_with fail
        refine (fits_any _ _ _ _ _ _ _).mono ?_
        rw [AC.out]
        rintro e w4 ⟨rfl, hb4⟩
        have F4 : Hid (TF w w4 a1 a2 a3 b1 b2 b3 c1 c2 c3) := F3.out.next hb4
        obtain ⟨_, z4, ra4, rb4, rc4⟩ := F4.out
        clear hb4 F3 z3 ra3 rb3 rc3
        go_wp2_with fail
        refine (fits_any _ _ _ _ _ _ _).mono ?_
        rw [fits_self]
        rintro e w5 ⟨rfl, hb5⟩
        have F5 : Hid (TF w w5 a1 a2 a3 b1 b2 b3 c1 c2 c3) := F4.out.next hb5
        obtain ⟨_, z5, ra5, rb5, rc5⟩ := F5.out
        clear hb5 F4 z4 ra4 rb4 rc4
        go_wp2_with fail
        refine (fits_any _ _ _ _ _ _ _).mono ?_
        rw [AB.out]
        rintro e w6 ⟨rfl, hb6⟩
        have F6 : Hid (TF w w6 a1 a2 a3 b1 b2 b3 c1 c2 c3) := F5.out.next hb6
        obtain ⟨_, z6, ra6, rb6, rc6⟩ := F6.out
        clear hb6 F5 z5 ra5 rb5 rc5
        go_wp2_with fail
        refine (fits_any _ _ _ _ _ _ _).mono ?_
        rw [BA.out]
        rintro e w7 ⟨rfl, hb7⟩
        have F7 : Hid (TF w w7 a1 a2 a3 b1 b2 b3 c1 c2 c3) := F6.out.next hb7
        obtain ⟨_, z7, ra7, rb7, rc7⟩ := F7.out
        clear hb7 F6 z6 ra6 rb6 rc6
        go_wp2_with fail
        go_meet
        exact ⟨rfl, F7⟩
      · have AB : Hid (fitsB a1 a2 a3 b1 b2 b3 = true) := ab
        have BC : Hid (fitsB b1 b2 b3 c1 c2 c3 = true) := bc
        have AC : Hid (fitsB a1 a2 a3 c1 c2 c3 = true) := ac
        have BA : Hid (fitsB b1 b2 b3 a1 a2 a3 = true) := ba
        have E : Hid _ := fits_both ab ba
        clear ab bc ba ac
        go_wp2_with fail
        refine (fits_any _ _ _ _ _ _ _).mono ?_
        rw [AB.out]
        rintro e w2 ⟨rfl, hb2⟩
        have F2 : Hid (TF w w2 a1 a2 a3 b1 b2 b3 c1 c2 c3) := F1.out.next hb2
        obtain ⟨_, z2, ra2, rb2, rc2⟩ := F2.out
        clear hb2 F1 z1 ra1 rb1 rc1
        go_wp2_with fail
        refine (fits_any _ _ _ _ _ _ _).mono ?_
        rw [BC.out]
        rintro e w3 ⟨rfl, hb3⟩
        have F3 : Hid (TF w w3 a1 a2 a3 b1 b2 b3 c1 c2 c3) := F2.out.next hb3
        obtain ⟨_, z3, ra3, rb3, rc3⟩ := F3.out
        clear hb3 F2 z2 ra2 rb2 rc2
        go_wp2_with fail
        refine (fits_any _ _ _ _ _ _ _).mono ?_
        rw [AC.out]
        rintro e w4 ⟨rfl, hb4⟩
        have F4 : Hid (TF w w4 a1 a2 a3 b1 b2 b3 c1 c2 c3) := F3.out.next hb4
        obtain ⟨_, z4, ra4, rb4, rc4⟩ := F4.out
        clear hb4 F3 z3 ra3 rb3 rc3
        go_wp2_with fail
        refine (fits_any _ _ _ _ _ _ _).mono ?_
        rw [fits_self]
        rintro e w5 ⟨rfl, hb5⟩
        have F5 : Hid (TF w w5 a1 a2 a3 b1 b2 b3 c1 c2 c3) := F4.out.next hb5
        obtain ⟨_, z5, ra5, rb5, rc5⟩ := F5.out
        clear hb5 F4 z4 ra4 rb4 rc4
        go_wp2_with fail
        refine (fits_any _ _ _ _ _ _ _).mono ?_
        rw [AB.out]
        rintro e w6 ⟨rfl, hb6⟩
        have F6 : Hid (TF w w6 a1 a2 a3 b1 b2 b3 c1 c2 c3) := F5.out.next hb6
        obtain ⟨_, z6, ra6, rb6, rc6⟩ := F6.out
        clear hb6 F5 z5 ra5 rb5 rc5
        go_wp2_with fail
        refine (fits_any _ _ _ _ _ _ _).mono ?_
        rw [BA.out]
        rintro e w7 ⟨rfl, hb7⟩
        have F7 : Hid (TF w w7 a1 a2 a3 b1 b2 b3 c1 c2 c3) := F6.out.next hb7
        obtain ⟨_, z7, ra7, rb7, rc7⟩ := F7.out
        clear hb7 F6 z6 ra6 rb6 rc6
        have e1 : (a1 == b1) = true := by simp [E.out.1]
        have e2 : (a2 == b2) = true := by simp [E.out.2.1]
        have e3 : (a3 == b3) = true := by simp [E.out.2.2]
        clear E
        go_wp2_with fail
        go_meet
        exact ⟨rfl, F7⟩
  case rest =>
  obtain ⟨rfl, FC⟩ := hcut
  obtain ⟨hBc, _, _, _, _⟩ := FC.out
  have SA : Hid (SizesAt wc (.slice s len cap) len f) := HS.out.below hBc
  clear hBc
  go_wp2_with fail
  refine (check_any _ len f _ SA.out).mono ?_
  rw [errV_ne HN.out]
  rintro e wz ⟨rfl, hbz⟩
  go_wp2
  go_returns
  exact ⟨rfl, (FC.out.next hbz).1⟩

set_option maxHeartbeats 4000000 in
theorem topFits_z (a1 a2 a3 b1 b2 b3 c1 c2 c3 : Int) (b off len cap : Nat) (w : World) (f : Nat → Int × Int × Int) (h1 : 1 ≤ len) (h4 : len ≤ 4) (hz : levelsN len f = 0) (hb : b < w.heap.size) (hc : ∀ i, i < len → w.cell? ⟨b, off + i * 3, none⟩ = some (.int .i64 (f i).1) ∧ w.cell? ⟨b, off + i * 3 + 1, none⟩ = some (.int .i64 (f i).2.1) ∧ w.cell? ⟨b, off + i * 3 + 2, none⟩ = some (.int .i64 (f i).2.2)) (hcap : len ≤ cap) (hm : cap ≤ maxLen) :
    Calls Try.prog 10 #[.agg #[.int .i64 a1, .int .i64 a2, .int .i64 a3], .agg #[.int .i64 b1, .int .i64 b2, .int .i64 b3], .agg #[.int .i64 c1, .int .i64 c2, .int .i64 c3], .slice (some ⟨b, off, none⟩) len cap] w fun e w' => e = .returned (.bool true) ∧ Below w.heap.size w w' := by
  have HS : Hid (SizesAt w (.slice (some ⟨b, off, none⟩) len cap) len f) := ⟨_, _, rfl, hcap, hm, fun _ => ⟨b, off, rfl, hb, hc⟩⟩
  have HZ : Hid (levelsN len f = 0) := hz
  have HC : Hid _ := hc
  have hl : ¬ 10 < (len : Int) := by omega
  clear hz hc hm
  have F0 : Hid (TF w (((w.alloc (.cells #[.int .i64 a1, .int .i64 a2, .int .i64 a3] 24)).alloc (.cells #[.int .i64 b1, .int .i64 b2, .int .i64 b3] 24)).alloc (.cells #[.int .i64 c1, .int .i64 c2, .int .i64 c3] 24)) a1 a2 a3 b1 b2 b3 c1 c2 c3) := TF.start w a1 a2 a3 b1 b2 b3 c1 c2 c3
  go_enter Try.func10, Try.ntmps10
  go_wp2_with fail
  refine (fits_any _ _ _ _ _ _ _).mono ?_
  rw [show fitsB 1 1 1 1 2 1 = true from by decide]
  rintro e w1 ⟨rfl, hb1⟩
  have F1 : Hid (TF w w1 a1 a2 a3 b1 b2 b3 c1 c2 c3) := F0.out.next hb1
  obtain ⟨_, z1, ra1, rb1, rc1⟩ := F1.out
  clear hb1 F0
  go_upto_region 5 with fail
  go_cut [51] (fun s51 wx => s51 = .bool false ∧ Hid (TF w wx a1 a2 a3 b1 b2 b3 c1 c2 c3))
  case first =>
    cases ab : fitsB a1 a2 a3 b1 b2 b3
    · have AB : Hid (fitsB a1 a2 a3 b1 b2 b3 = false) := ab
      clear ab
      go_wp2_with fail
      refine (fits_any _ _ _ _ _ _ _).mono ?_
      rw [AB.out]
      rintro e w2 ⟨rfl, hb2⟩
      have F2 : Hid (TF w w2 a1 a2 a3 b1 b2 b3 c1 c2 c3) := F1.out.next hb2
      obtain ⟨_, z2, ra2, rb2, rc2⟩ := F2.out
      clear hb2 F1 z1 ra1 rb1 rc1
      go_wp2_with fail
      refine (fits_any _ _ _ _ _ _ _).mono ?_
      rw [fits_self]
      rintro e w3 ⟨rfl, hb3⟩
      have F3 : Hid (TF w w3 a1 a2 a3 b1 b2 b3 c1 c2 c3) := F2.out.next hb3
      obtain ⟨_, z3, ra3, rb3, rc3⟩ := F3.out
      clear hb3 F2 z2 ra2 rb2 rc2
      go_wp2_with fail
      refine (fits_any _ _ _ _ _ _ _).mono ?_
      rw [AB.out]
      rintro e w4 ⟨rfl, hb4⟩
      have F4 : Hid (TF w w4 a1 a2 a3 b1 b2 b3 c1 c2 c3) := F3.out.next hb4
      obtain ⟨_, z4, ra4, rb4, rc4⟩ := F4.out
      clear hb4 F3 z3 ra3 rb3 rc3
      go_wp2_with fail
      go_meet
      exact ⟨rfl, F4⟩
    cases bc : fitsB b1 b2 b3 c1 c2 c3
    · cases ba : fitsB b1 b2 b3 a1 a2 a3
      · have AB : Hid (fitsB a1 a2 a3 b1 b2 b3 = true) := ab
        have BC : Hid (fitsB b1 b2 b3 c1 c2 c3 = false) := bc
        have BA : Hid (fitsB b1 b2 b3 a1 a2 a3 = false) := ba
        clear ab bc ba
        go_wp2_with fail
        refine (fits_any _ _ _ _ _ _ _).mono ?_
        rw [AB.out]
        rintro e w2 ⟨rfl, hb2⟩
        have F2 : Hid (TF w w2 a1 a2 a3 b1 b2 b3 c1 c2 c3) := F1.out.next hb2
        obtain ⟨_, z2, ra2, rb2, rc2⟩ := F2.out
        clear hb2 F1 z1 ra1 rb1 rc1
        go_wp2_with fail
        refine (fits_any _ _ _ _ _ _ _).mono ?_
        rw [BC.out]
        rintro e w3 ⟨rfl, hb3⟩
        have F3 : Hid (TF w w3 a1 a2 a3 b1 b2 b3 c1 c2 c3) := F2.out.next hb3
        obtain ⟨_, z3, ra3, rb3, rc3⟩ := F3.out
        clear hb3 F2 z2 ra2 rb2 rc2
        go_wp2_with fail
        refine (fits_any _ _ _ _ _ _ _).mono ?_
        rw [fits_self]
        rintro e w4 ⟨rfl, hb4⟩
        have F4 : Hid (TF w w4 a1 a2 a3 b1 b2 b3 c1 c2 c3) := F3.out.next hb4
        obtain ⟨_, z4, ra4, rb4, rc4⟩ := F4.out
        clear hb4 F3 z3 ra3 rb3 rc3
        go_wp2_with fail
        refine (fits_any _ _ _ _ _ _ _).mono ?_
        rw [AB.out]
        rintro e w5 ⟨rfl, hb5⟩
        have F5 : Hid (TF w w5 a1 a2 a3 b1 b2 b3 c1 c2 c3) := F4.out.next hb5
        obtain ⟨_, z5, ra5, rb5, rc5⟩ := F5.out
        clear hb5 F4 z4 ra4 rb4 rc4
        go_wp2_with fail
        refine (fits_any _ _ _ _ _ _ _).mono ?_
        rw [BA.out]
        rintro e w6 ⟨rfl, hb6⟩
        have F6 : Hid (TF w w6 a1 a2 a3 b1 b2 b3 c1 c2 c3) := F5.out.next hb6
        obtain ⟨_, z6, ra6, rb6, rc6⟩ := F6.out
        clear hb6 F5 z5 ra5 rb5 rc5
        go_wp2_with fail
        go_meet
        exact ⟨rfl, F6⟩
      · have AB : Hid (fitsB a1 a2 a3 b1 b2 b3 = true) := ab
        have BC : Hid (fitsB b1 b2 b3 c1 c2 c3 = false) := bc
        have BA : Hid (fitsB b1 b2 b3 a1 a2 a3 = true) := ba
        have E : Hid _ := fits_both ab ba
        clear ab bc ba
        go_wp2_with fail
        refine (fits_any _ _ _ _ _ _ _).mono ?_
        rw [AB.out]
        rintro e w2 ⟨rfl, hb2⟩
        have F2 : Hid (TF w w2 a1 a2 a3 b1 b2 b3 c1 c2 c3) := F1.out.next hb2
        obtain ⟨_, z2, ra2, rb2, rc2⟩ := F2.out
        clear hb2 F1 z1 ra1 rb1 rc1
        go_wp2_with fail
        refine (fits_any _ _ _ _ _ _ _).mono ?_
        rw [BC.out]
        rintro e w3 ⟨rfl, hb3⟩
        have F3 : Hid (TF w w3 a1 a2 a3 b1 b2 b3 c1 c2 c3) := F2.out.next hb3
        obtain ⟨_, z3, ra3, rb3, rc3⟩ := F3.out
        clear hb3 F2 z2 ra2 rb2 rc2
        go_wp2_with fail
        refine (fits_any _ _ _ _ _ _ _).mono ?_
        rw [fits_self]
        rintro e w4 ⟨rfl, hb4⟩
        have F4 : Hid (TF w w4 a1 a2 a3 b1 b2 b3 c1 c2 c3) := F3.out.next hb4
        obtain ⟨_, z4, ra4, rb4, rc4⟩ := F4.out
        clear hb4 F3 z3 ra3 rb3 rc3
        go_wp2_with fail
        refine (fits_any _ _ _ _ _ _ _).mono ?_
        rw [AB.out]
        rintro e w5 ⟨rfl, hb5⟩
        have F5 : Hid (TF w w5 a1 a2 a3 b1 b2 b3 c1 c2 c3) := F4.out.next hb5
        obtain ⟨_, z5, ra5, rb5, rc5⟩ := F5.out
        clear hb5 F4 z4 ra4 rb4 rc4
        go_wp2_with fail
        refine (fits_any _ _ _ _ _ _ _).mono ?_
        rw [BA.out]
        rintro e w6 ⟨rfl, hb6⟩
        have F6 : Hid (TF w w6 a1 a2 a3 b1 b2 b3 c1 c2 c3) := F5.out.next hb6
        obtain ⟨_, z6, ra6, rb6, rc6⟩ := F6.out
        clear hb6 F5 z5 ra5 rb5 rc5
        have e1 : (a1 == b1) = true := by simp [E.out.1]
        have e2 : (a2 == b2) = true := by simp [E.out.2.1]
        have e3 : (a3 == b3) = true := by simp [E.out.2.2]
        clear E
        go_wp2_with fail
        go_meet
        exact ⟨rfl, F6⟩
    · have ac := fits_trans ab bc
      cases ba : fitsB b1 b2 b3 a1 a2 a3
      · have AB : Hid (fitsB a1 a2 a3 b1 b2 b3 = true) := ab
        have BC : Hid (fitsB b1 b2 b3 c1 c2 c3 = true) := bc
        have AC : Hid (fitsB a1 a2 a3 c1 c2 c3 = true) := ac
        have BA : Hid (fitsB b1 b2 b3 a1 a2 a3 = false) := ba
        clear ab bc ba ac
        go_wp2_with fail
        refine (fits_any _ _ _ _ _ _ _).mono ?_
        rw [AB.out]
        rintro e w2 ⟨rfl, hb2⟩
        have F2 : Hid (TF w w2 a1 a2 a3 b1 b2 b3 c1 c2 c3) := F1.out.next hb2
        obtain ⟨_, z2, ra2, rb2, rc2⟩ := F2.out
        clear hb2 F1 z1 ra1 rb1 rc1
        go_wp2_with fail
        refine (fits_any _ _ _ _ _ _ _).mono ?_
        rw [BC.out]
        rintro e w3 ⟨rfl, hb3⟩
        have F3 : Hid (TF w w3 a1 a2 a3 b1 b2 b3 c1 c2 c3) := F2.out.next hb3
        obtain ⟨_, z3, ra3, rb3, rc3⟩ := F3.out
        clear hb3 F2 z2 ra2 rb2 rc2
        go_wp2_with fail
        refine (fits_any _ _ _ _ _ _ _).mono ?_
        rw [AC.out]
        rintro e w4 ⟨rfl, hb4⟩
        have F4 : Hid (TF w w4 a1 a2 a3 b1 b2 b3 c1 c2 c3) := F3.out.next hb4
        obtain ⟨_, z4, ra4, rb4, rc4⟩ := F4.out
        clear hb4 F3 z3 ra3 rb3 rc3
        go_wp2_with fail
        refine (fits_any _ _ _ _ _ _ _).mono ?_
        rw [fits_self]
        rintro e w5 ⟨rfl, hb5⟩
        have F5 : Hid (TF w w5 a1 a2 a3 b1 b2 b3 c1 c2 c3) := F4.out.next hb5
        obtain ⟨_, z5, ra5, rb5, rc5⟩ := F5.out
        clear hb5 F4 z4 ra4 rb4 rc4
        go_wp2_with fail
        refine (fits_any _ _ _ _ _ _ _).mono ?_
        rw [AB.out]
        rintro e w6 ⟨rfl, hb6⟩
        have F6 : Hid (TF w w6 a1 a2 a3 b1 b2 b3 c1 c2 c3) := F5.out.next hb6
        obtain ⟨_, z6, ra6, rb6, rc6⟩ := F6.out
        clear hb6 F5 z5 ra5 rb5 rc5
        go_wp2_with fail
        refine (fits_any _ _ _ _ _ _ _).mono ?_
        rw [BA.out]
        rintro e w7 ⟨rfl, hb7⟩
        have F7 : Hid (TF w w7 a1 a2 a3 b1 b2 b3 c1 c2 c3) := F6.out.next hb7
        obtain ⟨_, z7, ra7, rb7, rc7⟩ := F7.out
        clear hb7 F6 z6 ra6 rb6 rc6
        go_wp2_with fail
        go_meet
        exact ⟨rfl, F7⟩
      · have AB : Hid (fitsB a1 a2 a3 b1 b2 b3 = true) := ab
        have BC : Hid (fitsB b1 b2 b3 c1 c2 c3 = true) := bc
        have AC : Hid (fitsB a1 a2 a3 c1 c2 c3 = true) := ac
        have BA : Hid (fitsB b1 b2 b3 a1 a2 a3 = true) := ba
        have E : Hid _ := fits_both ab ba
        clear ab bc ba ac
        go_wp2_with fail
        refine (fits_any _ _ _ _ _ _ _).mono ?_
        rw [AB.out]
        rintro e w2 ⟨rfl, hb2⟩
        have F2 : Hid (TF w w2 a1 a2 a3 b1 b2 b3 c1 c2 c3) := F1.out.next hb2
        obtain ⟨_, z2, ra2, rb2, rc2⟩ := F2.out
        clear hb2 F1 z1 ra1 rb1 rc1
        go_wp2_with fail
        refine (fits_any _ _ _ _ _ _ _).mono ?_
        rw [BC.out]
        rintro e w3 ⟨rfl, hb3⟩
        have F3 : Hid (TF w w3 a1 a2 a3 b1 b2 b3 c1 c2 c3) := F2.out.next hb3
        obtain ⟨_, z3, ra3, rb3, rc3⟩ := F3.out
        clear hb3 F2 z2 ra2 rb2 rc2
        go_wp2_with fail
        refine (fits_any _ _ _ _ _ _ _).mono ?_
        rw [AC.out]
        rintro e w4 ⟨rfl, hb4⟩
        have F4 : Hid (TF w w4 a1 a2 a3 b1 b2 b3 c1 c2 c3) := F3.out.next hb4
        obtain ⟨_, z4, ra4, rb4, rc4⟩ := F4.out
        clear hb4 F3 z3 ra3 rb3 rc3
        go_wp2_with fail
        refine (fits_any _ _ _ _ _ _ _).mono ?_
        rw [fits_self]
        rintro e w5 ⟨rfl, hb5⟩
        have F5 : Hid (TF w w5 a1 a2 a3 b1 b2 b3 c1 c2 c3) := F4.out.next hb5
        obtain ⟨_, z5, ra5, rb5, rc5⟩ := F5.out
        clear hb5 F4 z4 ra4 rb4 rc4
        go_wp2_with fail
        refine (fits_any _ _ _ _ _ _ _).mono ?_
        rw [AB.out]
        rintro e w6 ⟨rfl, hb6⟩
        have F6 : Hid (TF w w6 a1 a2 a3 b1 b2 b3 c1 c2 c3) := F5.out.next hb6
        obtain ⟨_, z6, ra6, rb6, rc6⟩ := F6.out
        clear hb6 F5 z5 ra5 rb5 rc5
        go_wp2_with fail
        refine (fits_any _ _ _ _ _ _ _).mono ?_
        rw [BA.out]
        rintro e w7 ⟨rfl, hb7⟩
        have F7 : Hid (TF w w7 a1 a2 a3 b1 b2 b3 c1 c2 c3) := F6.out.next hb7
        obtain ⟨_, z7, ra7, rb7, rc7⟩ := F7.out
        clear hb7 F6 z6 ra6 rb6 rc6
        have e1 : (a1 == b1) = true := by simp [E.out.1]
        have e2 : (a2 == b2) = true := by simp [E.out.2.1]
        have e3 : (a3 == b3) = true := by simp [E.out.2.2]
        clear E
        go_wp2_with fail
        go_meet
        exact ⟨rfl, F7⟩
  case rest =>
  obtain ⟨rfl, FC⟩ := hcut
  obtain ⟨hBc, _, _, _, _⟩ := FC.out
  have SA : Hid (SizesAt wc (.slice (some ⟨b, off, none⟩) len cap) len f) := HS.out.below hBc
  clear hBc
  go_wp2_with fail
  refine (check_any _ len f _ SA.out).mono ?_
  rw [HZ.out, errV0]
  rintro e wz ⟨rfl, hbz⟩
  have FS : Hid (TF w wz a1 a2 a3 b1 b2 b3 c1 c2 c3) := FC.out.next hbz
  clear hbz FC SA hl
  go_wp2_with fail
  go_loopg [9] len (fun n i wr => ∃ k : Nat, k + n = len ∧ i = .int .i64 k ∧ Hid (TF w wr a1 a2 a3 b1 b2 b3 c1 c2 c3))
  case atStart => exact ⟨0, by omega, rfl, FS⟩
  case round =>
    obtain ⟨k, hk, rfl, FR⟩ := hrel
    by_cases hlt : k < len
    · obtain ⟨hB, zr, ra, _, _⟩ := FR.out
      obtain ⟨p0, p1, p2⟩ := HC.out k hlt
      obtain ⟨q0, q1, q2⟩ := HC.out (len - 1) (by omega)
      rw [← hB.cell (p := ⟨b, _, none⟩) hb] at p0 p1 p2 q0 q1 q2
      have HT := (levelsN_zero HZ.out).2.2 k hlt
      generalize hfl : f (len - 1) = l at *
      have HL : Hid (f (len - 1) = l) := hfl
      generalize hfk : f k = s at *
      have HK : Hid (f k = s) := hfk
      clear hfl hfk
      have i5 : IntKind.i64.wrap ((len : Int) - 1) = ((len - 1 : Nat) : Int) := by rw [IntKind.wrap_i64]; omega
      have i6 : len - 1 < len := by omega
      have i7 : ((len - 1 : Nat) : Int) < (len : Int) := by omega
      have i4 : (k : Int) < (len : Int) := by omega
      have HKK : Hid (k + gk = len) := hk
      clear hk
      go_upto_region 12 with fail
      go_cut [77] (fun s77 wx => s77 = .bool false ∧ Hid (TF w wx a1 a2 a3 b1 b2 b3 c1 c2 c3))
      case first =>
        cases hft : fitsB a1 a2 a3 s.1 s.2.1 s.2.2
        · have HF : Hid (fitsB a1 a2 a3 s.1 s.2.1 s.2.2 = false) := hft
          clear hft HT
          go_region_with (go_at_call 24; refine (fits_any _ _ _ _ _ _ _).mono ?_; rw [HF.out]; rintro e w2 ⟨rfl, hb2⟩; simp only []; refine ‹∀ (a : Act) (w : World), wpAny _ _ _ _ _ _ a w → _› _ _ ?_; refine wpAny_take (i := 6) (v := .bool false) rfl (by kernel_rfl) (by kernel_rfl) (by kernel_rfl) (fun _ _ _ h => h) (Or.inl ⟨by kernel_rfl, fun _ => rfl⟩) ?_; refine wpAny_take (i := 7) (v := undef) rfl (by kernel_rfl) (by kernel_rfl) (by kernel_rfl) (fun _ _ _ h => h) (Or.inr ⟨by kernel_rfl, rfl⟩) ?_; refine wpAny_take (i := 8) (v := undef) rfl (by kernel_rfl) (by kernel_rfl) (by kernel_rfl) (fun _ _ _ h => h) (Or.inr ⟨by kernel_rfl, rfl⟩) ?_; refine wpAny_take (i := 9) (v := undef) rfl (by kernel_rfl) (by kernel_rfl) (by kernel_rfl) (fun _ _ _ h => h) (Or.inr ⟨by kernel_rfl, rfl⟩) ?_; refine wpAny_take (i := 10) (v := undef) rfl (by kernel_rfl) (by kernel_rfl) (by kernel_rfl) (fun _ _ _ h => h) (Or.inr ⟨by kernel_rfl, rfl⟩) ?_; refine wpAny_take (i := 11) (v := undef) rfl (by kernel_rfl) (by kernel_rfl) (by kernel_rfl) (fun _ _ _ h => h) (Or.inr ⟨by kernel_rfl, rfl⟩) ?_; refine wpAny_take (i := 12) (v := undef) rfl (by kernel_rfl) (by kernel_rfl) (by kernel_rfl) (fun _ _ _ h => h) (Or.inr ⟨by kernel_rfl, rfl⟩) ?_; refine wpAny_take (i := 13) (v := undef) rfl (by kernel_rfl) (by kernel_rfl) (by kernel_rfl) (fun _ _ _ h => h) (Or.inr ⟨by kernel_rfl, rfl⟩) ?_; refine wpAny_take (i := 14) (v := undef) rfl (by kernel_rfl) (by kernel_rfl) (by kernel_rfl) (fun _ _ _ h => h) (Or.inr ⟨by kernel_rfl, rfl⟩) ?_; refine wpAny_take (i := 15) (v := undef) rfl (by kernel_rfl) (by kernel_rfl) (by kernel_rfl) (fun _ _ _ h => h) (Or.inr ⟨by kernel_rfl, rfl⟩) ?_; simp only [Act.put, List.getElem_toArray, List.getElem_cons_zero, List.getElem_cons_succ, List.setIfInBounds_toArray, List.set_cons_zero, List.set_cons_succ])
          all_goals
            go_wp2_with fail
            go_meet
            exact ⟨rfl, FR.out.drew.next hb2⟩
        · have HF : Hid (fitsB a1 a2 a3 s.1 s.2.1 s.2.2 = true) := hft
          have HG : Hid (fitsB a1 a2 a3 l.1 l.2.1 l.2.2 = true) := fits_trans hft HT
          clear hft HT
          go_region_with (first
            | (go_at_call 24; refine (fits_any _ _ _ _ _ _ _).mono ?_; rw [HF.out]; rintro e w2 ⟨rfl, hb2⟩
               have FR2 : Hid (TF w w2 a1 a2 a3 b1 b2 b3 c1 c2 c3) := FR.out.drew.next hb2
               obtain ⟨hB2, zr2, ra2, _, _⟩ := FR2.out
               have q0' := q0; have q1' := q1; have q2' := q2
               rw [hB.cell (p := ⟨b, _, none⟩) hb, ← hB2.cell (p := ⟨b, _, none⟩) hb] at q0' q1' q2'
               clear hB2)
            | (go_at_call 24; refine (fits_any _ _ _ _ _ _ _).mono ?_; rw [HG.out]; rintro e w3 ⟨rfl, hb3⟩))
          all_goals
            go_wp2_with fail
            go_meet
            exact ⟨rfl, FR2.out.next hb3⟩
      case rest =>
      obtain ⟨rfl, FX⟩ := hcut
      clear hB zr ra p0 p1 p2 q0 q1 q2 HT
      go_wp2_with fail
      go_roundg (gk - 1)
      case measure => have := HKK.out; omega
      case rel => exact ⟨k + 1, by have := HKK.out; omega, by go_num, FX⟩
    · go_wp2
      go_returns
      exact ⟨rfl, FR.out.1⟩

theorem topFits_any (a1 a2 a3 b1 b2 b3 c1 c2 c3 : Int) (v : Value) (len : Nat) (f : Nat → Int × Int × Int) (w : World) (hs : SizesAt w v len f) :
    Calls Try.prog 10 #[.agg #[.int .i64 a1, .int .i64 a2, .int .i64 a3], .agg #[.int .i64 b1, .int .i64 b2, .int .i64 b3], .agg #[.int .i64 c1, .int .i64 c2, .int .i64 c3], v] w fun e w' => e = .returned (.bool true) ∧ Below w.heap.size w w' := by
  have hs' := hs
  obtain ⟨a, cap, rfl, hl, hm, hc⟩ := hs
  by_cases h10 : 10 < (len : Int)
  · exact topFits_long a1 a2 a3 b1 b2 b3 c1 c2 c3 a len cap w h10
  by_cases hz : levelsN len f = 0
  · obtain ⟨h1, h4, _⟩ := levelsN_zero hz
    obtain ⟨b, off, rfl, hb, hcell⟩ := hc (by omega)
    exact topFits_z a1 a2 a3 b1 b2 b3 c1 c2 c3 b off len cap w f h1 h4 hz hb hcell hl hm
  · exact topFits_n a1 a2 a3 b1 b2 b3 c1 c2 c3 a len cap w h10 f hs' hz

/-- The statement: for every input 'TopFits' answers true. -/
theorem topFits_holds : Rows.TopFitsSaid :=
  OpenClaim.holds_of_wide 10 Try.f10 rfl rfl rfl rfl rfl rfl rfl ⟨rfl, rfl, rfl, rfl, rfl⟩ rfl rfl rfl rfl rfl (by kernel_rfl) Try.func10 (by kernel_rfl)
    (of_decide_eq_true (by kernel_rfl)) (by unfold Func.isWrapper; first | (rw [if_pos (by decide +kernel)]; kernel_rfl) | (rw [if_neg (by decide +kernel)]; exact ⟨rfl, rfl⟩))
    (fun os started H enc _ => law_lifted (s := Rows.topFitsSpec) os started H enc (by kernel_rfl) Try.func10
      (ChangeSpec.witness6 (enc := enc) (C := Try.checked) false ⟨#[], #[.agg #[.int .i64 0, .int .i64 0, .int .i64 0], .agg #[.int .i64 0, .int .i64 0, .int .i64 0], .agg #[.int .i64 0, .int .i64 0, .int .i64 0], .slice none 0 0], []⟩ 8 (by kernel_rfl) (by kernel_rfl) (by kernel_rfl) (by kernel_rfl))
      (by kernel_rfl) (by kernel_rfl) rfl
      (fun ds h => by
        match ds, h with
        | [d1, d2, d3, d4], _ => rfl)
      (fun W base args ds p hval hsz hA hlt => by
        rw [Try.params10] at hval hA
        obtain ⟨v0, v1, v2, v3, d0, d1, d2, d3, p0, p1, p2, p3, rfl, rfl, rfl, h0, h1, h2, h3⟩ := trodAll_four hA
        obtain ⟨a1, a2, a3, rfl, _⟩ := open_size (hval 0 24 v0 rfl rfl)
        obtain ⟨b1, b2, b3, rfl, _⟩ := open_size (hval 1 24 v1 rfl rfl)
        obtain ⟨c1, c2, c3, rfl, _⟩ := open_size (hval 2 24 v2 rfl rfl)
        obtain ⟨len, f, hs⟩ := open_sizes (hval 3 22 v3 rfl rfl) h3 (fun x hx => hlt x (by simp [hx]))
        exact topFits_any a1 a2 a3 b1 b2 b3 c1 c2 c3 v3 len f W hs))

end Go.Proofs.Yticjjnmmedmbiaa
