/- Chapter 7: the walk of the statement 'TopPark' (E3, E4): who parks has a new ticket, and a place of its own. -/
import Derived.Test.YtihapeagjikiaaaTopParkA
namespace Go.Proofs.Ytihapeagjikiaaa
open Go.Shelf Go.Lib Go.ChangeShapes Go.WideShapes Go.ChangeAt Go.RowKit
set_option maxRecDepth 100000
set_option linter.unusedSimpArgs false
set_option linter.unusedVariables false

namespace Bk
theorem RowsAt.of_own2 {α : Type} [Inhabited α] {w : World} {base : Nat} {T : TypeId} {k : Nat} {enc : α → List Value} {a : Option Addr} {cap : Nat} {l : List α} (h : OwnAt w base T k enc (.slice a l.length cap) l) : RowsAt w a cap k enc l := by
  obtain ⟨a', cap', e, r⟩ := h.rows
  cases e
  exact r

set_option maxHeartbeats 8000000 in
theorem topPark_run (b : Book) (lv : Value) (len : Nat) (f : Nat → Int × Int × Int) (ci ca cb cc : Int) (w : World) (hb : b.At w) (hs : SizesAt w lv len f) :
    Calls Try.prog 5 #[b.val, lv, .agg #[.int .i64 ci, .int .i64 ca, .int .i64 cb, .int .i64 cc]] w fun e w' => e = .returned (.bool true) ∧ Below w.heap.size w w' := by
  obtain ⟨last, sa, sc, ja, jc, stays, jobs⟩ := b
  simp only [Book.val] at *
  have HLB : Hid (∀ wx, Below w.heap.size w wx → Calls Try.prog 11 #[.agg #[.int .i64 last, .slice sa stays.length sc, .slice ja jobs.length jc]] wx fun e w' => e = .returned (.bool (lightB ⟨last, sa, sc, ja, jc, stays, jobs⟩)) ∧ Below wx.heap.size wx w') := fun wx h => lightBook_any ⟨last, sa, sc, ja, jc, stays, jobs⟩ wx (hb.below h)
  have HCH : Hid (∀ wx, Below w.heap.size w wx → Calls Try.prog 25 #[lv] wx fun e w' => e = .returned (errV (levelsN len f)) ∧ Below wx.heap.size wx w') := fun wx h => check_any lv len f wx (hs.below h)
  have HBC : Hid (1 ≤ len → len ≤ 4 → ∀ wx, Below w.heap.size w wx → Calls Try.prog 26 #[.agg #[.int .i64 last, .slice sa stays.length sc, .slice ja jobs.length jc], .int .i64 len] wx fun e w' => e = .returned (errV (bookN ⟨last, sa, sc, ja, jc, stays, jobs⟩ len)) ∧ Below wx.heap.size wx w') := fun h1 h4 wx h => bookCheck_any ⟨last, sa, sc, ja, jc, stays, jobs⟩ len wx (hb.below h) h1 h4
  have HPK : Hid (1 ≤ len → len ≤ 4 → stays.length ≤ 20 → jobs.length ≤ 12 → 0 ≤ last → ∀ wx, Below w.heap.size w wx → Calls Try.prog 16 #[.agg #[.int .i64 last, .slice sa stays.length sc, .slice ja jobs.length jc], lv, .agg #[.int .i64 ci, .int .i64 ca, .int .i64 cb, .int .i64 cc]] wx (ParkPost ⟨last, sa, sc, ja, jc, stays, jobs⟩ f len ci ca cb cc wx)) := fun h1 h4 h20 h12 h0 wx h => park_any ⟨last, sa, sc, ja, jc, stays, jobs⟩ lv len f ci ca cb cc wx (hb.below h) (hs.below h) h1 h4 h20 h12 h0
  have HBA : Hid (∀ wx, Below w.heap.size w wx → Book.At ⟨last, sa, sc, ja, jc, stays, jobs⟩ wx) := fun wx h => hb.below h
  obtain ⟨la, lcap, rfl, hll, hlm, _⟩ := hs
  unfold maxLen at hlm
  have hm1 : sc ≤ maxLen := hb.1.2.1
  have hm2 : jc ≤ maxLen := hb.2.2.1
  have hn1 : stays.length ≤ sc := hb.1.1
  have hn2 : jobs.length ≤ jc := hb.2.1
  unfold maxLen at hm1 hm2
  have HLI : Hid (lightB ⟨last, sa, sc, ja, jc, stays, jobs⟩ = (decide (stays.length ≤ 20) && decide (jobs.length ≤ 12))) := rfl
  obtain ⟨w0, hw0⟩ : ∃ w0, (w.alloc (.cells #[.int .i64 last, .slice sa stays.length sc, .slice ja jobs.length jc] 25)).alloc (.cells #[.int .i64 ci, .int .i64 ca, .int .i64 cb, .int .i64 cc] 30) = w0 := ⟨_, rfl⟩
  have N0 : Hid (Below w.heap.size w w0 ∧ Blk w0 w.heap.size #[.int .i64 last, .slice sa stays.length sc, .slice ja jobs.length jc] 25 ∧ Blk w0 (w.heap.size + 1) #[.int .i64 ci, .int .i64 ca, .int .i64 cb, .int .i64 cc] 30) := by
    show _ ∧ _ ∧ _
    rw [← hw0]
    exact ⟨(B.new1 _ _).alloc (by simp) _, (Blk.new _ _ _).old _, Blk.new1 (by simp) _ _⟩
  clear hb
  go_enter Try.func5, Try.ntmps5
  go_wp2_with fail
  refine (one_any _).mono ?_
  rintro e w1 ⟨v, rfl, s1, b1⟩
  have N1 : Hid (Below w.heap.size w w1 ∧ Blk w1 w.heap.size #[.int .i64 last, .slice sa stays.length sc, .slice ja jobs.length jc] 25 ∧ Blk w1 (w.heap.size + 1) #[.int .i64 ci, .int .i64 ca, .int .i64 cb, .int .i64 cc] 30) := ⟨B.next N0.out.1 b1 N0.out.1.size, N0.out.2.1.below b1, N0.out.2.2.below b1⟩
  have HP : Hid (Calls Try.prog 16 #[.agg #[.int .i64 4, .slice none 0 0, .slice none 0 0], v, .agg #[.int .i64 1, .int .i64 1, .int .i64 1, .int .i64 1]] w1 (ParkPost ⟨4, none, 0, none, 0, [], []⟩ (fun _ => (99, 99, 99)) 1 1 1 1 1 w1)) := park_any ⟨4, none, 0, none, 0, [], []⟩ v 1 _ 1 1 1 1 w1 ⟨⟨Nat.le_refl _, Nat.zero_le _, fun h => absurd h (Nat.lt_irrefl _)⟩, ⟨Nat.le_refl _, Nat.zero_le _, fun h => absurd h (Nat.lt_irrefl _)⟩⟩ s1 (by omega) (by omega) (Nat.zero_le _) (Nat.zero_le _) (by decide)
  clear s1 b1 N0
  go_wp2_with fail
  refine HP.out.mono ?_
  intro e w2 hpost
  rcases hpost with ⟨⟨k, _, hk0, hk⟩, _⟩ | ⟨_, po0, vs0, vj0, _, he, ho, b2⟩
  · rw [park_four] at hk
    exact absurd hk.symm hk0
  subst he
  obtain ⟨sa0, sc0, hvs, _⟩ := ho.s.rows
  obtain ⟨ja0, jc0, hvj, _⟩ := ho.j.rows
  subst hvs hvj
  simp only [List.nil_append, List.length_cons, List.length_nil]
  have N2 : Hid (Below w.heap.size w w2 ∧ Blk w2 w.heap.size #[.int .i64 last, .slice sa stays.length sc, .slice ja jobs.length jc] 25 ∧ Blk w2 (w.heap.size + 1) #[.int .i64 ci, .int .i64 ca, .int .i64 cb, .int .i64 cc] 30) := ⟨B.next N1.out.1 b2 N1.out.1.size, N1.out.2.1.below b2, N1.out.2.2.below b2⟩
  clear N1 HP b2 ho hw0
  obtain ⟨w3, hw3⟩ : ∃ w3, w2.alloc (.cells #[.int .i64 5, .slice sa0 1 sc0, .slice ja0 1 jc0] 25) = w3 := ⟨_, rfl⟩
  have N3 : Hid (Below w.heap.size w w3 ∧ Blk w3 w.heap.size #[.int .i64 last, .slice sa stays.length sc, .slice ja jobs.length jc] 25 ∧ Blk w3 (w.heap.size + 1) #[.int .i64 ci, .int .i64 ca, .int .i64 cb, .int .i64 cc] 30) := by
    show _ ∧ _ ∧ _
    rw [← hw3]
    exact ⟨B.next N2.out.1 (B.new1 _ _) N2.out.1.size, N2.out.2.1.old _, N2.out.2.2.old _⟩
  have r3 := N3.out.2.1.cell
  clear N2
  go_wp2_with fail
  clear hw3 r3
  refine (HLB.out _ N3.out.1).mono ?_
  rintro e w4 ⟨rfl, b4⟩
  have N4 : Hid (Below w.heap.size w w4 ∧ Blk w4 w.heap.size #[.int .i64 last, .slice sa stays.length sc, .slice ja jobs.length jc] 25 ∧ Blk w4 (w.heap.size + 1) #[.int .i64 ci, .int .i64 ca, .int .i64 cb, .int .i64 cc] 30) := ⟨B.next N3.out.1 b4 N3.out.1.size, N3.out.2.1.below b4, N3.out.2.2.below b4⟩
  clear N3 b4 HLB
  by_cases hli : lightB ⟨last, sa, sc, ja, jc, stays, jobs⟩ = true
  case neg =>
    rw [show lightB ⟨last, sa, sc, ja, jc, stays, jobs⟩ = false from by cases h : lightB ⟨last, sa, sc, ja, jc, stays, jobs⟩ <;> simp_all]
    clear hli
    go_wp2
    go_returns
    exact ⟨rfl, N4.out.1⟩
  have hle : stays.length ≤ 20 ∧ jobs.length ≤ 12 := by rw [HLI.out] at hli; simpa using hli
  rw [hli]
  clear hli HLI
  by_cases h6 : 6 < len
  · have h6z : (6 : Int) < (len : Int) := by omega
    go_wp2
    go_returns
    exact ⟨rfl, N4.out.1⟩
  have h6z : ¬ (6 : Int) < (len : Int) := by omega
  go_wp2_with fail
  refine (HCH.out _ N4.out.1).mono ?_
  rintro e w5 ⟨rfl, b5⟩
  have N5 : Hid (Below w.heap.size w w5 ∧ Blk w5 w.heap.size #[.int .i64 last, .slice sa stays.length sc, .slice ja jobs.length jc] 25 ∧ Blk w5 (w.heap.size + 1) #[.int .i64 ci, .int .i64 ca, .int .i64 cb, .int .i64 cc] 30) := ⟨B.next N4.out.1 b5 N4.out.1.size, N4.out.2.1.below b5, N4.out.2.2.below b5⟩
  clear N4 b5 HCH
  by_cases hlv : levelsN len f = 0
  case neg =>
    rw [errV_ne hlv]
    clear hlv
    go_wp2
    go_returns
    exact ⟨rfl, N5.out.1⟩
  have h14 : 1 ≤ len ∧ len ≤ 4 := by
    by_cases h : 1 ≤ len ∧ len ≤ 4
    · exact h
    · simp [levelsN, h] at hlv
  obtain ⟨hl1, hl4⟩ := h14
  rw [hlv, errV0]
  clear hlv h6 h6z
  have r5 := N5.out.2.1.cell
  go_wp2_with fail
  clear r5
  refine (HBC.out hl1 hl4 _ N5.out.1).mono ?_
  rintro e w6 ⟨rfl, b6⟩
  have N6 : Hid (Below w.heap.size w w6 ∧ Blk w6 w.heap.size #[.int .i64 last, .slice sa stays.length sc, .slice ja jobs.length jc] 25 ∧ Blk w6 (w.heap.size + 1) #[.int .i64 ci, .int .i64 ca, .int .i64 cb, .int .i64 cc] 30) := ⟨B.next N5.out.1 b6 N5.out.1.size, N5.out.2.1.below b6, N5.out.2.2.below b6⟩
  clear N5 b6 HBC
  by_cases hbk : bookN ⟨last, sa, sc, ja, jc, stays, jobs⟩ len = 0
  case neg =>
    rw [errV_ne hbk]
    clear hbk
    go_wp2
    go_returns
    exact ⟨rfl, N6.out.1⟩
  have HOK : Hid (BookOK last len stays jobs) := (bookN_zero _ len).1 hbk
  rw [hbk, errV0]
  clear hbk
  have r6 := N6.out.2.1.cell
  have r6c := N6.out.2.2.cell
  go_wp2_with fail
  clear r6 r6c
  refine (HPK.out hl1 hl4 hle.1 hle.2 HOK.out.lim.1 _ N6.out.1).mono ?_
  intro e w7 hpost
  rcases hpost with ⟨⟨k, he, hk0, hk⟩, b7⟩ | ⟨hk, po, vs, vj, hpo, he, ho, b7⟩
  · subst he
    have N7 : Hid (Below w.heap.size w w7) := B.next N6.out.1 b7 N6.out.1.size
    rw [errV_ne hk0]
    clear hk hk0 b7 N6
    go_wp2
    go_returns
    exact ⟨rfl, N7.out.alloc N7.out.size _⟩
  subst he
  have HPD : Hid (BookOK (last + 1) len (stays ++ [(⟨last + 1, ci, ca, cb, cc, po.1, po.2.1, po.2.2⟩ : Stay)]) (jobs ++ [(⟨last + 1, false⟩ : Job)])) := HOK.out.parked hl1 hl4 hk hpo
  simp only at ho ⊢
  obtain ⟨S, hS⟩ : ∃ S, stays ++ [(⟨last + 1, ci, ca, cb, cc, po.1, po.2.1, po.2.2⟩ : Stay)] = S := ⟨_, rfl⟩
  obtain ⟨J, hJ⟩ : ∃ J, jobs ++ [(⟨last + 1, false⟩ : Job)] = J := ⟨_, rfl⟩
  rw [hS, hJ] at ho HPD
  have HSL : Hid (S.length = stays.length + 1 ∧ S.take stays.length = stays ∧ S[stays.length]! = (⟨last + 1, ci, ca, cb, cc, po.1, po.2.1, po.2.2⟩ : Stay)) := by
    show _ ∧ _ ∧ _
    rw [← hS]
    refine ⟨by simp, by simp, ?_⟩
    rw [getElem!_pos _ _ (by simp)]
    simp
  have HJL : Hid (J.length = jobs.length + 1 ∧ J.take jobs.length = jobs ∧ J[jobs.length]! = (⟨last + 1, false⟩ : Job)) := by
    show _ ∧ _ ∧ _
    rw [← hJ]
    refine ⟨by simp, by simp, ?_⟩
    rw [getElem!_pos _ _ (by simp)]
    simp
  clear hS hJ
  obtain ⟨sx, cx, hvs, _⟩ := ho.s.rows
  obtain ⟨jx, dx, hvj, _⟩ := ho.j.rows
  subst hvs hvj
  have N7 : Hid (Below w.heap.size w w7 ∧ Blk w7 w.heap.size #[.int .i64 last, .slice sa stays.length sc, .slice ja jobs.length jc] 25 ∧ Blk w7 (w.heap.size + 1) #[.int .i64 ci, .int .i64 ca, .int .i64 cb, .int .i64 cc] 30) := ⟨B.next N6.out.1 b7 N6.out.1.size, N6.out.2.1.below b7, N6.out.2.2.below b7⟩
  obtain ⟨w8, hw8⟩ : ∃ w8, w7.alloc (.cells #[.int .i64 (last + 1), .slice sx S.length cx, .slice jx J.length dx] 25) = w8 := ⟨_, rfl⟩
  have N8 : Hid ((Below w.heap.size w w8 ∧ Blk w8 w.heap.size #[.int .i64 last, .slice sa stays.length sc, .slice ja jobs.length jc] 25 ∧ Blk w8 (w.heap.size + 1) #[.int .i64 ci, .int .i64 ca, .int .i64 cb, .int .i64 cc] 30) ∧ Blk w8 w7.heap.size #[.int .i64 (last + 1), .slice sx S.length cx, .slice jx J.length dx] 25) := by
    show _ ∧ _
    rw [← hw8]
    exact ⟨⟨B.next N7.out.1 (B.new1 _ _) N7.out.1.size, N7.out.2.1.old _, N7.out.2.2.old _⟩, Blk.new _ _ _⟩
  have HXS : Hid (∀ wx, Below w8.heap.size w8 wx → RowsAt wx sx cx 8 Stay.enc S) := fun wx h => RowsAt.of_own2 ((ho.s.below (by rw [← hw8]; exact B.new1 _ _)).below h)
  have HXJ : Hid (∀ wx, Below w8.heap.size w8 wx → RowsAt wx jx dx 2 Job.enc J) := fun wx h => RowsAt.of_own2 ((ho.j.below (by rw [← hw8]; exact B.new1 _ _)).below h)
  have hx1 : S.length ≤ cx := (HXS.out w8 (Below.refl _ _)).1
  have hx2 : cx ≤ maxLen := (HXS.out w8 (Below.refl _ _)).2.1
  have hx3 : J.length ≤ dx := (HXJ.out w8 (Below.refl _ _)).1
  have hx4 : dx ≤ maxLen := (HXJ.out w8 (Below.refl _ _)).2.1
  unfold maxLen at hx2 hx4
  have hSl : (S.length : Int) = (stays.length : Int) + 1 := by have := HSL.out.1; omega
  have hJl : (J.length : Int) = (jobs.length : Int) + 1 := by have := HJL.out.1; omega
  have HCX : Hid (∀ wx, Below w8.heap.size w8 wx → Calls Try.prog 26 #[.agg #[.int .i64 (last + 1), .slice sx S.length cx, .slice jx J.length dx], .int .i64 len] wx fun e w' => e = .returned (errV 0) ∧ Below wx.heap.size wx w') := fun wx h => by
    rw [← (bookN_zero ⟨last + 1, sx, cx, jx, dx, S, J⟩ len).2 HPD.out]
    exact bookCheck_any ⟨last + 1, sx, cx, jx, dx, S, J⟩ len wx ⟨HXS.out wx h, HXJ.out wx h⟩ hl1 hl4
  have HSB : Hid (∀ wx, Below w8.heap.size w8 wx → Below w.heap.size w wx → Calls Try.prog 19 #[.agg #[.int .i64 last, .slice sx stays.length cx, .slice jx jobs.length dx], .agg #[.int .i64 last, .slice sa stays.length sc, .slice ja jobs.length jc]] wx fun e w' => e = .returned (.bool true) ∧ Below wx.heap.size wx w') := fun wx h h' => by
    refine sameBook_any last stays jobs sx jx sa ja cx dx sc jc wx ⟨?_, ?_⟩ (HBA.out wx h')
    · have := (HXS.out wx h).take stays.length (by have := HSL.out.1; omega)
      rwa [HSL.out.2.1] at this
    · have := (HXJ.out wx h).take jobs.length (by have := HJL.out.1; omega)
      rwa [HJL.out.2.1] at this
  have m1 : IntKind.i64.wrap (last + 1) = last + 1 := by have := HOK.out.lim; rw [IntKind.wrap_i64]; omega
  have hz8 : Hid (w.heap.size + 1 < w7.heap.size) := N7.out.2.2.lt
  clear ho b7 N6 N7 hk hpo HPK HPD
  have r8 := N8.out.1.2.1.cell
  have r8x := N8.out.2.cell
  generalize hXX : w7.heap.size = X at *
  go_wp2_with fail
  clear r8 r8x hw8
  refine (HCX.out _ (Below.refl _ _)).mono ?_
  rw [errV0]
  rintro e w9 ⟨rfl, b9⟩
  have N9 : Hid (Below w8.heap.size w8 w9 ∧ (Below w.heap.size w w9 ∧ Blk w9 w.heap.size #[.int .i64 last, .slice sa stays.length sc, .slice ja jobs.length jc] 25 ∧ Blk w9 (w.heap.size + 1) #[.int .i64 ci, .int .i64 ca, .int .i64 cb, .int .i64 cc] 30) ∧ Blk w9 X #[.int .i64 (last + 1), .slice sx S.length cx, .slice jx J.length dx] 25) := ⟨b9, ⟨B.next N8.out.1.1 b9 N8.out.1.1.size, N8.out.1.2.1.below b9, N8.out.1.2.2.below b9⟩, N8.out.2.below b9⟩
  clear b9 N8 HCX
  have hsC : (stays.length : Int) ≤ (cx : Int) := by omega
  have hjC : (jobs.length : Int) ≤ (dx : Int) := by omega
  obtain ⟨xb, xoff, rfl⟩ := rows_some (HXS.out _ N9.out.1) (by have := HSL.out.1; omega)
  obtain ⟨yb, yoff, rfl⟩ := rows_some (HXJ.out _ N9.out.1) (by have := HJL.out.1; omega)
  have r9 := N9.out.2.1.2.1.cell
  have r9x := N9.out.2.2.cell
  have q0 : ∀ o, (w9.alloc o).cell? ⟨w.heap.size, 0, none⟩ = some (.int .i64 last) := fun o => (N9.out.2.1.2.1.old o).cell 0
  have q2 : ∀ o, (w9.alloc o).cell? ⟨w.heap.size, 2, none⟩ = some (.slice ja jobs.length jc) := fun o => (N9.out.2.1.2.1.old o).cell 2
  have q3 : ∀ o, (w9.alloc o).cell? ⟨X, 1, none⟩ = some (.slice (some ⟨xb, xoff, none⟩) S.length cx) := fun o => (N9.out.2.2.old o).cell 1
  have q4 : ∀ o, (w9.alloc o).cell? ⟨X, 2, none⟩ = some (.slice (some ⟨yb, yoff, none⟩) J.length dx) := fun o => (N9.out.2.2.old o).cell 2
  have l1 : ¬ w.heap.size = w9.heap.size := by have := N9.out.2.1.2.1.lt; omega
  have l2 : ¬ X = w9.heap.size := by have := N9.out.2.2.lt; omega
  go_wp2_with fail
  go_region
  clear q0 q2 q3 q4 l1 l2
  obtain ⟨wA, hwA⟩ : ∃ wA, (w9.alloc (.cells #[.int .i64 last, .slice (some ⟨xb, xoff, none⟩) stays.length cx, .slice (some ⟨yb, yoff, none⟩) jobs.length dx] 25)).drew = wA := ⟨_, rfl⟩
  have NA : Hid (Below w8.heap.size w8 wA ∧ (Below w.heap.size w wA ∧ Blk wA w.heap.size #[.int .i64 last, .slice sa stays.length sc, .slice ja jobs.length jc] 25 ∧ Blk wA (w.heap.size + 1) #[.int .i64 ci, .int .i64 ca, .int .i64 cb, .int .i64 cc] 30) ∧ Blk wA X #[.int .i64 (last + 1), .slice (some ⟨xb, xoff, none⟩) S.length cx, .slice (some ⟨yb, yoff, none⟩) J.length dx] 25 ∧ Blk wA w9.heap.size #[.int .i64 last, .slice (some ⟨xb, xoff, none⟩) stays.length cx, .slice (some ⟨yb, yoff, none⟩) jobs.length dx] 25) := by
    show _ ∧ _ ∧ _ ∧ _
    rw [← hwA]
    have hd : Below w9.heap.size w9 (w9.alloc (.cells #[.int .i64 last, .slice (some ⟨xb, xoff, none⟩) stays.length cx, .slice (some ⟨yb, yoff, none⟩) jobs.length dx] 25)).drew := (B.new1 _ _).drew
    exact ⟨B.next N9.out.1 hd N9.out.1.size, ⟨B.next N9.out.2.1.1 hd N9.out.2.1.1.size, N9.out.2.1.2.1.below hd, N9.out.2.1.2.2.below hd⟩, N9.out.2.2.below hd, (Blk.new _ _ _).below (Below.refl _ _).drew⟩
  rw [hwA]
  clear hwA r9 r9x N9
  generalize w9.heap.size = Y at *
  have y0 := fun p : BelowW wA => (NA.out.2.2.2.below p.hb).cell 0
  have y1 := fun p : BelowW wA => (NA.out.2.2.2.below p.hb).cell 1
  have y2 := fun p : BelowW wA => (NA.out.2.2.2.below p.hb).cell 2
  have b0 := fun p : BelowW wA => (NA.out.2.1.2.1.below p.hb).cell 0
  have b1 := fun p : BelowW wA => (NA.out.2.1.2.1.below p.hb).cell 1
  have b2 := fun p : BelowW wA => (NA.out.2.1.2.1.below p.hb).cell 2
  have x1 := fun p : BelowW wA => (NA.out.2.2.1.below p.hb).cell 1
  have x2 := fun p : BelowW wA => (NA.out.2.2.1.below p.hb).cell 2
  have c0 := fun p : BelowW wA => (NA.out.2.1.2.2.below p.hb).cell 0
  have c1 := fun p : BelowW wA => (NA.out.2.1.2.2.below p.hb).cell 1
  have c2 := fun p : BelowW wA => (NA.out.2.1.2.2.below p.hb).cell 2
  have c3 := fun p : BelowW wA => (NA.out.2.1.2.2.below p.hb).cell 3
  have HSC : Hid (∀ wx, Below w8.heap.size w8 wx → ∀ c u, (Stay.enc (⟨last + 1, ci, ca, cb, cc, po.1, po.2.1, po.2.2⟩ : Stay))[c]? = some u → wx.cell? ⟨xb, xoff + stays.length * 8 + c, none⟩ = some u) := fun wx h c u hu => rows_cell (HXS.out wx h) stays.length (by have := HSL.out.1; omega) c u (by rw [HSL.out.2.2]; exact hu)
  have HJC : Hid (∀ wx, Below w8.heap.size w8 wx → ∀ c u, (Job.enc (⟨last + 1, false⟩ : Job))[c]? = some u → wx.cell? ⟨yb, yoff + jobs.length * 2 + c, none⟩ = some u) := fun wx h c u hu => rows_cell (HXJ.out wx h) jobs.length (by have := HJL.out.1; omega) c u (by rw [HJL.out.2.2]; exact hu)
  have s0 := fun p : BelowW wA => HSC.out p.wd (B.next NA.out.1 p.hb NA.out.1.size) 0 _ rfl
  have s1 := fun p : BelowW wA => HSC.out p.wd (B.next NA.out.1 p.hb NA.out.1.size) 1 _ rfl
  have s2 := fun p : BelowW wA => HSC.out p.wd (B.next NA.out.1 p.hb NA.out.1.size) 2 _ rfl
  have s3 := fun p : BelowW wA => HSC.out p.wd (B.next NA.out.1 p.hb NA.out.1.size) 3 _ rfl
  have s4 := fun p : BelowW wA => HSC.out p.wd (B.next NA.out.1 p.hb NA.out.1.size) 4 _ rfl
  have j0 := fun p : BelowW wA => HJC.out p.wd (B.next NA.out.1 p.hb NA.out.1.size) 0 _ rfl
  have j1 := fun p : BelowW wA => HJC.out p.wd (B.next NA.out.1 p.hb NA.out.1.size) 1 _ rfl
  simp only [Nat.add_zero] at s0 j0
  have eC := eqCar_run ci ca cb cc
  have gC := guardCar_run
  have eJ := eqJ_run (last + 1) (last + 1) false false
  have gJ := eqJ_guard (last + 1) (last + 1) false false
  rw [show ((last + 1 == last + 1 && false == false)) = true from by simp] at eJ
  have hk1 : (stays.length : Int) < (S.length : Int) := by omega
  have hk2 : (jobs.length : Int) < (J.length : Int) := by omega
  clear hSl hJl
  go_wp2_with fail
  refine wp_region_below (by kernel_rfl) (by kernel_rfl) ?_
  repeat (go_big_quiet_step (first | (go_at_call 19; exact Calls.wof (HSB.out _ (B.next NA.out.1 (BelowW.hb _) NA.out.1.size) (B.next NA.out.2.1.1 (BelowW.hb _) NA.out.2.1.1.size)))))
  refine wpQuiet_nil ?_
  rintro wq ⟨⟨_, NQ⟩, rfl⟩
  have BQ : Hid (Below w.heap.size w wq) := B.next NA.out.2.1.1 NQ NA.out.2.1.1.size
  clear y0 y1 y2 b0 b1 b2 x1 x2 c0 c1 c2 c3 s0 s1 s2 s3 s4 j0 j1 eC gC eJ gJ NQ
  go_wp2
  go_returns
  exact ⟨rfl, BQ.out⟩

end Bk
end Go.Proofs.Ytihapeagjikiaaa
