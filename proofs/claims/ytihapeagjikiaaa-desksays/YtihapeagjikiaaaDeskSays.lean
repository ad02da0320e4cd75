/- Chapter 7: the walk of the statement 'DeskSays' (E3 to E5): the desk answers as the document says. -/
import Derived.Test.YtihapeagjikiaaaRDesk
import Derived.Test.YtihapeagjikiaaaRBookFault
namespace Go.Proofs.Ytihapeagjikiaaa
open Go.Shelf Go.Lib Go.ChangeShapes Go.WideShapes Go.ChangeAt Go.RowKit
set_option maxRecDepth 100000
set_option linter.unusedSimpArgs false
set_option linter.unusedVariables false

namespace Bk
theorem eqP_self (a b c : Int) : eqP a b c a b c = true := by simp [eqP]

set_option maxHeartbeats 8000000 in
theorem deskSays_run (b : Book) (lv : Value) (len : Nat) (f : Nat → Int × Int × Int) (ci ca cb cc t : Int) (fe gone : Bool) (w : World) (hb : b.At w) (hs : SizesAt w lv len f) :
    Calls Try.prog 3 #[b.val, lv, .agg #[.int .i64 ci, .int .i64 ca, .int .i64 cb, .int .i64 cc], .agg #[.int .i64 t, .bool fe], .bool gone] w fun e w' => e = .returned (.bool true) ∧ Below w.heap.size w w' := by
  obtain ⟨last, sa, sc, ja, jc, stays, jobs⟩ := b
  have HLB : Hid (∀ wx, Below w.heap.size w wx → Calls Try.prog 11 #[.agg #[.int .i64 last, .slice sa stays.length sc, .slice ja jobs.length jc]] wx fun e w' => e = .returned (.bool (lightB ⟨last, sa, sc, ja, jc, stays, jobs⟩)) ∧ Below wx.heap.size wx w') := fun wx h => lightBook_any ⟨last, sa, sc, ja, jc, stays, jobs⟩ wx (hb.below h)
  have HLF : Hid (∀ wx, Below w.heap.size w wx → Calls Try.prog 12 #[lv] wx fun e w' => e = .returned (.int .i64 (levelsN len f)) ∧ Below wx.heap.size wx w') := fun wx h => rlevels_any lv len f wx (hs.below h)
  have HBF : Hid (1 ≤ len → len ≤ 4 → ∀ wx, Below w.heap.size w wx → Calls Try.prog 13 #[.agg #[.int .i64 last, .slice sa stays.length sc, .slice ja jobs.length jc], .int .i64 len] wx fun e w' => ∃ k, e = .returned (.int .i64 k) ∧ (k = 0 ∧ BookOK last len stays jobs ∨ 0 < k) ∧ Below wx.heap.size wx w') := fun h1 h4 wx h => rbookFault_any ⟨last, sa, sc, ja, jc, stays, jobs⟩ len wx (hb.below h) h1 h4
  have HPK : Hid (1 ≤ len → len ≤ 4 → ∀ wx, Below w.heap.size w wx → Calls Try.prog 14 #[.agg #[.int .i64 last, .slice sa stays.length sc, .slice ja jobs.length jc], lv, .agg #[.int .i64 ci, .int .i64 ca, .int .i64 cb, .int .i64 cc]] wx fun e w' => e = .returned (.tuple #[.agg #[.int .i64 (pickP (pickO ⟨last, sa, sc, ja, jc, stays, jobs⟩ f ca cb cc len)).1, .int .i64 (pickP (pickO ⟨last, sa, sc, ja, jc, stays, jobs⟩ f ca cb cc len)).2.1, .int .i64 (pickP (pickO ⟨last, sa, sc, ja, jc, stays, jobs⟩ f ca cb cc len)).2.2], .bool (pickO ⟨last, sa, sc, ja, jc, stays, jobs⟩ f ca cb cc len).isSome]) ∧ Below wx.heap.size wx w') := fun h1 h4 wx h => by
    rw [← pickV_eq]
    exact pick_any ⟨last, sa, sc, ja, jc, stays, jobs⟩ lv len f ci ca cb cc wx (hb.below h) (hs.below h) h1 h4
  have HRP : Hid (1 ≤ len → len ≤ 4 → BookOK last len stays jobs → ∀ wx, Below w.heap.size w wx → Calls Try.prog 15 #[.agg #[.int .i64 last, .slice sa stays.length sc, .slice ja jobs.length jc], lv, .agg #[.int .i64 ci, .int .i64 ca, .int .i64 cb, .int .i64 cc]] wx fun e w' => e = .returned (.tuple #[.agg #[.int .i64 (pickP (pickO ⟨last, sa, sc, ja, jc, stays, jobs⟩ f ca cb cc len)).1, .int .i64 (pickP (pickO ⟨last, sa, sc, ja, jc, stays, jobs⟩ f ca cb cc len)).2.1, .int .i64 (pickP (pickO ⟨last, sa, sc, ja, jc, stays, jobs⟩ f ca cb cc len)).2.2], .bool (pickO ⟨last, sa, sc, ja, jc, stays, jobs⟩ f ca cb cc len).isSome]) ∧ Below wx.heap.size wx w') := fun h1 h4 hk wx h => by
    rw [← pickV_eq]
    exact rpicked_any ⟨last, sa, sc, ja, jc, stays, jobs⟩ lv len f ci ca cb cc wx (hb.below h) (hs.below h) h1 h4 last hk.s
  have HPA : Hid (1 ≤ len → len ≤ 4 → BookOK last len stays jobs → ∀ wx, Below w.heap.size w wx → Calls Try.prog 16 #[.agg #[.int .i64 last, .slice sa stays.length sc, .slice ja jobs.length jc], lv, .agg #[.int .i64 ci, .int .i64 ca, .int .i64 cb, .int .i64 cc]] wx fun e w' => ∃ a1 c1 a2 c2, e = .returned (.tuple #[.agg #[.int .i64 (parkB ⟨last, sa, sc, ja, jc, stays, jobs⟩ f len ci ca cb cc).1, .slice a1 (parkB ⟨last, sa, sc, ja, jc, stays, jobs⟩ f len ci ca cb cc).2.1.length c1, .slice a2 (parkB ⟨last, sa, sc, ja, jc, stays, jobs⟩ f len ci ca cb cc).2.2.length c2], .int .i64 (parkB ⟨last, sa, sc, ja, jc, stays, jobs⟩ f len ci ca cb cc).1, errV (parkN ⟨last, sa, sc, ja, jc, stays, jobs⟩ f len ci ca cb cc)]) ∧ Book.At ⟨(parkB ⟨last, sa, sc, ja, jc, stays, jobs⟩ f len ci ca cb cc).1, a1, c1, a2, c2, (parkB ⟨last, sa, sc, ja, jc, stays, jobs⟩ f len ci ca cb cc).2.1, (parkB ⟨last, sa, sc, ja, jc, stays, jobs⟩ f len ci ca cb cc).2.2⟩ w' ∧ Below wx.heap.size wx w') := fun h1 h4 hk wx h => park_both ⟨last, sa, sc, ja, jc, stays, jobs⟩ lv len f ci ca cb cc wx (hb.below h) (hs.below h) h1 h4 (Nat.le_trans hk.fewS (by decide)) (Nat.le_trans hk.fewJ (by decide)) hk.lim.1
  have HRA : Hid (1 ≤ len → len ≤ 4 → BookOK last len stays jobs → ∀ wx, Below w.heap.size w wx → Calls Try.prog 17 #[.agg #[.int .i64 last, .slice sa stays.length sc, .slice ja jobs.length jc], lv, .agg #[.int .i64 ci, .int .i64 ca, .int .i64 cb, .int .i64 cc]] wx fun e w' => ∃ a1 c1 a2 c2, e = .returned (.tuple #[.agg #[.int .i64 (parkB ⟨last, sa, sc, ja, jc, stays, jobs⟩ f len ci ca cb cc).1, .slice a1 (parkB ⟨last, sa, sc, ja, jc, stays, jobs⟩ f len ci ca cb cc).2.1.length c1, .slice a2 (parkB ⟨last, sa, sc, ja, jc, stays, jobs⟩ f len ci ca cb cc).2.2.length c2], .int .i64 (parkB ⟨last, sa, sc, ja, jc, stays, jobs⟩ f len ci ca cb cc).1, .int .i64 (parkN ⟨last, sa, sc, ja, jc, stays, jobs⟩ f len ci ca cb cc)]) ∧ Book.At ⟨(parkB ⟨last, sa, sc, ja, jc, stays, jobs⟩ f len ci ca cb cc).1, a1, c1, a2, c2, (parkB ⟨last, sa, sc, ja, jc, stays, jobs⟩ f len ci ca cb cc).2.1, (parkB ⟨last, sa, sc, ja, jc, stays, jobs⟩ f len ci ca cb cc).2.2⟩ w' ∧ Below wx.heap.size wx w') := fun h1 h4 hk wx h => rparked_both ⟨last, sa, sc, ja, jc, stays, jobs⟩ lv len f ci ca cb cc wx (hb.below h) (hs.below h) h1 h4 hk
  have HWA : Hid (BookOK last len stays jobs → ∀ wx, Below w.heap.size w wx → Calls Try.prog 20 #[.agg #[.int .i64 last, .slice sa stays.length sc, .slice ja jobs.length jc], .int .i64 t] wx fun e w' => ∃ a1 c1 a2 c2, e = .returned (.tuple #[.agg #[.int .i64 (wantB ⟨last, sa, sc, ja, jc, stays, jobs⟩ t).1, .slice a1 (wantB ⟨last, sa, sc, ja, jc, stays, jobs⟩ t).2.1.length c1, .slice a2 (wantB ⟨last, sa, sc, ja, jc, stays, jobs⟩ t).2.2.length c2], errV (wantN ⟨last, sa, sc, ja, jc, stays, jobs⟩ t)]) ∧ Book.At ⟨(wantB ⟨last, sa, sc, ja, jc, stays, jobs⟩ t).1, a1, c1, a2, c2, (wantB ⟨last, sa, sc, ja, jc, stays, jobs⟩ t).2.1, (wantB ⟨last, sa, sc, ja, jc, stays, jobs⟩ t).2.2⟩ w' ∧ Below wx.heap.size wx w') := fun hk wx h => want_both ⟨last, sa, sc, ja, jc, stays, jobs⟩ t wx (hb.below h) (Nat.le_trans hk.fewS (by decide)) (Nat.le_trans hk.fewJ (by decide))
  have HRW : Hid (BookOK last len stays jobs → ∀ wx, Below w.heap.size w wx → Calls Try.prog 21 #[.agg #[.int .i64 last, .slice sa stays.length sc, .slice ja jobs.length jc], .int .i64 t] wx fun e w' => ∃ a1 c1 a2 c2, e = .returned (.tuple #[.agg #[.int .i64 (wantB ⟨last, sa, sc, ja, jc, stays, jobs⟩ t).1, .slice a1 (wantB ⟨last, sa, sc, ja, jc, stays, jobs⟩ t).2.1.length c1, .slice a2 (wantB ⟨last, sa, sc, ja, jc, stays, jobs⟩ t).2.2.length c2], .int .i64 (wantN ⟨last, sa, sc, ja, jc, stays, jobs⟩ t)]) ∧ Book.At ⟨(wantB ⟨last, sa, sc, ja, jc, stays, jobs⟩ t).1, a1, c1, a2, c2, (wantB ⟨last, sa, sc, ja, jc, stays, jobs⟩ t).2.1, (wantB ⟨last, sa, sc, ja, jc, stays, jobs⟩ t).2.2⟩ w' ∧ Below wx.heap.size wx w') := fun hk wx h => rwanted_both ⟨last, sa, sc, ja, jc, stays, jobs⟩ t wx (hb.below h) hk.fewJ
  have HDN : Hid (BookOK last len stays jobs → ∀ wx, Below w.heap.size w wx → Calls Try.prog 22 #[.agg #[.int .i64 last, .slice sa stays.length sc, .slice ja jobs.length jc], .agg #[.int .i64 t, .bool fe], .bool gone] wx fun e w' => ∃ vs vj, e = .returned (.agg #[.int .i64 last, vs, vj]) ∧ OwnBook w' wx.heap.size vs vj (doneStays t (fe || gone) stays) (doneJobs t fe (fe || gone) jobs) ∧ Below wx.heap.size wx w') := fun hk wx h => done_any ⟨last, sa, sc, ja, jc, stays, jobs⟩ t fe gone wx (hb.below h) (Nat.le_trans hk.fewS (by decide)) (Nat.le_trans hk.fewJ (by decide))
  have HRD : Hid (BookOK last len stays jobs → ∀ wx, Below w.heap.size w wx → Calls Try.prog 23 #[.agg #[.int .i64 last, .slice sa stays.length sc, .slice ja jobs.length jc], .agg #[.int .i64 t, .bool fe], .bool gone] wx fun e w' => ∃ vs vj, e = .returned (.agg #[.int .i64 last, vs, vj]) ∧ OwnBook w' wx.heap.size vs vj (doneStays t (fe || gone) stays) (doneJobs t fe (fe || gone) jobs) ∧ Below wx.heap.size wx w') := fun hk wx h => rdone_any ⟨last, sa, sc, ja, jc, stays, jobs⟩ t fe gone wx (hb.below h) (Nat.le_trans hk.fewS (by decide)) (Nat.le_trans hk.fewJ (by decide))
  have hp0 := parkN_nonneg ⟨last, sa, sc, ja, jc, stays, jobs⟩ f len ci ca cb cc
  have hw0' := wantN_nonneg ⟨last, sa, sc, ja, jc, stays, jobs⟩ t
  simp only [Book.val] at *
  obtain ⟨la, lcap, rfl, hll, hlm, _⟩ := hs
  unfold maxLen at hlm
  obtain ⟨w0, hw0⟩ : ∃ w0, ((w.alloc (.cells #[.int .i64 last, .slice sa stays.length sc, .slice ja jobs.length jc] 25)).alloc (.cells #[.int .i64 ci, .int .i64 ca, .int .i64 cb, .int .i64 cc] 30)).alloc (.cells #[.int .i64 t, .bool fe] 32) = w0 := ⟨_, rfl⟩
  have N0 : Hid (Below w.heap.size w w0 ∧ Blk w0 w.heap.size #[.int .i64 last, .slice sa stays.length sc, .slice ja jobs.length jc] 25 ∧ Blk w0 (w.heap.size + 1) #[.int .i64 ci, .int .i64 ca, .int .i64 cb, .int .i64 cc] 30 ∧ Blk w0 (w.heap.size + 1 + 1) #[.int .i64 t, .bool fe] 32) := by
    show _ ∧ _ ∧ _ ∧ _
    rw [← hw0]
    exact ⟨((B.new1 _ _).alloc (by simp) _).alloc (by simp; omega) _, ((Blk.new _ _ _).old _).old _, (Blk.new1 (by simp) _ _).old _, Blk.new1 (by simp) _ _⟩
  clear hb
  go_enter Try.func3, Try.ntmps3
  go_wp2_with fail
  clear hw0
  refine (desks_any _).mono ?_
  rintro e w1 ⟨rfl, b1⟩
  have N1 : Hid (Below w.heap.size w w1 ∧ Blk w1 w.heap.size #[.int .i64 last, .slice sa stays.length sc, .slice ja jobs.length jc] 25 ∧ Blk w1 (w.heap.size + 1) #[.int .i64 ci, .int .i64 ca, .int .i64 cb, .int .i64 cc] 30 ∧ Blk w1 (w.heap.size + 1 + 1) #[.int .i64 t, .bool fe] 32) := ⟨B.next N0.out.1 b1 N0.out.1.size, N0.out.2.1.below b1, N0.out.2.2.1.below b1, N0.out.2.2.2.below b1⟩
  clear b1 N0
  have r0 := N1.out.2.1.cell
  go_wp2_with fail
  clear r0
  refine (HLB.out _ N1.out.1).mono ?_
  rintro e w2 ⟨rfl, b2⟩
  have N2 : Hid (Below w.heap.size w w2 ∧ Blk w2 w.heap.size #[.int .i64 last, .slice sa stays.length sc, .slice ja jobs.length jc] 25 ∧ Blk w2 (w.heap.size + 1) #[.int .i64 ci, .int .i64 ca, .int .i64 cb, .int .i64 cc] 30 ∧ Blk w2 (w.heap.size + 1 + 1) #[.int .i64 t, .bool fe] 32) := ⟨B.next N1.out.1 b2 N1.out.1.size, N1.out.2.1.below b2, N1.out.2.2.1.below b2, N1.out.2.2.2.below b2⟩
  clear b2 N1 HLB
  cases lightB ⟨last, sa, sc, ja, jc, stays, jobs⟩
  · go_wp2
    go_returns
    exact ⟨rfl, N2.out.1⟩
  by_cases h6 : 6 < len
  · have h6z : (6 : Int) < (len : Int) := by omega
    go_wp2
    go_returns
    exact ⟨rfl, N2.out.1⟩
  have h6z : ¬ (6 : Int) < (len : Int) := by omega
  go_wp2_with fail
  refine (HLF.out _ N2.out.1).mono ?_
  rintro e w3 ⟨rfl, b3⟩
  have N3 : Hid (Below w.heap.size w w3 ∧ Blk w3 w.heap.size #[.int .i64 last, .slice sa stays.length sc, .slice ja jobs.length jc] 25 ∧ Blk w3 (w.heap.size + 1) #[.int .i64 ci, .int .i64 ca, .int .i64 cb, .int .i64 cc] 30 ∧ Blk w3 (w.heap.size + 1 + 1) #[.int .i64 t, .bool fe] 32) := ⟨B.next N2.out.1 b3 N2.out.1.size, N2.out.2.1.below b3, N2.out.2.2.1.below b3, N2.out.2.2.2.below b3⟩
  clear b3 N2 HLF
  by_cases hlv : levelsN len f = 0
  case neg =>
    have hpos : 0 < levelsN len f := by
      have := levelsN_nonneg len f
      omega
    generalize levelsN len f = q at hpos ⊢
    clear hlv
    go_wp2
    go_returns
    exact ⟨rfl, N3.out.1⟩
  have h14 : 1 ≤ len ∧ len ≤ 4 := ⟨(levelsN_zero hlv).1, (levelsN_zero hlv).2.1⟩
  obtain ⟨hl1, hl4⟩ := h14
  rw [hlv]
  clear hlv h6 h6z
  have r0 := N3.out.2.1.cell
  go_wp2_with fail
  clear r0
  refine (HBF.out hl1 hl4 _ N3.out.1).mono ?_
  rintro e w4 ⟨k, rfl, hk, b4⟩
  have N4 : Hid (Below w.heap.size w w4 ∧ Blk w4 w.heap.size #[.int .i64 last, .slice sa stays.length sc, .slice ja jobs.length jc] 25 ∧ Blk w4 (w.heap.size + 1) #[.int .i64 ci, .int .i64 ca, .int .i64 cb, .int .i64 cc] 30 ∧ Blk w4 (w.heap.size + 1 + 1) #[.int .i64 t, .bool fe] 32) := ⟨B.next N3.out.1 b4 N3.out.1.size, N3.out.2.1.below b4, N3.out.2.2.1.below b4, N3.out.2.2.2.below b4⟩
  clear b4 N3 HBF
  rcases hk with ⟨rfl, hok⟩ | hpos
  case inr =>
    go_wp2
    go_returns
    exact ⟨rfl, N4.out.1⟩
  have HOK : Hid (BookOK last len stays jobs) := hok
  clear hok
  have r0 := N4.out.2.1.cell
  have r1 := N4.out.2.2.1.cell
  go_wp2_with fail
  clear r0 r1
  refine (HPK.out hl1 hl4 _ N4.out.1).mono ?_
  rintro e w5 ⟨rfl, b5⟩
  have N5 : Hid (Below w.heap.size w w5 ∧ Blk w5 w.heap.size #[.int .i64 last, .slice sa stays.length sc, .slice ja jobs.length jc] 25 ∧ Blk w5 (w.heap.size + 1) #[.int .i64 ci, .int .i64 ca, .int .i64 cb, .int .i64 cc] 30 ∧ Blk w5 (w.heap.size + 1 + 1) #[.int .i64 t, .bool fe] 32) := ⟨B.next N4.out.1 b5 N4.out.1.size, N4.out.2.1.below b5, N4.out.2.2.1.below b5, N4.out.2.2.2.below b5⟩
  clear b5 N4 HPK
  have HRP' := HRP.out hl1 hl4 HOK.out
  clear HRP
  obtain ⟨po, hpo⟩ : ∃ po, pickP (pickO ⟨last, sa, sc, ja, jc, stays, jobs⟩ f ca cb cc len) = po := ⟨_, rfl⟩
  obtain ⟨ps, hps⟩ : ∃ ps, (pickO ⟨last, sa, sc, ja, jc, stays, jobs⟩ f ca cb cc len).isSome = ps := ⟨_, rfl⟩
  rw [hpo, hps] at HRP' ⊢
  clear hpo hps
  have HRP : Hid (∀ wx, Below w.heap.size w wx → Calls Try.prog 15 #[.agg #[.int .i64 last, .slice sa stays.length sc, .slice ja jobs.length jc], .slice la len lcap, .agg #[.int .i64 ci, .int .i64 ca, .int .i64 cb, .int .i64 cc]] wx fun e w' => e = .returned (.tuple #[.agg #[.int .i64 po.1, .int .i64 po.2.1, .int .i64 po.2.2], .bool ps]) ∧ Below wx.heap.size wx w') := HRP'
  clear HRP'
  obtain ⟨w6, hw6⟩ : ∃ w6, w5.alloc (.cells #[.int .i64 po.1, .int .i64 po.2.1, .int .i64 po.2.2] 38) = w6 := ⟨_, rfl⟩
  obtain ⟨pb, hpb⟩ : ∃ pb, w5.heap.size = pb := ⟨_, rfl⟩
  have N6 : Hid ((Below w.heap.size w w6 ∧ Blk w6 w.heap.size #[.int .i64 last, .slice sa stays.length sc, .slice ja jobs.length jc] 25 ∧ Blk w6 (w.heap.size + 1) #[.int .i64 ci, .int .i64 ca, .int .i64 cb, .int .i64 cc] 30 ∧ Blk w6 (w.heap.size + 1 + 1) #[.int .i64 t, .bool fe] 32) ∧ Blk w6 pb #[.int .i64 po.1, .int .i64 po.2.1, .int .i64 po.2.2] 38) := by
    show _ ∧ _
    rw [← hw6]
    have b6 := B.new1 w5 (.cells #[.int .i64 po.1, .int .i64 po.2.1, .int .i64 po.2.2] 38)
    exact ⟨⟨B.next N5.out.1 b6 N5.out.1.size, N5.out.2.1.below b6, N5.out.2.2.1.below b6, N5.out.2.2.2.below b6⟩, Blk.new1 hpb.symm _ _⟩
  have HW6 : Hid (w5.alloc (.cells #[.int .i64 po.1, .int .i64 po.2.1, .int .i64 po.2.2] 38) = w6) := hw6
  clear hw6 N5
  go_upto_region 5 with fail
  simp only [HW6.out]
  (try simp only [hpb])
  clear HW6 hpb
  have r0 := N6.out.1.2.1.cell
  have r1 := N6.out.1.2.2.1.cell
  go_wp2_with fail
  clear r0 r1
  refine (HRP.out _ N6.out.1.1).mono ?_
  rintro e w7 ⟨rfl, b7⟩
  obtain ⟨w8, hw8⟩ : ∃ w8, w7.alloc (.cells #[.int .i64 po.1, .int .i64 po.2.1, .int .i64 po.2.2] 38) = w8 := ⟨_, rfl⟩
  obtain ⟨qb, hqb⟩ : ∃ qb, w7.heap.size = qb := ⟨_, rfl⟩
  have N8 : Hid ((Below w.heap.size w w8 ∧ Blk w8 w.heap.size #[.int .i64 last, .slice sa stays.length sc, .slice ja jobs.length jc] 25 ∧ Blk w8 (w.heap.size + 1) #[.int .i64 ci, .int .i64 ca, .int .i64 cb, .int .i64 cc] 30 ∧ Blk w8 (w.heap.size + 1 + 1) #[.int .i64 t, .bool fe] 32) ∧ Blk w8 pb #[.int .i64 po.1, .int .i64 po.2.1, .int .i64 po.2.2] 38 ∧ Blk w8 qb #[.int .i64 po.1, .int .i64 po.2.1, .int .i64 po.2.2] 38) := by
    show _ ∧ _ ∧ _
    rw [← hw8]
    have b8 := B.new1 w7 (.cells #[.int .i64 po.1, .int .i64 po.2.1, .int .i64 po.2.2] 38)
    exact ⟨⟨B.next (B.next N6.out.1.1 b7 N6.out.1.1.size) b8 (Nat.le_trans N6.out.1.1.size b7.size), (N6.out.1.2.1.below b7).below b8, (N6.out.1.2.2.1.below b7).below b8, (N6.out.1.2.2.2.below b7).below b8⟩, (N6.out.2.below b7).below b8, Blk.new1 hqb.symm _ _⟩
  have HW8 : Hid (w7.alloc (.cells #[.int .i64 po.1, .int .i64 po.2.1, .int .i64 po.2.2] 38) = w8) := hw8
  clear hw8 N6 HRP b7
  go_upto_region 6 with fail
  simp only [HW8.out]
  (try simp only [hqb])
  clear HW8 hqb
  have r0 := N8.out.2.1.cell
  have r1 := N8.out.2.2.cell
  have e1 := neqP_run po.1 po.2.1 po.2.2 po.1 po.2.1 po.2.2
  have g1 := eqP_guard po.1 po.2.1 po.2.2 po.1 po.2.1 po.2.2
  rw [eqP_self] at e1
  have M8 : Hid (Below w.heap.size w w8 ∧ Blk w8 w.heap.size #[.int .i64 last, .slice sa stays.length sc, .slice ja jobs.length jc] 25 ∧ Blk w8 (w.heap.size + 1) #[.int .i64 ci, .int .i64 ca, .int .i64 cb, .int .i64 cc] 30 ∧ Blk w8 (w.heap.size + 1 + 1) #[.int .i64 t, .bool fe] 32) := N8.out.1
  clear N8
  have r2 := M8.out.2.1.cell
  have r3 := M8.out.2.2.1.cell
  go_wp2_with fail
  clear r0 r1 r2 r3 e1 g1
  refine (HPA.out hl1 hl4 HOK.out _ M8.out.1).mono ?_
  rintro e w9 ⟨x1, x2, x3, x4, rfl, hX, b9⟩
  have HRA' := HRA.out hl1 hl4 HOK.out
  obtain ⟨pB, hpB⟩ : ∃ pB, parkB ⟨last, sa, sc, ja, jc, stays, jobs⟩ f len ci ca cb cc = pB := ⟨_, rfl⟩
  obtain ⟨pN, hpN⟩ : ∃ pN, parkN ⟨last, sa, sc, ja, jc, stays, jobs⟩ f len ci ca cb cc = pN := ⟨_, rfl⟩
  rw [hpB, hpN] at HRA' ⊢
  rw [hpB] at hX
  rw [hpN] at hp0
  have HRA2 : Hid (∀ wx, Below w.heap.size w wx → Calls Try.prog 17 #[.agg #[.int .i64 last, .slice sa stays.length sc, .slice ja jobs.length jc], .slice la len lcap, .agg #[.int .i64 ci, .int .i64 ca, .int .i64 cb, .int .i64 cc]] wx fun e w' => ∃ a1 c1 a2 c2, e = .returned (.tuple #[.agg #[.int .i64 pB.1, .slice a1 pB.2.1.length c1, .slice a2 pB.2.2.length c2], .int .i64 pB.1, .int .i64 pN]) ∧ Book.At ⟨pB.1, a1, c1, a2, c2, pB.2.1, pB.2.2⟩ w' ∧ Below wx.heap.size wx w') := HRA'
  clear HRA HRA' hpB hpN HPA
  obtain ⟨wA, hwA⟩ : ∃ wA, w9.alloc (.cells #[.int .i64 pB.1, .slice x1 pB.2.1.length x2, .slice x3 pB.2.2.length x4] 25) = wA := ⟨_, rfl⟩
  obtain ⟨xb, hxb⟩ : ∃ xb, w9.heap.size = xb := ⟨_, rfl⟩
  have NA : Hid ((Below w.heap.size w wA ∧ Blk wA w.heap.size #[.int .i64 last, .slice sa stays.length sc, .slice ja jobs.length jc] 25 ∧ Blk wA (w.heap.size + 1) #[.int .i64 ci, .int .i64 ca, .int .i64 cb, .int .i64 cc] 30 ∧ Blk wA (w.heap.size + 1 + 1) #[.int .i64 t, .bool fe] 32) ∧ Blk wA xb #[.int .i64 pB.1, .slice x1 pB.2.1.length x2, .slice x3 pB.2.2.length x4] 25 ∧ Book.At ⟨pB.1, x1, x2, x3, x4, pB.2.1, pB.2.2⟩ wA ∧ w.heap.size + 2 < xb) := by
    show _ ∧ _ ∧ _ ∧ _
    rw [← hwA]
    have bA := B.new1 w9 (.cells #[.int .i64 pB.1, .slice x1 pB.2.1.length x2, .slice x3 pB.2.2.length x4] 25)
    have h3 := (M8.out.2.2.2.below b9).lt
    exact ⟨⟨B.next (B.next M8.out.1 b9 M8.out.1.size) bA (Nat.le_trans M8.out.1.size b9.size), (M8.out.2.1.below b9).below bA, (M8.out.2.2.1.below b9).below bA, (M8.out.2.2.2.below b9).below bA⟩, Blk.new1 hxb.symm _ _, hX.below bA, by rw [← hxb]; exact h3⟩
  have HWA' : Hid (w9.alloc (.cells #[.int .i64 pB.1, .slice x1 pB.2.1.length x2, .slice x3 pB.2.2.length x4] 25) = wA) := hwA
  clear hwA M8 hX b9
  go_upto_region 9 with fail
  simp only [HWA'.out]
  (try simp only [hxb])
  clear HWA' hxb
  have r0 := NA.out.1.2.1.cell
  have r1 := NA.out.1.2.2.1.cell
  go_wp2_with fail
  clear r0 r1
  refine (HRA2.out _ NA.out.1.1).mono ?_
  rintro e wB ⟨y1, y2, y3, y4, rfl, hY, bB⟩
  obtain ⟨wC, hwC⟩ : ∃ wC, wB.alloc (.cells #[.int .i64 pB.1, .slice y1 pB.2.1.length y2, .slice y3 pB.2.2.length y4] 25) = wC := ⟨_, rfl⟩
  obtain ⟨yb, hyb⟩ : ∃ yb, wB.heap.size = yb := ⟨_, rfl⟩
  have NC : Hid ((Below w.heap.size w wC ∧ Blk wC w.heap.size #[.int .i64 last, .slice sa stays.length sc, .slice ja jobs.length jc] 25 ∧ Blk wC (w.heap.size + 1) #[.int .i64 ci, .int .i64 ca, .int .i64 cb, .int .i64 cc] 30 ∧ Blk wC (w.heap.size + 1 + 1) #[.int .i64 t, .bool fe] 32) ∧ Blk wC xb #[.int .i64 pB.1, .slice x1 pB.2.1.length x2, .slice x3 pB.2.2.length x4] 25 ∧ Blk wC yb #[.int .i64 pB.1, .slice y1 pB.2.1.length y2, .slice y3 pB.2.2.length y4] 25 ∧ w.heap.size + 2 < xb ∧ xb < yb) := by
    show _ ∧ _ ∧ _ ∧ _ ∧ _
    rw [← hwC]
    have bC := B.new1 wB (.cells #[.int .i64 pB.1, .slice y1 pB.2.1.length y2, .slice y3 pB.2.2.length y4] 25)
    have h3 := (NA.out.2.1.below bB).lt
    exact ⟨⟨B.next (B.next NA.out.1.1 bB NA.out.1.1.size) bC (Nat.le_trans NA.out.1.1.size bB.size), (NA.out.1.2.1.below bB).below bC, (NA.out.1.2.2.1.below bB).below bC, (NA.out.1.2.2.2.below bB).below bC⟩, (NA.out.2.1.below bB).below bC, Blk.new1 hyb.symm _ _, NA.out.2.2.2, by rw [← hyb]; exact h3⟩
  have HSB : Hid (∀ wx, Below wC.heap.size wC wx → Calls Try.prog 19 #[.agg #[.int .i64 pB.1, .slice x1 pB.2.1.length x2, .slice x3 pB.2.2.length x4], .agg #[.int .i64 pB.1, .slice y1 pB.2.1.length y2, .slice y3 pB.2.2.length y4]] wx fun e w' => e = .returned (.bool true) ∧ Below wx.heap.size wx w') := fun wx h => by
    have bC : Below wB.heap.size wB wC := by rw [← hwC]; exact B.new1 _ _
    exact sameBook_any pB.1 pB.2.1 pB.2.2 x1 x3 y1 y3 x2 x4 y2 y4 wx (((NA.out.2.2.1.below bB).below bC).below h) ((hY.below bC).below h)
  have HWC : Hid (wB.alloc (.cells #[.int .i64 pB.1, .slice y1 pB.2.1.length y2, .slice y3 pB.2.2.length y4] 25) = wC) := hwC
  clear hwC NA hY bB HRA2
  go_upto_region 10 with fail
  simp only [HWC.out]
  (try simp only [hyb])
  clear HWC hyb
  have HPN : Hid (0 ≤ pN) := hp0
  clear hp0
  have r0 := NC.out.2.1.cell
  have r1 := NC.out.2.2.1.cell
  go_wp2_with fail
  refine (same_any pN _ HPN.out).mono ?_
  rintro e wx ⟨rfl, hwx⟩
  subst hwx
  go_wp2_with fail
  clear r0 r1
  refine (HSB.out _ (Below.refl _ _)).mono ?_
  rintro e wD ⟨rfl, bD⟩
  have ND : Hid ((Below w.heap.size w wD ∧ Blk wD w.heap.size #[.int .i64 last, .slice sa stays.length sc, .slice ja jobs.length jc] 25 ∧ Blk wD (w.heap.size + 1) #[.int .i64 ci, .int .i64 ca, .int .i64 cb, .int .i64 cc] 30 ∧ Blk wD (w.heap.size + 1 + 1) #[.int .i64 t, .bool fe] 32) ∧ Blk wD xb #[.int .i64 pB.1, .slice x1 pB.2.1.length x2, .slice x3 pB.2.2.length x4] 25 ∧ Blk wD yb #[.int .i64 pB.1, .slice y1 pB.2.1.length y2, .slice y3 pB.2.2.length y4] 25 ∧ w.heap.size + 2 < xb ∧ xb < yb) := ⟨⟨B.next NC.out.1.1 bD NC.out.1.1.size, NC.out.1.2.1.below bD, NC.out.1.2.2.1.below bD, NC.out.1.2.2.2.below bD⟩, NC.out.2.1.below bD, NC.out.2.2.1.below bD, NC.out.2.2.2.1, NC.out.2.2.2.2⟩
  clear NC bD HSB HPN
  have r0 := ND.out.1.2.1.cell
  have r1 := ND.out.1.2.2.2.cell
  go_wp2_with fail
  clear r0 r1
  refine (HWA.out HOK.out _ ND.out.1.1).mono ?_
  rintro e wE ⟨z1, z2, z3, z4, rfl, hZ, bE⟩
  have HRW' := HRW.out HOK.out
  obtain ⟨wBk, hwB⟩ : ∃ wBk, wantB ⟨last, sa, sc, ja, jc, stays, jobs⟩ t = wBk := ⟨_, rfl⟩
  obtain ⟨wN, hwN⟩ : ∃ wN, wantN ⟨last, sa, sc, ja, jc, stays, jobs⟩ t = wN := ⟨_, rfl⟩
  rw [hwB, hwN] at HRW' ⊢
  rw [hwB] at hZ
  rw [hwN] at hw0'
  have HRW2 : Hid (∀ wx, Below w.heap.size w wx → Calls Try.prog 21 #[.agg #[.int .i64 last, .slice sa stays.length sc, .slice ja jobs.length jc], .int .i64 t] wx fun e w' => ∃ a1 c1 a2 c2, e = .returned (.tuple #[.agg #[.int .i64 wBk.1, .slice a1 wBk.2.1.length c1, .slice a2 wBk.2.2.length c2], .int .i64 wN]) ∧ Book.At ⟨wBk.1, a1, c1, a2, c2, wBk.2.1, wBk.2.2⟩ w' ∧ Below wx.heap.size wx w') := HRW'
  have HWN : Hid (0 ≤ wN) := hw0'
  clear HRW HRW' hwB hwN HWA hw0'
  have hlx : Hid (w.heap.size + 2 < xb ∧ xb < yb) := ND.out.2.2.2
  obtain ⟨wF, hwF⟩ : ∃ wF, ((wE.setCell ⟨xb, 0, none⟩ (.int .i64 wBk.1)).setCell ⟨xb, 1, none⟩ (.slice z1 wBk.2.1.length z2)).setCell ⟨xb, 2, none⟩ (.slice z3 wBk.2.2.length z4) = wF := ⟨_, rfl⟩
  have bwE : Hid (Below w.heap.size w wE) := B.next ND.out.1.1 bE ND.out.1.1.size
  have NF : Hid ((Below w.heap.size w wF ∧ Blk wF w.heap.size #[.int .i64 last, .slice sa stays.length sc, .slice ja jobs.length jc] 25 ∧ Blk wF (w.heap.size + 1) #[.int .i64 ci, .int .i64 ca, .int .i64 cb, .int .i64 cc] 30 ∧ Blk wF (w.heap.size + 1 + 1) #[.int .i64 t, .bool fe] 32) ∧ Blk wF xb #[.int .i64 wBk.1, .slice z1 wBk.2.1.length z2, .slice z3 wBk.2.2.length z4] 25 ∧ Blk wF yb #[.int .i64 pB.1, .slice y1 pB.2.1.length y2, .slice y3 pB.2.2.length y4] 25 ∧ Book.At ⟨wBk.1, z1, z2, z3, z4, wBk.2.1, wBk.2.2⟩ wF) := by
    show _ ∧ _ ∧ _ ∧ _
    rw [← hwF]
    have hx := hlx.out
    have kx := ND.out.2.1.below bE
    have ky := ND.out.2.2.1.below bE
    refine ⟨⟨((bwE.out.setCell (p := ⟨xb, 0, none⟩) (by show w.heap.size ≤ xb; omega) _).setCell (p := ⟨xb, 1, none⟩) (by show w.heap.size ≤ xb; omega) _).setCell (p := ⟨xb, 2, none⟩) (by show w.heap.size ≤ xb; omega) _, ?_, ?_, ?_⟩, ?_, ?_, ?_⟩
    · exact (((ND.out.1.2.1.below bE).other (by omega) _ _).other (by omega) _ _).other (by omega) _ _
    · exact (((ND.out.1.2.2.1.below bE).other (by omega) _ _).other (by omega) _ _).other (by omega) _ _
    · exact (((ND.out.1.2.2.2.below bE).other (by omega) _ _).other (by omega) _ _).other (by omega) _ _
    · exact ((kx.set 0 _).set 1 _).set 2 _
    · exact ((ky.other (by omega) _ _).other (by omega) _ _).other (by omega) _ _
    · exact at_set3 hZ kx
  have gx := (ND.out.2.1.below bE).cell
  have fx := (ND.out.2.1.below bE).free
  have HWF : Hid (((wE.setCell ⟨xb, 0, none⟩ (.int .i64 wBk.1)).setCell ⟨xb, 1, none⟩ (.slice z1 wBk.2.1.length z2)).setCell ⟨xb, 2, none⟩ (.slice z3 wBk.2.2.length z4) = wF) := hwF
  clear hwF ND hZ bE bwE
  go_upto_region 13 with fail
  simp only [HWF.out]
  clear HWF gx fx
  have r0 := NF.out.1.2.1.cell
  have r1 := NF.out.1.2.2.2.cell
  go_wp2_with fail
  clear r0 r1
  refine (HRW2.out _ NF.out.1.1).mono ?_
  rintro e wG ⟨v1, v2, v3, v4, rfl, hV, bG⟩
  obtain ⟨wH, hwH⟩ : ∃ wH, ((wG.setCell ⟨yb, 0, none⟩ (.int .i64 wBk.1)).setCell ⟨yb, 1, none⟩ (.slice v1 wBk.2.1.length v2)).setCell ⟨yb, 2, none⟩ (.slice v3 wBk.2.2.length v4) = wH := ⟨_, rfl⟩
  have bwG : Hid (Below w.heap.size w wG) := B.next NF.out.1.1 bG NF.out.1.1.size
  have NH : Hid ((Below w.heap.size w wH ∧ Blk wH w.heap.size #[.int .i64 last, .slice sa stays.length sc, .slice ja jobs.length jc] 25 ∧ Blk wH (w.heap.size + 1) #[.int .i64 ci, .int .i64 ca, .int .i64 cb, .int .i64 cc] 30 ∧ Blk wH (w.heap.size + 1 + 1) #[.int .i64 t, .bool fe] 32) ∧ Blk wH xb #[.int .i64 wBk.1, .slice z1 wBk.2.1.length z2, .slice z3 wBk.2.2.length z4] 25 ∧ Blk wH yb #[.int .i64 wBk.1, .slice v1 wBk.2.1.length v2, .slice v3 wBk.2.2.length v4] 25 ∧ Book.At ⟨wBk.1, z1, z2, z3, z4, wBk.2.1, wBk.2.2⟩ wH ∧ Book.At ⟨wBk.1, v1, v2, v3, v4, wBk.2.1, wBk.2.2⟩ wH) := by
    show _ ∧ _ ∧ _ ∧ _ ∧ _
    rw [← hwH]
    have hx := hlx.out
    have kx := NF.out.2.1.below bG
    have ky := NF.out.2.2.1.below bG
    refine ⟨⟨((bwG.out.setCell (p := ⟨yb, 0, none⟩) (by show w.heap.size ≤ yb; omega) _).setCell (p := ⟨yb, 1, none⟩) (by show w.heap.size ≤ yb; omega) _).setCell (p := ⟨yb, 2, none⟩) (by show w.heap.size ≤ yb; omega) _, ?_, ?_, ?_⟩, ?_, ?_, ?_, ?_⟩
    · exact (((NF.out.1.2.1.below bG).other (by omega) _ _).other (by omega) _ _).other (by omega) _ _
    · exact (((NF.out.1.2.2.1.below bG).other (by omega) _ _).other (by omega) _ _).other (by omega) _ _
    · exact (((NF.out.1.2.2.2.below bG).other (by omega) _ _).other (by omega) _ _).other (by omega) _ _
    · exact ((kx.other (by omega) _ _).other (by omega) _ _).other (by omega) _ _
    · exact ((ky.set 0 _).set 1 _).set 2 _
    · exact at_set3 (NF.out.2.2.2.below bG) ky
    · exact at_set3 hV ky
  have gx := (NF.out.2.2.1.below bG).cell
  have fx := (NF.out.2.2.1.below bG).free
  have HWH : Hid (((wG.setCell ⟨yb, 0, none⟩ (.int .i64 wBk.1)).setCell ⟨yb, 1, none⟩ (.slice v1 wBk.2.1.length v2)).setCell ⟨yb, 2, none⟩ (.slice v3 wBk.2.2.length v4) = wH) := hwH
  clear hwH NF hV bG bwG HRW2
  go_upto_region 14 with fail
  simp only [HWH.out]
  clear HWH gx fx hlx
  have HS : Hid (∀ W, Below wH.heap.size wH W → W.cell? ⟨w.heap.size, 0, none⟩ = some (.int .i64 last) ∧ W.cell? ⟨w.heap.size, 1, none⟩ = some (.slice sa stays.length sc) ∧ W.cell? ⟨w.heap.size, 2, none⟩ = some (.slice ja jobs.length jc) ∧ W.cell? ⟨w.heap.size + 1 + 1, 0, none⟩ = some (.int .i64 t) ∧ W.cell? ⟨w.heap.size + 1 + 1, 1, none⟩ = some (.bool fe) ∧ W.cell? ⟨xb, 0, none⟩ = some (.int .i64 wBk.1) ∧ W.cell? ⟨xb, 1, none⟩ = some (.slice z1 wBk.2.1.length z2) ∧ W.cell? ⟨xb, 2, none⟩ = some (.slice z3 wBk.2.2.length z4) ∧ W.cell? ⟨yb, 0, none⟩ = some (.int .i64 wBk.1) ∧ W.cell? ⟨yb, 1, none⟩ = some (.slice v1 wBk.2.1.length v2) ∧ W.cell? ⟨yb, 2, none⟩ = some (.slice v3 wBk.2.2.length v4)) := fun W h => ⟨(NH.out.1.2.1.below h).cell 0, (NH.out.1.2.1.below h).cell 1, (NH.out.1.2.1.below h).cell 2, (NH.out.1.2.2.2.below h).cell 0, (NH.out.1.2.2.2.below h).cell 1, (NH.out.2.1.below h).cell 0, (NH.out.2.1.below h).cell 1, (NH.out.2.1.below h).cell 2, (NH.out.2.2.1.below h).cell 0, (NH.out.2.2.1.below h).cell 1, (NH.out.2.2.1.below h).cell 2⟩
  have D0 : Hid (Below wH.heap.size wH wH.drew) := (Below.refl _ _).drew
  have SB1 : Hid (∀ wx, Below wH.heap.size wH wx → Calls Try.prog 19 #[.agg #[.int .i64 wBk.1, .slice z1 wBk.2.1.length z2, .slice z3 wBk.2.2.length z4], .agg #[.int .i64 wBk.1, .slice v1 wBk.2.1.length v2, .slice v3 wBk.2.2.length v4]] wx fun e w' => e = .returned (.bool true) ∧ Below wx.heap.size wx w') := fun wx h => sameBook_any wBk.1 wBk.2.1 wBk.2.2 z1 z3 v1 v3 z2 z4 v2 v4 wx (NH.out.2.2.2.1.below h) (NH.out.2.2.2.2.below h)
  have HDN2 := HDN.out HOK.out
  have HRD2 := HRD.out HOK.out
  generalize doneStays t (fe || gone) stays = S2 at HDN2 HRD2
  generalize doneJobs t fe (fe || gone) jobs = J2 at HDN2 HRD2
  have DN : Hid (∀ wx, Below wH.heap.size wH wx → Calls Try.prog 22 #[.agg #[.int .i64 last, .slice sa stays.length sc, .slice ja jobs.length jc], .agg #[.int .i64 t, .bool fe], .bool gone] wx fun e w' => ∃ d1 d2 d3 d4, e = .returned (.agg #[.int .i64 last, .slice d1 S2.length d2, .slice d3 J2.length d4]) ∧ Book.At ⟨last, d1, d2, d3, d4, S2, J2⟩ w' ∧ Below wH.heap.size wH w') := fun wx h => (HDN2 wx (B.next NH.out.1.1 h NH.out.1.1.size)).mono (by
    rintro e w' ⟨vs, vj, rfl, ho, hb'⟩
    obtain ⟨a1, c1, rfl, r1⟩ := ho.s.rows
    obtain ⟨a2, c2, rfl, r2⟩ := ho.j.rows
    exact ⟨a1, c1, a2, c2, rfl, ⟨r1, r2⟩, B.next h hb' h.size⟩)
  have RD : Hid (∀ d1 d2 d3 d4 wx, Book.At ⟨last, d1, d2, d3, d4, S2, J2⟩ wx → Below wH.heap.size wH wx → Calls Try.prog 23 #[.agg #[.int .i64 last, .slice sa stays.length sc, .slice ja jobs.length jc], .agg #[.int .i64 t, .bool fe], .bool gone] wx fun e w' => ∃ e1 e2 e3 e4, e = .returned (.agg #[.int .i64 last, .slice e1 S2.length e2, .slice e3 J2.length e4]) ∧ (Book.At ⟨last, d1, d2, d3, d4, S2, J2⟩ w' ∧ Book.At ⟨last, e1, e2, e3, e4, S2, J2⟩ w') ∧ Below wH.heap.size wH w') := fun d1 d2 d3 d4 wx hd h => (HRD2 wx (B.next NH.out.1.1 h NH.out.1.1.size)).mono (by
    rintro e w' ⟨vs, vj, rfl, ho, hb'⟩
    obtain ⟨a1, c1, rfl, r1⟩ := ho.s.rows
    obtain ⟨a2, c2, rfl, r2⟩ := ho.j.rows
    exact ⟨a1, c1, a2, c2, rfl, ⟨hd.below hb', r1, r2⟩, B.next h hb' h.size⟩)
  have FIN : Hid (∀ W, Below wH.heap.size wH W → Below w.heap.size w W) := fun W h => B.next NH.out.1.1 h NH.out.1.1.size
  clear HDN HRD HDN2 HRD2 HOK NH
  go_region_held3 (fun W => W.cell? ⟨w.heap.size, 0, none⟩ = some (.int .i64 last) ∧ W.cell? ⟨w.heap.size, 1, none⟩ = some (.slice sa stays.length sc) ∧ W.cell? ⟨w.heap.size, 2, none⟩ = some (.slice ja jobs.length jc) ∧ W.cell? ⟨w.heap.size + 1 + 1, 0, none⟩ = some (.int .i64 t) ∧ W.cell? ⟨w.heap.size + 1 + 1, 1, none⟩ = some (.bool fe) ∧ W.cell? ⟨xb, 0, none⟩ = some (.int .i64 wBk.1) ∧ W.cell? ⟨xb, 1, none⟩ = some (.slice z1 wBk.2.1.length z2) ∧ W.cell? ⟨xb, 2, none⟩ = some (.slice z3 wBk.2.2.length z4) ∧ W.cell? ⟨yb, 0, none⟩ = some (.int .i64 wBk.1) ∧ W.cell? ⟨yb, 1, none⟩ = some (.slice v1 wBk.2.1.length v2) ∧ W.cell? ⟨yb, 2, none⟩ = some (.slice v3 wBk.2.2.length v4)) (first | with_reducible exact HS.out _ D0.out | with_reducible exact HS.out _ BD.out | with_reducible exact HS.out _ BC.out | with_reducible exact HS.out _ BB.out | with_reducible exact HS.out _ BA.out | go_keep)
    (first
      | (go_at_call 18; refine (same_any wN _ HWN.out).mono ?_; rintro e wx ⟨rfl, rfl⟩)
      | (go_at_call 22; refine (DN.out _ BA.out).mono ?_; rintro e wb ⟨d1, d2, d3, d4, rfl, hAt, bb⟩; have BB : Hid (Below wH.heap.size wH wb) := bb; have AD : Hid (Book.At ⟨last, d1, d2, d3, d4, S2, J2⟩ wb) := hAt; clear bb hAt)
      | (go_at_call 23; refine (RD.out d1 d2 d3 d4 _ AD.out BB.out).mono ?_; rintro e wc ⟨e1, e2, e3, e4, rfl, hAt, bb⟩; have BC : Hid (Below wH.heap.size wH wc) := bb; have AE : Hid (Book.At ⟨last, d1, d2, d3, d4, S2, J2⟩ wc ∧ Book.At ⟨last, e1, e2, e3, e4, S2, J2⟩ wc) := hAt; clear bb hAt)
      | (go_at_call 19; refine (sameBook_any last S2 J2 d1 d3 e1 e3 d2 d4 e2 e4 _ AE.out.1 AE.out.2).mono ?_; rintro e wd ⟨rfl, bb⟩; have BD : Hid (Below wH.heap.size wH wd) := B.next BC.out bb BC.out.size; clear bb)
      | (go_at_call 19; refine (SB1.out _ D0.out).mono ?_; rintro e wa ⟨rfl, ba⟩; have BA : Hid (Below wH.heap.size wH wa) := B.next D0.out ba D0.out.size; clear ba))
  go_wp2
  go_returns
  exact ⟨rfl, FIN.out _ BD.out⟩

end Bk
end Go.Proofs.Ytihapeagjikiaaa
