/- The document's Parked (E4), in a right book; contract for the laws. -/
import Derived.Test.YtihapeagjikiaaaRPicked
import Derived.Test.YtihapeagjikiaaaRStayOf
import Derived.Test.YtihapeagjikiaaaChains
import Derived.Test.YtihapeagjikiaaaTopParkA
namespace Go.Proofs.Ytihapeagjikiaaa
open Go.Shelf Go.Lib Go.ChangeShapes Go.WideShapes Go.ChangeAt Go.RowKit
set_option maxRecDepth 100000
set_option linter.unusedSimpArgs false
set_option linter.unusedVariables false

namespace Bk
theorem isSome_any {α : Type} (p : α → Bool) : ∀ l : List α, (l.find? p).isSome = l.any p
  | [] => rfl
  | x :: l => by
    cases h : p x
    · simp [List.find?, h, isSome_any p l]
    · simp [List.find?, h]
/-- In a right book the document finds a car's stay where the program does. -/
theorem stayO_of {last : Int} {n : Nat} (b : Book) (h : StaysOK last n b.stays) (c : Int) : (stayO b 0 c).isSome = decide (0 ≤ ofI b c) := by
  have h1 : (stayO b 0 c).isSome = b.stays.any (fun s => s.id == c) := by
    unfold stayO
    rw [isSome_any]
    refine any_same fun s hs => ?_
    have := (h.each s hs).2.2.1
    simp only [decide_eq_true_eq] at this
    unfold stayIs
    have e : (s.t == 0) = false := by
      have : s.t ≠ 0 := by omega
      simpa using this
    rw [e]
    simp
  rw [h1]
  have := stayIdx_nonneg (fun s : Stay => s.id == c) b.stays
  rw [← this]
  rfl
/-- What Parked answers. -/
def RParkedPost (b : Book) (f : Nat → Int × Int × Int) (len : Nat) (ci ca cb cc : Int) (w : World) (e : Ending) (w' : World) : Prop :=
  (parkN b f len ci ca cb cc ≠ 0 ∧ e = .returned (.tuple #[.agg #[.int .i64 0, .slice none 0 0, .slice none 0 0], .int .i64 0, .int .i64 (parkN b f len ci ca cb cc)]) ∧ Below w.heap.size w w') ∨
  (parkN b f len ci ca cb cc = 0 ∧ ∃ po vs vj, pickO b f ca cb cc len = some po ∧ e = .returned (.tuple #[.agg #[.int .i64 (b.last + 1), vs, vj], .int .i64 (b.last + 1), .int .i64 0]) ∧ OwnBook w' w.heap.size vs vj (b.stays ++ [⟨b.last + 1, ci, ca, cb, cc, po.1, po.2.1, po.2.2⟩]) (b.jobs ++ [⟨b.last + 1, false⟩]) ∧ Below w.heap.size w w')

set_option maxHeartbeats 4000000 in
theorem rparked_any (b : Book) (lv : Value) (len : Nat) (f : Nat → Int × Int × Int) (ci ca cb cc : Int) (w : World) (hb : b.At w) (hs : SizesAt w lv len f) (hl1 : 1 ≤ len) (hl4 : len ≤ 4) (hok : StaysOK b.last len b.stays) (hst : b.stays.length ≤ 16) (hjb : b.jobs.length ≤ 8) (h0 : 0 ≤ b.last) (h9 : b.last ≤ 999999) :
    Calls Try.prog 17 #[b.val, lv, .agg #[.int .i64 ci, .int .i64 ca, .int .i64 cb, .int .i64 cc]] w (RParkedPost b f len ci ca cb cc w) := by
  obtain ⟨last, sa, sc, ja, jc, stays, jobs⟩ := b
  have HSO : Hid ((stayO ⟨last, sa, sc, ja, jc, stays, jobs⟩ 0 ci).isSome = decide (0 ≤ ofI ⟨last, sa, sc, ja, jc, stays, jobs⟩ ci)) := stayO_of ⟨last, sa, sc, ja, jc, stays, jobs⟩ hok ci
  have HST : Hid (∀ wx, Below w.heap.size w wx → Calls Try.prog 62 #[.agg #[.int .i64 last, .slice sa stays.length sc, .slice ja jobs.length jc], .int .i64 0, .int .i64 ci] wx (StayOfPost ⟨last, sa, sc, ja, jc, stays, jobs⟩ 0 ci wx)) := fun wx h => rstayOf_any ⟨last, sa, sc, ja, jc, stays, jobs⟩ 0 ci wx (hb.below h)
  have HPK : Hid (∀ wx, Below w.heap.size w wx → Calls Try.prog 15 #[.agg #[.int .i64 last, .slice sa stays.length sc, .slice ja jobs.length jc], lv, .agg #[.int .i64 ci, .int .i64 ca, .int .i64 cb, .int .i64 cc]] wx fun e w' => e = .returned (pickV (pickO ⟨last, sa, sc, ja, jc, stays, jobs⟩ f ca cb cc len)) ∧ Below wx.heap.size wx w') := fun wx h => rpicked_any ⟨last, sa, sc, ja, jc, stays, jobs⟩ lv len f ci ca cb cc wx (hb.below h) (hs.below h) hl1 hl4 last hok
  have HRS : Hid (∀ wx, Below w.heap.size w wx → RowsAt wx sa sc 8 Stay.enc stays) := fun wx h => hb.1.below h
  have HRJ : Hid (∀ wx, Below w.heap.size w wx → RowsAt wx ja jc 2 Job.enc jobs) := fun wx h => hb.2.below h
  have hm1 : sc ≤ maxLen := hb.1.2.1
  have hn1 : stays.length ≤ sc := hb.1.1
  have hm3 : jc ≤ maxLen := hb.2.2.1
  have hn3 : jobs.length ≤ jc := hb.2.1
  unfold maxLen at hm1 hm3
  simp only [Book.val] at *
  have KN : Hid (parkN ⟨last, sa, sc, ja, jc, stays, jobs⟩ f len ci ca cb cc = if carN ci ca cb cc ≠ 0 then carN ci ca cb cc else if 0 ≤ ofI ⟨last, sa, sc, ja, jc, stays, jobs⟩ ci then 6 else if (pickO ⟨last, sa, sc, ja, jc, stays, jobs⟩ f ca cb cc len).isSome = false ∨ 999999 ≤ last ∨ 8 ≤ jobs.length then 8 else 0) := rfl
  have HB : Hid (∀ k, (parkN ⟨last, sa, sc, ja, jc, stays, jobs⟩ f len ci ca cb cc = k ∧ k ≠ 0) → ∀ w', Below w.heap.size w w' → RParkedPost ⟨last, sa, sc, ja, jc, stays, jobs⟩ f len ci ca cb cc w (.returned (.tuple #[.agg #[.int .i64 0, .slice none 0 0, .slice none 0 0], .int .i64 0, .int .i64 k])) w') := fun k hk w' h => Or.inl ⟨by rw [hk.1]; exact hk.2, by rw [hk.1], h⟩
  have HG : Hid (parkN ⟨last, sa, sc, ja, jc, stays, jobs⟩ f len ci ca cb cc = 0 → ∀ po vs vj w', pickO ⟨last, sa, sc, ja, jc, stays, jobs⟩ f ca cb cc len = some po → OwnBook w' w.heap.size vs vj (stays ++ [⟨last + 1, ci, ca, cb, cc, po.1, po.2.1, po.2.2⟩]) (jobs ++ [⟨last + 1, false⟩]) → Below w.heap.size w w' → RParkedPost ⟨last, sa, sc, ja, jc, stays, jobs⟩ f len ci ca cb cc w (.returned (.tuple #[.agg #[.int .i64 (last + 1), vs, vj], .int .i64 (last + 1), .int .i64 0])) w') := fun h po vs vj w' h1 h2 h3 => Or.inr ⟨h, po, vs, vj, h1, rfl, h2, h3⟩
  generalize RParkedPost ⟨last, sa, sc, ja, jc, stays, jobs⟩ f len ci ca cb cc w = PP at *
  generalize parkN ⟨last, sa, sc, ja, jc, stays, jobs⟩ f len ci ca cb cc = kk at *
  obtain ⟨w0, hw0⟩ : ∃ w0, ((w.alloc (.cells #[.int .i64 last, .slice sa stays.length sc, .slice ja jobs.length jc] 25)).alloc (.cells #[.int .i64 ci, .int .i64 ca, .int .i64 cb, .int .i64 cc] 30)).alloc (.cells #[.int .i64 0, .slice none 0 0, .slice none 0 0] 25) = w0 := ⟨_, rfl⟩
  have N0 : Hid (Below w.heap.size w w0 ∧ Blk w0 w.heap.size #[.int .i64 last, .slice sa stays.length sc, .slice ja jobs.length jc] 25 ∧ Blk w0 (w.heap.size + 1) #[.int .i64 ci, .int .i64 ca, .int .i64 cb, .int .i64 cc] 30 ∧ Blk w0 (w.heap.size + 1 + 1) #[.int .i64 0, .slice none 0 0, .slice none 0 0] 25) := by
    show _ ∧ _ ∧ _ ∧ _
    rw [← hw0]
    exact ⟨((B.new1 _ _).alloc (by simp) _).alloc (by simp; omega) _, ((Blk.new _ _ _).old _).old _, (Blk.new1 (by simp) _ _).old _, Blk.new1 (by simp) _ _⟩
  have r1 := N0.out.2.2.1.cell
  clear hb hs hok
  go_enter Try.func17, Try.ntmps17
  go_wp2_with fail
  clear hw0 r1
  refine (rcar_any ci ca cb cc _).mono ?_
  rintro e w1 ⟨rfl, b1⟩
  have N1 : Hid (Below w.heap.size w w1 ∧ Blk w1 w.heap.size #[.int .i64 last, .slice sa stays.length sc, .slice ja jobs.length jc] 25 ∧ Blk w1 (w.heap.size + 1) #[.int .i64 ci, .int .i64 ca, .int .i64 cb, .int .i64 cc] 30 ∧ Blk w1 (w.heap.size + 1 + 1) #[.int .i64 0, .slice none 0 0, .slice none 0 0] 25) := ⟨B.next N0.out.1 b1 N0.out.1.size, N0.out.2.1.below b1, N0.out.2.2.1.below b1, N0.out.2.2.2.below b1⟩
  clear b1 N0
  by_cases hc : carN ci ca cb cc = 0
  case neg =>
    have HK : Hid (kk = carN ci ca cb cc ∧ carN ci ca cb cc ≠ 0) := ⟨by rw [KN.out, if_pos hc], hc⟩
    have hp := carN_pos hc
    generalize carN ci ca cb cc = c0 at *
    clear KN hc
    have gg := N1.out.2.2.2.cell
    have ff := N1.out.2.2.2.free
    go_wp2
    (try simp only [Exit.inBlock, Exit.then])
    refine bodyPost_ret (v := .tuple #[.agg #[.int .i64 0, .slice none 0 0, .slice none 0 0], .int .i64 0, .int .i64 c0]) (by simp [results, Try.results17, go_sem, set3_0 gg, set3_1 gg, set3_2 gg]; try rfl) rfl ?_
    exact HB.out c0 HK.out _ (((N1.out.1.setCell (p := ⟨w.heap.size + 1 + 1, 0, none⟩) (by show w.heap.size ≤ w.heap.size + 1 + 1; omega) _).setCell (p := ⟨w.heap.size + 1 + 1, 1, none⟩) (by show w.heap.size ≤ w.heap.size + 1 + 1; omega) _).setCell (p := ⟨w.heap.size + 1 + 1, 2, none⟩) (by show w.heap.size ≤ w.heap.size + 1 + 1; omega) _)
  rw [hc]
  have KN2 : Hid (kk = if 0 ≤ ofI ⟨last, sa, sc, ja, jc, stays, jobs⟩ ci then 6 else if (pickO ⟨last, sa, sc, ja, jc, stays, jobs⟩ f ca cb cc len).isSome = false ∨ 999999 ≤ last ∨ 8 ≤ jobs.length then 8 else 0) := by show _ = _; rw [KN.out, if_neg (by simp [hc])]
  clear hc KN
  have r0 := N1.out.2.1.cell
  have r1 := N1.out.2.2.1.cell
  go_wp2_with fail
  clear r0 r1
  refine (HST.out _ N1.out.1).mono ?_
  rintro e w2 ⟨rfl, b2⟩
  have N2 : Hid (Below w.heap.size w w2 ∧ Blk w2 w.heap.size #[.int .i64 last, .slice sa stays.length sc, .slice ja jobs.length jc] 25 ∧ Blk w2 (w.heap.size + 1) #[.int .i64 ci, .int .i64 ca, .int .i64 cb, .int .i64 cc] 30 ∧ Blk w2 (w.heap.size + 1 + 1) #[.int .i64 0, .slice none 0 0, .slice none 0 0] 25) := ⟨B.next N1.out.1 b2 N1.out.1.size, N1.out.2.1.below b2, N1.out.2.2.1.below b2, N1.out.2.2.2.below b2⟩
  clear b2 N1 HST
  have KO := HSO.out
  obtain ⟨o, ho⟩ : ∃ o, stayO ⟨last, sa, sc, ja, jc, stays, jobs⟩ 0 ci = o := ⟨_, rfl⟩
  rw [ho] at KO ⊢
  clear ho HSO
  cases o with
  | some sv =>
    have HK : Hid (kk = 6 ∧ (6 : Int) ≠ 0) := ⟨by
      rw [KN2.out, if_pos]
      simpa using KO.symm, by decide⟩
    clear KO KN2
    obtain ⟨w3, hw3⟩ : ∃ w3, w2.alloc (.cells #[.int .i64 sv.t, .int .i64 sv.id, .int .i64 sv.a, .int .i64 sv.b, .int .i64 sv.c, .int .i64 sv.x, .int .i64 sv.y, .int .i64 sv.z] 62) = w3 := ⟨_, rfl⟩
    have N3 : Hid (Below w.heap.size w w3 ∧ Blk w3 w.heap.size #[.int .i64 last, .slice sa stays.length sc, .slice ja jobs.length jc] 25 ∧ Blk w3 (w.heap.size + 1) #[.int .i64 ci, .int .i64 ca, .int .i64 cb, .int .i64 cc] 30 ∧ Blk w3 (w.heap.size + 1 + 1) #[.int .i64 0, .slice none 0 0, .slice none 0 0] 25) := by
      show _ ∧ _ ∧ _ ∧ _
      rw [← hw3]
      have b3 := B.new1 w2 (.cells #[.int .i64 sv.t, .int .i64 sv.id, .int .i64 sv.a, .int .i64 sv.b, .int .i64 sv.c, .int .i64 sv.x, .int .i64 sv.y, .int .i64 sv.z] 62)
      exact ⟨B.next N2.out.1 b3 N2.out.1.size, N2.out.2.1.below b3, N2.out.2.2.1.below b3, N2.out.2.2.2.below b3⟩
    have HW3 : Hid (w2.alloc (.cells #[.int .i64 sv.t, .int .i64 sv.id, .int .i64 sv.a, .int .i64 sv.b, .int .i64 sv.c, .int .i64 sv.x, .int .i64 sv.y, .int .i64 sv.z] 62) = w3) := hw3
    clear hw3 N2
    simp only [stayA, Option.isSome]
    go_upto_if 28 with fail
    simp only [HW3.out]
    clear HW3
    have gg := N3.out.2.2.2.cell
    have ff := N3.out.2.2.2.free
    go_wp2
    (try simp only [Exit.inBlock, Exit.then])
    refine bodyPost_ret (v := .tuple #[.agg #[.int .i64 0, .slice none 0 0, .slice none 0 0], .int .i64 0, .int .i64 6]) (by simp [results, Try.results17, go_sem, set3_0 gg, set3_1 gg, set3_2 gg]; try rfl) rfl ?_
    exact HB.out 6 HK.out _ (((N3.out.1.setCell (p := ⟨w.heap.size + 1 + 1, 0, none⟩) (by show w.heap.size ≤ w.heap.size + 1 + 1; omega) _).setCell (p := ⟨w.heap.size + 1 + 1, 1, none⟩) (by show w.heap.size ≤ w.heap.size + 1 + 1; omega) _).setCell (p := ⟨w.heap.size + 1 + 1, 2, none⟩) (by show w.heap.size ≤ w.heap.size + 1 + 1; omega) _)
  | none =>
    have KN3 : Hid (kk = if (pickO ⟨last, sa, sc, ja, jc, stays, jobs⟩ f ca cb cc len).isSome = false ∨ 999999 ≤ last ∨ 8 ≤ jobs.length then 8 else 0) := by
      show _ = _
      rw [KN2.out, if_neg]
      intro h
      simp [h] at KO
    clear KO KN2
    obtain ⟨w3, hw3⟩ : ∃ w3, w2.alloc (.cells #[.int .i64 0, .int .i64 0, .int .i64 0, .int .i64 0, .int .i64 0, .int .i64 0, .int .i64 0, .int .i64 0] 62) = w3 := ⟨_, rfl⟩
    have N3 : Hid (Below w.heap.size w w3 ∧ Blk w3 w.heap.size #[.int .i64 last, .slice sa stays.length sc, .slice ja jobs.length jc] 25 ∧ Blk w3 (w.heap.size + 1) #[.int .i64 ci, .int .i64 ca, .int .i64 cb, .int .i64 cc] 30 ∧ Blk w3 (w.heap.size + 1 + 1) #[.int .i64 0, .slice none 0 0, .slice none 0 0] 25) := by
      show _ ∧ _ ∧ _ ∧ _
      rw [← hw3]
      have b3 := B.new1 w2 (.cells #[.int .i64 0, .int .i64 0, .int .i64 0, .int .i64 0, .int .i64 0, .int .i64 0, .int .i64 0, .int .i64 0] 62)
      exact ⟨B.next N2.out.1 b3 N2.out.1.size, N2.out.2.1.below b3, N2.out.2.2.1.below b3, N2.out.2.2.2.below b3⟩
    have HW3 : Hid (w2.alloc (.cells #[.int .i64 0, .int .i64 0, .int .i64 0, .int .i64 0, .int .i64 0, .int .i64 0, .int .i64 0, .int .i64 0] 62) = w3) := hw3
    clear hw3 N2
    simp only [stayA, Option.isSome]
    go_upto_if 28 with fail
    simp only [HW3.out]
    clear HW3
    generalize w2.heap.size = sbk at *
    have r0 := N3.out.2.1.cell
    have r1 := N3.out.2.2.1.cell
    go_wp2_with fail
    clear r0 r1
    refine (HPK.out _ N3.out.1).mono ?_
    rintro e w4 ⟨rfl, b4⟩
    have N4 : Hid (Below w.heap.size w w4 ∧ Blk w4 w.heap.size #[.int .i64 last, .slice sa stays.length sc, .slice ja jobs.length jc] 25 ∧ Blk w4 (w.heap.size + 1) #[.int .i64 ci, .int .i64 ca, .int .i64 cb, .int .i64 cc] 30 ∧ Blk w4 (w.heap.size + 1 + 1) #[.int .i64 0, .slice none 0 0, .slice none 0 0] 25) := ⟨B.next N3.out.1 b4 N3.out.1.size, N3.out.2.1.below b4, N3.out.2.2.1.below b4, N3.out.2.2.2.below b4⟩
    clear b4 N3 HPK
    obtain ⟨o, ho⟩ : ∃ o, pickO ⟨last, sa, sc, ja, jc, stays, jobs⟩ f ca cb cc len = o := ⟨_, rfl⟩
    rw [ho] at KN3 HG ⊢
    clear ho
    cases o with
    | none =>
      have HK : Hid (kk = 8 ∧ (8 : Int) ≠ 0) := ⟨by rw [KN3.out]; simp, by decide⟩
      obtain ⟨w5, hw5⟩ : ∃ w5, w4.alloc (.cells #[.int .i64 0, .int .i64 0, .int .i64 0] 38) = w5 := ⟨_, rfl⟩
      have N5 : Hid (Below w.heap.size w w5 ∧ Blk w5 w.heap.size #[.int .i64 last, .slice sa stays.length sc, .slice ja jobs.length jc] 25 ∧ Blk w5 (w.heap.size + 1) #[.int .i64 ci, .int .i64 ca, .int .i64 cb, .int .i64 cc] 30 ∧ Blk w5 (w.heap.size + 1 + 1) #[.int .i64 0, .slice none 0 0, .slice none 0 0] 25) := by
        show _ ∧ _ ∧ _ ∧ _
        rw [← hw5]
        have b5 := B.new1 w4 (.cells #[.int .i64 0, .int .i64 0, .int .i64 0] 38)
        exact ⟨B.next N4.out.1 b5 N4.out.1.size, N4.out.2.1.below b5, N4.out.2.2.1.below b5, N4.out.2.2.2.below b5⟩
      have HW5 : Hid (w4.alloc (.cells #[.int .i64 0, .int .i64 0, .int .i64 0] 38) = w5) := hw5
      clear hw5 N4 HG KN3
      simp only [pickV]
      go_upto_if 49 with fail
      simp only [HW5.out]
      clear HW5
      have gg := N5.out.2.2.2.cell
      have ff := N5.out.2.2.2.free
      go_wp2
      (try simp only [Exit.inBlock, Exit.then])
      refine bodyPost_ret (v := .tuple #[.agg #[.int .i64 0, .slice none 0 0, .slice none 0 0], .int .i64 0, .int .i64 8]) (by simp [results, Try.results17, go_sem, set3_0 gg, set3_1 gg, set3_2 gg]; try rfl) rfl ?_
      exact HB.out 8 HK.out _ (((N5.out.1.setCell (p := ⟨w.heap.size + 1 + 1, 0, none⟩) (by show w.heap.size ≤ w.heap.size + 1 + 1; omega) _).setCell (p := ⟨w.heap.size + 1 + 1, 1, none⟩) (by show w.heap.size ≤ w.heap.size + 1 + 1; omega) _).setCell (p := ⟨w.heap.size + 1 + 1, 2, none⟩) (by show w.heap.size ≤ w.heap.size + 1 + 1; omega) _)
    | some po =>
      obtain ⟨px, py, pz⟩ := po
      obtain ⟨w5, hw5⟩ : ∃ w5, w4.alloc (.cells #[.int .i64 px, .int .i64 py, .int .i64 pz] 38) = w5 := ⟨_, rfl⟩
      obtain ⟨pbk, hpb⟩ : ∃ pbk, w4.heap.size = pbk := ⟨_, rfl⟩
      have N5 : Hid ((Below w.heap.size w w5 ∧ Blk w5 w.heap.size #[.int .i64 last, .slice sa stays.length sc, .slice ja jobs.length jc] 25 ∧ Blk w5 (w.heap.size + 1) #[.int .i64 ci, .int .i64 ca, .int .i64 cb, .int .i64 cc] 30 ∧ Blk w5 (w.heap.size + 1 + 1) #[.int .i64 0, .slice none 0 0, .slice none 0 0] 25) ∧ Blk w5 pbk #[.int .i64 px, .int .i64 py, .int .i64 pz] 38) := by
        show _ ∧ _
        rw [← hw5]
        have b5 := B.new1 w4 (.cells #[.int .i64 px, .int .i64 py, .int .i64 pz] 38)
        exact ⟨⟨B.next N4.out.1 b5 N4.out.1.size, N4.out.2.1.below b5, N4.out.2.2.1.below b5, N4.out.2.2.2.below b5⟩, Blk.new1 hpb.symm _ _⟩
      have HW5 : Hid (w4.alloc (.cells #[.int .i64 px, .int .i64 py, .int .i64 pz] 38) = w5) := hw5
      clear hw5 N4
      simp only [pickV]
      go_upto_region 8 with fail
      simp only [HW5.out]
      (try simp only [hpb])
      clear HW5 hpb
      have r0 := N5.out.1.2.1.cell
      by_cases h99 : last = 999999
      · have HK : Hid (kk = 8 ∧ (8 : Int) ≠ 0) := ⟨by rw [KN3.out, if_pos (Or.inr (Or.inl (by omega)))], by decide⟩
        have h99b : (last == 999999) = true := by simpa using h99
        clear KN3 HG h99
        have N6 : Hid (Below w.heap.size w w5 ∧ Blk w5 w.heap.size #[.int .i64 last, .slice sa stays.length sc, .slice ja jobs.length jc] 25 ∧ Blk w5 (w.heap.size + 1) #[.int .i64 ci, .int .i64 ca, .int .i64 cb, .int .i64 cc] 30 ∧ Blk w5 (w.heap.size + 1 + 1) #[.int .i64 0, .slice none 0 0, .slice none 0 0] 25) := N5.out.1
        clear N5
        have gg := N6.out.2.2.2.cell
        have ff := N6.out.2.2.2.free
        go_wp2
        (try simp only [Exit.inBlock, Exit.then])
        refine bodyPost_ret (v := .tuple #[.agg #[.int .i64 0, .slice none 0 0, .slice none 0 0], .int .i64 0, .int .i64 8]) (by simp [results, Try.results17, go_sem, set3_0 gg, set3_1 gg, set3_2 gg]; try rfl) rfl ?_
        exact HB.out 8 HK.out _ (((N6.out.1.setCell (p := ⟨w.heap.size + 1 + 1, 0, none⟩) (by show w.heap.size ≤ w.heap.size + 1 + 1; omega) _).setCell (p := ⟨w.heap.size + 1 + 1, 1, none⟩) (by show w.heap.size ≤ w.heap.size + 1 + 1; omega) _).setCell (p := ⟨w.heap.size + 1 + 1, 2, none⟩) (by show w.heap.size ≤ w.heap.size + 1 + 1; omega) _)
      have h99b : (last == 999999) = false := by simpa using h99
      by_cases h8 : jobs.length = 8
      · have HK : Hid (kk = 8 ∧ (8 : Int) ≠ 0) := ⟨by rw [KN3.out, if_pos (Or.inr (Or.inr (by omega)))], by decide⟩
        have N6 : Hid (Below w.heap.size w w5 ∧ Blk w5 w.heap.size #[.int .i64 last, .slice sa stays.length sc, .slice ja jobs.length jc] 25 ∧ Blk w5 (w.heap.size + 1) #[.int .i64 ci, .int .i64 ca, .int .i64 cb, .int .i64 cc] 30 ∧ Blk w5 (w.heap.size + 1 + 1) #[.int .i64 0, .slice none 0 0, .slice none 0 0] 25) := N5.out.1
        rw [h8] at r0
        clear N5 KN3 HG
        have gg := N6.out.2.2.2.cell
        have ff := N6.out.2.2.2.free
        go_wp2
        (try simp only [Exit.inBlock, Exit.then])
        refine bodyPost_ret (v := .tuple #[.agg #[.int .i64 0, .slice none 0 0, .slice none 0 0], .int .i64 0, .int .i64 8]) (by simp [results, Try.results17, go_sem, set3_0 gg, set3_1 gg, set3_2 gg]; try rfl) rfl ?_
        exact HB.out 8 HK.out _ (((N6.out.1.setCell (p := ⟨w.heap.size + 1 + 1, 0, none⟩) (by show w.heap.size ≤ w.heap.size + 1 + 1; omega) _).setCell (p := ⟨w.heap.size + 1 + 1, 1, none⟩) (by show w.heap.size ≤ w.heap.size + 1 + 1; omega) _).setCell (p := ⟨w.heap.size + 1 + 1, 2, none⟩) (by show w.heap.size ≤ w.heap.size + 1 + 1; omega) _)
      have HK : Hid (kk = 0) := by
        show _ = _
        rw [KN3.out, if_neg]
        rintro (h | h | h)
        · cases h
        · omega
        · omega
      have h8z : ¬ (jobs.length : Int) = 8 := by omega
      have hwr : IntKind.i64.wrap (last + 1) = last + 1 := by rw [IntKind.wrap_i64]; omega
      clear KN3
      go_upto_region 11 with fail
      clear r0 h99b h8z
      have hNN : Hid (w.heap.size + 1 + 1 < w5.heap.size) := N5.out.1.2.2.2.lt
      have HS : Hid (∀ W, Blk W w.heap.size #[.int .i64 last, .slice sa stays.length sc, .slice ja jobs.length jc] 25 → Blk W (w.heap.size + 1) #[.int .i64 ci, .int .i64 ca, .int .i64 cb, .int .i64 cc] 30 → Blk W pbk #[.int .i64 px, .int .i64 py, .int .i64 pz] 38 → W.cell? ⟨w.heap.size, 1, none⟩ = some (.slice sa stays.length sc) ∧ W.cell? ⟨w.heap.size, 2, none⟩ = some (.slice ja jobs.length jc) ∧ W.cell? ⟨w.heap.size + 1, 0, none⟩ = some (.int .i64 ci) ∧ W.cell? ⟨w.heap.size + 1, 1, none⟩ = some (.int .i64 ca) ∧ W.cell? ⟨w.heap.size + 1, 2, none⟩ = some (.int .i64 cb) ∧ W.cell? ⟨w.heap.size + 1, 3, none⟩ = some (.int .i64 cc) ∧ W.cell? ⟨pbk, 0, none⟩ = some (.int .i64 px) ∧ W.cell? ⟨pbk, 1, none⟩ = some (.int .i64 py) ∧ W.cell? ⟨pbk, 2, none⟩ = some (.int .i64 pz)) := fun W h1 h2 h3 => ⟨h1.cell 1, h1.cell 2, h2.cell 0, h2.cell 1, h2.cell 2, h2.cell 3, h3.cell 0, h3.cell 1, h3.cell 2⟩
      have HSB : Hid (∀ W, Below w5.heap.size w5 W → W.cell? ⟨w.heap.size, 1, none⟩ = some (.slice sa stays.length sc) ∧ W.cell? ⟨w.heap.size, 2, none⟩ = some (.slice ja jobs.length jc) ∧ W.cell? ⟨w.heap.size + 1, 0, none⟩ = some (.int .i64 ci) ∧ W.cell? ⟨w.heap.size + 1, 1, none⟩ = some (.int .i64 ca) ∧ W.cell? ⟨w.heap.size + 1, 2, none⟩ = some (.int .i64 cb) ∧ W.cell? ⟨w.heap.size + 1, 3, none⟩ = some (.int .i64 cc) ∧ W.cell? ⟨pbk, 0, none⟩ = some (.int .i64 px) ∧ W.cell? ⟨pbk, 1, none⟩ = some (.int .i64 py) ∧ W.cell? ⟨pbk, 2, none⟩ = some (.int .i64 pz)) := fun W h => HS.out W (N5.out.1.2.1.below h) (N5.out.1.2.2.1.below h) (N5.out.2.below h)
      have HS0 : Hid ((fun W : World => W.cell? ⟨w.heap.size, 1, none⟩ = some (.slice sa stays.length sc) ∧ W.cell? ⟨w.heap.size, 2, none⟩ = some (.slice ja jobs.length jc) ∧ W.cell? ⟨w.heap.size + 1, 0, none⟩ = some (.int .i64 ci) ∧ W.cell? ⟨w.heap.size + 1, 1, none⟩ = some (.int .i64 ca) ∧ W.cell? ⟨w.heap.size + 1, 2, none⟩ = some (.int .i64 cb) ∧ W.cell? ⟨w.heap.size + 1, 3, none⟩ = some (.int .i64 cc) ∧ W.cell? ⟨pbk, 0, none⟩ = some (.int .i64 px) ∧ W.cell? ⟨pbk, 1, none⟩ = some (.int .i64 py) ∧ W.cell? ⟨pbk, 2, none⟩ = some (.int .i64 pz)) w5.drew) := HSB.out _ (Below.refl _ _).drew
      obtain ⟨iJ, hiJ, hzJ0, hzJ1, hzJ2⟩ := Try.infoJob
      obtain ⟨iS, hiS, hzS0, hzS1, hzS2⟩ := Try.infoStay
      have RRS : Hid (∀ W, RowsAt W sa sc 8 Stay.enc stays → ∃ v' w', AppRun Try.prog 22 22 (.slice none 0 0) (.slice sa stays.length sc) W v' w' ∧ OwnAt w' W.heap.size 62 8 Stay.enc v' stays ∧ W.grownBy w' none) := fun W h => run_rows stay_len stay_one _ Try.underlying22 hiS hzS0 hzS1 hzS2 rfl (by decide) (by decide) sa sc stays W h (by omega)
      have RRJ : Hid (∀ W, RowsAt W ja jc 2 Job.enc jobs → ∃ v' w', AppRun Try.prog 23 23 (.slice none 0 0) (.slice ja jobs.length jc) W v' w' ∧ OwnAt w' W.heap.size 32 2 Job.enc v' jobs ∧ W.grownBy w' none) := fun W h => run_rows job_len job_one _ Try.underlying23 hiJ hzJ0 hzJ1 hzJ2 rfl (by decide) (by decide) ja jc jobs W h (by omega)
      have RMS : Hid (∀ W v base B, OwnAt W base 62 8 Stay.enc v stays → Blk W B (Stay.enc (⟨last + 1, ci, ca, cb, cc, px, py, pz⟩ : Stay)).toArray 62 → base ≤ W.heap.size → ∃ v' w', AppRun Try.prog 22 22 v (.slice (some ⟨B, 0, none⟩) 1 1) W v' w' ∧ OwnAt w' base 62 8 Stay.enc v' (stays ++ [(⟨last + 1, ci, ca, cb, cc, px, py, pz⟩ : Stay)]) ∧ W.grownBy w' v.ownBlock) := fun W v base B h1 h2 h3 => run_more stay_len stay_one _ Try.underlying22 hiS hzS0 hzS1 hzS2 rfl (by decide) (by decide) v stays base B (⟨last + 1, ci, ca, cb, cc, px, py, pz⟩ : Stay) W h1 (by omega) h2 h3
      have RMJ : Hid (∀ W v base B, OwnAt W base 32 2 Job.enc v jobs → Blk W B (Job.enc (⟨last + 1, false⟩ : Job)).toArray 32 → base ≤ W.heap.size → ∃ v' w', AppRun Try.prog 23 23 v (.slice (some ⟨B, 0, none⟩) 1 1) W v' w' ∧ OwnAt w' base 32 2 Job.enc v' (jobs ++ [(⟨last + 1, false⟩ : Job)]) ∧ W.grownBy w' v.ownBlock) := fun W v base B h1 h2 h3 => run_more job_len job_one _ Try.underlying23 hiJ hzJ0 hzJ1 hzJ2 rfl (by decide) (by decide) v jobs base B (⟨last + 1, false⟩ : Job) W h1 (by omega) h2 h3
      clear hiJ hzJ0 hzJ1 hzJ2 hiS hzS0 hzS1 hzS2
      refine wp_region_held (S := fun W => W.cell? ⟨w.heap.size, 1, none⟩ = some (.slice sa stays.length sc) ∧ W.cell? ⟨w.heap.size, 2, none⟩ = some (.slice ja jobs.length jc) ∧ W.cell? ⟨w.heap.size + 1, 0, none⟩ = some (.int .i64 ci) ∧ W.cell? ⟨w.heap.size + 1, 1, none⟩ = some (.int .i64 ca) ∧ W.cell? ⟨w.heap.size + 1, 2, none⟩ = some (.int .i64 cb) ∧ W.cell? ⟨w.heap.size + 1, 3, none⟩ = some (.int .i64 cc) ∧ W.cell? ⟨pbk, 0, none⟩ = some (.int .i64 px) ∧ W.cell? ⟨pbk, 1, none⟩ = some (.int .i64 py) ∧ W.cell? ⟨pbk, 2, none⟩ = some (.int .i64 pz)) (by kernel_rfl) ?_
      refine wpAnyH_take (fuel := 21) (i := 0) (v := .int .i64 (last + 1)) rfl (by kernel_rfl) (by kernel_rfl) (by kernel_rfl) (fun _ _ _ h => h) (Or.inl ⟨by rfl, ?_⟩) HS0.out ?_
      · intro W hSw
        (try dsimp only at hSw)
        obtain ⟨y0, y1, y2, y3, y4, y5, y6, y7, y8⟩ := hSw
        go_simp
      (try simp only [Act.put, List.setIfInBounds_toArray, List.set_cons_zero, List.set_cons_succ])
      refine wpAnyH_take (fuel := 20) (i := 1) (v := .pointer (some ⟨w.heap.size, 1, none⟩)) rfl (by kernel_rfl) (by kernel_rfl) (by kernel_rfl) (fun _ _ _ h => h) (Or.inl ⟨by rfl, ?_⟩) HS0.out ?_
      · intro W hSw
        (try dsimp only at hSw)
        obtain ⟨y0, y1, y2, y3, y4, y5, y6, y7, y8⟩ := hSw
        go_simp
      (try simp only [Act.put, List.setIfInBounds_toArray, List.set_cons_zero, List.set_cons_succ])
      refine wpAnyH_take (fuel := 19) (i := 2) (v := .slice sa stays.length sc) rfl (by kernel_rfl) (by kernel_rfl) (by kernel_rfl) (fun _ _ _ h => h) (Or.inl ⟨by rfl, ?_⟩) HS0.out ?_
      · intro W hSw
        (try dsimp only at hSw)
        obtain ⟨y0, y1, y2, y3, y4, y5, y6, y7, y8⟩ := hSw
        go_simp
      (try simp only [Act.put, List.setIfInBounds_toArray, List.set_cons_zero, List.set_cons_succ])
      refine wpAnyH_take (fuel := 18) (i := 4) (v := .int .i64 (last + 1)) rfl (by kernel_rfl) (by kernel_rfl) (by kernel_rfl) (fun _ _ _ h => h) (Or.inl ⟨by rfl, ?_⟩) HS0.out ?_
      · intro W hSw
        (try dsimp only at hSw)
        obtain ⟨y0, y1, y2, y3, y4, y5, y6, y7, y8⟩ := hSw
        go_simp
      (try simp only [Act.put, List.setIfInBounds_toArray, List.set_cons_zero, List.set_cons_succ])
      refine wpAnyH_take (fuel := 17) (i := 5) (v := .agg #[.int .i64 ci, .int .i64 ca, .int .i64 cb, .int .i64 cc]) rfl (by kernel_rfl) (by kernel_rfl) (by kernel_rfl) (fun _ _ _ h => h) (Or.inl ⟨by rfl, ?_⟩) HS0.out ?_
      · intro W hSw
        (try dsimp only at hSw)
        obtain ⟨y0, y1, y2, y3, y4, y5, y6, y7, y8⟩ := hSw
        go_simp
      (try simp only [Act.put, List.setIfInBounds_toArray, List.set_cons_zero, List.set_cons_succ])
      refine wpAnyH_take (fuel := 16) (i := 6) (v := .agg #[.int .i64 px, .int .i64 py, .int .i64 pz]) rfl (by kernel_rfl) (by kernel_rfl) (by kernel_rfl) (fun _ _ _ h => h) (Or.inl ⟨by rfl, ?_⟩) HS0.out ?_
      · intro W hSw
        (try dsimp only at hSw)
        obtain ⟨y0, y1, y2, y3, y4, y5, y6, y7, y8⟩ := hSw
        go_simp
      (try simp only [Act.put, List.setIfInBounds_toArray, List.set_cons_zero, List.set_cons_succ])
      refine wpAnyH_take (fuel := 15) (i := 7) (v := .agg #[.int .i64 (last + 1), .int .i64 ci, .int .i64 ca, .int .i64 cb, .int .i64 cc, .int .i64 px, .int .i64 py, .int .i64 pz]) rfl (by kernel_rfl) (by kernel_rfl) (by kernel_rfl) (fun _ _ _ h => h) (Or.inl ⟨by rfl, ?_⟩) HS0.out ?_
      · intro W hSw
        (try dsimp only at hSw)
        obtain ⟨y0, y1, y2, y3, y4, y5, y6, y7, y8⟩ := hSw
        go_simp
      (try simp only [Act.put, List.setIfInBounds_toArray, List.set_cons_zero, List.set_cons_succ])
      refine wpAnyH_take (fuel := 14) (i := 10) (v := .pointer (some ⟨w.heap.size, 2, none⟩)) rfl (by kernel_rfl) (by kernel_rfl) (by kernel_rfl) (fun _ _ _ h => h) (Or.inl ⟨by rfl, ?_⟩) HS0.out ?_
      · intro W hSw
        (try dsimp only at hSw)
        obtain ⟨y0, y1, y2, y3, y4, y5, y6, y7, y8⟩ := hSw
        go_simp
      (try simp only [Act.put, List.setIfInBounds_toArray, List.set_cons_zero, List.set_cons_succ])
      refine wpAnyH_take (fuel := 13) (i := 11) (v := .slice ja jobs.length jc) rfl (by kernel_rfl) (by kernel_rfl) (by kernel_rfl) (fun _ _ _ h => h) (Or.inl ⟨by rfl, ?_⟩) HS0.out ?_
      · intro W hSw
        (try dsimp only at hSw)
        obtain ⟨y0, y1, y2, y3, y4, y5, y6, y7, y8⟩ := hSw
        go_simp
      (try simp only [Act.put, List.setIfInBounds_toArray, List.set_cons_zero, List.set_cons_succ])
      refine wpAnyH_take (fuel := 12) (i := 13) (v := .int .i64 (last + 1)) rfl (by kernel_rfl) (by kernel_rfl) (by kernel_rfl) (fun _ _ _ h => h) (Or.inl ⟨by rfl, ?_⟩) HS0.out ?_
      · intro W hSw
        (try dsimp only at hSw)
        obtain ⟨y0, y1, y2, y3, y4, y5, y6, y7, y8⟩ := hSw
        go_simp
      (try simp only [Act.put, List.setIfInBounds_toArray, List.set_cons_zero, List.set_cons_succ])
      refine wpAnyH_take (fuel := 11) (i := 14) (v := .agg #[.int .i64 (last + 1), .bool false]) rfl (by kernel_rfl) (by kernel_rfl) (by kernel_rfl) (fun _ _ _ h => h) (Or.inl ⟨by rfl, ?_⟩) HS0.out ?_
      · intro W hSw
        (try dsimp only at hSw)
        obtain ⟨y0, y1, y2, y3, y4, y5, y6, y7, y8⟩ := hSw
        go_simp
      (try simp only [Act.put, List.setIfInBounds_toArray, List.set_cons_zero, List.set_cons_succ])
      refine wpAnyH_take (fuel := 10) (i := 18) (v := .int .i64 (last + 1)) rfl (by kernel_rfl) (by kernel_rfl) (by kernel_rfl) (fun _ _ _ h => h) (Or.inl ⟨by rfl, ?_⟩) HS0.out ?_
      · intro W hSw
        (try dsimp only at hSw)
        obtain ⟨y0, y1, y2, y3, y4, y5, y6, y7, y8⟩ := hSw
        go_simp
      (try simp only [Act.put, List.setIfInBounds_toArray, List.set_cons_zero, List.set_cons_succ])
      refine with_act (C := fun A => wpAnyH _ _ _ _ _ _ _ A _) ?_
      intro A0 hA0
      have HPUT : Hid (∀ x1 x2 x3 x4 x5 x6 v : Value, (mk6 A0 x1 x2 x3 x4 x5 x6).put (some 57) v = mk6 A0 v x2 x3 x4 x5 x6 ∧ (mk6 A0 x1 x2 x3 x4 x5 x6).put (some 62) v = mk6 A0 x1 v x3 x4 x5 x6 ∧ (mk6 A0 x1 x2 x3 x4 x5 x6).put (some 63) v = mk6 A0 x1 x2 v x4 x5 x6 ∧ (mk6 A0 x1 x2 x3 x4 x5 x6).put (some 66) v = mk6 A0 x1 x2 x3 v x5 x6 ∧ (mk6 A0 x1 x2 x3 x4 x5 x6).put (some 69) v = mk6 A0 x1 x2 x3 x4 v x6 ∧ (mk6 A0 x1 x2 x3 x4 x5 x6).put (some 70) v = mk6 A0 x1 x2 x3 x4 x5 v) := fun x1 x2 x3 x4 x5 x6 v => mk6_put A0 x1 x2 x3 x4 x5 x6 v
      have E56 : A0.eval (.tmp 56) = .slice sa stays.length sc := by rw [hA0]; kernel_rfl
      have E61 : A0.eval (.tmp 61) = .agg (Stay.enc (⟨last + 1, ci, ca, cb, cc, px, py, pz⟩ : Stay)).toArray := by rw [hA0]; kernel_rfl
      have E65 : A0.eval (.tmp 65) = .slice ja jobs.length jc := by rw [hA0]; kernel_rfl
      have E68 : A0.eval (.tmp 68) = .agg (Job.enc (⟨last + 1, false⟩ : Job)).toArray := by rw [hA0]; kernel_rfl
      have ESZ : A0.tmps.size = 73 := by rw [hA0]; kernel_rfl
      have HEV : Hid (∀ x1 x2 x3 x4 x5 x6 : Value, (mk6 A0 x1 x2 x3 x4 x5 x6).eval (.tmp 56) = .slice sa stays.length sc ∧ (mk6 A0 x1 x2 x3 x4 x5 x6).eval (.tmp 61) = .agg (Stay.enc (⟨last + 1, ci, ca, cb, cc, px, py, pz⟩ : Stay)).toArray ∧ (mk6 A0 x1 x2 x3 x4 x5 x6).eval (.tmp 65) = .slice ja jobs.length jc ∧ (mk6 A0 x1 x2 x3 x4 x5 x6).eval (.tmp 68) = .agg (Job.enc (⟨last + 1, false⟩ : Job)).toArray ∧ (mk6 A0 x1 x2 x3 x4 x5 x6).tmps.size = 73) := fun x1 x2 x3 x4 x5 x6 =>
        ⟨(mk6_eval A0 x1 x2 x3 x4 x5 x6 (by decide) (by decide) (by decide) (by decide) (by decide) (by decide)).trans E56, (mk6_eval A0 x1 x2 x3 x4 x5 x6 (by decide) (by decide) (by decide) (by decide) (by decide) (by decide)).trans E61, (mk6_eval A0 x1 x2 x3 x4 x5 x6 (by decide) (by decide) (by decide) (by decide) (by decide) (by decide)).trans E65, (mk6_eval A0 x1 x2 x3 x4 x5 x6 (by decide) (by decide) (by decide) (by decide) (by decide) (by decide)).trans E68, (mk6_size A0 x1 x2 x3 x4 x5 x6).trans ESZ⟩
      have H00 : Hid (∃ x1 x2 x3 x4 x5 x6, A0 = mk6 A0 x1 x2 x3 x4 x5 x6) := ⟨_, _, _, _, _, _, mk6_self A0⟩
      clear E56 E61 E65 E68 ESZ
      refine two_chains 3 8 9 12 15 16 _ 4 (by kernel_rfl) (fun p q a W => ∃ x1 x2 x3 x4 x5 x6, a = mk6 A0 x1 x2 x3 x4 x5 x6 ∧ Below w5.heap.size w5 W ∧ ChAt w5.heap.size 62 8 Stay.enc stays (⟨last + 1, ci, ca, cb, cc, px, py, pz⟩ : Stay) 57 62 63 p a W ∧ ChAt w5.heap.size 32 2 Job.enc jobs (⟨last + 1, false⟩ : Job) 66 69 70 q a W) ?sA ?sB ?hend 6 0 0 (by decide) (by decide) rfl A0 _ ?h0
      case h0 =>
        obtain ⟨x1, x2, x3, x4, x5, x6, h⟩ := H00.out
        exact ⟨x1, x2, x3, x4, x5, x6, h, (Below.refl _ _).drew, trivial, trivial⟩
      case sA =>
        rintro p q x hx a W ⟨x1, x2, x3, x4, x5, x6, rfl, hB, hA, hJ⟩
        have ev := HEV.out x1 x2 x3 x4 x5 x6
        refine ChOps.step (T := 22) (src := 56) (el := 61) (ad := sa) (cap := sc) ⟨⟨_, rfl, rfl, rfl, rfl, rfl⟩, ⟨_, rfl, rfl, rfl, fun a W h => ?_⟩, ⟨_, rfl, rfl, rfl, rfl, rfl⟩, RRS.out, RMS.out⟩ hx (by rw [ev.2.2.2.2]; decide) (by decide) ev.1 ev.2.1 (HRS.out _ (B.next N5.out.1.1 hB N5.out.1.1.size)) hB.size hA (fun d v w' hd hc hB' hk => ⟨HSB.out _ (hB.trans hB'), ?_⟩)
        · have h2 : a.tmps[61]?.getD undef = .agg #[.int .i64 (last + 1), .int .i64 ci, .int .i64 ca, .int .i64 cb, .int .i64 cc, .int .i64 px, .int .i64 py, .int .i64 pz] := (show a.tmps[61]?.getD undef = a.eval (.tmp 61) from by simp [Act.eval, Array.getD_eq_getD_getElem?]).trans h
          clear h
          go_simp
          rfl
        · have hp := HPUT.out x1 x2 x3 x4 x5 x6 v
          rcases hd with rfl | rfl | rfl
          · exact ⟨v, x2, x3, x4, x5, x6, hp.1, hB.trans hB', hc, hJ.keep (eval_put_ne (by decide)) (eval_put_ne (by decide)) (eval_put_ne (by decide)) (fun n arr => hk n arr _ (by decide))⟩
          · exact ⟨x1, v, x3, x4, x5, x6, hp.2.1, hB.trans hB', hc, hJ.keep (eval_put_ne (by decide)) (eval_put_ne (by decide)) (eval_put_ne (by decide)) (fun n arr => hk n arr _ (by decide))⟩
          · exact ⟨x1, x2, v, x4, x5, x6, hp.2.2.1, hB.trans hB', hc, hJ.keep (eval_put_ne (by decide)) (eval_put_ne (by decide)) (eval_put_ne (by decide)) (fun n arr => hk n arr _ (by decide))⟩
      case sB =>
        rintro p q x hx a W ⟨x1, x2, x3, x4, x5, x6, rfl, hB, hA, hJ⟩
        have ev := HEV.out x1 x2 x3 x4 x5 x6
        refine ChOps.step (T := 23) (src := 65) (el := 68) (ad := ja) (cap := jc) ⟨⟨_, rfl, rfl, rfl, rfl, rfl⟩, ⟨_, rfl, rfl, rfl, fun a W h => ?_⟩, ⟨_, rfl, rfl, rfl, rfl, rfl⟩, RRJ.out, RMJ.out⟩ hx (by rw [ev.2.2.2.2]; decide) (by decide) ev.2.2.1 ev.2.2.2.1 (HRJ.out _ (B.next N5.out.1.1 hB N5.out.1.1.size)) hB.size hJ (fun d v w' hd hc hB' hk => ⟨HSB.out _ (hB.trans hB'), ?_⟩)
        · have h2 : a.tmps[68]?.getD undef = .agg #[.int .i64 (last + 1), .bool false] := (show a.tmps[68]?.getD undef = a.eval (.tmp 68) from by simp [Act.eval, Array.getD_eq_getD_getElem?]).trans h
          clear h
          go_simp
          rfl
        · have hp := HPUT.out x1 x2 x3 x4 x5 x6 v
          rcases hd with rfl | rfl | rfl
          · exact ⟨x1, x2, x3, v, x5, x6, hp.2.2.2.1, hB.trans hB', hA.keep (eval_put_ne (by decide)) (eval_put_ne (by decide)) (eval_put_ne (by decide)) (fun n arr => hk n arr _ (by decide)), hc⟩
          · exact ⟨x1, x2, x3, x4, v, x6, hp.2.2.2.2.1, hB.trans hB', hA.keep (eval_put_ne (by decide)) (eval_put_ne (by decide)) (eval_put_ne (by decide)) (fun n arr => hk n arr _ (by decide)), hc⟩
          · exact ⟨x1, x2, x3, x4, x5, v, hp.2.2.2.2.2, hB.trans hB', hA.keep (eval_put_ne (by decide)) (eval_put_ne (by decide)) (eval_put_ne (by decide)) (fun n arr => hk n arr _ (by decide)), hc⟩
      case hend =>
        rintro a W ⟨x1, x2, x3, x4, x5, x6, rfl, hB, hA, hJ⟩
        have hA' : OwnAt W w5.heap.size 62 8 Stay.enc ((mk6 A0 x1 x2 x3 x4 x5 x6).eval (.tmp 63)) (stays ++ [(⟨last + 1, ci, ca, cb, cc, px, py, pz⟩ : Stay)]) := hA
        have hJ' : OwnAt W w5.heap.size 32 2 Job.enc ((mk6 A0 x1 x2 x3 x4 x5 x6).eval (.tmp 70)) (jobs ++ [(⟨last + 1, false⟩ : Job)]) := hJ
        clear hA hJ
        have z3 : (mk6 A0 x1 x2 x3 x4 x5 x6).eval (.tmp 63) = x3 := by rw [← (mk6_put A0 x1 x2 x3 x4 x5 x6 x3).2.2.1]; exact eval_put_eq (by rw [(HEV.out x1 x2 x3 x4 x5 x6).2.2.2.2]; decide)
        have z6 : (mk6 A0 x1 x2 x3 x4 x5 x6).eval (.tmp 70) = x6 := by rw [← (mk6_put A0 x1 x2 x3 x4 x5 x6 x6).2.2.2.2.2]; exact eval_put_eq (by rw [(HEV.out x1 x2 x3 x4 x5 x6).2.2.2.2]; decide)
        rw [z3] at hA'
        rw [z6] at hJ'
        clear z3 z6 HPUT HEV H00 RRS RRJ RMS RMJ HRS HRJ HS0
        obtain ⟨a1, c1, h1, _⟩ := hA'.rows
        obtain ⟨a2, c2, h2, _⟩ := hJ'.rows
        obtain ⟨n1, hn1⟩ : ∃ n1, (stays ++ [(⟨last + 1, ci, ca, cb, cc, px, py, pz⟩ : Stay)]).length = n1 := ⟨_, rfl⟩
        obtain ⟨n2, hn2⟩ : ∃ n2, (jobs ++ [(⟨last + 1, false⟩ : Job)]).length = n2 := ⟨_, rfl⟩
        rw [hn1] at h1
        rw [hn2] at h2
        subst h1 h2
        clear hn1 hn2
        have gg := (N5.out.1.2.2.2.below hB).cell
        have ff := (N5.out.1.2.2.2.below hB).free
        have HSW : Hid ((fun W : World => W.cell? ⟨w.heap.size, 1, none⟩ = some (.slice sa stays.length sc) ∧ W.cell? ⟨w.heap.size, 2, none⟩ = some (.slice ja jobs.length jc) ∧ W.cell? ⟨w.heap.size + 1, 0, none⟩ = some (.int .i64 ci) ∧ W.cell? ⟨w.heap.size + 1, 1, none⟩ = some (.int .i64 ca) ∧ W.cell? ⟨w.heap.size + 1, 2, none⟩ = some (.int .i64 cb) ∧ W.cell? ⟨w.heap.size + 1, 3, none⟩ = some (.int .i64 cc) ∧ W.cell? ⟨pbk, 0, none⟩ = some (.int .i64 px) ∧ W.cell? ⟨pbk, 1, none⟩ = some (.int .i64 py) ∧ W.cell? ⟨pbk, 2, none⟩ = some (.int .i64 pz)) W) := HSB.out W hB
        have HBB : Hid (Below w.heap.size w W) := B.next N5.out.1.1 hB N5.out.1.1.size
        have HOB : Hid (∀ a b c : Value, PP (.returned (.tuple #[.agg #[.int .i64 (last + 1), .slice a1 n1 c1, .slice a2 n2 c2], .int .i64 (last + 1), .int .i64 0])) (((W.setCell ⟨w.heap.size + 1 + 1, 0, none⟩ a).setCell ⟨w.heap.size + 1 + 1, 1, none⟩ b).setCell ⟨w.heap.size + 1 + 1, 2, none⟩ c)) := fun a b c => by
          have hn := hNN.out
          refine HG.out HK.out (px, py, pz) _ _ _ rfl ⟨(((hA'.set _ hn).set _ hn).set _ hn).base (by omega), (((hJ'.set _ hn).set _ hn).set _ hn).base (by omega), fun g e e' => ?_⟩ (((HBB.out.setCell (p := ⟨w.heap.size + 1 + 1, 0, none⟩) (by show w.heap.size ≤ w.heap.size + 1 + 1; omega) _).setCell (p := ⟨w.heap.size + 1 + 1, 1, none⟩) (by show w.heap.size ≤ w.heap.size + 1 + 1; omega) _).setCell (p := ⟨w.heap.size + 1 + 1, 2, none⟩) (by show w.heap.size ≤ w.heap.size + 1 + 1; omega) _)
          rcases hJ' with ⟨h, _⟩ | ⟨g', cap, cur, h, hg, hk, _⟩
          · rw [h] at e'; cases e'
          · rw [h] at e'
            simp [Value.ownBlock] at e'
            subst e'
            exact own_ne hA' hk (by decide) e
        have HST3 : Hid (∀ a b c : Value, (fun W : World => W.cell? ⟨w.heap.size, 1, none⟩ = some (.slice sa stays.length sc) ∧ W.cell? ⟨w.heap.size, 2, none⟩ = some (.slice ja jobs.length jc) ∧ W.cell? ⟨w.heap.size + 1, 0, none⟩ = some (.int .i64 ci) ∧ W.cell? ⟨w.heap.size + 1, 1, none⟩ = some (.int .i64 ca) ∧ W.cell? ⟨w.heap.size + 1, 2, none⟩ = some (.int .i64 cb) ∧ W.cell? ⟨w.heap.size + 1, 3, none⟩ = some (.int .i64 cc) ∧ W.cell? ⟨pbk, 0, none⟩ = some (.int .i64 px) ∧ W.cell? ⟨pbk, 1, none⟩ = some (.int .i64 py) ∧ W.cell? ⟨pbk, 2, none⟩ = some (.int .i64 pz)) (((W.setCell ⟨w.heap.size + 1 + 1, 0, none⟩ a).setCell ⟨w.heap.size + 1 + 1, 1, none⟩ b).setCell ⟨w.heap.size + 1 + 1, 2, none⟩ c)) := fun a b c => by
          have k1 := N5.out.1.2.1.below hB
          have k2 := N5.out.1.2.2.1.below hB
          have k3 := N5.out.2.below hB
          have n3 : w.heap.size + 1 + 1 ≠ pbk := fun e => by
            have k4 := N5.out.1.2.2.2
            rw [e] at k4
            exact absurd (blk_type k4 N5.out.2) (by decide)
          exact HS.out _ (((k1.other (by omega) _ _).other (by omega) _ _).other (by omega) _ _) (((k2.other (by omega) _ _).other (by omega) _ _).other (by omega) _ _) (((k3.other n3 _ _).other n3 _ _).other n3 _ _)
        clear hA' hJ' HG hB N5 HS HSB
        subst hA0
        unfold mk6
        simp only [Act.put, List.setIfInBounds_toArray, List.set_cons_zero, List.set_cons_succ]
        refine wpAnyH_take (fuel := 3) (i := 17) (v := .agg #[.int .i64 (last + 1), .slice a1 n1 c1, .slice a2 n2 c2]) rfl (by kernel_rfl) (by kernel_rfl) (by kernel_rfl) (fun _ _ _ h => h) (Or.inl ⟨by rfl, ?_⟩) HSW.out ?_
        · intro W hSw
          clear hSw
          go_simp
        (try simp only [Act.put, List.setIfInBounds_toArray, List.set_cons_zero, List.set_cons_succ])
        refine wpAnyH_ready (fuel := 2) (rs := [19]) (by kernel_rfl) (by simp) ?_
        refine AllReadyH.cons rfl (fun K hK => ?_) AllReadyH.nil
        go_simp
        refine hK.out _ _ (HST3.out _ _ _) (fun HH => ?_)
        clear hK
        refine wpAnyH_take (fuel := 1) (i := 20) (v := .int .i64 (last + 1)) rfl (by kernel_rfl) (by kernel_rfl) (by kernel_rfl) (fun _ _ _ h => h) (Or.inl ⟨by rfl, ?_⟩) (HST3.out _ _ _) ?_
        · intro W hSw
          clear hSw
          go_simp
        (try simp only [Act.put, List.setIfInBounds_toArray, List.set_cons_zero, List.set_cons_succ])
        refine wpAnyH_take (fuel := 0) (i := 21) (v := .int .i64 0) rfl (by kernel_rfl) (by kernel_rfl) (by kernel_rfl) (fun _ _ _ h => h) (Or.inl ⟨by rfl, ?_⟩) (HST3.out _ _ _) ?_
        · intro W hSw
          clear hSw
          go_simp
        (try simp only [Act.put, List.setIfInBounds_toArray, List.set_cons_zero, List.set_cons_succ])
        refine wpAnyH_done (by kernel_rfl) ?_ _
        go_wp2
        (try simp only [Exit.inBlock, Exit.then])
        refine bodyPost_ret (v := .tuple #[.agg #[.int .i64 (last + 1), .slice a1 n1 c1, .slice a2 n2 c2], .int .i64 (last + 1), .int .i64 0]) (by simp [results, Try.results17, go_sem, set3_0 gg, set3_1 gg, set3_2 gg]; try rfl) rfl ?_
        exact HOB.out _ _ _

end Bk
end Go.Proofs.Ytihapeagjikiaaa
