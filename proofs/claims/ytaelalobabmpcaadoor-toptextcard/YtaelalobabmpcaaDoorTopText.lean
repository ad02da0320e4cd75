/- TopText: a book's text is read as it (E2); the walk. -/
import Derived.Test.YtaelalobabmpcaaDoorTextQ
import Derived.Test.YtaelalobabmpcaaDoorSameBook
import Derived.Test.YtaelalobabmpcaaDoorTopPickA
namespace Go.Proofs.YtaelalobabmpcaaDoor
open Go.Shelf Go.ChangeShapes Go.WideShapes Go.ChangeAt Go.RowKit
set_option maxRecDepth 100000
set_option linter.unusedSimpArgs false
set_option linter.unusedVariables false

namespace Tx
open Bk
set_option maxHeartbeats 4000000 in
theorem topText_any (b : Book) (lv : Int) (w : World) (h : b.At w) (G : Glob w) :
    Calls Tryd.prog 4 #[b.val, .int .i64 lv] w fun e w' => e = .returned (.bool true) ∧ Below w.heap.size w w' := by
  have HP : Hid (∀ w', Below w.heap.size w w' → (fun (e : Ending) (w' : World) => e = .returned (.bool true) ∧ Below w.heap.size w w') (.returned (.bool true)) w') := fun w' hb => ⟨rfl, hb⟩
  generalize (fun (e : Ending) (w' : World) => e = .returned (.bool true) ∧ Below w.heap.size w w') = PP at *
  obtain ⟨last, sa, sc, ja, jc, stays, jobs⟩ := b
  have HA : Hid (∀ W, Below w.heap.size w W → Book.At ⟨last, sa, sc, ja, jc, stays, jobs⟩ W) := fun W hb => h.below hb
  have HG : Hid (∀ W, Below w.heap.size w W → Glob W) := fun W hb => G.new hb
  obtain ⟨w0, hw0⟩ : ∃ w0, w.alloc (.cells #[.int .i64 last, .slice sa stays.length sc, .slice ja jobs.length jc] 25) = w0 := ⟨_, rfl⟩
  have N0 : Hid (Below w.heap.size w w0 ∧ Blk w0 w.heap.size #[.int .i64 last, .slice sa stays.length sc, .slice ja jobs.length jc] 25) := by
    show _ ∧ _
    rw [← hw0]
    exact ⟨B.new1 _ _, Blk.new _ _ _⟩
  have HT3 : Hid (Calls Tryd.prog 13 #[.agg #[.int .i64 3, .slice none 0 0, .slice none 0 0]] w0 fun e w' => e = .returned (.string ⟨#[51, 32, 48, 32, 48]⟩) ∧ Below w0.heap.size w0 w') := by
    have := text_any ⟨3, none, 0, none, 0, [], []⟩ w0 ⟨⟨Nat.le_refl _, Nat.zero_le _, fun h => absurd h (Nat.lt_irrefl _)⟩, ⟨Nat.le_refl _, Nat.zero_le _, fun h => absurd h (Nat.lt_irrefl _)⟩⟩ (HG.out _ N0.out.1) (by simp) (by simp) (by intro n hn; simp [numsOf] at hn; omega) (by rw [text_300]; simp)
    rw [text_300] at this
    exact this
  unfold Book.val
  clear h G
  go_enter Tryd.func4, Tryd.ntmps4
  go_wp2_with fail
  clear hw0
  refine HT3.out.mono ?_
  rintro e w1 ⟨rfl, b1⟩
  have N1 : Hid (Below w.heap.size w w1 ∧ Blk w1 w.heap.size #[.int .i64 last, .slice sa stays.length sc, .slice ja jobs.length jc] 25) := ⟨B.next N0.out.1 b1 N0.out.1.size, N0.out.2.below b1⟩
  clear N0 b1 HT3
  have r1 := N1.out.2.cell
  have e1 : ((⟨#[51, 32, 48, 32, 48]⟩ : ByteArray).toList == [51, 32, 48, 32, 48]) = true := by rw [ByteArray.toList_eq]; rfl
  have HLB : Hid (Calls Tryd.prog 6 #[.agg #[.int .i64 last, .slice sa stays.length sc, .slice ja jobs.length jc]] w1 fun e w' => e = .returned (.bool (lightB ⟨last, sa, sc, ja, jc, stays, jobs⟩)) ∧ Below w1.heap.size w1 w') := lightBook_any ⟨last, sa, sc, ja, jc, stays, jobs⟩ w1 (HA.out _ N1.out.1)
  go_wp2_with fail
  refine HLB.out.mono ?_
  rintro e w2 ⟨rfl, b2⟩
  have N2 : Hid (Below w.heap.size w w2 ∧ Blk w2 w.heap.size #[.int .i64 last, .slice sa stays.length sc, .slice ja jobs.length jc] 25) := ⟨B.next N1.out.1 b2 N1.out.1.size, N1.out.2.below b2⟩
  clear N1 b2 HLB r1 e1
  have r2 := N2.out.2.cell
  have HF2 : Hid (PP (.returned (.bool true)) w2) := HP.out _ N2.out.1
  cases hl : lightB ⟨last, sa, sc, ja, jc, stays, jobs⟩
  · go_wp2
    exact HF2.out
  by_cases hlv1 : lv < 1
  · go_wp2
    exact HF2.out
  by_cases hlv4 : 4 < lv
  · go_wp2
    exact HF2.out
  obtain ⟨n, rfl⟩ : ∃ n : Nat, lv = (n : Int) := ⟨lv.toNat, by omega⟩
  have n1 : 1 ≤ n := by omega
  have n4 : n ≤ 4 := by omega
  have HCK : Hid (Calls Tryd.prog 9 #[.agg #[.int .i64 last, .slice sa stays.length sc, .slice ja jobs.length jc], .int .i64 n] w2 fun e w' => e = .returned (errV (bookN ⟨last, sa, sc, ja, jc, stays, jobs⟩ n)) ∧ Below w2.heap.size w2 w') := bookCheck_any ⟨last, sa, sc, ja, jc, stays, jobs⟩ n w2 (HA.out _ N2.out.1) n1 n4
  clear HF2 hl
  go_wp2_with fail
  refine HCK.out.mono ?_
  rintro e w3 ⟨rfl, b3⟩
  have N3 : Hid (Below w.heap.size w w3 ∧ Blk w3 w.heap.size #[.int .i64 last, .slice sa stays.length sc, .slice ja jobs.length jc] 25) := ⟨B.next N2.out.1 b3 N2.out.1.size, N2.out.2.below b3⟩
  clear N2 b3 HCK r2
  have r3 := N3.out.2.cell
  by_cases hbk : bookN ⟨last, sa, sc, ja, jc, stays, jobs⟩ n = 0
  case neg =>
    rw [errV_ne hbk]
    have HF2 : Hid (PP (.returned (.bool true)) w3) := HP.out _ N3.out.1
    generalize bookN ⟨last, sa, sc, ja, jc, stays, jobs⟩ n = q at *
    go_wp2
    exact HF2.out
  have HOK : Hid (BookOK last n stays jobs) := (bookN_zero _ _).1 hbk
  rw [hbk, errV0]
  clear hbk hlv1 hlv4
  have HTX : Hid (Calls Tryd.prog 13 #[.agg #[.int .i64 last, .slice sa stays.length sc, .slice ja jobs.length jc]] w3 fun e w' => e = .returned (.string ⟨(textL last stays jobs).toArray⟩) ∧ Below w3.heap.size w3 w') :=
    text_any ⟨last, sa, sc, ja, jc, stays, jobs⟩ w3 (HA.out _ N3.out.1) (HG.out _ N3.out.1) (by have := HOK.out.fewS; show stays.length ≤ 1000; omega) (by have := HOK.out.fewJ; show jobs.length ≤ 1000; omega) (ok_nums n4 HOK.out) (by have := text_short n4 HOK.out; show (textL last stays jobs).length ≤ _; omega)
  go_wp2_with fail
  refine HTX.out.mono ?_
  rintro e w4 ⟨rfl, b4⟩
  have N4 : Hid (Below w.heap.size w w4 ∧ Blk w4 w.heap.size #[.int .i64 last, .slice sa stays.length sc, .slice ja jobs.length jc] 25) := ⟨B.next N3.out.1 b4 N3.out.1.size, N3.out.2.below b4⟩
  clear N3 b4 HTX r3
  have hsz : Hid ((⟨(textL last stays jobs).toArray⟩ : ByteArray).size ≤ 500) := by
    show (textL last stays jobs).toArray.size ≤ 500
    rw [List.size_toArray]
    exact text_500 n4 HOK.out
  have HPS : Hid (Calls Tryd.prog 10 #[.string ⟨(textL last stays jobs).toArray⟩, .int .i64 n] w4 (ParsePost ⟨(textL last stays jobs).toArray⟩ n w4)) := parse_any _ n w4 (by have := hsz.out; omega) n1 n4 (HG.out _ N4.out.1)
  have HPT : Hid (parseP ⟨(textL last stays jobs).toArray⟩ n = some ⟨last, stays, jobs⟩) := parse_text n4 HOK.out
  generalize (⟨(textL last stays jobs).toArray⟩ : ByteArray) = T at *
  go_wp2_with fail
  refine HPS.out.mono ?_
  rintro e w5 ⟨b5, hres⟩
  rcases hres with ⟨hno, _⟩ | ⟨b, vs, vj, hyes, rfl, hown⟩
  · rw [HPT.out] at hno; cases hno
  rw [HPT.out] at hyes
  obtain rfl := (Option.some.inj hyes)
  simp only at hown ⊢
  have N5 : Hid (Below w.heap.size w w5 ∧ Blk w5 w.heap.size #[.int .i64 last, .slice sa stays.length sc, .slice ja jobs.length jc] 25) := ⟨B.next N4.out.1 b5 N4.out.1.size, N4.out.2.below b5⟩
  obtain ⟨sx, cx, hvs, hrs⟩ := hown.s.rows
  obtain ⟨jx, dx, hvj, hrj⟩ := hown.j.rows
  subst hvs hvj
  have HB5 : Hid (Book.At ⟨last, sx, cx, jx, dx, stays, jobs⟩ w5) := ⟨hrs, hrj⟩
  clear N4 b5 HPS hyes hown hrs hrj
  obtain ⟨w6, hw6⟩ : ∃ w6, w5.alloc (.cells #[.int .i64 last, .slice sx stays.length cx, .slice jx jobs.length dx] 25) = w6 := ⟨_, rfl⟩
  have N6 : Hid (Below w.heap.size w w6 ∧ Blk w6 w.heap.size #[.int .i64 last, .slice sa stays.length sc, .slice ja jobs.length jc] 25 ∧ Blk w6 w5.heap.size #[.int .i64 last, .slice sx stays.length cx, .slice jx jobs.length dx] 25 ∧ Book.At ⟨last, sx, cx, jx, dx, stays, jobs⟩ w6) := by
    show _ ∧ _ ∧ _ ∧ _
    rw [← hw6]
    exact ⟨N5.out.1.alloc N5.out.1.size _, N5.out.2.old _, Blk.new _ _ _, HB5.out.below (B.new1 _ _)⟩
  have r6 := N6.out.2.1.cell
  have q6 := N6.out.2.2.1.cell
  have HSB : Hid (Calls Tryd.prog 12 #[.agg #[.int .i64 last, .slice sx stays.length cx, .slice jx jobs.length dx], .agg #[.int .i64 last, .slice sa stays.length sc, .slice ja jobs.length jc]] w6 fun e w' => e = .returned (.bool true) ∧ Below w6.heap.size w6 w') :=
    sameBook_any last stays jobs sx jx sa ja cx dx sc jc w6 N6.out.2.2.2 (HA.out _ N6.out.1)
  clear N5 HB5
  go_wp2_with fail
  refine HSB.out.mono ?_
  rintro e w7 ⟨rfl, b7⟩
  have HF2 : Hid (PP (.returned (.bool true)) w7) := HP.out _ (B.next N6.out.1 b7 N6.out.1.size)
  have hle : (T.size : Int) ≤ 640 := by have := hsz.out; omega
  clear b7 N6 HSB HPT HOK HA HG
  go_wp2
  exact HF2.out

end Tx
end Go.Proofs.YtaelalobabmpcaaDoor
