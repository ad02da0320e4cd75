/- TopText: a book's text is read as it (E2); the walk. -/
import Derived.Test.YtaelalobabmpcaaDoorParse
import Derived.Test.YtaelalobabmpcaaDoorSameBook
import Derived.Test.YtaelalobabmpcaaDoorTopPickA
namespace Go.Proofs.YtaelalobabmpcaaDoor
open Go.Shelf Go.ChangeShapes Go.WideShapes Go.ChangeAt Go.RowKit
set_option maxRecDepth 100000
set_option linter.unusedSimpArgs false
set_option linter.unusedVariables false

namespace Tx
open Bk
def tot (l : List Int) : Nat := (l.map fun n => (Lib.itoa n).length + 1).sum
theorem tot_append (a b : List Int) : tot (a ++ b) = tot a + tot b := by unfold tot; rw [List.map_append, List.sum_append_nat]
theorem tot_cons (a : Int) (b : List Int) : tot (a :: b) = (Lib.itoa a).length + 1 + tot b := by unfold tot; rw [List.map_cons, List.sum_cons]
theorem tot_nil : tot [] = 0 := rfl
theorem join_tot : ∀ l : List Int, (Lib.join (l.map Lib.itoa) [32]).length ≤ tot l
  | [] => by simp [Lib.join_nil]
  | [a] => by rw [List.map_cons, List.map_nil, Lib.join_one, tot_cons]; omega
  | a :: b :: r => by
    have ih := join_tot (b :: r)
    rw [List.map_cons, List.map_cons, join_two, List.length_append, List.length_cons, tot_cons]
    rw [List.map_cons] at ih
    omega
theorem len_le {n : Int} (k : Nat) (h0 : 0 ≤ n) (h1 : n < ((10 ^ (k + 1) : Nat) : Int)) : (Lib.itoa n).length ≤ k + 1 := itoa_len k h0 h1
theorem tot_stays {last : Int} {n : Nat} (hl : last ≤ 999999) (hn : n ≤ 4) : ∀ l : List Stay, (∀ s ∈ l, okS last n s) → tot (l.flatMap stayNs) ≤ 26 * l.length
  | [], _ => by simp [tot]
  | s :: l, h => by
    have ih := tot_stays hl hn l (fun x hx => h x (by simp [hx]))
    have h0 := h s (by simp)
    have h1 := car_bounds h0.1
    have h2 := place_bounds hn h0.2.1
    have h3 : 1 ≤ s.t ∧ s.t ≤ last := by simpa using h0.2.2.1
    rw [List.flatMap_cons, tot_append, List.length_cons]
    have e : tot (stayNs s) ≤ 26 := by
      unfold stayNs
      simp only [tot_cons, tot_nil]
      have a1 := len_le 5 (n := s.t) (by omega) (by omega)
      have a2 := len_le 2 (n := s.id) (by omega) (by omega)
      have a3 := len_le 1 (n := s.a) (by omega) (by omega)
      have a4 := len_le 1 (n := s.b) (by omega) (by omega)
      have a5 := len_le 1 (n := s.c) (by omega) (by omega)
      have a6 := len_le 0 (n := s.x) (by omega) (by omega)
      have a7 := len_le 0 (n := s.y) (by omega) (by omega)
      have a8 := len_le 0 (n := s.z) (by omega) (by omega)
      omega
    omega
theorem tot_jobs : ∀ l : List Job, (∀ j ∈ l, 0 ≤ j.t ∧ j.t ≤ 999999) → tot (l.flatMap jobNs) ≤ 9 * l.length
  | [], _ => by simp [tot]
  | j :: l, h => by
    have ih := tot_jobs l (fun x hx => h x (by simp [hx]))
    have h0 := h j (by simp)
    rw [List.flatMap_cons, tot_append, List.length_cons]
    have e : tot (jobNs j) ≤ 9 := by
      unfold jobNs
      simp only [tot_cons, tot_nil]
      have a1 := len_le 5 (n := j.t) (by omega) (by omega)
      have a2 := len_le 0 (n := if j.f = true then 1 else 0) (by split <;> omega) (by split <;> omega)
      omega
    omega
theorem text_500 {last : Int} {n : Nat} {stays : List Stay} {jobs : List Job} (hn : n ≤ 4) (h : BookOK last n stays jobs) : (textL last stays jobs).length ≤ 500 := by
  have h1 := join_tot (numsOf last stays jobs)
  have h2 := tot_stays h.lim.2 hn stays h.s.each
  have h3 := tot_jobs jobs (fun j hj => by
    obtain ⟨s, hs, e⟩ := h.j.each j hj
    have := (h.s.each s hs).2.2.1
    have h4 : 1 ≤ s.t ∧ s.t ≤ last := by simpa using this
    have := h.lim
    omega)
  have h4 := h.fewS
  have h5 := h.fewJ
  have h6 := h.lim
  have a1 := len_le 5 (n := last) (by omega) (by omega)
  have a2 := len_le 1 (n := (stays.length : Int)) (by omega) (by omega)
  have a3 := len_le 0 (n := (jobs.length : Int)) (by omega) (by omega)
  unfold numsOf at h1
  rw [tot_append, tot_append] at h1
  simp only [tot_cons, tot_nil] at h1
  unfold textL numsOf
  omega
theorem text_300 : (textL 3 [] []) = [51, 32, 48, 32, 48] := by
  have e3 : Lib.itoa 3 = [51] := by rw [itoa_pos (by decide)]; exact Lib.decDigits_one (by decide)
  have e0 : Lib.itoa 0 = [48] := by rw [itoa_pos (by decide)]; exact Lib.decDigits_one (by decide)
  show Lib.join ([3, ((0 : Nat) : Int), ((0 : Nat) : Int)].map Lib.itoa) [32] = _
  simp only [List.map_cons, List.map_nil, Int.natCast_zero, e3, e0]
  rw [join_two, join_two, Lib.join_one]
  rfl
theorem parse_text {last : Int} {n : Nat} {stays : List Stay} {jobs : List Job} (hn : n ≤ 4) (h : BookOK last n stays jobs) : parseP ⟨(textL last stays jobs).toArray⟩ n = some ⟨last, stays, jobs⟩ := by
  have h1 : numsP ⟨(textL last stays jobs).toArray⟩ = some (numsOf last stays jobs) := by
    refine numsP_text _ ?_ ?_ (ok_nums hn h)
    · intro e
      have := nums_len last stays jobs
      rw [e] at this
      simp at this
      omega
    · have := nums_len last stays jobs
      have := h.fewS
      have := h.fewJ
      omega
  unfold parseP
  rw [h1]
  show (fromP (numsOf last stays jobs)).bind _ = _
  rw [fromP_nums last stays jobs h.fewS h.fewJ]
  show (if bookN (PB.book ⟨last, stays, jobs⟩) n = 0 ∧ PB.text ⟨last, stays, jobs⟩ = _ then _ else _) = _
  rw [if_pos ⟨(bookN_zero _ _).2 h, by simp [PB.text]⟩]

set_option maxHeartbeats 4000000 in
theorem topText_any (b : Book) (lv : Int) (w : World) (h : b.At w) (G : Glob w) :
    Calls Tryd.prog 4 #[b.val, .int .i64 lv] w fun e w' => e = .returned (.bool true) ∧ Below w.heap.size w w' := by
  have HP : Hid (∀ w', Below w.heap.size w w' → (fun (e : Ending) (w' : World) => e = .returned (.bool true) ∧ Below w.heap.size w w') (.returned (.bool true)) w') := fun w' hb => ⟨rfl, hb⟩
  generalize (fun (e : Ending) (w' : World) => e = .returned (.bool true) ∧ Below w.heap.size w w') = PP at *
  obtain ⟨last, sa, sc, ja, jc, stays, jobs⟩ := b
  have HA : Hid (∀ W, Below w.heap.size w W → Book.At ⟨last, sa, sc, ja, jc, stays, jobs⟩ W) := fun W hb => h.below hb
  have HG : Hid (∀ W, Below w.heap.size w W → Glob W) := fun W hb => G.new hb
  obtain ⟨w0, hw0⟩ : ∃ w0, w.alloc (.cells #[.int .i64 last, .slice sa stays.length sc, .slice ja jobs.length jc] 25) = w0 := ⟨_, rfl⟩
  have N0 : Hid (Below w.heap.size w w0 ∧ Blk w0 w.heap.size #[.int .i64 last, .slice sa stays.length sc, .slice ja jobs.length jc] 25) := by
    show _ ∧ _
    rw [← hw0]
    exact ⟨B.new1 _ _, Blk.new _ _ _⟩
  have HT3 : Hid (Calls Tryd.prog 13 #[.agg #[.int .i64 3, .slice none 0 0, .slice none 0 0]] w0 fun e w' => e = .returned (.string ⟨#[51, 32, 48, 32, 48]⟩) ∧ Below w0.heap.size w0 w') := by
    have := text_any ⟨3, none, 0, none, 0, [], []⟩ w0 ⟨⟨Nat.le_refl _, Nat.zero_le _, fun h => absurd h (Nat.lt_irrefl _)⟩, ⟨Nat.le_refl _, Nat.zero_le _, fun h => absurd h (Nat.lt_irrefl _)⟩⟩ (HG.out _ N0.out.1) (by simp) (by simp) (by intro n hn; simp [numsOf] at hn; omega) (by rw [text_300]; simp)
    rw [text_300] at this
    exact this
  unfold Book.val
  clear h G
  go_enter Tryd.func4, Tryd.ntmps4
  go_wp2_with fail
  clear hw0
  refine HT3.out.mono ?_
  rintro e w1 ⟨rfl, b1⟩
  have N1 : Hid (Below w.heap.size w w1 ∧ Blk w1 w.heap.size #[.int .i64 last, .slice sa stays.length sc, .slice ja jobs.length jc] 25) := ⟨B.next N0.out.1 b1 N0.out.1.size, N0.out.2.below b1⟩
  clear N0 b1 HT3
  have r1 := N1.out.2.cell
  have e1 : ((⟨#[51, 32, 48, 32, 48]⟩ : ByteArray).toList == [51, 32, 48, 32, 48]) = true := by rw [ByteArray.toList_eq]; rfl
  have HLB : Hid (Calls Tryd.prog 6 #[.agg #[.int .i64 last, .slice sa stays.length sc, .slice ja jobs.length jc]] w1 fun e w' => e = .returned (.bool (lightB ⟨last, sa, sc, ja, jc, stays, jobs⟩)) ∧ Below w1.heap.size w1 w') := lightBook_any ⟨last, sa, sc, ja, jc, stays, jobs⟩ w1 (HA.out _ N1.out.1)
  go_wp2_with fail
  refine HLB.out.mono ?_
  rintro e w2 ⟨rfl, b2⟩
  have N2 : Hid (Below w.heap.size w w2 ∧ Blk w2 w.heap.size #[.int .i64 last, .slice sa stays.length sc, .slice ja jobs.length jc] 25) := ⟨B.next N1.out.1 b2 N1.out.1.size, N1.out.2.below b2⟩
  clear N1 b2 HLB r1 e1
  have r2 := N2.out.2.cell
  have HF2 : Hid (PP (.returned (.bool true)) w2) := HP.out _ N2.out.1
  cases hl : lightB ⟨last, sa, sc, ja, jc, stays, jobs⟩
  · go_wp2
    exact HF2.out
  by_cases hlv1 : lv < 1
  · go_wp2
    exact HF2.out
  by_cases hlv4 : 4 < lv
  · go_wp2
    exact HF2.out
  obtain ⟨n, rfl⟩ : ∃ n : Nat, lv = (n : Int) := ⟨lv.toNat, by omega⟩
  have n1 : 1 ≤ n := by omega
  have n4 : n ≤ 4 := by omega
  have HCK : Hid (Calls Tryd.prog 9 #[.agg #[.int .i64 last, .slice sa stays.length sc, .slice ja jobs.length jc], .int .i64 n] w2 fun e w' => e = .returned (errV (bookN ⟨last, sa, sc, ja, jc, stays, jobs⟩ n)) ∧ Below w2.heap.size w2 w') := bookCheck_any ⟨last, sa, sc, ja, jc, stays, jobs⟩ n w2 (HA.out _ N2.out.1) n1 n4
  clear HF2 hl
  go_wp2_with fail
  refine HCK.out.mono ?_
  rintro e w3 ⟨rfl, b3⟩
  have N3 : Hid (Below w.heap.size w w3 ∧ Blk w3 w.heap.size #[.int .i64 last, .slice sa stays.length sc, .slice ja jobs.length jc] 25) := ⟨B.next N2.out.1 b3 N2.out.1.size, N2.out.2.below b3⟩
  clear N2 b3 HCK r2
  have r3 := N3.out.2.cell
  by_cases hbk : bookN ⟨last, sa, sc, ja, jc, stays, jobs⟩ n = 0
  case neg =>
    rw [errV_ne hbk]
    have HF2 : Hid (PP (.returned (.bool true)) w3) := HP.out _ N3.out.1
    generalize bookN ⟨last, sa, sc, ja, jc, stays, jobs⟩ n = q at *
    go_wp2
    exact HF2.out
  have HOK : Hid (BookOK last n stays jobs) := (bookN_zero _ _).1 hbk
  rw [hbk, errV0]
  clear hbk hlv1 hlv4
  have HTX : Hid (Calls Tryd.prog 13 #[.agg #[.int .i64 last, .slice sa stays.length sc, .slice ja jobs.length jc]] w3 fun e w' => e = .returned (.string ⟨(textL last stays jobs).toArray⟩) ∧ Below w3.heap.size w3 w') :=
    text_any ⟨last, sa, sc, ja, jc, stays, jobs⟩ w3 (HA.out _ N3.out.1) (HG.out _ N3.out.1) (by have := HOK.out.fewS; show stays.length ≤ 1000; omega) (by have := HOK.out.fewJ; show jobs.length ≤ 1000; omega) (ok_nums n4 HOK.out) (by have := text_short n4 HOK.out; show (textL last stays jobs).length ≤ _; omega)
  go_wp2_with fail
  refine HTX.out.mono ?_
  rintro e w4 ⟨rfl, b4⟩
  have N4 : Hid (Below w.heap.size w w4 ∧ Blk w4 w.heap.size #[.int .i64 last, .slice sa stays.length sc, .slice ja jobs.length jc] 25) := ⟨B.next N3.out.1 b4 N3.out.1.size, N3.out.2.below b4⟩
  clear N3 b4 HTX r3
  have hsz : Hid ((⟨(textL last stays jobs).toArray⟩ : ByteArray).size ≤ 500) := by
    show (textL last stays jobs).toArray.size ≤ 500
    rw [List.size_toArray]
    exact text_500 n4 HOK.out
  have HPS : Hid (Calls Tryd.prog 10 #[.string ⟨(textL last stays jobs).toArray⟩, .int .i64 n] w4 (ParsePost ⟨(textL last stays jobs).toArray⟩ n w4)) := parse_any _ n w4 (by have := hsz.out; omega) n1 n4 (HG.out _ N4.out.1)
  have HPT : Hid (parseP ⟨(textL last stays jobs).toArray⟩ n = some ⟨last, stays, jobs⟩) := parse_text n4 HOK.out
  generalize (⟨(textL last stays jobs).toArray⟩ : ByteArray) = T at *
  go_wp2_with fail
  refine HPS.out.mono ?_
  rintro e w5 ⟨b5, hres⟩
  rcases hres with ⟨hno, _⟩ | ⟨b, vs, vj, hyes, rfl, hown⟩
  · rw [HPT.out] at hno; cases hno
  rw [HPT.out] at hyes
  obtain rfl := (Option.some.inj hyes)
  simp only at hown ⊢
  have N5 : Hid (Below w.heap.size w w5 ∧ Blk w5 w.heap.size #[.int .i64 last, .slice sa stays.length sc, .slice ja jobs.length jc] 25) := ⟨B.next N4.out.1 b5 N4.out.1.size, N4.out.2.below b5⟩
  obtain ⟨sx, cx, hvs, hrs⟩ := hown.s.rows
  obtain ⟨jx, dx, hvj, hrj⟩ := hown.j.rows
  subst hvs hvj
  have HB5 : Hid (Book.At ⟨last, sx, cx, jx, dx, stays, jobs⟩ w5) := ⟨hrs, hrj⟩
  clear N4 b5 HPS hyes hown hrs hrj
  obtain ⟨w6, hw6⟩ : ∃ w6, w5.alloc (.cells #[.int .i64 last, .slice sx stays.length cx, .slice jx jobs.length dx] 25) = w6 := ⟨_, rfl⟩
  have N6 : Hid (Below w.heap.size w w6 ∧ Blk w6 w.heap.size #[.int .i64 last, .slice sa stays.length sc, .slice ja jobs.length jc] 25 ∧ Blk w6 w5.heap.size #[.int .i64 last, .slice sx stays.length cx, .slice jx jobs.length dx] 25 ∧ Book.At ⟨last, sx, cx, jx, dx, stays, jobs⟩ w6) := by
    show _ ∧ _ ∧ _ ∧ _
    rw [← hw6]
    exact ⟨N5.out.1.alloc N5.out.1.size _, N5.out.2.old _, Blk.new _ _ _, HB5.out.below (B.new1 _ _)⟩
  have r6 := N6.out.2.1.cell
  have q6 := N6.out.2.2.1.cell
  have HSB : Hid (Calls Tryd.prog 12 #[.agg #[.int .i64 last, .slice sx stays.length cx, .slice jx jobs.length dx], .agg #[.int .i64 last, .slice sa stays.length sc, .slice ja jobs.length jc]] w6 fun e w' => e = .returned (.bool true) ∧ Below w6.heap.size w6 w') :=
    sameBook_any last stays jobs sx jx sa ja cx dx sc jc w6 N6.out.2.2.2 (HA.out _ N6.out.1)
  clear N5 HB5
  go_wp2_with fail
  refine HSB.out.mono ?_
  rintro e w7 ⟨rfl, b7⟩
  have HF2 : Hid (PP (.returned (.bool true)) w7) := HP.out _ (B.next N6.out.1 b7 N6.out.1.size)
  have hle : (T.size : Int) ≤ 640 := by have := hsz.out; omega
  clear b7 N6 HSB HPT HOK HA HG
  go_wp2
  exact HF2.out

end Tx
end Go.Proofs.YtaelalobabmpcaaDoor
