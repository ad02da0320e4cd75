/- Parse Pick. -/
import Derived.Test.YtopgllmjeliklaaGreatDoorKiFromNumsB
set_option maxRecDepth 100000
set_option linter.unusedSimpArgs false
set_option linter.unusedVariables false
namespace Go.Proofs.YtopgllmjeliklaaGreatDoor
open Go.Shelf Go.ChangeShapes Go.WideShapes Go.ChangeAt Go.RowKit
namespace Tx
open Bk
theorem fromNumbers_all (g : Nat) (L : List Int) (w : World) (hm : L.length ≤ 1000000) (hg : g < w.heap.size) (h : NumsAt w g 0 L) :
  Calls Tryz.prog 144 #[.slice (some ⟨g, 0, none⟩) L.length L.length] w (FromPost L w) := by
 by_cases h3 : L.length < 3
 ·exact fromNumbers_few g L w h3 hg h
 ·by_cases h4 : L.length = 3
  ·exact fromNumbers_three g L w h4 hg h
  ·exact fromNumbers_more g L w (by omega) hm hg h
theorem ok_nums {last : Int} {n : Nat} {stays : List Stay} {jobs : List Job} (hn : n ≤ 4) (h : BookOK last n stays jobs) : ∀ k ∈ numsOf last stays jobs, 0 ≤ k ∧ k ≤ 999999 := by
 intro k hk
 have hl := h.lim; have hs := h.fewS; have hj := h.fewJ
 have ht : ∀ s ∈ stays, 1 ≤ s.t ∧ s.t ≤ last := fun s hs => by
  have := (h.s.each s hs).2.2.1
  simpa using this
 unfold numsOf at hk
 rcases List.mem_append.1 hk with hk | hk
 ·rcases List.mem_append.1 hk with hk | hk
  ·simp only [List.mem_cons, List.not_mem_nil, or_false] at hk
   rcases hk with rfl | rfl | rfl <;> omega
  ·obtain ⟨s, hs, hk⟩ := List.mem_flatMap.1 hk
   have h1 := ht s hs; have h2 := car_bounds (h.s.each s hs).1; have h3 := place_bounds hn (h.s.each s hs).2.1; simp only [stayNs, List.mem_cons, List.not_mem_nil, or_false] at hk
   rcases hk with rfl | rfl | rfl | rfl | rfl | rfl | rfl | rfl <;> omega
 ·obtain ⟨j, hj, hk⟩ := List.mem_flatMap.1 hk
  obtain ⟨s, hs, e⟩ := h.j.each j hj; have h1 := ht s hs; simp only [jobNs, List.mem_cons, List.not_mem_nil, or_false] at hk
  rcases hk with rfl | rfl
  ·omega
  ·split <;> omega
theorem tail_le (c : Nat) : ∀ (l : List (List UInt8)), (∀ w ∈ l, w.length ≤ c) → (Lib.join l [32]).length ≤ (c + 1) * l.length
 | [], _ => by simp [Lib.join_nil]
 | [w], h => by have := h w (by simp); rw [Lib.join_one, List.length_singleton]; omega
 | w :: v :: r, h => by
   have := h w (by simp); have ih := tail_le c (v :: r) (fun x hx => h x (by simp [hx]))
   rw [join_two, List.length_append, List.length_cons, List.length_cons, Nat.mul_succ]
   omega
theorem text_short {last : Int} {n : Nat} {stays : List Stay} {jobs : List Job} (hn : n ≤ 4) (h : BookOK last n stays jobs) : (textL last stays jobs).length ≤ 1029 := by
 have hs := h.fewS; have hj := h.fewJ; have hk := ok_nums hn h
 have := tail_le 6 ((numsOf last stays jobs).map Lib.itoa) (fun w hw => by
  obtain ⟨k, hk', rfl⟩ := List.mem_map.1 hw; have := hk k hk'; exact itoa_len 5 this.1 (by have := this.2; omega))
 rw [List.length_map, nums_len] at this; unfold textL
 omega
theorem toList_ne {a b : ByteArray} (h : ¬ a = b) : (a.toList == b.toList) = false := by
 cases hc : a.toList == b.toList with
 | false => rfl
 | true =>
   rw [beq_iff_eq, ByteArray.toList_eq, ByteArray.toList_eq] at hc
   exfalso
   apply h
   cases a; cases b
   congr 1
   exact Array.toList_inj.1 hc
def ParsePost (s : ByteArray) (n : Nat) (w : World) (e : Ending) (w' : World) : Prop := Below w.heap.size w w' ∧
 ((parseP s n = none ∧ e = .returned (.tuple #[.agg #[.int .i64 0, .slice none 0 0, .slice none 0 0], errV 4])) ∨
  ∃ b vs vj, parseP s n = some b ∧ e = .returned (.tuple #[.agg #[.int .i64 b.last, vs, vj], .nilIface]) ∧ OwnBook w' w.heap.size vs vj b.stays b.jobs)
theorem bookSet {w : World} {base : Nat} {vs vj : Value} {stays : List Stay} {jobs : List Job} (h : OwnBook w base vs vj stays jobs) {b o : Nat} (u : Value) (hne : b < base) : OwnBook (w.setCell ⟨b, o, none⟩ u) base vs vj stays jobs :=
 ⟨ownSet h.s u hne, ownSet h.j u hne, h.ne⟩
theorem bookDown {w : World} {base base' : Nat} {vs vj : Value} {stays : List Stay} {jobs : List Job} (h : OwnBook w base vs vj stays jobs) (hb : base' ≤ base) : OwnBook w base' vs vj stays jobs := ⟨ownUp h.s hb, ownUp h.j hb, h.ne⟩
set_option maxHeartbeats 4000000 in
theorem parse_any (s : ByteArray) (n : Nat) (w : World) (hs : s.size ≤ 100000000) (n1 : 1 ≤ n) (n4 : n ≤ 4) (G : Glob w) : Calls Tryz.prog 102 #[.string s, .int .i64 n] w (ParsePost s n w) := by
 have HP : Hid (parseP s n = (numsP s).bind fun L => (fromP L).bind fun b => if bookN b.book n = 0 ∧ b.text = s.data.toList then some b else none) := rfl
 have HNO : Hid (parseP s n = none → ∀ w', Below w.heap.size w w' → ParsePost s n w (.returned (.tuple #[.agg #[.int .i64 0, .slice none 0 0, .slice none 0 0], .iface 103 (.int .i64 4)])) w') := fun h w' hb => ⟨hb, Or.inl ⟨h, rfl⟩⟩
 have HYES : Hid (∀ b vs vj w', parseP s n = some b → OwnBook w' w.heap.size vs vj b.stays b.jobs → Below w.heap.size w w' → ParsePost s n w (.returned (.tuple #[.agg #[.int .i64 b.last, vs, vj], .nilIface])) w') := fun b vs vj w' h ho hb => ⟨hb, Or.inr ⟨b, vs, vj, h, rfl, ho⟩⟩
 generalize ParsePost s n w = PP at *; have HG : Hid (∀ W, Below w.heap.size w W → Glob W) := fun W hb => G.new hb
 obtain ⟨w0, hw0⟩ : ∃ w0, w.alloc (.cells #[.int .i64 0, .slice none 0 0, .slice none 0 0] 39) = w0 := ⟨_, rfl⟩
 have N0 : Hid (Below w.heap.size w w0 ∧ Blk w0 w.heap.size #[.int .i64 0, .slice none 0 0, .slice none 0 0] 39 ∧ w0.heap.size = w.heap.size + 1) := by
  show _ ∧ _ ∧ _
  rw [← hw0]; exact ⟨B.new1 _ _, Blk.new _ _ _, by simp⟩
 have HRN : Hid (Calls Tryz.prog 143 #[.string s] w0 (ReadPost s w0)) := readNumbers_any s w0 hs (HG.out _ N0.out.1)
 go_enter Tryz.func102, Tryz.ntmps102
 go_wp2_with fail; clear hw0 G; refine HRN.out.mono ?_; rintro e w1 ⟨b1, hres⟩; have N1 : Hid (Below w.heap.size w w1 ∧ Blk w1 w.heap.size #[.int .i64 0, .slice none 0 0, .slice none 0 0] 39 ∧ w.heap.size + 1 ≤ w1.heap.size) := ⟨B.next N0.out.1 b1 N0.out.1.size, N0.out.2.1.below b1, by have := b1.size; have := N0.out.2.2; omega⟩
 have N0s := N0.out.2.2; clear N0 HRN b1; have z1 := N1.out.2.1.cell; have fz1 := N1.out.2.1.free; have HZ1 : Hid (∀ a b c, Below w.heap.size w (((w1.setCell ⟨w.heap.size, 0, none⟩ a).setCell ⟨w.heap.size, 1, none⟩ b).setCell ⟨w.heap.size, 2, none⟩ c)) := fun a b c => ((N1.out.1.setCell (p := ⟨w.heap.size, 0, none⟩) (Nat.le_refl _) _).setCell (p := ⟨w.heap.size, 1, none⟩) (Nat.le_refl _) _).setCell (p := ⟨w.heap.size, 2, none⟩) (Nat.le_refl _) _
 rcases hres with ⟨hnum, rfl⟩ | ⟨L, g, hnum, rfl, hblk, hgw⟩
 ·have HF : Hid (parseP s n = none) := by show _ = _; rw [HP.out, hnum]; rfl
  have HF2 : Hid (PP (.returned (.tuple #[.agg #[.int .i64 0, .slice none 0 0, .slice none 0 0], .iface 103 (.int .i64 4)])) (((w1.setCell ⟨w.heap.size, 0, none⟩ (.int .i64 0)).setCell ⟨w.heap.size, 1, none⟩ (.slice none 0 0)).setCell ⟨w.heap.size, 2, none⟩ (.slice none 0 0))) := HNO.out HF.out _ (HZ1.out _ _ _); clear HYES HNO HP HF HG HZ1; go_wp2
  (try simp only [Exit.inBlock, Exit.then])
  refine bodyPost_ret (v := .tuple #[.agg #[.int .i64 0, .slice none 0 0, .slice none 0 0], .iface 103 (.int .i64 4)]) (by simp [results, Tryz.results102, go_sem, set3_0 z1, set3_1 z1, set3_2 z1]; try rfl) rfl ?_; exact HF2.out
 have HNA : Hid (NumsAt w1 g 0 L) := fun j hj => by
  rw [Nat.zero_add, hblk.cell, List.getElem?_toArray, List.getElem?_map, List.getElem?_eq_getElem hj]
  simp [List.getD, List.getElem?_eq_getElem hj]
 have hgl : g < w1.heap.size := hblk.lt
 have hLm : L.length ≤ 1000000 := by
  have h1 : numsP s = some L := hnum; have h2 := (wordsB_len s).2
  have h3 : L.length = (wordsB s).length := by
   unfold numsP at h1
   by_cases hx : ∀ x ∈ wordsB s, atoiO x ≠ none
   ·rw [mapM_all atoiO 0 _ hx] at h1
    simp only [Option.some.injEq] at h1; rw [← h1, List.length_map]
   ·exfalso
    apply hx
    intro x hx' hn
    rw [mapM_none atoiO _ x hx' hn] at h1
    cases h1
  omega
 have HP2 : Hid (parseP s n = (fromP L).bind fun b => if bookN b.book n = 0 ∧ b.text = s.data.toList then some b else none) := by show _ = _; rw [HP.out, hnum]; rfl
 have HFN : Hid (Calls Tryz.prog 144 #[.slice (some ⟨g, 0, none⟩) L.length L.length] w1 (FromPost L w1)) := fromNumbers_all g L w1 hLm hgl HNA.out
 clear HP hblk HNA hnum; go_wp2_with fail; refine HFN.out.mono ?_; rintro e w2 ⟨b2, hres⟩; have N2 : Hid (Below w.heap.size w w2 ∧ Blk w2 w.heap.size #[.int .i64 0, .slice none 0 0, .slice none 0 0] 39 ∧ w.heap.size + 1 ≤ w2.heap.size) := ⟨B.next N1.out.1 b2 N1.out.1.size, N1.out.2.1.below b2, by have := b2.size; have := N1.out.2.2; omega⟩
 have hb1 : w.heap.size + 1 ≤ w1.heap.size := N1.out.2.2; clear N1 HFN b2 z1 fz1 HZ1
 rcases hres with ⟨hfr, rfl⟩ | ⟨b, vs, vj, hfr, rfl, hown⟩
 ·have HF : Hid (parseP s n = none) := by show _ = _; rw [HP2.out, hfr]; rfl
  obtain ⟨wz, hwz⟩ : ∃ wz, w2.alloc (.cells #[.int .i64 0, .slice none 0 0, .slice none 0 0] 39) = wz := ⟨_, rfl⟩
  have NZ : Hid (Below w.heap.size w wz ∧ Blk wz w.heap.size #[.int .i64 0, .slice none 0 0, .slice none 0 0] 39 ∧ Blk wz w2.heap.size #[.int .i64 0, .slice none 0 0, .slice none 0 0] 39) := by
   show _ ∧ _ ∧ _
   rw [← hwz]; exact ⟨N2.out.1.alloc N2.out.1.size _, N2.out.2.1.old _, Blk.new _ _ _⟩
  have zz := NZ.out.2.2.cell; have fzz := NZ.out.2.2.free; obtain ⟨w3, hw3⟩ : ∃ w3, (((wz.setCell ⟨w2.heap.size, 0, none⟩ (.int .i64 0)).setCell ⟨w2.heap.size, 1, none⟩ (.slice none 0 0)).setCell ⟨w2.heap.size, 2, none⟩ (.slice none 0 0)) = w3 := ⟨_, rfl⟩
  have N3 : Hid (Below w.heap.size w w3 ∧ Blk w3 w.heap.size #[.int .i64 0, .slice none 0 0, .slice none 0 0] 39) := by
   show _ ∧ _
   rw [← hw3]; have hne : w2.heap.size ≠ w.heap.size := by have := N2.out.2.2; omega
   exact ⟨((NZ.out.1.setCell (p := ⟨w2.heap.size, 0, none⟩) N2.out.1.size _).setCell (p := ⟨w2.heap.size, 1, none⟩) N2.out.1.size _).setCell (p := ⟨w2.heap.size, 2, none⟩) N2.out.1.size _, ((NZ.out.2.1.other hne _ _).other hne _ _).other hne _ _⟩
  have z3 := N3.out.2.cell; have fz3 := N3.out.2.free; have HF2 : Hid (PP (.returned (.tuple #[.agg #[.int .i64 0, .slice none 0 0, .slice none 0 0], .iface 103 (.int .i64 4)])) (((w3.setCell ⟨w.heap.size, 0, none⟩ (.int .i64 0)).setCell ⟨w.heap.size, 1, none⟩ (.slice none 0 0)).setCell ⟨w.heap.size, 2, none⟩ (.slice none 0 0))) := HNO.out HF.out _ (((N3.out.1.setCell (p := ⟨w.heap.size, 0, none⟩) (Nat.le_refl _) _).setCell (p := ⟨w.heap.size, 1, none⟩) (Nat.le_refl _) _).setCell (p := ⟨w.heap.size, 2, none⟩) (Nat.le_refl _) _); clear HYES HNO HP2 HF HG N2; go_wp2
  (try simp only [Exit.inBlock, Exit.then])
  refine bodyPost_ret (v := .tuple #[.agg #[.int .i64 0, .slice none 0 0, .slice none 0 0], .iface 103 (.int .i64 4)]) (by simp [results, Tryz.results102, go_sem, set3_0 z3, set3_1 z3, set3_2 z3]; try rfl) rfl ?_; exact HF2.out
 obtain ⟨sa, sc, hvs, hrs⟩ := hown.s.rows; obtain ⟨ja, jc, hvj, hrj⟩ := hown.j.rows; subst hvs hvj; have HP3 : Hid (parseP s n = if bookN b.book n = 0 ∧ b.text = s.data.toList then some b else none) := by show _ = _; rw [HP2.out, hfr]; rfl
 clear HP2 hfr; obtain ⟨last, stays, jobs⟩ := b; simp only at hrs hrj hown; have HO : Hid (OwnBook w2 (w.heap.size + 1) (.slice sa stays.length sc) (.slice ja jobs.length jc) stays jobs) := bookDown hown hb1; have HR : Hid (∀ W, Below w2.heap.size w2 W → Book.At ⟨last, sa, sc, ja, jc, stays, jobs⟩ W) := fun W hb => ⟨hrs.below hb, hrj.below hb⟩
 clear hown hrs hrj hgl hLm hb1 hgw; obtain ⟨w3, hw3⟩ : ∃ w3, w2.alloc (.cells #[.int .i64 last, .slice sa stays.length sc, .slice ja jobs.length jc] 39) = w3 := ⟨_, rfl⟩
 have N3 : Hid (Below w.heap.size w w3 ∧ Blk w3 w.heap.size #[.int .i64 0, .slice none 0 0, .slice none 0 0] 39 ∧ Blk w3 w2.heap.size #[.int .i64 last, .slice sa stays.length sc, .slice ja jobs.length jc] 39 ∧ Below w2.heap.size w2 w3 ∧ w.heap.size < w2.heap.size) := by
  show _ ∧ _ ∧ _ ∧ _ ∧ _
  rw [← hw3]; exact ⟨N2.out.1.alloc N2.out.1.size _, N2.out.2.1.old _, Blk.new _ _ _, B.new1 _ _, by have := N2.out.2.2; omega⟩
 have y3 := N3.out.2.2.1.cell
 have HCK : Hid (Calls Tryz.prog 32 #[.agg #[.int .i64 last, .slice sa stays.length sc, .slice ja jobs.length jc], .int .i64 n] w3 fun e w' => e = .returned (errV (bookN (PB.book ⟨last, stays, jobs⟩) n)) ∧ Below w3.heap.size w3 w') := by
  have := bookCheck_any ⟨last, sa, sc, ja, jc, stays, jobs⟩ n w3 (HR.out _ N3.out.2.2.2.1) n1 n4; rw [bookN_pure] at this; exact this
 clear N2; go_wp2_with fail; clear hw3; refine HCK.out.mono ?_; rintro e w4 ⟨rfl, b4⟩; have N4 : Hid (Below w.heap.size w w4 ∧ Blk w4 w.heap.size #[.int .i64 0, .slice none 0 0, .slice none 0 0] 39 ∧ Blk w4 w2.heap.size #[.int .i64 last, .slice sa stays.length sc, .slice ja jobs.length jc] 39 ∧ Below w2.heap.size w2 w4 ∧ w.heap.size < w2.heap.size) := ⟨B.next N3.out.1 b4 N3.out.1.size, N3.out.2.1.below b4, N3.out.2.2.1.below b4, B.next N3.out.2.2.2.1 b4 N3.out.2.2.2.1.size, N3.out.2.2.2.2⟩; clear N3 HCK b4 y3; have z4 := N4.out.2.1.cell; have fz4 := N4.out.2.1.free; have y4 := N4.out.2.2.1.cell
 by_cases hbk : bookN (PB.book ⟨last, stays, jobs⟩) n = 0
 ·have HOK : Hid (BookOK last n stays jobs) := (bookN_zero _ _).1 hbk
  have HP4 : Hid (parseP s n = if (textL last stays jobs) = s.data.toList then some ⟨last, stays, jobs⟩ else none) := by
   show _ = _
   rw [HP3.out]
   by_cases ht : PB.text ⟨last, stays, jobs⟩ = s.data.toList
   ·rw [if_pos ⟨hbk, ht⟩]; exact (if_pos (c := textL last stays jobs = s.data.toList) ht).symm
   ·rw [if_neg (fun h => ht h.2)]; exact (if_neg (c := textL last stays jobs = s.data.toList) ht).symm
  rw [hbk, errV0]; clear hbk HP3
  have HTX : Hid (Calls Tryz.prog 88 #[.agg #[.int .i64 last, .slice sa stays.length sc, .slice ja jobs.length jc]] w4 fun e w' => e = .returned (.string ⟨(textL last stays jobs).toArray⟩) ∧ Below w4.heap.size w4 w') :=
   text_any ⟨last, sa, sc, ja, jc, stays, jobs⟩ w4 (HR.out _ N4.out.2.2.2.1) (HG.out _ N4.out.1) (by have := HOK.out.fewS; show stays.length ≤ 1000; omega) (by have := HOK.out.fewJ; show jobs.length ≤ 1000; omega) (ok_nums n4 HOK.out) (by have := text_short n4 HOK.out; show (textL last stays jobs).length ≤ _; omega)
  go_wp2_with fail; refine HTX.out.mono ?_; rintro e w5 ⟨rfl, b5⟩; have N5 : Hid (Below w.heap.size w w5 ∧ Blk w5 w.heap.size #[.int .i64 0, .slice none 0 0, .slice none 0 0] 39 ∧ Blk w5 w2.heap.size #[.int .i64 last, .slice sa stays.length sc, .slice ja jobs.length jc] 39 ∧ Below w2.heap.size w2 w5 ∧ w.heap.size < w2.heap.size) := ⟨B.next N4.out.1 b5 N4.out.1.size, N4.out.2.1.below b5, N4.out.2.2.1.below b5, B.next N4.out.2.2.2.1 b5 N4.out.2.2.2.1.size, N4.out.2.2.2.2⟩
  have HTE : Hid ((textL last stays jobs) = s.data.toList ↔ (⟨(textL last stays jobs).toArray⟩ : ByteArray) = s) := by
   show _ ↔ _
   constructor
   ·intro h; rw [h]
   ·intro h; rw [← h]
  clear N4 HTX b5 z4 fz4 y4; have z5 := N5.out.2.1.cell; have fz5 := N5.out.2.1.free; have y5 := N5.out.2.2.1.cell; generalize (⟨(textL last stays jobs).toArray⟩ : ByteArray) = T at *
  by_cases hts : T = s
  ·have HYY : Hid (parseP s n = some ⟨last, stays, jobs⟩) := by show _ = _; rw [HP4.out, if_pos (HTE.out.2 hts)]
   have e1 : (T.toList == s.toList) = true := by rw [hts]; simp
   have HF2 : Hid (PP (.returned (.tuple #[.agg #[.int .i64 last, .slice sa stays.length sc, .slice ja jobs.length jc], .nilIface])) (((w5.setCell ⟨w.heap.size, 0, none⟩ (.int .i64 last)).setCell ⟨w.heap.size, 1, none⟩ (.slice sa stays.length sc)).setCell ⟨w.heap.size, 2, none⟩ (.slice ja jobs.length jc))) :=
    HYES.out ⟨last, stays, jobs⟩ _ _ _ HYY.out (bookDown (bookSet (bookSet (bookSet (HO.out.below N5.out.2.2.2.1) _ (by omega)) _ (by omega)) _ (by omega)) (by omega)) (((N5.out.1.setCell (p := ⟨w.heap.size, 0, none⟩) (Nat.le_refl _) _).setCell (p := ⟨w.heap.size, 1, none⟩) (Nat.le_refl _) _).setCell (p := ⟨w.heap.size, 2, none⟩) (Nat.le_refl _) _)
   clear HYES HNO HP4 HG HOK HYY HO HR hts; go_wp2
   (try simp only [Exit.inBlock, Exit.then])
   refine bodyPost_ret (v := .tuple #[.agg #[.int .i64 last, .slice sa stays.length sc, .slice ja jobs.length jc], .nilIface]) (by simp [results, Tryz.results102, go_sem, set3_0 z5, set3_1 z5, set3_2 z5]; try rfl) rfl ?_; exact HF2.out
  ·have HNN : Hid (parseP s n = none) := by show _ = _; rw [HP4.out, if_neg (fun h => hts (HTE.out.1 h))]
   have e1 : (T.toList == s.toList) = false := toList_ne hts; have HF2 : Hid (PP (.returned (.tuple #[.agg #[.int .i64 0, .slice none 0 0, .slice none 0 0], .iface 103 (.int .i64 4)])) (((w5.setCell ⟨w.heap.size, 0, none⟩ (.int .i64 0)).setCell ⟨w.heap.size, 1, none⟩ (.slice none 0 0)).setCell ⟨w.heap.size, 2, none⟩ (.slice none 0 0))) := HNO.out HNN.out _ (((N5.out.1.setCell (p := ⟨w.heap.size, 0, none⟩) (Nat.le_refl _) _).setCell (p := ⟨w.heap.size, 1, none⟩) (Nat.le_refl _) _).setCell (p := ⟨w.heap.size, 2, none⟩) (Nat.le_refl _) _); clear HYES HNO HP4 HG HOK HNN HO HR hts; go_wp2
   (try simp only [Exit.inBlock, Exit.then])
   refine bodyPost_ret (v := .tuple #[.agg #[.int .i64 0, .slice none 0 0, .slice none 0 0], .iface 103 (.int .i64 4)]) (by simp [results, Tryz.results102, go_sem, set3_0 z5, set3_1 z5, set3_2 z5]; try rfl) rfl ?_; exact HF2.out
 ·have HNN : Hid (parseP s n = none) := by show _ = _; rw [HP3.out, if_neg (fun h => hbk h.1)]
  rw [errV_ne hbk]; generalize bookN (PB.book ⟨last, stays, jobs⟩) n = q at *; have HF2 : Hid (PP (.returned (.tuple #[.agg #[.int .i64 0, .slice none 0 0, .slice none 0 0], .iface 103 (.int .i64 4)])) (((w4.setCell ⟨w.heap.size, 0, none⟩ (.int .i64 0)).setCell ⟨w.heap.size, 1, none⟩ (.slice none 0 0)).setCell ⟨w.heap.size, 2, none⟩ (.slice none 0 0))) := HNO.out HNN.out _ (((N4.out.1.setCell (p := ⟨w.heap.size, 0, none⟩) (Nat.le_refl _) _).setCell (p := ⟨w.heap.size, 1, none⟩) (Nat.le_refl _) _).setCell (p := ⟨w.heap.size, 2, none⟩) (Nat.le_refl _) _); clear HYES HNO HP3 HG HNN HO HR hbk; go_wp2
  (try simp only [Exit.inBlock, Exit.then])
  refine bodyPost_ret (v := .tuple #[.agg #[.int .i64 0, .slice none 0 0, .slice none 0 0], .iface 103 (.int .i64 4)]) (by simp [results, Tryz.results102, go_sem, set3_0 z4, set3_1 z4, set3_2 z4]; try rfl) rfl ?_; exact HF2.out
end Tx
end Go.Proofs.YtopgllmjeliklaaGreatDoor
namespace Go.Proofs.YtopgllmjeliklaaGreatDoor
open Go.Shelf Go.Lib Go.ChangeShapes Go.WideShapes Go.ChangeAt Go.RowKit
namespace Bk
def okP (b : Book) (f : Nat → Int × Int × Int) (ca cb cc : Int) (p : Int × Int × Int) : Bool :=
 fitsB ca cb cc (f (p.1 - 1).toNat).1 (f (p.1 - 1).toNat).2.1 (f (p.1 - 1).toNat).2.2 && !barredB p.1 p.2.1 p.2.2 b
def pickO (b : Book) (f : Nat → Int × Int × Int) (ca cb cc : Int) (n : Nat) : Option (Int × Int × Int) := (placesTo n (2 * n)).find? (okP b f ca cb cc)
def pickV : Option (Int × Int × Int) → Value
 | none => .tuple #[.agg #[.int .i64 0, .int .i64 0, .int .i64 0], .bool false]
 | some p => .tuple #[.agg #[.int .i64 p.1, .int .i64 p.2.1, .int .i64 p.2.2], .bool true]
theorem find_hit {α : Type} (p : α → Bool) (d : α) : ∀ (l : List α) (k : Nat), k < l.length → p (l.getD k d) = true → (∀ j, j < k → p (l.getD j d) = false) → l.find? p = some (l.getD k d)
 | [], k, h, _, _ => absurd h (Nat.not_lt_zero _)
 | a :: l, 0, _, h, _ => by
   have h' : p a = true := h
   simp [List.find?, h']
 | a :: l, k + 1, hk, h, hn => by
   have h' : p a = false := hn 0 (Nat.succ_pos _); have := find_hit p d l k (by simpa using hk) (by simpa using h) (fun j hj => by simpa using hn (j + 1) (by omega))
   simp only [List.find?, h']; rw [this]
   simp
theorem find_miss {α : Type} (p : α → Bool) (d : α) : ∀ (l : List α), (∀ j, j < l.length → p (l.getD j d) = false) → l.find? p = none
 | [], _ => rfl
 | a :: l, hn => by
   have h' : p a = false := hn 0 (Nat.succ_pos _); have := find_miss p d l (fun j hj => by simpa using hn (j + 1) (by simpa using hj))
   simp only [List.find?, h']; exact this
structure PickI (w wr : World) (bk car : Array Value) (g m : Nat) (fP : Nat → Int × Int × Int) : Prop where
 below : Below w.heap.size w wr
 b0 : Blk wr w.heap.size bk 39
 b1 : Blk wr (w.heap.size + 1) car 34
 b2 : Blk wr (w.heap.size + 1 + 1) #[.int .i64 0, .int .i64 0, .int .i64 0] 65
 pl : PlacesAt wr g m fP
theorem PickI.next {w wr wx : World} {bk car : Array Value} {g m : Nat} {fP : Nat → Int × Int × Int} (h : PickI w wr bk car g m fP) (hb : Below wr.heap.size wr wx) : PickI w wx bk car g m fP :=
 ⟨B.next h.below hb h.below.size, h.b0.below hb, h.b1.below hb, h.b2.below hb, h.pl.below hb⟩
set_option maxHeartbeats 4000000 in
theorem pick_any (b : Book) (lv : Value) (len : Nat) (f : Nat → Int × Int × Int) (ci ca cb cc : Int) (w : World) (hb : b.At w) (hs : SizesAt w lv len f) (h1 : 1 ≤ len) (h4 : len ≤ 4) :
  Calls Tryz.prog 36 #[b.val, lv, .agg #[.int .i64 ci, .int .i64 ca, .int .i64 cb, .int .i64 cc]] w fun e w' => e = .returned (pickV (pickO b f ca cb cc len)) ∧ Below w.heap.size w w' := by
 have HBA : Hid (∀ x y z wx, Below w.heap.size w wx → Calls Tryz.prog 66 #[.agg #[.int .i64 b.last, .slice b.sa b.stays.length b.sc, .slice b.ja b.jobs.length b.jc], .agg #[.int .i64 x, .int .i64 y, .int .i64 z]] wx fun e w' => e = .returned (.bool (barredB x y z b)) ∧ Below wx.heap.size wx w') := fun x y z wx hbx => barred_any x y z b wx (hb.below hbx)
 obtain ⟨la, lcap, rfl, hll, hlm, hlc⟩ := hs; obtain ⟨lb, loff, rfl, hlb, hcell⟩ := hlc (by omega); have HL : Hid (∀ j, j < len → ∀ wx, Below w.heap.size w wx → wx.cell? ⟨lb, loff + j * 3, none⟩ = some (.int .i64 (f j).1) ∧ wx.cell? ⟨lb, loff + j * 3 + 1, none⟩ = some (.int .i64 (f j).2.1) ∧ wx.cell? ⟨lb, loff + j * 3 + 2, none⟩ = some (.int .i64 (f j).2.2)) := fun j hj wx hbx => ⟨(hbx.cell (p := ⟨lb, _, none⟩) hlb).trans (hcell j hj).1, (hbx.cell (p := ⟨lb, _, none⟩) hlb).trans (hcell j hj).2.1, (hbx.cell (p := ⟨lb, _, none⟩) hlb).trans (hcell j hj).2.2⟩
 unfold maxLen at hlm; unfold Book.val; clear hlc hcell hb; obtain ⟨w0, hw0⟩ : ∃ w0, ((w.alloc (.cells #[.int .i64 b.last, .slice b.sa b.stays.length b.sc, .slice b.ja b.jobs.length b.jc] 39)).alloc (.cells #[.int .i64 ci, .int .i64 ca, .int .i64 cb, .int .i64 cc] 34)).alloc (.cells #[.int .i64 0, .int .i64 0, .int .i64 0] 65) = w0 := ⟨_, rfl⟩
 have NB : Below w.heap.size w w0 := by rw [← hw0]; exact ((B.new1 _ _).alloc (by simp) _).alloc (by simp; omega) _
 have K0 : Blk w0 w.heap.size #[.int .i64 b.last, .slice b.sa b.stays.length b.sc, .slice b.ja b.jobs.length b.jc] 39 := by rw [← hw0]; exact ((Blk.new _ _ _).old _).old _
 have K1 : Blk w0 (w.heap.size + 1) #[.int .i64 ci, .int .i64 ca, .int .i64 cb, .int .i64 cc] 34 := by rw [← hw0]; exact (Blk.new1 (by simp) _ _).old _
 have K2 : Blk w0 (w.heap.size + 1 + 1) #[.int .i64 0, .int .i64 0, .int .i64 0] 65 := by rw [← hw0]; exact Blk.new1 (by simp) _ _
 have hplen := places_len len h1 h4; have HG : Hid (∀ i, i < 4 * len - 2 → goodAt len i (fun k => (placesTo len (2 * len)).getD k (0, 0, 0))) := places_good len h1 h4
 have KP : Hid (pickO b f ca cb cc len = (placesTo len (2 * len)).find? (okP b f ca cb cc)) := rfl; have HM : Hid (∀ wx, Calls Tryz.prog 65 #[.int .i64 len] wx fun e w' => ∃ v, e = .returned v ∧ PlacesOwn wx w' v (placesTo len (2 * len))) := fun wx => places_any len wx h1 h4
 generalize hpl : placesTo len (2 * len) = pl at *; clear hpl; obtain ⟨m, hm⟩ : ∃ m, m = pl.length := ⟨_, rfl⟩
 have HM1 : Hid (pl.length = m) := hm.symm
 have HG' : Hid (∀ i, i < m → 1 ≤ (pl.getD i (0, 0, 0)).1 ∧ (pl.getD i (0, 0, 0)).1 ≤ len) := fun i hi => by
  have := (HG.out i (by omega)).1; simp only [placeB, decide_eq_true_eq] at this; exact ⟨this.1, this.2.1⟩
 have m1 : 1 ≤ m := by omega
 have m14 : m ≤ 14 := by omega
 clear hm hplen HG
 go_enter Tryz.func36, Tryz.ntmps36
 go_wp2_with fail; refine (HM.out _).mono ?_; rintro e w1 ⟨v, rfl, ho⟩; obtain ⟨g, cap, rfl, pa⟩ := ho.at (by rw [HM1.out]; omega); rw [HM1.out] at pa ⊢; have P1 : Hid (PickI w w1 #[.int .i64 b.last, .slice b.sa b.stays.length b.sc, .slice b.ja b.jobs.length b.jc] #[.int .i64 ci, .int .i64 ca, .int .i64 cb, .int .i64 cc] g m (fun k => pl.getD k (0, 0, 0))) := ⟨B.next NB ho.2 NB.size, K0.below ho.2, K1.below ho.2, K2.below ho.2, pa⟩
 clear ho pa NB K0 K1 K2 hw0 w0 HM; go_wp2_with fail
 go_loopg [14] m (fun gg s14 wr => ∃ kk : Nat, kk ≤ m ∧ m - kk ≤ gg ∧ s14 = .int .i64 kk ∧ Hid (PickI w wr #[.int .i64 b.last, .slice b.sa b.stays.length b.sc, .slice b.ja b.jobs.length b.jc] #[.int .i64 ci, .int .i64 ca, .int .i64 cb, .int .i64 cc] g m (fun k => pl.getD k (0, 0, 0))) ∧ Hid (∀ j, j < kk → okP b f ca cb cc (pl.getD j (0, 0, 0)) = false))
 case atStart => exact ⟨0, Nat.zero_le _, by omega, rfl, P1, fun j hj => absurd hj (Nat.not_lt_zero _)⟩
 case round =>
  clear P1; obtain ⟨kk, hkk, hg, rfl, P, A⟩ := hrel
  by_cases hlt : kk < m
  ·have hltz : (kk : Int) < (m : Int) := by omega
   obtain ⟨c0, c1, c2⟩ := P.out.pl.2 kk hlt; obtain ⟨g1, g2⟩ := HG'.out kk hlt; obtain ⟨j, HJ⟩ : ∃ j : Nat, Hid ((pl.getD kk (0, 0, 0)).1 = (j : Int) + 1 ∧ j < len) := ⟨((pl.getD kk (0, 0, 0)).1 - 1).toNat, by show _ ∧ _; omega⟩
   clear g1 g2
   have KO : Hid (okP b f ca cb cc (pl.getD kk (0, 0, 0)) = (fitsB ca cb cc (f j).1 (f j).2.1 (f j).2.2 && !barredB (pl.getD kk (0, 0, 0)).1 (pl.getD kk (0, 0, 0)).2.1 (pl.getD kk (0, 0, 0)).2.2 b)) := by
    show _ = _
    unfold okP; rw [show ((pl.getD kk (0, 0, 0)).1 - 1).toNat = j from by have := HJ.out.1; omega]
   have hj := HJ.out.2; have hjz : (j : Int) < (len : Int) := by omega
   have wj : IntKind.i64.wrap (j : Int) = (j : Int) := by rw [IntKind.wrap_i64]; omega
   have HX : Hid (pl.getD kk (0, 0, 0) = ((j : Int) + 1, (pl.getD kk (0, 0, 0)).2.1, (pl.getD kk (0, 0, 0)).2.2)) := by show _ = _; rw [← HJ.out.1]
   rw [HJ.out.1] at c0 KO; generalize hyy : (pl.getD kk (0, 0, 0)).2.1 = y at *; generalize hzz : (pl.getD kk (0, 0, 0)).2.2 = z at *; clear hyy hzz; have HBX : Hid (∀ wx, Below wr.heap.size wr wx → Calls Tryz.prog 66 #[.agg #[.int .i64 b.last, .slice b.sa b.stays.length b.sc, .slice b.ja b.jobs.length b.jc], .agg #[.int .i64 ((j : Int) + 1), .int .i64 y, .int .i64 z]] wx fun e w' => e = .returned (.bool (barredB ((j : Int) + 1) y z b)) ∧ Below wx.heap.size wx w') := fun wx hb => HBA.out _ _ _ wx (B.next P.out.below hb P.out.below.size)
   have HLX : Hid (∀ wx, Below wr.heap.size wr wx → wx.cell? ⟨lb, loff + j * 3, none⟩ = some (.int .i64 (f j).1) ∧ wx.cell? ⟨lb, loff + j * 3 + 1, none⟩ = some (.int .i64 (f j).2.1) ∧ wx.cell? ⟨lb, loff + j * 3 + 2, none⟩ = some (.int .i64 (f j).2.2)) := fun wx hb => HL.out j hj wx (B.next P.out.below hb P.out.below.size)
   clear HBA HL HJ; generalize f j = s at *; obtain ⟨q1, HQ1⟩ : ∃ q1, Hid (fitsB ca cb cc s.1 s.2.1 s.2.2 = q1) := ⟨_, rfl⟩
   rw [HQ1.out] at KO; generalize barredB ((j : Int) + 1) y z b = q2 at *; obtain ⟨wa, hwa⟩ : ∃ wa, wr.alloc (.cells #[.int .i64 ((j : Int) + 1), .int .i64 y, .int .i64 z] 65) = wa := ⟨_, rfl⟩
   have NA : Hid (Below wr.heap.size wr wa) := by show Below _ _ _; rw [← hwa]; exact B.new1 _ _
   have KA : Hid (Blk wa wr.heap.size #[.int .i64 ((j : Int) + 1), .int .i64 y, .int .i64 z] 65) := by show Blk _ _ _ _; rw [← hwa]; exact Blk.new _ _ _
   have PA : Hid (PickI w wa #[.int .i64 b.last, .slice b.sa b.stays.length b.sc, .slice b.ja b.jobs.length b.jc] #[.int .i64 ci, .int .i64 ca, .int .i64 cb, .int .i64 cc] g m (fun k => pl.getD k (0, 0, 0))) := P.out.next NA.out
   have NX : Hid (∀ p : BelowW wa, Below wr.heap.size wr p.wd) := fun p => B.next NA.out p.hb NA.out.size
   have f0 := fun p : BelowW wa => (PA.out.b0.below p.hb).cell 0
   have f1 := fun p : BelowW wa => (PA.out.b0.below p.hb).cell 1
   have f2 := fun p : BelowW wa => (PA.out.b0.below p.hb).cell 2
   have f3 := fun p : BelowW wa => (PA.out.b1.below p.hb).cell 1
   have f4 := fun p : BelowW wa => (PA.out.b1.below p.hb).cell 2
   have f5 := fun p : BelowW wa => (PA.out.b1.below p.hb).cell 3
   have f6 := fun p : BelowW wa => (KA.out.below p.hb).cell 0
   have f7 := fun p : BelowW wa => (KA.out.below p.hb).cell 1
   have f8 := fun p : BelowW wa => (KA.out.below p.hb).cell 2
   have l0 := fun p : BelowW wa => (HLX.out p.wd (NX.out p)).1
   have l1 := fun p : BelowW wa => (HLX.out p.wd (NX.out p)).2.1
   have l2 := fun p : BelowW wa => (HLX.out p.wd (NX.out p)).2.2
   clear HLX; have HF : Hid (∀ wx, Calls Tryz.prog 33 #[.agg #[.int .i64 ca, .int .i64 cb, .int .i64 cc], .agg #[.int .i64 s.1, .int .i64 s.2.1, .int .i64 s.2.2]] wx fun e w' => e = .returned (.bool q1) ∧ Below wx.heap.size wx w') := fun wx => by rw [← HQ1.out]; exact fits_any _ _ _ _ _ _ _
   clear HQ1
   cases q1
   ·go_wp2_with fail
    refine wp_region_below (by kernel_rfl) (by kernel_rfl) ?_
    repeat (quiet_step (first | (go_at_call 33; exact Calls.wof (HF.out _))))
    refine wpQuiet_nil ?_; rintro wb ⟨⟨_, NQ⟩, rfl⟩; have PB : Hid (PickI w wb #[.int .i64 b.last, .slice b.sa b.stays.length b.sc, .slice b.ja b.jobs.length b.jc] #[.int .i64 ci, .int .i64 ca, .int .i64 cb, .int .i64 cc] g m (fun k => pl.getD k (0, 0, 0))) := PA.out.next NQ
    clear f0 f1 f2 f3 f4 f5 f6 f7 f8 l0 l1 l2; go_wp2
    go_roundg (m - (kk + 1))
    case measure => omega
    case rel =>
     refine ⟨kk + 1, by omega, by omega, by go_num, PB, (show Hid _ from fun j hj => ?_)⟩
     by_cases e : j = kk
     ·subst e
      rw [KO.out]; rfl
     ·exact A.out j (by omega)
   ·cases q2
    ·go_wp2_with fail
     refine wp_region_below (by kernel_rfl) (by kernel_rfl) ?_
     repeat (quiet_step (first | (go_at_call 33; exact Calls.wof (HF.out _)) | (go_at_call 66; exact Calls.wof (HBX.out _ (NX.out _)))))
     refine wpQuiet_nil ?_; rintro wb ⟨⟨_, NQ⟩, rfl⟩; have PB : Hid (PickI w wb #[.int .i64 b.last, .slice b.sa b.stays.length b.sc, .slice b.ja b.jobs.length b.jc] #[.int .i64 ci, .int .i64 ca, .int .i64 cb, .int .i64 cc] g m (fun k => pl.getD k (0, 0, 0))) := PA.out.next NQ
     have KB := KA.out.below NQ; clear f0 f1 f2 f3 f4 f5 f6 f7 f8 l0 l1 l2; have r0 := KB.cell; have gg := PB.out.b2.cell; have ff := PB.out.b2.free
     have HV : Hid (pickV (pickO b f ca cb cc len) = .tuple #[.agg #[.int .i64 ((j : Int) + 1), .int .i64 y, .int .i64 z], .bool true]) := by
      show _ = _
      rw [KP.out, find_hit (okP b f ca cb cc) (0, 0, 0) pl kk (by rw [HM1.out]; exact hlt) KO.out A.out, HX.out]
      rfl
     go_wp2
     (try simp only [Exit.inBlock, Exit.then])
     refine bodyPost_ret (by simp [results, Tryz.results36, go_sem, set3_0 gg, set3_1 gg, set3_2 gg]; try rfl) rfl ?_; refine ⟨by rw [HV.out], ?_⟩; exact ((PB.out.below.setCell (p := ⟨w.heap.size + 1 + 1, 0, none⟩) (by show w.heap.size ≤ w.heap.size + 1 + 1; omega) _).setCell (p := ⟨w.heap.size + 1 + 1, 1, none⟩) (by show w.heap.size ≤ w.heap.size + 1 + 1; omega) _).setCell (p := ⟨w.heap.size + 1 + 1, 2, none⟩) (by show w.heap.size ≤ w.heap.size + 1 + 1; omega) _
    ·go_wp2_with fail
     refine wp_region_below (by kernel_rfl) (by kernel_rfl) ?_
     repeat (quiet_step (first | (go_at_call 33; exact Calls.wof (HF.out _)) | (go_at_call 66; exact Calls.wof (HBX.out _ (NX.out _)))))
     refine wpQuiet_nil ?_; rintro wb ⟨⟨_, NQ⟩, rfl⟩; have PB : Hid (PickI w wb #[.int .i64 b.last, .slice b.sa b.stays.length b.sc, .slice b.ja b.jobs.length b.jc] #[.int .i64 ci, .int .i64 ca, .int .i64 cb, .int .i64 cc] g m (fun k => pl.getD k (0, 0, 0))) := PA.out.next NQ
     clear f0 f1 f2 f3 f4 f5 f6 f7 f8 l0 l1 l2; go_wp2
     go_roundg (m - (kk + 1))
     case measure => omega
     case rel =>
      refine ⟨kk + 1, by omega, by omega, by go_num, PB, (show Hid _ from fun j hj => ?_)⟩
      by_cases e : j = kk
      ·subst e
       rw [KO.out]; rfl
      ·exact A.out j (by omega)
  ·have hk : kk = m := by omega
   have hltz : ¬ (kk : Int) < (m : Int) := by omega
   have gg := P.out.b2.cell; have ff := P.out.b2.free
   have HV : Hid (pickV (pickO b f ca cb cc len) = .tuple #[.agg #[.int .i64 0, .int .i64 0, .int .i64 0], .bool false]) := by
    show _ = _
    rw [KP.out, find_miss (okP b f ca cb cc) (0, 0, 0) pl (by rw [HM1.out, ← hk]; exact A.out)]
    rfl
   clear hk; go_wp2
   (try simp only [Exit.inBlock, Exit.then])
   refine bodyPost_ret (by simp [results, Tryz.results36, go_sem, set3_0 gg, set3_1 gg, set3_2 gg]; try rfl) rfl ?_; refine ⟨by rw [HV.out], ?_⟩; exact ((P.out.below.setCell (p := ⟨w.heap.size + 1 + 1, 0, none⟩) (by show w.heap.size ≤ w.heap.size + 1 + 1; omega) _).setCell (p := ⟨w.heap.size + 1 + 1, 1, none⟩) (by show w.heap.size ≤ w.heap.size + 1 + 1; omega) _).setCell (p := ⟨w.heap.size + 1 + 1, 2, none⟩) (by show w.heap.size ≤ w.heap.size + 1 + 1; omega) _
end Bk
end Go.Proofs.YtopgllmjeliklaaGreatDoor
