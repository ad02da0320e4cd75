/- Chapter 7: the walk of the statement 'TopOver' (E5): a job that is done is no more; all others keep theirs. -/
import Derived.Test.YtihapeagjikiaaaTopOverA
namespace Go.Proofs.Ytihapeagjikiaaa
open Go.Shelf Go.Lib Go.ChangeShapes Go.WideShapes Go.ChangeAt Go.RowKit
set_option maxRecDepth 100000
set_option linter.unusedSimpArgs false
set_option linter.unusedVariables false

namespace Bk
/-- What the statement holds: the book, the job, and what the book became. -/
structure OverI (w wx : World) (X : Nat) (bk xk : Array Value) (t : Int) (f : Bool) : Prop where
  below : Below w.heap.size w wx
  b0 : Blk wx w.heap.size bk 25
  jb : Blk wx (w.heap.size + 1) #[.int .i64 t, .bool f] 32
  xb : Blk wx X xk 25
theorem OverI.next {w wx wy : World} {X : Nat} {bk xk : Array Value} {t : Int} {f : Bool} (h : OverI w wx X bk xk t f) (hb : Below wx.heap.size wx wy) : OverI w wy X bk xk t f := ⟨B.next h.below hb h.below.size, h.b0.below hb, h.jb.below hb, h.xb.below hb⟩

theorem RowsAt.of_own {α : Type} [Inhabited α] {w : World} {base : Nat} {T : TypeId} {k : Nat} {enc : α → List Value} {a : Option Addr} {cap : Nat} {l : List α} (h : OwnAt w base T k enc (.slice a l.length cap) l) : RowsAt w a cap k enc l := by
  obtain ⟨a', cap', e, r⟩ := h.rows
  cases e
  exact r

set_option maxHeartbeats 8000000 in
theorem topOver_run (b : Book) (lv t : Int) (f gone : Bool) (w : World) (hb : b.At w) :
    Calls Try.prog 6 #[b.val, .int .i64 lv, .agg #[.int .i64 t, .bool f], .bool gone] w fun e w' => e = .returned (.bool true) ∧ Below w.heap.size w w' := by
  obtain ⟨last, sa, sc, ja, jc, stays, jobs⟩ := b
  simp only [Book.val] at *
  have HLB : Hid (∀ wx, Below w.heap.size w wx → Calls Try.prog 11 #[.agg #[.int .i64 last, .slice sa stays.length sc, .slice ja jobs.length jc]] wx fun e w' => e = .returned (.bool (lightB ⟨last, sa, sc, ja, jc, stays, jobs⟩)) ∧ Below wx.heap.size wx w') := fun wx h => lightBook_any ⟨last, sa, sc, ja, jc, stays, jobs⟩ wx (hb.below h)
  have HBC : Hid (∀ n : Nat, 1 ≤ n → n ≤ 4 → ∀ wx, Below w.heap.size w wx → Calls Try.prog 26 #[.agg #[.int .i64 last, .slice sa stays.length sc, .slice ja jobs.length jc], .int .i64 n] wx fun e w' => e = .returned (errV (bookN ⟨last, sa, sc, ja, jc, stays, jobs⟩ n)) ∧ Below wx.heap.size wx w') := fun n h1 h4 wx h => bookCheck_any ⟨last, sa, sc, ja, jc, stays, jobs⟩ n wx (hb.below h) h1 h4
  have HDN : Hid (stays.length ≤ 1000 → jobs.length ≤ 1000 → ∀ wx, Below w.heap.size w wx → Calls Try.prog 22 #[.agg #[.int .i64 last, .slice sa stays.length sc, .slice ja jobs.length jc], .agg #[.int .i64 t, .bool f], .bool gone] wx fun e w' => ∃ vs vj, e = .returned (.agg #[.int .i64 last, vs, vj]) ∧ OwnBook w' wx.heap.size vs vj (doneStays t (f || gone) stays) (doneJobs t f (f || gone) jobs) ∧ Below wx.heap.size wx w') := fun hs hj wx h => done_any ⟨last, sa, sc, ja, jc, stays, jobs⟩ t f gone wx (hb.below h) hs hj
  have HFB : Hid (∀ k wx, Below w.heap.size w wx → Calls Try.prog 30 #[.agg #[.int .i64 last, .slice sa stays.length sc, .slice ja jobs.length jc], .int .i64 k] wx fun e w' => e = .returned (.int .i64 (findI ⟨last, sa, sc, ja, jc, stays, jobs⟩ k)) ∧ Below wx.heap.size wx w') := fun k wx h => find_any ⟨last, sa, sc, ja, jc, stays, jobs⟩ k wx (hb.below h)
  have HSR : Hid (∀ wx, Below w.heap.size w wx → RowsAt wx sa sc 8 Stay.enc stays) := fun wx h => hb.1.below h
  have HJR : Hid (∀ wx, Below w.heap.size w wx → RowsAt wx ja jc 2 Job.enc jobs) := fun wx h => hb.2.below h
  have hm1 := hb.1.2.1; have hm0 := hb.1.1; have hm2 := hb.2.2.1; have hm3 := hb.2.1
  unfold maxLen at hm1 hm2
  have HD0 : Hid (∀ wx, Calls Try.prog 22 #[.agg #[.int .i64 1, .slice none 0 0, .slice none 0 0], .agg #[.int .i64 1, .bool false], .bool true] wx fun e w' => ∃ vs vj, e = .returned (.agg #[.int .i64 1, vs, vj]) ∧ OwnBook w' wx.heap.size vs vj [] [] ∧ Below wx.heap.size wx w') := fun wx => done_any ⟨1, none, 0, none, 0, [], []⟩ 1 false true wx ⟨⟨Nat.le_refl _, Nat.zero_le _, fun h => absurd h (Nat.lt_irrefl _)⟩, ⟨Nat.le_refl _, Nat.zero_le _, fun h => absurd h (Nat.lt_irrefl _)⟩⟩ (Nat.zero_le _) (Nat.zero_le _)
  obtain ⟨w0, hw0⟩ : ∃ w0, (w.alloc (.cells #[.int .i64 last, .slice sa stays.length sc, .slice ja jobs.length jc] 25)).alloc (.cells #[.int .i64 t, .bool f] 32) = w0 := ⟨_, rfl⟩
  have N0 : Hid (Below w.heap.size w w0 ∧ Blk w0 w.heap.size #[.int .i64 last, .slice sa stays.length sc, .slice ja jobs.length jc] 25 ∧ Blk w0 (w.heap.size + 1) #[.int .i64 t, .bool f] 32) := by
    show _ ∧ _ ∧ _
    rw [← hw0]
    exact ⟨(B.new1 _ _).alloc (by simp) _, (Blk.new _ _ _).old _, Blk.new1 (by simp) _ _⟩
  clear hb
  go_enter Try.func6, Try.ntmps6
  go_wp2_with fail
  refine (HD0.out _).mono ?_
  rintro e w1 ⟨vs, vj, rfl, o1, b1⟩
  obtain ⟨sa1, sc1, hvs, _⟩ := o1.s.rows
  obtain ⟨ja1, jc1, hvj, _⟩ := o1.j.rows
  subst hvs hvj
  obtain ⟨w2, hw2⟩ : ∃ w2, w1.alloc (.cells #[.int .i64 1, .slice sa1 ([] : List Stay).length sc1, .slice ja1 ([] : List Job).length jc1] 25) = w2 := ⟨_, rfl⟩
  have N2 : Hid (OverI w w2 w1.heap.size #[.int .i64 last, .slice sa stays.length sc, .slice ja jobs.length jc] #[.int .i64 1, .slice sa1 0 sc1, .slice ja1 0 jc1] t f) := by
    show OverI _ _ _ _ _ _ _
    rw [← hw2]
    exact ⟨B.next (B.next N0.out.1 b1 N0.out.1.size) (B.new1 _ _) (Nat.le_trans N0.out.1.size b1.size), (N0.out.2.1.below b1).old _, (N0.out.2.2.below b1).old _, Blk.new _ _ _⟩
  have hX : w.heap.size + 1 < w1.heap.size := Nat.lt_of_lt_of_le N0.out.2.2.lt b1.size
  clear o1 b1 N0 hw0 HD0
  simp only [List.length_nil] at hw2 ⊢
  have r2 := N2.out.xb.cell
  have r2b := N2.out.b0.cell
  go_wp2_with fail
  clear hw2 r2 r2b
  generalize w1.heap.size = X at *
  refine (HLB.out _ N2.out.below).mono ?_
  rintro e w3 ⟨rfl, b3⟩
  have N3 : Hid (OverI w w3 X #[.int .i64 last, .slice sa stays.length sc, .slice ja jobs.length jc] #[.int .i64 1, .slice sa1 0 sc1, .slice ja1 0 jc1] t f) := N2.out.next b3
  have HLI : Hid (lightB ⟨last, sa, sc, ja, jc, stays, jobs⟩ = (decide (stays.length ≤ 20) && decide (jobs.length ≤ 12))) := rfl
  clear b3 N2 HLB
  by_cases hli : lightB ⟨last, sa, sc, ja, jc, stays, jobs⟩ = true
  case neg =>
    rw [show lightB ⟨last, sa, sc, ja, jc, stays, jobs⟩ = false from by cases h : lightB ⟨last, sa, sc, ja, jc, stays, jobs⟩ <;> simp_all]
    clear hli
    go_wp2
    go_returns
    exact ⟨rfl, N3.out.below⟩
  have hle : stays.length ≤ 20 ∧ jobs.length ≤ 12 := by rw [HLI.out] at hli; simpa using hli
  rw [hli]
  clear hli HLI
  by_cases h1 : 1 ≤ lv
  case neg =>
    have h1z : lv < 1 := by omega
    go_wp2
    go_returns
    exact ⟨rfl, N3.out.below⟩
  have h1z : ¬ lv < 1 := by omega
  by_cases h4 : lv ≤ 4
  case neg =>
    have h4z : 4 < lv := by omega
    go_wp2
    go_returns
    exact ⟨rfl, N3.out.below⟩
  have h4z : ¬ 4 < lv := by omega
  obtain ⟨n, rfl⟩ : ∃ n : Nat, lv = (n : Int) := ⟨lv.toNat, by omega⟩
  have n1 : 1 ≤ n := by omega
  have n4 : n ≤ 4 := by omega
  have r3b := N3.out.b0.cell
  go_wp2_with fail
  clear r3b
  refine (HBC.out n n1 n4 _ N3.out.below).mono ?_
  rintro e w4 ⟨rfl, b4⟩
  have N4 : Hid (OverI w w4 X #[.int .i64 last, .slice sa stays.length sc, .slice ja jobs.length jc] #[.int .i64 1, .slice sa1 0 sc1, .slice ja1 0 jc1] t f) := N3.out.next b4
  clear b4 N3 HBC
  by_cases hbk : bookN ⟨last, sa, sc, ja, jc, stays, jobs⟩ n = 0
  case neg =>
    rw [errV_ne hbk]
    clear hbk
    go_wp2
    go_returns
    exact ⟨rfl, N4.out.below⟩
  have HOK : Hid (BookOK last n stays jobs) := (bookN_zero _ n).1 hbk
  rw [hbk, errV0]
  clear hbk h1 h4 h1z h4z
  have r4 := N4.out.b0.cell
  have r4j := N4.out.jb.cell
  go_wp2_with fail
  clear r4 r4j
  refine (HDN.out (by omega) (by omega) _ N4.out.below).mono ?_
  rintro e w5 ⟨vs, vj, rfl, o5, b5⟩
  obtain ⟨sx, cx, hvs, _⟩ := o5.s.rows
  obtain ⟨jx, dx, hvj, _⟩ := o5.j.rows
  subst hvs hvj
  have N5 : Hid (OverI w w5 X #[.int .i64 last, .slice sa stays.length sc, .slice ja jobs.length jc] #[.int .i64 1, .slice sa1 0 sc1, .slice ja1 0 jc1] t f) := N4.out.next b5
  obtain ⟨en, HEN⟩ : ∃ en, Hid (en = (f || gone)) := ⟨_, rfl⟩
  rw [← HEN.out] at o5 ⊢
  have HOX : Hid (BookOK last n (doneStays t en stays) (doneJobs t f en jobs)) := HOK.out.done t f en (fun h => by rw [HEN.out, h]; rfl)
  have HES : Hid (doneStays t en stays = stays.filter (keepS t en)) := doneStays_eq t en stays
  have HEJ : Hid (doneJobs t f en jobs = jobs.filter (fun x => !goesJ t f en x)) := rfl
  obtain ⟨S, hS⟩ : ∃ S, doneStays t en stays = S := ⟨_, rfl⟩
  obtain ⟨J, hJ⟩ : ∃ J, doneJobs t f en jobs = J := ⟨_, rfl⟩
  rw [hS, hJ] at o5 HOX ⊢
  rw [hS] at HES
  rw [hJ] at HEJ
  clear hS hJ
  have hXb : w4.heap.size ≠ X := by have := N4.out.xb.lt; omega
  obtain ⟨w6, hw6⟩ : ∃ w6, ((w5.setCell ⟨X, 0, none⟩ (.int .i64 last)).setCell ⟨X, 1, none⟩ (.slice sx S.length cx)).setCell ⟨X, 2, none⟩ (.slice jx J.length dx) = w6 := ⟨_, rfl⟩
  have N6 : Hid (OverI w w6 X #[.int .i64 last, .slice sa stays.length sc, .slice ja jobs.length jc] #[.int .i64 last, .slice sx S.length cx, .slice jx J.length dx] t f) := by
    show OverI _ _ _ _ _ _ _
    rw [← hw6]
    refine ⟨((N5.out.below.setCell (p := ⟨X, 0, none⟩) (by show w.heap.size ≤ X; omega) _).setCell (p := ⟨X, 1, none⟩) (by show w.heap.size ≤ X; omega) _).setCell (p := ⟨X, 2, none⟩) (by show w.heap.size ≤ X; omega) _, ?_, ?_, ?_⟩
    · exact ((N5.out.b0.other (by omega) _ _).other (by omega) _ _).other (by omega) _ _
    · exact ((N5.out.jb.other (by omega) _ _).other (by omega) _ _).other (by omega) _ _
    · exact ((N5.out.xb.set 0 _).set 1 _).set 2 _
  have hXl : X < w4.heap.size := N4.out.xb.lt
  have OX : Hid (OwnBook w6 (w4.heap.size) (.slice sx S.length cx) (.slice jx J.length dx) S J) := by
    show OwnBook _ _ _ _ _ _
    rw [← hw6]
    refine ⟨?_, ?_, o5.ne⟩
    · rcases o5.s with h' | ⟨g, cap, cur, hv, hg, hk, r⟩
      · exact Or.inl h'
      · exact Or.inr ⟨g, cap, cur, hv, hg, ((hk.other (by omega) _ _).other (by omega) _ _).other (by omega) _ _, r⟩
    · rcases o5.j with h' | ⟨g, cap, cur, hv, hg, hk, r⟩
      · exact Or.inl h'
      · exact Or.inr ⟨g, cap, cur, hv, hg, ((hk.other (by omega) _ _).other (by omega) _ _).other (by omega) _ _, r⟩
  have HXS : Hid (∀ wx, Below w6.heap.size w6 wx → RowsAt wx sx cx 8 Stay.enc S) := fun wx h => RowsAt.of_own (OX.out.s.below h)
  have HXJ : Hid (∀ wx, Below w6.heap.size w6 wx → RowsAt wx jx dx 2 Job.enc J) := fun wx h => RowsAt.of_own (OX.out.j.below h)
  have hx1 := (HXS.out w6 (Below.refl _ _)).1; have hx2 := (HXS.out w6 (Below.refl _ _)).2.1; have hx3 := (HXJ.out w6 (Below.refl _ _)).1; have hx4 := (HXJ.out w6 (Below.refl _ _)).2.1
  unfold maxLen at hx2 hx4
  have HCX : Hid (∀ wx, Below w6.heap.size w6 wx → Calls Try.prog 26 #[.agg #[.int .i64 last, .slice sx S.length cx, .slice jx J.length dx], .int .i64 n] wx fun e w' => e = .returned (errV 0) ∧ Below wx.heap.size wx w') := fun wx h => by
    rw [← (bookN_zero ⟨last, sx, cx, jx, dx, S, J⟩ n).2 HOX.out]
    exact bookCheck_any ⟨last, sx, cx, jx, dx, S, J⟩ n wx ⟨HXS.out wx h, HXJ.out wx h⟩ n1 n4
  have HFX : Hid (∀ k wx, Below w6.heap.size w6 wx → Calls Try.prog 30 #[.agg #[.int .i64 last, .slice sx S.length cx, .slice jx J.length dx], .int .i64 k] wx fun e w' => e = .returned (.int .i64 (findI ⟨last, sx, cx, jx, dx, S, J⟩ k)) ∧ Below wx.heap.size wx w') := fun k wx h => find_any ⟨last, sx, cx, jx, dx, S, J⟩ k wx ⟨HXS.out wx h, HXJ.out wx h⟩
  have r5 := N5.out.xb.cell
  have f5 := N5.out.xb.free
  have r6 := N6.out.xb.cell
  clear o5 b5 N4 HDN OX
  go_wp2_with fail
  clear r5 f5 r6 hw6 N5
  refine (HCX.out _ (Below.refl _ _)).mono ?_
  rw [errV0]
  rintro e w7 ⟨rfl, b7⟩
  have M7 : Hid (Below w6.heap.size w6 w7 ∧ OverI w w7 X #[.int .i64 last, .slice sa stays.length sc, .slice ja jobs.length jc] #[.int .i64 last, .slice sx S.length cx, .slice jx J.length dx] t f) := ⟨b7, N6.out.next b7⟩
  clear b7 N6 HCX
  have r7 := M7.out.2.xb.cell
  have r7b := M7.out.2.b0.cell
  go_wp2_with fail
  clear r7 r7b
  -- no job of the new book is the one that is done
  go_loopg [10] J.length (fun gg s10 wr => ∃ k : Nat, k ≤ J.length ∧ J.length - k ≤ gg ∧ s10 = .int .i64 k ∧ Hid (Below w6.heap.size w6 wr ∧ OverI w wr X #[.int .i64 last, .slice sa stays.length sc, .slice ja jobs.length jc] #[.int .i64 last, .slice sx S.length cx, .slice jx J.length dx] t f))
  case atStart => exact ⟨0, Nat.zero_le _, by omega, rfl, M7⟩
  case round =>
    clear M7
    obtain ⟨k, hk, hg, rfl, M⟩ := hrel
    have rx := M.out.2.xb.cell
    by_cases hlt : k < J.length
    · have hltz : (k : Int) < (J.length : Int) := by omega
      obtain ⟨jb, joff, rfl⟩ := rows_some (HXJ.out _ M.out.1) (by omega)
      have HNE : Hid ((J[k]!.t == t && J[k]!.f == f) = false) := by
        show _ = _
        have hm : J[k]! ∈ jobs.filter (fun x => !goesJ t f en x) := by rw [← HEJ.out, getElem!_pos J k hlt]; exact List.getElem_mem hlt
        have h2 := (List.mem_filter.1 hm).2
        unfold goesJ at h2
        cases h : (J[k]!.t == t && J[k]!.f == f) with
        | false => rfl
        | true => rw [h] at h2; simp at h2
      have j0 := fun p : BelowW wr => rows_cell (HXJ.out p.wd (B.next M.out.1 p.hb M.out.1.size)) k hlt 0 _ rfl
      have j1 := fun p : BelowW wr => rows_cell (HXJ.out p.wd (B.next M.out.1 p.hb M.out.1.size)) k hlt 1 _ rfl
      simp only [Nat.add_zero] at j0
      have x2 := fun p : BelowW wr => (M.out.2.xb.below p.hb).cell 2
      have y0 := fun p : BelowW wr => (M.out.2.jb.below p.hb).cell 0
      have y1 := fun p : BelowW wr => (M.out.2.jb.below p.hb).cell 1
      have e1 := eqJ_run J[k]!.t t J[k]!.f f
      have g1 := eqJ_guard J[k]!.t t J[k]!.f f
      rw [HNE.out] at e1
      generalize J[k]! = jo at *
      go_wp2_with fail
      clear rx
      refine wp_region_below (by kernel_rfl) (by kernel_rfl) ?_
      repeat (go_big_quiet_step (fail))
      refine wpQuiet_nil ?_
      rintro wq ⟨⟨_, NQ⟩, rfl⟩
      have MQ : Hid (Below w6.heap.size w6 wq ∧ OverI w wq X #[.int .i64 last, .slice sa stays.length sc, .slice ja jobs.length jc] #[.int .i64 last, .slice sx S.length cx, .slice (some ⟨jb, joff, none⟩) J.length dx] t f) := ⟨B.next M.out.1 NQ M.out.1.size, M.out.2.next NQ⟩
      clear j0 j1 x2 y0 y1 e1 g1 NQ HNE M
      go_wp2
      go_roundg (J.length - (k + 1))
      case measure => omega
      case rel => exact ⟨k + 1, by omega, by omega, by go_num, MQ⟩
    · have hltz : ¬ (k : Int) < (J.length : Int) := by omega
      have ry := M.out.2.jb.cell
      rcases (show f = true ∨ (f = false ∧ gone = true) ∨ (f = false ∧ gone = false) from by cases f <;> cases gone <;> simp) with rfl | ⟨rfl, rfl⟩ | ⟨rfl, rfl⟩
      · have hen : en = true := by rw [HEN.out]; cases gone <;> rfl
        have HNF : Hid (findI ⟨last, sx, cx, jx, dx, S, J⟩ t < 0) := by
          show _ < _
          rcases Int.lt_or_le (findI ⟨last, sx, cx, jx, dx, S, J⟩ t) 0 with h | h
          · exact h
          · obtain ⟨s, hs, e⟩ := (findI_nonneg ⟨last, sx, cx, jx, dx, S, J⟩ t).1 h
            simp only at hs
            rw [HES.out] at hs
            have h2 := (List.mem_filter.1 hs).2
            rw [hen] at h2
            simp [keepS, e] at h2
        have rx := M.out.2.xb.cell
        go_wp2_with fail
        clear rx ry hltz hlt hg hk
        refine (HFX.out t _ M.out.1).mono ?_
        rintro e w8 ⟨rfl, b8⟩
        have M8 : Hid (Below w6.heap.size w6 w8 ∧ OverI w w8 X #[.int .i64 last, .slice sa stays.length sc, .slice ja jobs.length jc] #[.int .i64 last, .slice sx S.length cx, .slice jx J.length dx] t true) := ⟨B.next M.out.1 b8 M.out.1.size, M.out.2.next b8⟩
        have hnf : ¬ 0 ≤ findI ⟨last, sx, cx, jx, dx, S, J⟩ t := by have := HNF.out; omega
        generalize findI ⟨last, sx, cx, jx, dx, S, J⟩ t = qf at *
        clear b8 M hen HNF
        go_wp2_with fail
        clear hnf
        go_loopg [11, 12] stays.length (fun gg s11 s12 wr => ∃ i a : Nat, i ≤ stays.length ∧ stays.length - i ≤ gg ∧ s12 = .int .i64 i ∧ s11 = .int .i64 a ∧ Hid (a ≤ posOf (keepS t en) stays i) ∧ Hid (Below w6.heap.size w6 wr ∧ OverI w wr X #[.int .i64 last, .slice sa stays.length sc, .slice ja jobs.length jc] #[.int .i64 last, .slice sx S.length cx, .slice jx J.length dx] t true))
        case atStart => exact ⟨0, 0, Nat.zero_le _, by omega, rfl, rfl, Nat.zero_le _, M8⟩
        case round =>
          clear M8
          obtain ⟨i, a, hi, hgi, rfl, rfl, HA, M⟩ := hrel
          have rb := M.out.2.b0.cell
          by_cases hlt : i < stays.length
          · have hltz : (i : Int) < (stays.length : Int) := by omega
            obtain ⟨sb, soff, rfl⟩ := rows_some (HSR.out _ M.out.2.below) (by omega)
            have HIX : Hid (stays[i]! = stays[i]) := getElem!_pos stays i hlt
            have s0 := fun p : BelowW wr => rows_cell (HSR.out p.wd (M.out.2.next p.hb).below) i hlt 0 _ rfl
            simp only [Nat.add_zero] at s0
            have b1 := fun p : BelowW wr => (M.out.2.b0.below p.hb).cell 1
            have y0 := fun p : BelowW wr => (M.out.2.jb.below p.hb).cell 0
            have HPS : Hid (posOf (keepS t en) stays i ≤ posOf (keepS t en) stays (i + 1)) := by show _ ≤ _; rw [posOf_succ _ _ _ hlt]; omega
            cases hq : (stays[i]!.t == t)
            · have HQ : Hid ((stays[i]!.t == t) = false) := hq
              have HF : Hid (findI ⟨last, sx, cx, jx, dx, S, J⟩ stays[i]!.t = (posOf (keepS t en) stays i : Nat)) := by
                show _ = _
                rw [HIX.out]
                have := findI_filter ⟨last, some ⟨sb, soff, none⟩, sc, ja, jc, stays, jobs⟩ last sx jx cx dx J (keepS t en) HOK.out.s.pair i hlt (by have h := HQ.out; rw [HIX.out] at h; simp [keepS, h])
                rw [← HES.out] at this
                exact this
              have HSP : Hid (S[posOf (keepS t en) stays i]! = stays[i]! ∧ posOf (keepS t en) stays i < S.length) := by
                show _ ∧ _
                have h := filter_at (keepS t en) stays i hlt (by have h := HQ.out; rw [HIX.out] at h; simp [keepS, h])
                rw [← HES.out] at h
                obtain ⟨h1, h2⟩ := List.getElem?_eq_some_iff.1 h
                exact ⟨by rw [getElem!_pos S _ h1, h2, HIX.out], h1⟩
              generalize posOf (keepS t en) stays i = P at *
              obtain ⟨xb, xoff, rfl⟩ := rows_some (HXS.out _ M.out.1) (Nat.lt_of_le_of_lt (Nat.zero_le _) HSP.out.2)
              have hPz : (P : Int) < (S.length : Int) := by have := HSP.out.2; omega
              have hPa : ¬ (P : Int) < (a : Int) := by have := HA.out; omega
              have hPd : decide ((P : Int) < (a : Int)) = false := decide_eq_false hPa
              have hPn : decide (P < a) = false := decide_eq_false (by omega)
              have HXC : Hid (∀ wx, Below w6.heap.size w6 wx → ∀ c u, (Stay.enc stays[i]!)[c]? = some u → wx.cell? ⟨xb, xoff + P * 8 + c, none⟩ = some u) := fun wx h c u hu => rows_cell (HXS.out wx h) P HSP.out.2 c u (by rw [HSP.out.1]; exact hu)
              have HSC : Hid (∀ wx, Below w.heap.size w wx → ∀ c u, (Stay.enc stays[i]!)[c]? = some u → wx.cell? ⟨sb, soff + i * 8 + c, none⟩ = some u) := fun wx h c u hu => rows_cell (HSR.out wx h) i hlt c u hu
              have HFC : Hid (∀ p : BelowW wr, Calls Try.prog 30 #[.agg #[.int .i64 last, .slice (some ⟨xb, xoff, none⟩) S.length cx, .slice jx J.length dx], .int .i64 stays[i]!.t] p.wd fun e w' => e = .returned (.int .i64 P) ∧ Below p.wd.heap.size p.wd w') := fun p => by
                rw [← HF.out]
                exact HFX.out _ p.wd (B.next M.out.1 p.hb M.out.1.size)
              have HFP : Hid (∀ wx, Below w6.heap.size w6 wx → Calls Try.prog 30 #[.agg #[.int .i64 last, .slice (some ⟨xb, xoff, none⟩) S.length cx, .slice jx J.length dx], .int .i64 stays[i]!.t] wx fun e w' => e = .returned (.int .i64 P) ∧ Below wx.heap.size wx w') := fun wx h => by
                rw [← HF.out]
                exact HFX.out _ wx h
              have eS := neqStay_run stays[i]!
              have gS := guardStay_run
              clear HF HSP HIX
              generalize stays[i]! = sv at *
              obtain ⟨vt, vi, va, vb, vc, vx, vy, vz⟩ := sv
              simp only at s0 hq eS HFC
              go_wp2_with fail
              clear rb
              refine wp_region_below (by kernel_rfl) (by kernel_rfl) ?_
              repeat (go_big_quiet_step (fail))
              refine wpQuiet_nil ?_
              rintro wq ⟨⟨_, NQ⟩, rfl⟩
              have MQ : Hid (Below w6.heap.size w6 wq ∧ OverI w wq X #[.int .i64 last, .slice (some ⟨sb, soff, none⟩) stays.length sc, .slice ja jobs.length jc] #[.int .i64 last, .slice (some ⟨xb, xoff, none⟩) S.length cx, .slice jx J.length dx] t true) := ⟨B.next M.out.1 NQ M.out.1.size, M.out.2.next NQ⟩
              clear s0 b1 y0 NQ M HFC hq
              have s0 := fun p : BelowW wq => HSC.out p.wd (MQ.out.2.next p.hb).below 0 _ rfl
              simp only [Nat.add_zero] at s0
              have b1 := fun p : BelowW wq => (MQ.out.2.b0.below p.hb).cell 1
              have z0 := fun p : BelowW wq => (MQ.out.2.xb.below p.hb).cell 0
              have z1 := fun p : BelowW wq => (MQ.out.2.xb.below p.hb).cell 1
              have z2 := fun p : BelowW wq => (MQ.out.2.xb.below p.hb).cell 2
              have HFC : Hid (∀ p : BelowW wq, Calls Try.prog 30 #[.agg #[.int .i64 last, .slice (some ⟨xb, xoff, none⟩) S.length cx, .slice jx J.length dx], .int .i64 vt] p.wd fun e w' => e = .returned (.int .i64 P) ∧ Below p.wd.heap.size p.wd w') := fun p => HFP.out p.wd (B.next MQ.out.1 p.hb MQ.out.1.size)
              go_wp2_with fail
              refine wp_region_below (by kernel_rfl) (by kernel_rfl) ?_
              repeat (go_big_quiet_step (first | (go_at_call 30; exact Calls.wof (HFC.out _))))
              refine wpQuiet_nil ?_
              rintro wz ⟨⟨_, NQ⟩, rfl⟩
              have MZ : Hid (Below w6.heap.size w6 wz ∧ OverI w wz X #[.int .i64 last, .slice (some ⟨sb, soff, none⟩) stays.length sc, .slice ja jobs.length jc] #[.int .i64 last, .slice (some ⟨xb, xoff, none⟩) S.length cx, .slice jx J.length dx] t true) := ⟨B.next MQ.out.1 NQ MQ.out.1.size, MQ.out.2.next NQ⟩
              clear s0 b1 z0 z1 z2 NQ MQ HFC
              have b1 := fun p : BelowW wz => (MZ.out.2.b0.below p.hb).cell 1
              have z1 := fun p : BelowW wz => (MZ.out.2.xb.below p.hb).cell 1
              have s0 := fun p : BelowW wz => HSC.out p.wd (MZ.out.2.next p.hb).below 0 _ rfl
              have q0 := fun p : BelowW wz => HXC.out p.wd (B.next MZ.out.1 p.hb MZ.out.1.size) 0 _ rfl
              have s1 := fun p : BelowW wz => HSC.out p.wd (MZ.out.2.next p.hb).below 1 _ rfl
              have q1 := fun p : BelowW wz => HXC.out p.wd (B.next MZ.out.1 p.hb MZ.out.1.size) 1 _ rfl
              have s2 := fun p : BelowW wz => HSC.out p.wd (MZ.out.2.next p.hb).below 2 _ rfl
              have q2 := fun p : BelowW wz => HXC.out p.wd (B.next MZ.out.1 p.hb MZ.out.1.size) 2 _ rfl
              have s3 := fun p : BelowW wz => HSC.out p.wd (MZ.out.2.next p.hb).below 3 _ rfl
              have q3 := fun p : BelowW wz => HXC.out p.wd (B.next MZ.out.1 p.hb MZ.out.1.size) 3 _ rfl
              have s4 := fun p : BelowW wz => HSC.out p.wd (MZ.out.2.next p.hb).below 4 _ rfl
              have q4 := fun p : BelowW wz => HXC.out p.wd (B.next MZ.out.1 p.hb MZ.out.1.size) 4 _ rfl
              have s5 := fun p : BelowW wz => HSC.out p.wd (MZ.out.2.next p.hb).below 5 _ rfl
              have q5 := fun p : BelowW wz => HXC.out p.wd (B.next MZ.out.1 p.hb MZ.out.1.size) 5 _ rfl
              have s6 := fun p : BelowW wz => HSC.out p.wd (MZ.out.2.next p.hb).below 6 _ rfl
              have q6 := fun p : BelowW wz => HXC.out p.wd (B.next MZ.out.1 p.hb MZ.out.1.size) 6 _ rfl
              have s7 := fun p : BelowW wz => HSC.out p.wd (MZ.out.2.next p.hb).below 7 _ rfl
              have q7 := fun p : BelowW wz => HXC.out p.wd (B.next MZ.out.1 p.hb MZ.out.1.size) 7 _ rfl
              simp only [Nat.add_zero] at s0 q0
              go_wp2_with fail
              refine wp_region_below (by kernel_rfl) (by kernel_rfl) ?_
              repeat (go_big_quiet_step (fail))
              refine wpQuiet_nil ?_
              rintro wy ⟨⟨_, NQ⟩, rfl⟩
              have MY : Hid (Below w6.heap.size w6 wy ∧ OverI w wy X #[.int .i64 last, .slice (some ⟨sb, soff, none⟩) stays.length sc, .slice ja jobs.length jc] #[.int .i64 last, .slice (some ⟨xb, xoff, none⟩) S.length cx, .slice jx J.length dx] t true) := ⟨B.next MZ.out.1 NQ MZ.out.1.size, MZ.out.2.next NQ⟩
              clear s0 s1 s2 s3 s4 s5 s6 s7 q0 q1 q2 q3 q4 q5 q6 q7 b1 z1 NQ MZ eS gS
              go_wp2
              go_roundg (stays.length - (i + 1))
              case measure => omega
              case rel => exact ⟨i + 1, P, by omega, by omega, by go_num, rfl, HPS, MY⟩
            · clear HIX
              generalize stays[i]! = sv at *
              obtain ⟨vt, vi, va, vb, vc, vx, vy, vz⟩ := sv
              simp only at s0 hq
              go_wp2_with fail
              clear rb
              refine wp_region_below (by kernel_rfl) (by kernel_rfl) ?_
              repeat (go_big_quiet_step (fail))
              refine wpQuiet_nil ?_
              rintro wq ⟨⟨_, NQ⟩, rfl⟩
              have MQ : Hid (Below w6.heap.size w6 wq ∧ OverI w wq X #[.int .i64 last, .slice (some ⟨sb, soff, none⟩) stays.length sc, .slice ja jobs.length jc] #[.int .i64 last, .slice sx S.length cx, .slice jx J.length dx] t true) := ⟨B.next M.out.1 NQ M.out.1.size, M.out.2.next NQ⟩
              have HA2 : Hid (a ≤ posOf (keepS t en) stays (i + 1)) := Nat.le_trans HA.out HPS.out
              clear s0 b1 y0 NQ M hq
              go_wp2
              go_roundg (stays.length - (i + 1))
              case measure => omega
              case rel => exact ⟨i + 1, a, by omega, by omega, by go_num, rfl, HA2, MQ⟩
          · have hltz : ¬ (i : Int) < (stays.length : Int) := by omega
            go_wp2_with fail
            clear rb hltz hlt hgi hi HA
            go_loopg [11, 14] J.length (fun gg s11 s14 wr => ∃ i a : Nat, i ≤ J.length ∧ J.length - i ≤ gg ∧ a ≤ jobs.length ∧ s14 = .int .i64 i ∧ s11 = .int .i64 a ∧ Hid (posOf (fun x => !goesJ t true en x) jobs a = i) ∧ Hid (Below w6.heap.size w6 wr ∧ OverI w wr X #[.int .i64 last, .slice sa stays.length sc, .slice ja jobs.length jc] #[.int .i64 last, .slice sx S.length cx, .slice jx J.length dx] t true))
            case atStart => exact ⟨0, 0, Nat.zero_le _, by omega, Nat.zero_le _, rfl, rfl, rfl, M⟩
            case round =>
              clear M
              obtain ⟨i, a, hi, hgi, ha, rfl, rfl, HA, M⟩ := hrel
              have rx := M.out.2.xb.cell
              by_cases hlt : i < J.length
              · have hltz : (i : Int) < (J.length : Int) := by omega
                go_wp2_with fail
                clear rx
                go_loopg [11] jobs.length (fun gg s11 wr => ∃ a : Nat, a ≤ jobs.length ∧ jobs.length - a ≤ gg ∧ s11 = .int .i64 a ∧ Hid (posOf (fun x => !goesJ t true en x) jobs a = i) ∧ Hid (Below w6.heap.size w6 wr ∧ OverI w wr X #[.int .i64 last, .slice sa stays.length sc, .slice ja jobs.length jc] #[.int .i64 last, .slice sx S.length cx, .slice jx J.length dx] t true))
                case atStart => exact ⟨a, ha, by omega, rfl, HA, M⟩
                case round =>
                  clear M HA ha
                  obtain ⟨a, ha, hga, rfl, HA, M⟩ := hrel
                  have hla : a < jobs.length := by
                    rcases Nat.lt_or_ge a jobs.length with h | h
                    · exact h
                    · have he : a = jobs.length := by omega
                      have := HA.out
                      rw [he, posOf_all, ← HEJ.out] at this
                      omega
                  have hlaz : (a : Int) < (jobs.length : Int) := by omega
                  obtain ⟨jb, joff, rfl⟩ := rows_some (HJR.out _ M.out.2.below) (by omega)
                  obtain ⟨yb, yoff, rfl⟩ := rows_some (HXJ.out _ M.out.1) (by omega)
                  have HJX : Hid (jobs[a]! = jobs[a]) := getElem!_pos jobs a hla
                  have HSU : Hid (posOf (fun x => !goesJ t true en x) jobs (a + 1) = posOf (fun x => !goesJ t true en x) jobs a + (if (fun x => !goesJ t true en x) jobs[a]! = true then 1 else 0)) := by show _ = _; rw [HJX.out]; exact posOf_succ _ _ _ hla
                  have HKI : Hid ((fun x => !goesJ t true en x) jobs[a]! = true → jobs[a]! = J[i]!) := fun h => by
                    rw [HJX.out] at h ⊢
                    have h2 := filter_at (fun x => !goesJ t true en x) jobs a hla h
                    rw [← HEJ.out, HA.out] at h2
                    obtain ⟨h3, h4⟩ := List.getElem?_eq_some_iff.1 h2
                    rw [getElem!_pos J i h3, h4]
                  have HKJ : Hid ((fun x => !goesJ t true en x) J[i]! = true) := by
                    show _ = _
                    have hm : J[i]! ∈ jobs.filter (fun x => !goesJ t true en x) := by rw [← HEJ.out, getElem!_pos J i hlt]; exact List.getElem_mem hlt
                    exact (List.mem_filter.1 hm).2
                  have j0 := fun p : BelowW wr => rows_cell (HJR.out p.wd (M.out.2.next p.hb).below) a hla 0 _ rfl
                  have j1 := fun p : BelowW wr => rows_cell (HJR.out p.wd (M.out.2.next p.hb).below) a hla 1 _ rfl
                  have k0 := fun p : BelowW wr => rows_cell (HXJ.out p.wd (B.next M.out.1 p.hb M.out.1.size)) i hlt 0 _ rfl
                  have k1 := fun p : BelowW wr => rows_cell (HXJ.out p.wd (B.next M.out.1 p.hb M.out.1.size)) i hlt 1 _ rfl
                  simp only [Nat.add_zero] at j0 k0
                  have HJ0 : Hid (∀ wx, Below w.heap.size w wx → wx.cell? ⟨jb, joff + a * 2, none⟩ = some (.int .i64 jobs[a]!.t)) := fun wx h => by have := rows_cell (HJR.out wx h) a hla 0 _ rfl; simpa using this
                  have b2 := fun p : BelowW wr => (M.out.2.b0.below p.hb).cell 2
                  have x2 := fun p : BelowW wr => (M.out.2.xb.below p.hb).cell 2
                  have e1 := neqJJ_run jobs[a]!.t J[i]!.t jobs[a]!.f J[i]!.f
                  have g1 := eqJ_guard jobs[a]!.t J[i]!.t jobs[a]!.f J[i]!.f
                  cases hq : (jobs[a]!.t == J[i]!.t && jobs[a]!.f == J[i]!.f)
                  · have HNE : Hid (jobs[a]! ≠ J[i]!) := fun e => by rw [e] at hq; simp at hq
                    have HGO : Hid ((fun x => !goesJ t true en x) jobs[a]! = false) := by
                      show _ = _
                      cases h : (fun x => !goesJ t true en x) jobs[a]! with
                      | false => rfl
                      | true => exact absurd (HKI.out h) HNE.out
                    have HTT : Hid ((jobs[a]!.t != t) = false) := by
                      show _ = _
                      have h := HGO.out
                      simp only [Bool.not_eq_false'] at h
                      unfold goesJ at h
                      generalize jobs[a]! = u at h ⊢
                      by_cases e : u.t = t
                      · simp [e]
                      · simp [e] at h
                    have HP1 : Hid (posOf (fun x => !goesJ t true en x) jobs (a + 1) = i) := by show _ = _; rw [HSU.out, HGO.out, HA.out]; rfl
                    rw [hq] at e1
                    clear HKI HKJ HSU HNE HGO hq HJX
                    generalize jobs[a]! = jo at *
                    generalize J[i]! = ko at *
                    go_wp2_with fail
                    refine wp_region_below (by kernel_rfl) (by kernel_rfl) ?_
                    repeat (go_big_quiet_step (fail))
                    refine wpQuiet_nil ?_
                    rintro wq ⟨⟨_, NQ⟩, rfl⟩
                    have MQ : Hid (Below w6.heap.size w6 wq ∧ OverI w wq X #[.int .i64 last, .slice sa stays.length sc, .slice (some ⟨jb, joff, none⟩) jobs.length jc] #[.int .i64 last, .slice sx S.length cx, .slice (some ⟨yb, yoff, none⟩) J.length dx] t true) := ⟨B.next M.out.1 NQ M.out.1.size, M.out.2.next NQ⟩
                    clear j0 j1 k0 k1 b2 x2 e1 g1 NQ M
                    have j0 := fun p : BelowW wq => HJ0.out p.wd (MQ.out.2.next p.hb).below
                    have b2 := fun p : BelowW wq => (MQ.out.2.b0.below p.hb).cell 2
                    have y0 := fun p : BelowW wq => (MQ.out.2.jb.below p.hb).cell 0
                    have ht := HTT.out
                    go_wp2_with fail
                    refine wp_region_below (by kernel_rfl) (by kernel_rfl) ?_
                    repeat (go_big_quiet_step (fail))
                    refine wpQuiet_nil ?_
                    rintro wz ⟨⟨_, NQ⟩, rfl⟩
                    have MZ : Hid (Below w6.heap.size w6 wz ∧ OverI w wz X #[.int .i64 last, .slice sa stays.length sc, .slice (some ⟨jb, joff, none⟩) jobs.length jc] #[.int .i64 last, .slice sx S.length cx, .slice (some ⟨yb, yoff, none⟩) J.length dx] t true) := ⟨B.next MQ.out.1 NQ MQ.out.1.size, MQ.out.2.next NQ⟩
                    clear j0 b2 y0 NQ MQ ht
                    go_wp2
                    go_roundg (jobs.length - (a + 1))
                    case measure => omega
                    case rel => exact ⟨a + 1, by omega, by omega, by go_num, HP1, MZ⟩
                  · have HEQ : Hid (jobs[a]! = J[i]!) := by
                      show _ = _
                      simp only [Bool.and_eq_true, beq_iff_eq] at hq
                      generalize jobs[a]! = u at hq ⊢
                      generalize J[i]! = v at hq ⊢
                      obtain ⟨u1, u2⟩ := u
                      obtain ⟨v1, v2⟩ := v
                      simp at hq
                      rw [hq.1, hq.2]
                    have HP1 : Hid (posOf (fun x => !goesJ t true en x) jobs (a + 1) = i + 1) := by show _ = _; rw [HSU.out, HEQ.out, HKJ.out, HA.out]; rfl
                    rw [hq] at e1
                    clear HKI HKJ HSU HEQ hq HJX
                    generalize jobs[a]! = jo at *
                    generalize J[i]! = ko at *
                    go_wp2_with fail
                    refine wp_region_below (by kernel_rfl) (by kernel_rfl) ?_
                    repeat (go_big_quiet_step (fail))
                    refine wpQuiet_nil ?_
                    rintro wq ⟨⟨_, NQ⟩, rfl⟩
                    have MQ : Hid (Below w6.heap.size w6 wq ∧ OverI w wq X #[.int .i64 last, .slice sa stays.length sc, .slice (some ⟨jb, joff, none⟩) jobs.length jc] #[.int .i64 last, .slice sx S.length cx, .slice (some ⟨yb, yoff, none⟩) J.length dx] t true) := ⟨B.next M.out.1 NQ M.out.1.size, M.out.2.next NQ⟩
                    clear j0 j1 k0 k1 b2 x2 e1 g1 NQ M
                    go_wp2
                    go_roundg (J.length - (i + 1))
                    case measure => omega
                    case rel => exact ⟨i + 1, a + 1, by omega, by omega, by omega, by go_num, by go_num, HP1, MQ⟩
              · have hltz : ¬ (i : Int) < (J.length : Int) := by omega
                have hie : i = J.length := by omega
                subst hie
                go_wp2_with fail
                clear rx hltz hlt hgi hi
                go_loopg [11] jobs.length (fun gg s11 wr => ∃ a : Nat, a ≤ jobs.length ∧ jobs.length - a ≤ gg ∧ s11 = .int .i64 a ∧ Hid (posOf (fun x => !goesJ t true en x) jobs a = J.length) ∧ Hid (Below w6.heap.size w6 wr ∧ OverI w wr X #[.int .i64 last, .slice sa stays.length sc, .slice ja jobs.length jc] #[.int .i64 last, .slice sx S.length cx, .slice jx J.length dx] t true))
                case atStart => exact ⟨a, ha, by omega, rfl, HA, M⟩
                case round =>
                  clear M HA ha
                  obtain ⟨a, ha, hga, rfl, HA, M⟩ := hrel
                  have rb := M.out.2.b0.cell
                  by_cases hla : a < jobs.length
                  · have hlaz : (a : Int) < (jobs.length : Int) := by omega
                    obtain ⟨jb, joff, rfl⟩ := rows_some (HJR.out _ M.out.2.below) (by omega)
                    have HJX : Hid (jobs[a]! = jobs[a]) := getElem!_pos jobs a hla
                    have HGO : Hid ((fun x => !goesJ t true en x) jobs[a]! = false) := by
                      show _ = _
                      cases h : (fun x => !goesJ t true en x) jobs[a]! with
                      | false => rfl
                      | true =>
                        have h1 := posOf_succ (fun x => !goesJ t true en x) jobs a hla
                        rw [← HJX.out, if_pos h, HA.out] at h1
                        have h2 := posOf_le (fun x => !goesJ t true en x) jobs (a + 1)
                        rw [← HEJ.out] at h2
                        omega
                    have HP1 : Hid (posOf (fun x => !goesJ t true en x) jobs (a + 1) = J.length) := by show _ = _; rw [posOf_succ _ _ _ hla, ← HJX.out, if_neg (by have h := HGO.out; simp only at h; rw [h]; decide), HA.out]; rfl
                    have HTT : Hid ((jobs[a]!.t != t) = false) := by
                      show _ = _
                      have h := HGO.out
                      simp only [Bool.not_eq_false'] at h
                      unfold goesJ at h
                      generalize jobs[a]! = u at h ⊢
                      by_cases e : u.t = t
                      · simp [e]
                      · simp [e] at h
                    have j0 := fun p : BelowW wr => rows_cell (HJR.out p.wd (M.out.2.next p.hb).below) a hla 0 _ rfl
                    simp only [Nat.add_zero] at j0
                    have b2 := fun p : BelowW wr => (M.out.2.b0.below p.hb).cell 2
                    have y0 := fun p : BelowW wr => (M.out.2.jb.below p.hb).cell 0
                    have ht := HTT.out
                    clear HGO HJX
                    generalize jobs[a]! = jo at *
                    go_wp2_with fail
                    clear rb
                    refine wp_region_below (by kernel_rfl) (by kernel_rfl) ?_
                    repeat (go_big_quiet_step (fail))
                    refine wpQuiet_nil ?_
                    rintro wq ⟨⟨_, NQ⟩, rfl⟩
                    have MQ : Hid (Below w6.heap.size w6 wq ∧ OverI w wq X #[.int .i64 last, .slice sa stays.length sc, .slice (some ⟨jb, joff, none⟩) jobs.length jc] #[.int .i64 last, .slice sx S.length cx, .slice jx J.length dx] t true) := ⟨B.next M.out.1 NQ M.out.1.size, M.out.2.next NQ⟩
                    clear j0 b2 y0 NQ M ht
                    go_wp2
                    go_roundg (jobs.length - (a + 1))
                    case measure => omega
                    case rel => exact ⟨a + 1, by omega, by omega, by go_num, HP1, MQ⟩
                  · have hlaz : ¬ (a : Int) < (jobs.length : Int) := by omega
                    go_wp2
                    go_returns
                    exact ⟨rfl, M.out.2.below⟩
      · have hen : en = true := by rw [HEN.out]; rfl
        have HNF : Hid (findI ⟨last, sx, cx, jx, dx, S, J⟩ t < 0) := by
          show _ < _
          rcases Int.lt_or_le (findI ⟨last, sx, cx, jx, dx, S, J⟩ t) 0 with h | h
          · exact h
          · obtain ⟨s, hs, e⟩ := (findI_nonneg ⟨last, sx, cx, jx, dx, S, J⟩ t).1 h
            simp only at hs
            rw [HES.out] at hs
            have h2 := (List.mem_filter.1 hs).2
            rw [hen] at h2
            simp [keepS, e] at h2
        have rx := M.out.2.xb.cell
        go_wp2_with fail
        clear rx ry hltz hlt hg hk
        refine (HFX.out t _ M.out.1).mono ?_
        rintro e w8 ⟨rfl, b8⟩
        have M8 : Hid (Below w6.heap.size w6 w8 ∧ OverI w w8 X #[.int .i64 last, .slice sa stays.length sc, .slice ja jobs.length jc] #[.int .i64 last, .slice sx S.length cx, .slice jx J.length dx] t false) := ⟨B.next M.out.1 b8 M.out.1.size, M.out.2.next b8⟩
        have hnf : ¬ 0 ≤ findI ⟨last, sx, cx, jx, dx, S, J⟩ t := by have := HNF.out; omega
        generalize findI ⟨last, sx, cx, jx, dx, S, J⟩ t = qf at *
        clear b8 M hen HNF
        go_wp2_with fail
        clear hnf
        go_loopg [11, 12] stays.length (fun gg s11 s12 wr => ∃ i a : Nat, i ≤ stays.length ∧ stays.length - i ≤ gg ∧ s12 = .int .i64 i ∧ s11 = .int .i64 a ∧ Hid (a ≤ posOf (keepS t en) stays i) ∧ Hid (Below w6.heap.size w6 wr ∧ OverI w wr X #[.int .i64 last, .slice sa stays.length sc, .slice ja jobs.length jc] #[.int .i64 last, .slice sx S.length cx, .slice jx J.length dx] t false))
        case atStart => exact ⟨0, 0, Nat.zero_le _, by omega, rfl, rfl, Nat.zero_le _, M8⟩
        case round =>
          clear M8
          obtain ⟨i, a, hi, hgi, rfl, rfl, HA, M⟩ := hrel
          have rb := M.out.2.b0.cell
          by_cases hlt : i < stays.length
          · have hltz : (i : Int) < (stays.length : Int) := by omega
            obtain ⟨sb, soff, rfl⟩ := rows_some (HSR.out _ M.out.2.below) (by omega)
            have HIX : Hid (stays[i]! = stays[i]) := getElem!_pos stays i hlt
            have s0 := fun p : BelowW wr => rows_cell (HSR.out p.wd (M.out.2.next p.hb).below) i hlt 0 _ rfl
            simp only [Nat.add_zero] at s0
            have b1 := fun p : BelowW wr => (M.out.2.b0.below p.hb).cell 1
            have y0 := fun p : BelowW wr => (M.out.2.jb.below p.hb).cell 0
            have HPS : Hid (posOf (keepS t en) stays i ≤ posOf (keepS t en) stays (i + 1)) := by show _ ≤ _; rw [posOf_succ _ _ _ hlt]; omega
            cases hq : (stays[i]!.t == t)
            · have HQ : Hid ((stays[i]!.t == t) = false) := hq
              have HF : Hid (findI ⟨last, sx, cx, jx, dx, S, J⟩ stays[i]!.t = (posOf (keepS t en) stays i : Nat)) := by
                show _ = _
                rw [HIX.out]
                have := findI_filter ⟨last, some ⟨sb, soff, none⟩, sc, ja, jc, stays, jobs⟩ last sx jx cx dx J (keepS t en) HOK.out.s.pair i hlt (by have h := HQ.out; rw [HIX.out] at h; simp [keepS, h])
                rw [← HES.out] at this
                exact this
              have HSP : Hid (S[posOf (keepS t en) stays i]! = stays[i]! ∧ posOf (keepS t en) stays i < S.length) := by
                show _ ∧ _
                have h := filter_at (keepS t en) stays i hlt (by have h := HQ.out; rw [HIX.out] at h; simp [keepS, h])
                rw [← HES.out] at h
                obtain ⟨h1, h2⟩ := List.getElem?_eq_some_iff.1 h
                exact ⟨by rw [getElem!_pos S _ h1, h2, HIX.out], h1⟩
              generalize posOf (keepS t en) stays i = P at *
              obtain ⟨xb, xoff, rfl⟩ := rows_some (HXS.out _ M.out.1) (Nat.lt_of_le_of_lt (Nat.zero_le _) HSP.out.2)
              have hPz : (P : Int) < (S.length : Int) := by have := HSP.out.2; omega
              have hPa : ¬ (P : Int) < (a : Int) := by have := HA.out; omega
              have hPd : decide ((P : Int) < (a : Int)) = false := decide_eq_false hPa
              have hPn : decide (P < a) = false := decide_eq_false (by omega)
              have HXC : Hid (∀ wx, Below w6.heap.size w6 wx → ∀ c u, (Stay.enc stays[i]!)[c]? = some u → wx.cell? ⟨xb, xoff + P * 8 + c, none⟩ = some u) := fun wx h c u hu => rows_cell (HXS.out wx h) P HSP.out.2 c u (by rw [HSP.out.1]; exact hu)
              have HSC : Hid (∀ wx, Below w.heap.size w wx → ∀ c u, (Stay.enc stays[i]!)[c]? = some u → wx.cell? ⟨sb, soff + i * 8 + c, none⟩ = some u) := fun wx h c u hu => rows_cell (HSR.out wx h) i hlt c u hu
              have HFC : Hid (∀ p : BelowW wr, Calls Try.prog 30 #[.agg #[.int .i64 last, .slice (some ⟨xb, xoff, none⟩) S.length cx, .slice jx J.length dx], .int .i64 stays[i]!.t] p.wd fun e w' => e = .returned (.int .i64 P) ∧ Below p.wd.heap.size p.wd w') := fun p => by
                rw [← HF.out]
                exact HFX.out _ p.wd (B.next M.out.1 p.hb M.out.1.size)
              have HFP : Hid (∀ wx, Below w6.heap.size w6 wx → Calls Try.prog 30 #[.agg #[.int .i64 last, .slice (some ⟨xb, xoff, none⟩) S.length cx, .slice jx J.length dx], .int .i64 stays[i]!.t] wx fun e w' => e = .returned (.int .i64 P) ∧ Below wx.heap.size wx w') := fun wx h => by
                rw [← HF.out]
                exact HFX.out _ wx h
              have eS := neqStay_run stays[i]!
              have gS := guardStay_run
              clear HF HSP HIX
              generalize stays[i]! = sv at *
              obtain ⟨vt, vi, va, vb, vc, vx, vy, vz⟩ := sv
              simp only at s0 hq eS HFC
              go_wp2_with fail
              clear rb
              refine wp_region_below (by kernel_rfl) (by kernel_rfl) ?_
              repeat (go_big_quiet_step (fail))
              refine wpQuiet_nil ?_
              rintro wq ⟨⟨_, NQ⟩, rfl⟩
              have MQ : Hid (Below w6.heap.size w6 wq ∧ OverI w wq X #[.int .i64 last, .slice (some ⟨sb, soff, none⟩) stays.length sc, .slice ja jobs.length jc] #[.int .i64 last, .slice (some ⟨xb, xoff, none⟩) S.length cx, .slice jx J.length dx] t false) := ⟨B.next M.out.1 NQ M.out.1.size, M.out.2.next NQ⟩
              clear s0 b1 y0 NQ M HFC hq
              have s0 := fun p : BelowW wq => HSC.out p.wd (MQ.out.2.next p.hb).below 0 _ rfl
              simp only [Nat.add_zero] at s0
              have b1 := fun p : BelowW wq => (MQ.out.2.b0.below p.hb).cell 1
              have z0 := fun p : BelowW wq => (MQ.out.2.xb.below p.hb).cell 0
              have z1 := fun p : BelowW wq => (MQ.out.2.xb.below p.hb).cell 1
              have z2 := fun p : BelowW wq => (MQ.out.2.xb.below p.hb).cell 2
              have HFC : Hid (∀ p : BelowW wq, Calls Try.prog 30 #[.agg #[.int .i64 last, .slice (some ⟨xb, xoff, none⟩) S.length cx, .slice jx J.length dx], .int .i64 vt] p.wd fun e w' => e = .returned (.int .i64 P) ∧ Below p.wd.heap.size p.wd w') := fun p => HFP.out p.wd (B.next MQ.out.1 p.hb MQ.out.1.size)
              go_wp2_with fail
              refine wp_region_below (by kernel_rfl) (by kernel_rfl) ?_
              repeat (go_big_quiet_step (first | (go_at_call 30; exact Calls.wof (HFC.out _))))
              refine wpQuiet_nil ?_
              rintro wz ⟨⟨_, NQ⟩, rfl⟩
              have MZ : Hid (Below w6.heap.size w6 wz ∧ OverI w wz X #[.int .i64 last, .slice (some ⟨sb, soff, none⟩) stays.length sc, .slice ja jobs.length jc] #[.int .i64 last, .slice (some ⟨xb, xoff, none⟩) S.length cx, .slice jx J.length dx] t false) := ⟨B.next MQ.out.1 NQ MQ.out.1.size, MQ.out.2.next NQ⟩
              clear s0 b1 z0 z1 z2 NQ MQ HFC
              have b1 := fun p : BelowW wz => (MZ.out.2.b0.below p.hb).cell 1
              have z1 := fun p : BelowW wz => (MZ.out.2.xb.below p.hb).cell 1
              have s0 := fun p : BelowW wz => HSC.out p.wd (MZ.out.2.next p.hb).below 0 _ rfl
              have q0 := fun p : BelowW wz => HXC.out p.wd (B.next MZ.out.1 p.hb MZ.out.1.size) 0 _ rfl
              have s1 := fun p : BelowW wz => HSC.out p.wd (MZ.out.2.next p.hb).below 1 _ rfl
              have q1 := fun p : BelowW wz => HXC.out p.wd (B.next MZ.out.1 p.hb MZ.out.1.size) 1 _ rfl
              have s2 := fun p : BelowW wz => HSC.out p.wd (MZ.out.2.next p.hb).below 2 _ rfl
              have q2 := fun p : BelowW wz => HXC.out p.wd (B.next MZ.out.1 p.hb MZ.out.1.size) 2 _ rfl
              have s3 := fun p : BelowW wz => HSC.out p.wd (MZ.out.2.next p.hb).below 3 _ rfl
              have q3 := fun p : BelowW wz => HXC.out p.wd (B.next MZ.out.1 p.hb MZ.out.1.size) 3 _ rfl
              have s4 := fun p : BelowW wz => HSC.out p.wd (MZ.out.2.next p.hb).below 4 _ rfl
              have q4 := fun p : BelowW wz => HXC.out p.wd (B.next MZ.out.1 p.hb MZ.out.1.size) 4 _ rfl
              have s5 := fun p : BelowW wz => HSC.out p.wd (MZ.out.2.next p.hb).below 5 _ rfl
              have q5 := fun p : BelowW wz => HXC.out p.wd (B.next MZ.out.1 p.hb MZ.out.1.size) 5 _ rfl
              have s6 := fun p : BelowW wz => HSC.out p.wd (MZ.out.2.next p.hb).below 6 _ rfl
              have q6 := fun p : BelowW wz => HXC.out p.wd (B.next MZ.out.1 p.hb MZ.out.1.size) 6 _ rfl
              have s7 := fun p : BelowW wz => HSC.out p.wd (MZ.out.2.next p.hb).below 7 _ rfl
              have q7 := fun p : BelowW wz => HXC.out p.wd (B.next MZ.out.1 p.hb MZ.out.1.size) 7 _ rfl
              simp only [Nat.add_zero] at s0 q0
              go_wp2_with fail
              refine wp_region_below (by kernel_rfl) (by kernel_rfl) ?_
              repeat (go_big_quiet_step (fail))
              refine wpQuiet_nil ?_
              rintro wy ⟨⟨_, NQ⟩, rfl⟩
              have MY : Hid (Below w6.heap.size w6 wy ∧ OverI w wy X #[.int .i64 last, .slice (some ⟨sb, soff, none⟩) stays.length sc, .slice ja jobs.length jc] #[.int .i64 last, .slice (some ⟨xb, xoff, none⟩) S.length cx, .slice jx J.length dx] t false) := ⟨B.next MZ.out.1 NQ MZ.out.1.size, MZ.out.2.next NQ⟩
              clear s0 s1 s2 s3 s4 s5 s6 s7 q0 q1 q2 q3 q4 q5 q6 q7 b1 z1 NQ MZ eS gS
              go_wp2
              go_roundg (stays.length - (i + 1))
              case measure => omega
              case rel => exact ⟨i + 1, P, by omega, by omega, by go_num, rfl, HPS, MY⟩
            · clear HIX
              generalize stays[i]! = sv at *
              obtain ⟨vt, vi, va, vb, vc, vx, vy, vz⟩ := sv
              simp only at s0 hq
              go_wp2_with fail
              clear rb
              refine wp_region_below (by kernel_rfl) (by kernel_rfl) ?_
              repeat (go_big_quiet_step (fail))
              refine wpQuiet_nil ?_
              rintro wq ⟨⟨_, NQ⟩, rfl⟩
              have MQ : Hid (Below w6.heap.size w6 wq ∧ OverI w wq X #[.int .i64 last, .slice (some ⟨sb, soff, none⟩) stays.length sc, .slice ja jobs.length jc] #[.int .i64 last, .slice sx S.length cx, .slice jx J.length dx] t false) := ⟨B.next M.out.1 NQ M.out.1.size, M.out.2.next NQ⟩
              have HA2 : Hid (a ≤ posOf (keepS t en) stays (i + 1)) := Nat.le_trans HA.out HPS.out
              clear s0 b1 y0 NQ M hq
              go_wp2
              go_roundg (stays.length - (i + 1))
              case measure => omega
              case rel => exact ⟨i + 1, a, by omega, by omega, by go_num, rfl, HA2, MQ⟩
          · have hltz : ¬ (i : Int) < (stays.length : Int) := by omega
            go_wp2_with fail
            clear rb hltz hlt hgi hi HA
            go_loopg [11, 14] J.length (fun gg s11 s14 wr => ∃ i a : Nat, i ≤ J.length ∧ J.length - i ≤ gg ∧ a ≤ jobs.length ∧ s14 = .int .i64 i ∧ s11 = .int .i64 a ∧ Hid (posOf (fun x => !goesJ t false en x) jobs a = i) ∧ Hid (Below w6.heap.size w6 wr ∧ OverI w wr X #[.int .i64 last, .slice sa stays.length sc, .slice ja jobs.length jc] #[.int .i64 last, .slice sx S.length cx, .slice jx J.length dx] t false))
            case atStart => exact ⟨0, 0, Nat.zero_le _, by omega, Nat.zero_le _, rfl, rfl, rfl, M⟩
            case round =>
              clear M
              obtain ⟨i, a, hi, hgi, ha, rfl, rfl, HA, M⟩ := hrel
              have rx := M.out.2.xb.cell
              by_cases hlt : i < J.length
              · have hltz : (i : Int) < (J.length : Int) := by omega
                go_wp2_with fail
                clear rx
                go_loopg [11] jobs.length (fun gg s11 wr => ∃ a : Nat, a ≤ jobs.length ∧ jobs.length - a ≤ gg ∧ s11 = .int .i64 a ∧ Hid (posOf (fun x => !goesJ t false en x) jobs a = i) ∧ Hid (Below w6.heap.size w6 wr ∧ OverI w wr X #[.int .i64 last, .slice sa stays.length sc, .slice ja jobs.length jc] #[.int .i64 last, .slice sx S.length cx, .slice jx J.length dx] t false))
                case atStart => exact ⟨a, ha, by omega, rfl, HA, M⟩
                case round =>
                  clear M HA ha
                  obtain ⟨a, ha, hga, rfl, HA, M⟩ := hrel
                  have hla : a < jobs.length := by
                    rcases Nat.lt_or_ge a jobs.length with h | h
                    · exact h
                    · have he : a = jobs.length := by omega
                      have := HA.out
                      rw [he, posOf_all, ← HEJ.out] at this
                      omega
                  have hlaz : (a : Int) < (jobs.length : Int) := by omega
                  obtain ⟨jb, joff, rfl⟩ := rows_some (HJR.out _ M.out.2.below) (by omega)
                  obtain ⟨yb, yoff, rfl⟩ := rows_some (HXJ.out _ M.out.1) (by omega)
                  have HJX : Hid (jobs[a]! = jobs[a]) := getElem!_pos jobs a hla
                  have HSU : Hid (posOf (fun x => !goesJ t false en x) jobs (a + 1) = posOf (fun x => !goesJ t false en x) jobs a + (if (fun x => !goesJ t false en x) jobs[a]! = true then 1 else 0)) := by show _ = _; rw [HJX.out]; exact posOf_succ _ _ _ hla
                  have HKI : Hid ((fun x => !goesJ t false en x) jobs[a]! = true → jobs[a]! = J[i]!) := fun h => by
                    rw [HJX.out] at h ⊢
                    have h2 := filter_at (fun x => !goesJ t false en x) jobs a hla h
                    rw [← HEJ.out, HA.out] at h2
                    obtain ⟨h3, h4⟩ := List.getElem?_eq_some_iff.1 h2
                    rw [getElem!_pos J i h3, h4]
                  have HKJ : Hid ((fun x => !goesJ t false en x) J[i]! = true) := by
                    show _ = _
                    have hm : J[i]! ∈ jobs.filter (fun x => !goesJ t false en x) := by rw [← HEJ.out, getElem!_pos J i hlt]; exact List.getElem_mem hlt
                    exact (List.mem_filter.1 hm).2
                  have j0 := fun p : BelowW wr => rows_cell (HJR.out p.wd (M.out.2.next p.hb).below) a hla 0 _ rfl
                  have j1 := fun p : BelowW wr => rows_cell (HJR.out p.wd (M.out.2.next p.hb).below) a hla 1 _ rfl
                  have k0 := fun p : BelowW wr => rows_cell (HXJ.out p.wd (B.next M.out.1 p.hb M.out.1.size)) i hlt 0 _ rfl
                  have k1 := fun p : BelowW wr => rows_cell (HXJ.out p.wd (B.next M.out.1 p.hb M.out.1.size)) i hlt 1 _ rfl
                  simp only [Nat.add_zero] at j0 k0
                  have HJ0 : Hid (∀ wx, Below w.heap.size w wx → wx.cell? ⟨jb, joff + a * 2, none⟩ = some (.int .i64 jobs[a]!.t)) := fun wx h => by have := rows_cell (HJR.out wx h) a hla 0 _ rfl; simpa using this
                  have b2 := fun p : BelowW wr => (M.out.2.b0.below p.hb).cell 2
                  have x2 := fun p : BelowW wr => (M.out.2.xb.below p.hb).cell 2
                  have e1 := neqJJ_run jobs[a]!.t J[i]!.t jobs[a]!.f J[i]!.f
                  have g1 := eqJ_guard jobs[a]!.t J[i]!.t jobs[a]!.f J[i]!.f
                  cases hq : (jobs[a]!.t == J[i]!.t && jobs[a]!.f == J[i]!.f)
                  · have HNE : Hid (jobs[a]! ≠ J[i]!) := fun e => by rw [e] at hq; simp at hq
                    have HGO : Hid ((fun x => !goesJ t false en x) jobs[a]! = false) := by
                      show _ = _
                      cases h : (fun x => !goesJ t false en x) jobs[a]! with
                      | false => rfl
                      | true => exact absurd (HKI.out h) HNE.out
                    have HTT : Hid ((jobs[a]!.t != t) = false) := by
                      show _ = _
                      have h := HGO.out
                      simp only [Bool.not_eq_false'] at h
                      unfold goesJ at h
                      generalize jobs[a]! = u at h ⊢
                      by_cases e : u.t = t
                      · simp [e]
                      · simp [e] at h
                    have HP1 : Hid (posOf (fun x => !goesJ t false en x) jobs (a + 1) = i) := by show _ = _; rw [HSU.out, HGO.out, HA.out]; rfl
                    rw [hq] at e1
                    clear HKI HKJ HSU HNE HGO hq HJX
                    generalize jobs[a]! = jo at *
                    generalize J[i]! = ko at *
                    go_wp2_with fail
                    refine wp_region_below (by kernel_rfl) (by kernel_rfl) ?_
                    repeat (go_big_quiet_step (fail))
                    refine wpQuiet_nil ?_
                    rintro wq ⟨⟨_, NQ⟩, rfl⟩
                    have MQ : Hid (Below w6.heap.size w6 wq ∧ OverI w wq X #[.int .i64 last, .slice sa stays.length sc, .slice (some ⟨jb, joff, none⟩) jobs.length jc] #[.int .i64 last, .slice sx S.length cx, .slice (some ⟨yb, yoff, none⟩) J.length dx] t false) := ⟨B.next M.out.1 NQ M.out.1.size, M.out.2.next NQ⟩
                    clear j0 j1 k0 k1 b2 x2 e1 g1 NQ M
                    have j0 := fun p : BelowW wq => HJ0.out p.wd (MQ.out.2.next p.hb).below
                    have b2 := fun p : BelowW wq => (MQ.out.2.b0.below p.hb).cell 2
                    have y0 := fun p : BelowW wq => (MQ.out.2.jb.below p.hb).cell 0
                    have ht := HTT.out
                    go_wp2_with fail
                    refine wp_region_below (by kernel_rfl) (by kernel_rfl) ?_
                    repeat (go_big_quiet_step (fail))
                    refine wpQuiet_nil ?_
                    rintro wz ⟨⟨_, NQ⟩, rfl⟩
                    have MZ : Hid (Below w6.heap.size w6 wz ∧ OverI w wz X #[.int .i64 last, .slice sa stays.length sc, .slice (some ⟨jb, joff, none⟩) jobs.length jc] #[.int .i64 last, .slice sx S.length cx, .slice (some ⟨yb, yoff, none⟩) J.length dx] t false) := ⟨B.next MQ.out.1 NQ MQ.out.1.size, MQ.out.2.next NQ⟩
                    clear j0 b2 y0 NQ MQ ht
                    go_wp2
                    go_roundg (jobs.length - (a + 1))
                    case measure => omega
                    case rel => exact ⟨a + 1, by omega, by omega, by go_num, HP1, MZ⟩
                  · have HEQ : Hid (jobs[a]! = J[i]!) := by
                      show _ = _
                      simp only [Bool.and_eq_true, beq_iff_eq] at hq
                      generalize jobs[a]! = u at hq ⊢
                      generalize J[i]! = v at hq ⊢
                      obtain ⟨u1, u2⟩ := u
                      obtain ⟨v1, v2⟩ := v
                      simp at hq
                      rw [hq.1, hq.2]
                    have HP1 : Hid (posOf (fun x => !goesJ t false en x) jobs (a + 1) = i + 1) := by show _ = _; rw [HSU.out, HEQ.out, HKJ.out, HA.out]; rfl
                    rw [hq] at e1
                    clear HKI HKJ HSU HEQ hq HJX
                    generalize jobs[a]! = jo at *
                    generalize J[i]! = ko at *
                    go_wp2_with fail
                    refine wp_region_below (by kernel_rfl) (by kernel_rfl) ?_
                    repeat (go_big_quiet_step (fail))
                    refine wpQuiet_nil ?_
                    rintro wq ⟨⟨_, NQ⟩, rfl⟩
                    have MQ : Hid (Below w6.heap.size w6 wq ∧ OverI w wq X #[.int .i64 last, .slice sa stays.length sc, .slice (some ⟨jb, joff, none⟩) jobs.length jc] #[.int .i64 last, .slice sx S.length cx, .slice (some ⟨yb, yoff, none⟩) J.length dx] t false) := ⟨B.next M.out.1 NQ M.out.1.size, M.out.2.next NQ⟩
                    clear j0 j1 k0 k1 b2 x2 e1 g1 NQ M
                    go_wp2
                    go_roundg (J.length - (i + 1))
                    case measure => omega
                    case rel => exact ⟨i + 1, a + 1, by omega, by omega, by omega, by go_num, by go_num, HP1, MQ⟩
              · have hltz : ¬ (i : Int) < (J.length : Int) := by omega
                have hie : i = J.length := by omega
                subst hie
                go_wp2_with fail
                clear rx hltz hlt hgi hi
                go_loopg [11] jobs.length (fun gg s11 wr => ∃ a : Nat, a ≤ jobs.length ∧ jobs.length - a ≤ gg ∧ s11 = .int .i64 a ∧ Hid (posOf (fun x => !goesJ t false en x) jobs a = J.length) ∧ Hid (Below w6.heap.size w6 wr ∧ OverI w wr X #[.int .i64 last, .slice sa stays.length sc, .slice ja jobs.length jc] #[.int .i64 last, .slice sx S.length cx, .slice jx J.length dx] t false))
                case atStart => exact ⟨a, ha, by omega, rfl, HA, M⟩
                case round =>
                  clear M HA ha
                  obtain ⟨a, ha, hga, rfl, HA, M⟩ := hrel
                  have rb := M.out.2.b0.cell
                  by_cases hla : a < jobs.length
                  · have hlaz : (a : Int) < (jobs.length : Int) := by omega
                    obtain ⟨jb, joff, rfl⟩ := rows_some (HJR.out _ M.out.2.below) (by omega)
                    have HJX : Hid (jobs[a]! = jobs[a]) := getElem!_pos jobs a hla
                    have HGO : Hid ((fun x => !goesJ t false en x) jobs[a]! = false) := by
                      show _ = _
                      cases h : (fun x => !goesJ t false en x) jobs[a]! with
                      | false => rfl
                      | true =>
                        have h1 := posOf_succ (fun x => !goesJ t false en x) jobs a hla
                        rw [← HJX.out, if_pos h, HA.out] at h1
                        have h2 := posOf_le (fun x => !goesJ t false en x) jobs (a + 1)
                        rw [← HEJ.out] at h2
                        omega
                    have HP1 : Hid (posOf (fun x => !goesJ t false en x) jobs (a + 1) = J.length) := by show _ = _; rw [posOf_succ _ _ _ hla, ← HJX.out, if_neg (by have h := HGO.out; simp only at h; rw [h]; decide), HA.out]; rfl
                    have HTT : Hid ((jobs[a]!.t != t) = false) := by
                      show _ = _
                      have h := HGO.out
                      simp only [Bool.not_eq_false'] at h
                      unfold goesJ at h
                      generalize jobs[a]! = u at h ⊢
                      by_cases e : u.t = t
                      · simp [e]
                      · simp [e] at h
                    have j0 := fun p : BelowW wr => rows_cell (HJR.out p.wd (M.out.2.next p.hb).below) a hla 0 _ rfl
                    simp only [Nat.add_zero] at j0
                    have b2 := fun p : BelowW wr => (M.out.2.b0.below p.hb).cell 2
                    have y0 := fun p : BelowW wr => (M.out.2.jb.below p.hb).cell 0
                    have ht := HTT.out
                    clear HGO HJX
                    generalize jobs[a]! = jo at *
                    go_wp2_with fail
                    clear rb
                    refine wp_region_below (by kernel_rfl) (by kernel_rfl) ?_
                    repeat (go_big_quiet_step (fail))
                    refine wpQuiet_nil ?_
                    rintro wq ⟨⟨_, NQ⟩, rfl⟩
                    have MQ : Hid (Below w6.heap.size w6 wq ∧ OverI w wq X #[.int .i64 last, .slice sa stays.length sc, .slice (some ⟨jb, joff, none⟩) jobs.length jc] #[.int .i64 last, .slice sx S.length cx, .slice jx J.length dx] t false) := ⟨B.next M.out.1 NQ M.out.1.size, M.out.2.next NQ⟩
                    clear j0 b2 y0 NQ M ht
                    go_wp2
                    go_roundg (jobs.length - (a + 1))
                    case measure => omega
                    case rel => exact ⟨a + 1, by omega, by omega, by go_num, HP1, MQ⟩
                  · have hlaz : ¬ (a : Int) < (jobs.length : Int) := by omega
                    go_wp2
                    go_returns
                    exact ⟨rfl, M.out.2.below⟩
      · have hen : en = false := by rw [HEN.out]; rfl
        have HSS : Hid (S = stays) := by
          show _ = _
          rw [HES.out, hen]
          exact List.filter_eq_self.2 (fun _ _ => rfl)
        have HFE : Hid (findI ⟨last, sx, cx, jx, dx, S, J⟩ t = findI ⟨last, sa, sc, ja, jc, stays, jobs⟩ t) := by show _ = _; unfold findI; simp only; rw [HSS.out]
        have a0 := fun p : BelowW wr => (M.out.2.xb.below p.hb).cell 0
        have a1 := fun p : BelowW wr => (M.out.2.xb.below p.hb).cell 1
        have a2 := fun p : BelowW wr => (M.out.2.xb.below p.hb).cell 2
        have c0 := fun p : BelowW wr => (M.out.2.b0.below p.hb).cell 0
        have c1 := fun p : BelowW wr => (M.out.2.b0.below p.hb).cell 1
        have c2 := fun p : BelowW wr => (M.out.2.b0.below p.hb).cell 2
        have y0 := fun p : BelowW wr => (M.out.2.jb.below p.hb).cell 0
        have H1 : Hid (∀ p : BelowW wr, Calls Try.prog 30 #[.agg #[.int .i64 last, .slice sx S.length cx, .slice jx J.length dx], .int .i64 t] p.wd fun e w' => e = .returned (.int .i64 (findI ⟨last, sa, sc, ja, jc, stays, jobs⟩ t)) ∧ Below p.wd.heap.size p.wd w') := fun p => by
          rw [← HFE.out]
          exact HFX.out t p.wd (B.next M.out.1 p.hb M.out.1.size)
        have H2 : Hid (∀ p : BelowW wr, Calls Try.prog 30 #[.agg #[.int .i64 last, .slice sa stays.length sc, .slice ja jobs.length jc], .int .i64 t] p.wd fun e w' => e = .returned (.int .i64 (findI ⟨last, sa, sc, ja, jc, stays, jobs⟩ t)) ∧ Below p.wd.heap.size p.wd w') := fun p => HFB.out t p.wd (M.out.2.next p.hb).below
        generalize findI ⟨last, sa, sc, ja, jc, stays, jobs⟩ t = qf at *
        have rx := M.out.2.xb.cell
        go_wp2_with fail
        clear rx
        clear ry hltz hlt hg hk
        refine wp_region_below (by kernel_rfl) (by kernel_rfl) ?_
        repeat (go_big_quiet_step (first | (go_at_call 30; first | exact Calls.wof (H1.out _) | exact Calls.wof (H2.out _))))
        refine wpQuiet_nil ?_
        rintro w8 ⟨⟨_, NQ⟩, rfl⟩
        have M8 : Hid (Below w6.heap.size w6 w8 ∧ OverI w w8 X #[.int .i64 last, .slice sa stays.length sc, .slice ja jobs.length jc] #[.int .i64 last, .slice sx S.length cx, .slice jx J.length dx] t false) := ⟨B.next M.out.1 NQ M.out.1.size, M.out.2.next NQ⟩
        clear a0 a1 a2 c0 c1 c2 y0 NQ M H1 H2 HFE
        go_wp2_with fail
        go_loopg [11, 12] stays.length (fun gg s11 s12 wr => ∃ i a : Nat, i ≤ stays.length ∧ stays.length - i ≤ gg ∧ s12 = .int .i64 i ∧ s11 = .int .i64 a ∧ Hid (a ≤ posOf (keepS t en) stays i) ∧ Hid (Below w6.heap.size w6 wr ∧ OverI w wr X #[.int .i64 last, .slice sa stays.length sc, .slice ja jobs.length jc] #[.int .i64 last, .slice sx S.length cx, .slice jx J.length dx] t false))
        case atStart => exact ⟨0, 0, Nat.zero_le _, by omega, rfl, rfl, Nat.zero_le _, M8⟩
        case round =>
          clear M8
          obtain ⟨i, a, hi, hgi, rfl, rfl, HA, M⟩ := hrel
          have rb := M.out.2.b0.cell
          by_cases hlt : i < stays.length
          · have hltz : (i : Int) < (stays.length : Int) := by omega
            obtain ⟨sb, soff, rfl⟩ := rows_some (HSR.out _ M.out.2.below) (by omega)
            have HIX : Hid (stays[i]! = stays[i]) := getElem!_pos stays i hlt
            have s0 := fun p : BelowW wr => rows_cell (HSR.out p.wd (M.out.2.next p.hb).below) i hlt 0 _ rfl
            simp only [Nat.add_zero] at s0
            have b1 := fun p : BelowW wr => (M.out.2.b0.below p.hb).cell 1
            have y0 := fun p : BelowW wr => (M.out.2.jb.below p.hb).cell 0
            have HPS : Hid (posOf (keepS t en) stays i ≤ posOf (keepS t en) stays (i + 1)) := by show _ ≤ _; rw [posOf_succ _ _ _ hlt]; omega
            cases hq : (stays[i]!.t == t)
            · have HQ : Hid ((stays[i]!.t == t) = false) := hq
              have HF : Hid (findI ⟨last, sx, cx, jx, dx, S, J⟩ stays[i]!.t = (posOf (keepS t en) stays i : Nat)) := by
                show _ = _
                rw [HIX.out]
                have := findI_filter ⟨last, some ⟨sb, soff, none⟩, sc, ja, jc, stays, jobs⟩ last sx jx cx dx J (keepS t en) HOK.out.s.pair i hlt (by have h := HQ.out; rw [HIX.out] at h; simp [keepS, h])
                rw [← HES.out] at this
                exact this
              have HSP : Hid (S[posOf (keepS t en) stays i]! = stays[i]! ∧ posOf (keepS t en) stays i < S.length) := by
                show _ ∧ _
                have h := filter_at (keepS t en) stays i hlt (by have h := HQ.out; rw [HIX.out] at h; simp [keepS, h])
                rw [← HES.out] at h
                obtain ⟨h1, h2⟩ := List.getElem?_eq_some_iff.1 h
                exact ⟨by rw [getElem!_pos S _ h1, h2, HIX.out], h1⟩
              generalize posOf (keepS t en) stays i = P at *
              obtain ⟨xb, xoff, rfl⟩ := rows_some (HXS.out _ M.out.1) (Nat.lt_of_le_of_lt (Nat.zero_le _) HSP.out.2)
              have hPz : (P : Int) < (S.length : Int) := by have := HSP.out.2; omega
              have hPa : ¬ (P : Int) < (a : Int) := by have := HA.out; omega
              have hPd : decide ((P : Int) < (a : Int)) = false := decide_eq_false hPa
              have hPn : decide (P < a) = false := decide_eq_false (by omega)
              have HXC : Hid (∀ wx, Below w6.heap.size w6 wx → ∀ c u, (Stay.enc stays[i]!)[c]? = some u → wx.cell? ⟨xb, xoff + P * 8 + c, none⟩ = some u) := fun wx h c u hu => rows_cell (HXS.out wx h) P HSP.out.2 c u (by rw [HSP.out.1]; exact hu)
              have HSC : Hid (∀ wx, Below w.heap.size w wx → ∀ c u, (Stay.enc stays[i]!)[c]? = some u → wx.cell? ⟨sb, soff + i * 8 + c, none⟩ = some u) := fun wx h c u hu => rows_cell (HSR.out wx h) i hlt c u hu
              have HFC : Hid (∀ p : BelowW wr, Calls Try.prog 30 #[.agg #[.int .i64 last, .slice (some ⟨xb, xoff, none⟩) S.length cx, .slice jx J.length dx], .int .i64 stays[i]!.t] p.wd fun e w' => e = .returned (.int .i64 P) ∧ Below p.wd.heap.size p.wd w') := fun p => by
                rw [← HF.out]
                exact HFX.out _ p.wd (B.next M.out.1 p.hb M.out.1.size)
              have HFP : Hid (∀ wx, Below w6.heap.size w6 wx → Calls Try.prog 30 #[.agg #[.int .i64 last, .slice (some ⟨xb, xoff, none⟩) S.length cx, .slice jx J.length dx], .int .i64 stays[i]!.t] wx fun e w' => e = .returned (.int .i64 P) ∧ Below wx.heap.size wx w') := fun wx h => by
                rw [← HF.out]
                exact HFX.out _ wx h
              have eS := neqStay_run stays[i]!
              have gS := guardStay_run
              clear HF HSP HIX
              generalize stays[i]! = sv at *
              obtain ⟨vt, vi, va, vb, vc, vx, vy, vz⟩ := sv
              simp only at s0 hq eS HFC
              go_wp2_with fail
              clear rb
              refine wp_region_below (by kernel_rfl) (by kernel_rfl) ?_
              repeat (go_big_quiet_step (fail))
              refine wpQuiet_nil ?_
              rintro wq ⟨⟨_, NQ⟩, rfl⟩
              have MQ : Hid (Below w6.heap.size w6 wq ∧ OverI w wq X #[.int .i64 last, .slice (some ⟨sb, soff, none⟩) stays.length sc, .slice ja jobs.length jc] #[.int .i64 last, .slice (some ⟨xb, xoff, none⟩) S.length cx, .slice jx J.length dx] t false) := ⟨B.next M.out.1 NQ M.out.1.size, M.out.2.next NQ⟩
              clear s0 b1 y0 NQ M HFC hq
              have s0 := fun p : BelowW wq => HSC.out p.wd (MQ.out.2.next p.hb).below 0 _ rfl
              simp only [Nat.add_zero] at s0
              have b1 := fun p : BelowW wq => (MQ.out.2.b0.below p.hb).cell 1
              have z0 := fun p : BelowW wq => (MQ.out.2.xb.below p.hb).cell 0
              have z1 := fun p : BelowW wq => (MQ.out.2.xb.below p.hb).cell 1
              have z2 := fun p : BelowW wq => (MQ.out.2.xb.below p.hb).cell 2
              have HFC : Hid (∀ p : BelowW wq, Calls Try.prog 30 #[.agg #[.int .i64 last, .slice (some ⟨xb, xoff, none⟩) S.length cx, .slice jx J.length dx], .int .i64 vt] p.wd fun e w' => e = .returned (.int .i64 P) ∧ Below p.wd.heap.size p.wd w') := fun p => HFP.out p.wd (B.next MQ.out.1 p.hb MQ.out.1.size)
              go_wp2_with fail
              refine wp_region_below (by kernel_rfl) (by kernel_rfl) ?_
              repeat (go_big_quiet_step (first | (go_at_call 30; exact Calls.wof (HFC.out _))))
              refine wpQuiet_nil ?_
              rintro wz ⟨⟨_, NQ⟩, rfl⟩
              have MZ : Hid (Below w6.heap.size w6 wz ∧ OverI w wz X #[.int .i64 last, .slice (some ⟨sb, soff, none⟩) stays.length sc, .slice ja jobs.length jc] #[.int .i64 last, .slice (some ⟨xb, xoff, none⟩) S.length cx, .slice jx J.length dx] t false) := ⟨B.next MQ.out.1 NQ MQ.out.1.size, MQ.out.2.next NQ⟩
              clear s0 b1 z0 z1 z2 NQ MQ HFC
              have b1 := fun p : BelowW wz => (MZ.out.2.b0.below p.hb).cell 1
              have z1 := fun p : BelowW wz => (MZ.out.2.xb.below p.hb).cell 1
              have s0 := fun p : BelowW wz => HSC.out p.wd (MZ.out.2.next p.hb).below 0 _ rfl
              have q0 := fun p : BelowW wz => HXC.out p.wd (B.next MZ.out.1 p.hb MZ.out.1.size) 0 _ rfl
              have s1 := fun p : BelowW wz => HSC.out p.wd (MZ.out.2.next p.hb).below 1 _ rfl
              have q1 := fun p : BelowW wz => HXC.out p.wd (B.next MZ.out.1 p.hb MZ.out.1.size) 1 _ rfl
              have s2 := fun p : BelowW wz => HSC.out p.wd (MZ.out.2.next p.hb).below 2 _ rfl
              have q2 := fun p : BelowW wz => HXC.out p.wd (B.next MZ.out.1 p.hb MZ.out.1.size) 2 _ rfl
              have s3 := fun p : BelowW wz => HSC.out p.wd (MZ.out.2.next p.hb).below 3 _ rfl
              have q3 := fun p : BelowW wz => HXC.out p.wd (B.next MZ.out.1 p.hb MZ.out.1.size) 3 _ rfl
              have s4 := fun p : BelowW wz => HSC.out p.wd (MZ.out.2.next p.hb).below 4 _ rfl
              have q4 := fun p : BelowW wz => HXC.out p.wd (B.next MZ.out.1 p.hb MZ.out.1.size) 4 _ rfl
              have s5 := fun p : BelowW wz => HSC.out p.wd (MZ.out.2.next p.hb).below 5 _ rfl
              have q5 := fun p : BelowW wz => HXC.out p.wd (B.next MZ.out.1 p.hb MZ.out.1.size) 5 _ rfl
              have s6 := fun p : BelowW wz => HSC.out p.wd (MZ.out.2.next p.hb).below 6 _ rfl
              have q6 := fun p : BelowW wz => HXC.out p.wd (B.next MZ.out.1 p.hb MZ.out.1.size) 6 _ rfl
              have s7 := fun p : BelowW wz => HSC.out p.wd (MZ.out.2.next p.hb).below 7 _ rfl
              have q7 := fun p : BelowW wz => HXC.out p.wd (B.next MZ.out.1 p.hb MZ.out.1.size) 7 _ rfl
              simp only [Nat.add_zero] at s0 q0
              go_wp2_with fail
              refine wp_region_below (by kernel_rfl) (by kernel_rfl) ?_
              repeat (go_big_quiet_step (fail))
              refine wpQuiet_nil ?_
              rintro wy ⟨⟨_, NQ⟩, rfl⟩
              have MY : Hid (Below w6.heap.size w6 wy ∧ OverI w wy X #[.int .i64 last, .slice (some ⟨sb, soff, none⟩) stays.length sc, .slice ja jobs.length jc] #[.int .i64 last, .slice (some ⟨xb, xoff, none⟩) S.length cx, .slice jx J.length dx] t false) := ⟨B.next MZ.out.1 NQ MZ.out.1.size, MZ.out.2.next NQ⟩
              clear s0 s1 s2 s3 s4 s5 s6 s7 q0 q1 q2 q3 q4 q5 q6 q7 b1 z1 NQ MZ eS gS
              go_wp2
              go_roundg (stays.length - (i + 1))
              case measure => omega
              case rel => exact ⟨i + 1, P, by omega, by omega, by go_num, rfl, HPS, MY⟩
            · clear HIX
              generalize stays[i]! = sv at *
              obtain ⟨vt, vi, va, vb, vc, vx, vy, vz⟩ := sv
              simp only at s0 hq
              go_wp2_with fail
              clear rb
              refine wp_region_below (by kernel_rfl) (by kernel_rfl) ?_
              repeat (go_big_quiet_step (fail))
              refine wpQuiet_nil ?_
              rintro wq ⟨⟨_, NQ⟩, rfl⟩
              have MQ : Hid (Below w6.heap.size w6 wq ∧ OverI w wq X #[.int .i64 last, .slice (some ⟨sb, soff, none⟩) stays.length sc, .slice ja jobs.length jc] #[.int .i64 last, .slice sx S.length cx, .slice jx J.length dx] t false) := ⟨B.next M.out.1 NQ M.out.1.size, M.out.2.next NQ⟩
              have HA2 : Hid (a ≤ posOf (keepS t en) stays (i + 1)) := Nat.le_trans HA.out HPS.out
              clear s0 b1 y0 NQ M hq
              go_wp2
              go_roundg (stays.length - (i + 1))
              case measure => omega
              case rel => exact ⟨i + 1, a, by omega, by omega, by go_num, rfl, HA2, MQ⟩
          · have hltz : ¬ (i : Int) < (stays.length : Int) := by omega
            go_wp2_with fail
            clear rb hltz hlt hgi hi HA
            go_loopg [11, 14] J.length (fun gg s11 s14 wr => ∃ i a : Nat, i ≤ J.length ∧ J.length - i ≤ gg ∧ a ≤ jobs.length ∧ s14 = .int .i64 i ∧ s11 = .int .i64 a ∧ Hid (posOf (fun x => !goesJ t false en x) jobs a = i) ∧ Hid (Below w6.heap.size w6 wr ∧ OverI w wr X #[.int .i64 last, .slice sa stays.length sc, .slice ja jobs.length jc] #[.int .i64 last, .slice sx S.length cx, .slice jx J.length dx] t false))
            case atStart => exact ⟨0, 0, Nat.zero_le _, by omega, Nat.zero_le _, rfl, rfl, rfl, M⟩
            case round =>
              clear M
              obtain ⟨i, a, hi, hgi, ha, rfl, rfl, HA, M⟩ := hrel
              have rx := M.out.2.xb.cell
              by_cases hlt : i < J.length
              · have hltz : (i : Int) < (J.length : Int) := by omega
                go_wp2_with fail
                clear rx
                go_loopg [11] jobs.length (fun gg s11 wr => ∃ a : Nat, a ≤ jobs.length ∧ jobs.length - a ≤ gg ∧ s11 = .int .i64 a ∧ Hid (posOf (fun x => !goesJ t false en x) jobs a = i) ∧ Hid (Below w6.heap.size w6 wr ∧ OverI w wr X #[.int .i64 last, .slice sa stays.length sc, .slice ja jobs.length jc] #[.int .i64 last, .slice sx S.length cx, .slice jx J.length dx] t false))
                case atStart => exact ⟨a, ha, by omega, rfl, HA, M⟩
                case round =>
                  clear M HA ha
                  obtain ⟨a, ha, hga, rfl, HA, M⟩ := hrel
                  have hla : a < jobs.length := by
                    rcases Nat.lt_or_ge a jobs.length with h | h
                    · exact h
                    · have he : a = jobs.length := by omega
                      have := HA.out
                      rw [he, posOf_all, ← HEJ.out] at this
                      omega
                  have hlaz : (a : Int) < (jobs.length : Int) := by omega
                  obtain ⟨jb, joff, rfl⟩ := rows_some (HJR.out _ M.out.2.below) (by omega)
                  obtain ⟨yb, yoff, rfl⟩ := rows_some (HXJ.out _ M.out.1) (by omega)
                  have HJX : Hid (jobs[a]! = jobs[a]) := getElem!_pos jobs a hla
                  have HSU : Hid (posOf (fun x => !goesJ t false en x) jobs (a + 1) = posOf (fun x => !goesJ t false en x) jobs a + (if (fun x => !goesJ t false en x) jobs[a]! = true then 1 else 0)) := by show _ = _; rw [HJX.out]; exact posOf_succ _ _ _ hla
                  have HKI : Hid ((fun x => !goesJ t false en x) jobs[a]! = true → jobs[a]! = J[i]!) := fun h => by
                    rw [HJX.out] at h ⊢
                    have h2 := filter_at (fun x => !goesJ t false en x) jobs a hla h
                    rw [← HEJ.out, HA.out] at h2
                    obtain ⟨h3, h4⟩ := List.getElem?_eq_some_iff.1 h2
                    rw [getElem!_pos J i h3, h4]
                  have HKJ : Hid ((fun x => !goesJ t false en x) J[i]! = true) := by
                    show _ = _
                    have hm : J[i]! ∈ jobs.filter (fun x => !goesJ t false en x) := by rw [← HEJ.out, getElem!_pos J i hlt]; exact List.getElem_mem hlt
                    exact (List.mem_filter.1 hm).2
                  have j0 := fun p : BelowW wr => rows_cell (HJR.out p.wd (M.out.2.next p.hb).below) a hla 0 _ rfl
                  have j1 := fun p : BelowW wr => rows_cell (HJR.out p.wd (M.out.2.next p.hb).below) a hla 1 _ rfl
                  have k0 := fun p : BelowW wr => rows_cell (HXJ.out p.wd (B.next M.out.1 p.hb M.out.1.size)) i hlt 0 _ rfl
                  have k1 := fun p : BelowW wr => rows_cell (HXJ.out p.wd (B.next M.out.1 p.hb M.out.1.size)) i hlt 1 _ rfl
                  simp only [Nat.add_zero] at j0 k0
                  have HJ0 : Hid (∀ wx, Below w.heap.size w wx → wx.cell? ⟨jb, joff + a * 2, none⟩ = some (.int .i64 jobs[a]!.t)) := fun wx h => by have := rows_cell (HJR.out wx h) a hla 0 _ rfl; simpa using this
                  have b2 := fun p : BelowW wr => (M.out.2.b0.below p.hb).cell 2
                  have x2 := fun p : BelowW wr => (M.out.2.xb.below p.hb).cell 2
                  have e1 := neqJJ_run jobs[a]!.t J[i]!.t jobs[a]!.f J[i]!.f
                  have g1 := eqJ_guard jobs[a]!.t J[i]!.t jobs[a]!.f J[i]!.f
                  cases hq : (jobs[a]!.t == J[i]!.t && jobs[a]!.f == J[i]!.f)
                  · have HNE : Hid (jobs[a]! ≠ J[i]!) := fun e => by rw [e] at hq; simp at hq
                    have HGO : Hid ((fun x => !goesJ t false en x) jobs[a]! = false) := by
                      show _ = _
                      cases h : (fun x => !goesJ t false en x) jobs[a]! with
                      | false => rfl
                      | true => exact absurd (HKI.out h) HNE.out
                    have HTT : Hid ((jobs[a]!.t != t) = false) := by
                      show _ = _
                      have h := HGO.out
                      simp only [Bool.not_eq_false'] at h
                      unfold goesJ at h
                      generalize jobs[a]! = u at h ⊢
                      by_cases e : u.t = t
                      · simp [e]
                      · simp [e] at h
                    have HP1 : Hid (posOf (fun x => !goesJ t false en x) jobs (a + 1) = i) := by show _ = _; rw [HSU.out, HGO.out, HA.out]; rfl
                    rw [hq] at e1
                    clear HKI HKJ HSU HNE HGO hq HJX
                    generalize jobs[a]! = jo at *
                    generalize J[i]! = ko at *
                    go_wp2_with fail
                    refine wp_region_below (by kernel_rfl) (by kernel_rfl) ?_
                    repeat (go_big_quiet_step (fail))
                    refine wpQuiet_nil ?_
                    rintro wq ⟨⟨_, NQ⟩, rfl⟩
                    have MQ : Hid (Below w6.heap.size w6 wq ∧ OverI w wq X #[.int .i64 last, .slice sa stays.length sc, .slice (some ⟨jb, joff, none⟩) jobs.length jc] #[.int .i64 last, .slice sx S.length cx, .slice (some ⟨yb, yoff, none⟩) J.length dx] t false) := ⟨B.next M.out.1 NQ M.out.1.size, M.out.2.next NQ⟩
                    clear j0 j1 k0 k1 b2 x2 e1 g1 NQ M
                    have j0 := fun p : BelowW wq => HJ0.out p.wd (MQ.out.2.next p.hb).below
                    have b2 := fun p : BelowW wq => (MQ.out.2.b0.below p.hb).cell 2
                    have y0 := fun p : BelowW wq => (MQ.out.2.jb.below p.hb).cell 0
                    have ht := HTT.out
                    go_wp2_with fail
                    refine wp_region_below (by kernel_rfl) (by kernel_rfl) ?_
                    repeat (go_big_quiet_step (fail))
                    refine wpQuiet_nil ?_
                    rintro wz ⟨⟨_, NQ⟩, rfl⟩
                    have MZ : Hid (Below w6.heap.size w6 wz ∧ OverI w wz X #[.int .i64 last, .slice sa stays.length sc, .slice (some ⟨jb, joff, none⟩) jobs.length jc] #[.int .i64 last, .slice sx S.length cx, .slice (some ⟨yb, yoff, none⟩) J.length dx] t false) := ⟨B.next MQ.out.1 NQ MQ.out.1.size, MQ.out.2.next NQ⟩
                    clear j0 b2 y0 NQ MQ ht
                    go_wp2
                    go_roundg (jobs.length - (a + 1))
                    case measure => omega
                    case rel => exact ⟨a + 1, by omega, by omega, by go_num, HP1, MZ⟩
                  · have HEQ : Hid (jobs[a]! = J[i]!) := by
                      show _ = _
                      simp only [Bool.and_eq_true, beq_iff_eq] at hq
                      generalize jobs[a]! = u at hq ⊢
                      generalize J[i]! = v at hq ⊢
                      obtain ⟨u1, u2⟩ := u
                      obtain ⟨v1, v2⟩ := v
                      simp at hq
                      rw [hq.1, hq.2]
                    have HP1 : Hid (posOf (fun x => !goesJ t false en x) jobs (a + 1) = i + 1) := by show _ = _; rw [HSU.out, HEQ.out, HKJ.out, HA.out]; rfl
                    rw [hq] at e1
                    clear HKI HKJ HSU HEQ hq HJX
                    generalize jobs[a]! = jo at *
                    generalize J[i]! = ko at *
                    go_wp2_with fail
                    refine wp_region_below (by kernel_rfl) (by kernel_rfl) ?_
                    repeat (go_big_quiet_step (fail))
                    refine wpQuiet_nil ?_
                    rintro wq ⟨⟨_, NQ⟩, rfl⟩
                    have MQ : Hid (Below w6.heap.size w6 wq ∧ OverI w wq X #[.int .i64 last, .slice sa stays.length sc, .slice (some ⟨jb, joff, none⟩) jobs.length jc] #[.int .i64 last, .slice sx S.length cx, .slice (some ⟨yb, yoff, none⟩) J.length dx] t false) := ⟨B.next M.out.1 NQ M.out.1.size, M.out.2.next NQ⟩
                    clear j0 j1 k0 k1 b2 x2 e1 g1 NQ M
                    go_wp2
                    go_roundg (J.length - (i + 1))
                    case measure => omega
                    case rel => exact ⟨i + 1, a + 1, by omega, by omega, by omega, by go_num, by go_num, HP1, MQ⟩
              · have hltz : ¬ (i : Int) < (J.length : Int) := by omega
                have hie : i = J.length := by omega
                subst hie
                go_wp2_with fail
                clear rx hltz hlt hgi hi
                go_loopg [11] jobs.length (fun gg s11 wr => ∃ a : Nat, a ≤ jobs.length ∧ jobs.length - a ≤ gg ∧ s11 = .int .i64 a ∧ Hid (posOf (fun x => !goesJ t false en x) jobs a = J.length) ∧ Hid (Below w6.heap.size w6 wr ∧ OverI w wr X #[.int .i64 last, .slice sa stays.length sc, .slice ja jobs.length jc] #[.int .i64 last, .slice sx S.length cx, .slice jx J.length dx] t false))
                case atStart => exact ⟨a, ha, by omega, rfl, HA, M⟩
                case round =>
                  clear M HA ha
                  obtain ⟨a, ha, hga, rfl, HA, M⟩ := hrel
                  have rb := M.out.2.b0.cell
                  by_cases hla : a < jobs.length
                  · have hlaz : (a : Int) < (jobs.length : Int) := by omega
                    obtain ⟨jb, joff, rfl⟩ := rows_some (HJR.out _ M.out.2.below) (by omega)
                    have HJX : Hid (jobs[a]! = jobs[a]) := getElem!_pos jobs a hla
                    have HGO : Hid ((fun x => !goesJ t false en x) jobs[a]! = false) := by
                      show _ = _
                      cases h : (fun x => !goesJ t false en x) jobs[a]! with
                      | false => rfl
                      | true =>
                        have h1 := posOf_succ (fun x => !goesJ t false en x) jobs a hla
                        rw [← HJX.out, if_pos h, HA.out] at h1
                        have h2 := posOf_le (fun x => !goesJ t false en x) jobs (a + 1)
                        rw [← HEJ.out] at h2
                        omega
                    have HP1 : Hid (posOf (fun x => !goesJ t false en x) jobs (a + 1) = J.length) := by show _ = _; rw [posOf_succ _ _ _ hla, ← HJX.out, if_neg (by have h := HGO.out; simp only at h; rw [h]; decide), HA.out]; rfl
                    have HTT : Hid ((jobs[a]!.t != t) = false) := by
                      show _ = _
                      have h := HGO.out
                      simp only [Bool.not_eq_false'] at h
                      unfold goesJ at h
                      generalize jobs[a]! = u at h ⊢
                      by_cases e : u.t = t
                      · simp [e]
                      · simp [e] at h
                    have j0 := fun p : BelowW wr => rows_cell (HJR.out p.wd (M.out.2.next p.hb).below) a hla 0 _ rfl
                    simp only [Nat.add_zero] at j0
                    have b2 := fun p : BelowW wr => (M.out.2.b0.below p.hb).cell 2
                    have y0 := fun p : BelowW wr => (M.out.2.jb.below p.hb).cell 0
                    have ht := HTT.out
                    clear HGO HJX
                    generalize jobs[a]! = jo at *
                    go_wp2_with fail
                    clear rb
                    refine wp_region_below (by kernel_rfl) (by kernel_rfl) ?_
                    repeat (go_big_quiet_step (fail))
                    refine wpQuiet_nil ?_
                    rintro wq ⟨⟨_, NQ⟩, rfl⟩
                    have MQ : Hid (Below w6.heap.size w6 wq ∧ OverI w wq X #[.int .i64 last, .slice sa stays.length sc, .slice (some ⟨jb, joff, none⟩) jobs.length jc] #[.int .i64 last, .slice sx S.length cx, .slice jx J.length dx] t false) := ⟨B.next M.out.1 NQ M.out.1.size, M.out.2.next NQ⟩
                    clear j0 b2 y0 NQ M ht
                    go_wp2
                    go_roundg (jobs.length - (a + 1))
                    case measure => omega
                    case rel => exact ⟨a + 1, by omega, by omega, by go_num, HP1, MQ⟩
                  · have hlaz : ¬ (a : Int) < (jobs.length : Int) := by omega
                    go_wp2
                    go_returns
                    exact ⟨rfl, M.out.2.below⟩

end Bk
end Go.Proofs.Ytihapeagjikiaaa
