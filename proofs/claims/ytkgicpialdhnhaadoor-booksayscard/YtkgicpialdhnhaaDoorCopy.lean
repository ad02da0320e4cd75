/- Chapter 6: a copy of a book (E1); contract for the laws of stage 2. -/
import Derived.Test.YtkgicpialdhnhaaDoorOwn
namespace Go.Proofs.YtkgicpialdhnhaaDoor
open Go.Shelf Go.Lib Go.ChangeShapes Go.WideShapes Go.ChangeAt Go.RowKit
set_option maxRecDepth 100000
set_option linter.unusedSimpArgs false
set_option linter.unusedVariables false

namespace Bk
/-- A book whose two lists are the call's own. -/
structure OwnBook (w : World) (base : Nat) (vs vj : Value) (stays : List Stay) (jobs : List Job) : Prop where
  s : OwnAt w base 47 8 Stay.enc vs stays
  j : OwnAt w base 54 2 Job.enc vj jobs
  ne : ∀ g, vs.ownBlock = some g → vj.ownBlock ≠ some g
theorem OwnBook.below {w w' : World} {base : Nat} {vs vj : Value} {stays : List Stay} {jobs : List Job} (h : OwnBook w base vs vj stays jobs) (hb : Below w.heap.size w w') : OwnBook w' base vs vj stays jobs := ⟨h.s.below hb, h.j.below hb, h.ne⟩
theorem OwnAt.base {α : Type} [Inhabited α] {w : World} {b b' : Nat} {T : TypeId} {k : Nat} {enc : α → List Value} {v : Value} {l : List α} (h : OwnAt w b T k enc v l) (hb : b' ≤ b) : OwnAt w b' T k enc v l := by
  rcases h with h | ⟨g, cap, cur, hv, hg, r⟩
  · exact Or.inl h
  · exact Or.inr ⟨g, cap, cur, hv, Nat.le_trans hb hg, r⟩
theorem OwnAt.block {α : Type} [Inhabited α] {w : World} {b : Nat} {T : TypeId} {k : Nat} {enc : α → List Value} {v : Value} {l : List α} (h : OwnAt w b T k enc v l) (g : Nat) (hg : v.ownBlock = some g) : b ≤ g ∧ g < w.heap.size := by
  rcases h with ⟨rfl, _⟩ | ⟨g', cap, cur, rfl, hg', hk, _⟩
  · simp [Value.ownBlock] at hg
  · simp [Value.ownBlock] at hg
    subst hg
    exact ⟨hg', hk.lt⟩

set_option maxHeartbeats 2000000 in
theorem copy_any (b : Book) (w : World) (h : b.At w) (hs : b.stays.length ≤ 1000) (hj : b.jobs.length ≤ 1000) :
    Calls Tryd.prog 14 #[b.val] w fun e w' => ∃ vs vj, e = .returned (.agg #[.int .i64 b.last, vs, vj]) ∧ OwnBook w' w.heap.size vs vj b.stays b.jobs ∧ Below w.heap.size w w' := by
  obtain ⟨last, sa, sc, ja, jc, stays, jobs⟩ := b
  obtain ⟨h1, h2⟩ := h
  simp only [Book.val] at *
  have HCS : Hid (∀ wx, Below w.heap.size w wx → Calls Tryd.prog 30 #[.slice sa stays.length sc] wx fun e w' => ∃ v, e = .returned v ∧ OwnAt w' wx.heap.size 47 8 Stay.enc v stays ∧ Below wx.heap.size wx w') := fun wx hb => cloneS_any sa sc stays wx (h1.below hb) hs
  have HCJ : Hid (∀ wx, Below w.heap.size w wx → Calls Tryd.prog 31 #[.slice ja jobs.length jc] wx fun e w' => ∃ v, e = .returned v ∧ OwnAt w' wx.heap.size 54 2 Job.enc v jobs ∧ Below wx.heap.size wx w') := fun wx hb => cloneJ_any ja jc jobs wx (h2.below hb) hj
  obtain ⟨w0, hw0⟩ : ∃ w0, (w.alloc (.cells #[.int .i64 last, .slice sa stays.length sc, .slice ja jobs.length jc] 25)).alloc (.cells #[.int .i64 0, .slice none 0 0, .slice none 0 0] 25) = w0 := ⟨_, rfl⟩
  have N0 : Hid (Below w.heap.size w w0 ∧ Blk w0 w.heap.size #[.int .i64 last, .slice sa stays.length sc, .slice ja jobs.length jc] 25 ∧ Blk w0 (w.heap.size + 1) #[.int .i64 0, .slice none 0 0, .slice none 0 0] 25) := by
    show _ ∧ _ ∧ _
    rw [← hw0]
    exact ⟨(B.new1 _ _).alloc (by simp) _, (Blk.new _ _ _).old _, Blk.new1 (by simp) _ _⟩
  have r0 := N0.out.2.1.cell 1
  clear h1 h2
  go_enter Tryd.func14, Tryd.ntmps14
  go_wp2_with fail
  refine (HCS.out _ N0.out.1).mono ?_
  rintro e w1 ⟨vs, rfl, o1, b1⟩
  obtain ⟨sa1, sc1, hvs, _⟩ := o1.rows
  subst hvs
  have N1 : Hid (Below w.heap.size w w1 ∧ Blk w1 w.heap.size #[.int .i64 last, .slice sa stays.length sc, .slice ja jobs.length jc] 25 ∧ Blk w1 (w.heap.size + 1) #[.int .i64 0, .slice none 0 0, .slice none 0 0] 25) := ⟨B.next N0.out.1 b1 N0.out.1.size, N0.out.2.1.below b1, N0.out.2.2.below b1⟩
  have O1 : Hid (OwnAt w1 w0.heap.size 47 8 Stay.enc (.slice sa1 stays.length sc1) stays) := o1
  have z0 : Hid (w.heap.size + 1 < w0.heap.size) := N0.out.2.2.lt
  clear o1 b1 N0 r0 hw0
  have r1 := N1.out.2.1.cell
  have f1 := N1.out.2.1.free
  obtain ⟨w2, hw2⟩ : ∃ w2, w1.setCell ⟨w.heap.size, 1, none⟩ (.slice sa1 stays.length sc1) = w2 := ⟨_, rfl⟩
  have N2 : Hid (Below w.heap.size w w2 ∧ Blk w2 w.heap.size #[.int .i64 last, (.slice sa1 stays.length sc1), .slice ja jobs.length jc] 25 ∧ Blk w2 (w.heap.size + 1) #[.int .i64 0, .slice none 0 0, .slice none 0 0] 25 ∧ OwnAt w2 w0.heap.size 47 8 Stay.enc (.slice sa1 stays.length sc1) stays) := by
    show _ ∧ _ ∧ _ ∧ _
    rw [← hw2]
    refine ⟨N1.out.1.setCell (p := ⟨w.heap.size, 1, none⟩) (Nat.le_refl _) _, N1.out.2.1.set 1 _, N1.out.2.2.other (by omega) _ _, ?_⟩
    rcases O1.out with h | ⟨g, cap, cur, hv, hg, hk, r⟩
    · exact Or.inl h
    · exact Or.inr ⟨g, cap, cur, hv, hg, hk.other (by have := z0.out; omega) _ _, r⟩
  have HV : Hid (∀ g, (Value.slice sa1 stays.length sc1).ownBlock = some g → g < w2.heap.size) := fun g hg => by rw [← hw2, size_setCell]; exact (O1.out.block g hg).2
  have r2 := N2.out.2.1.cell
  clear O1 N1
  go_wp2_with fail
  clear r1 f1 hw2
  refine (HCJ.out _ N2.out.1).mono ?_
  rintro e w3 ⟨vj, rfl, o3, b3⟩
  obtain ⟨ja1, jc1, hvj, _⟩ := o3.rows
  subst hvj
  have N3 : Hid (Below w.heap.size w w3 ∧ Blk w3 w.heap.size #[.int .i64 last, (.slice sa1 stays.length sc1), .slice ja jobs.length jc] 25 ∧ Blk w3 (w.heap.size + 1) #[.int .i64 0, .slice none 0 0, .slice none 0 0] 25) := ⟨B.next N2.out.1 b3 N2.out.1.size, N2.out.2.1.below b3, N2.out.2.2.1.below b3⟩
  have z2 : w.heap.size + 1 < w2.heap.size := N2.out.2.2.1.lt
  have OB : Hid (OwnBook w3 (w.heap.size + 2) (.slice sa1 stays.length sc1) (.slice ja1 jobs.length jc1) stays jobs) := ⟨(N2.out.2.2.2.below b3).base (by have := z0.out; omega), o3.base (by omega), fun g hg hg' => by have := HV.out g hg; have := (o3.block g hg').1; omega⟩
  clear o3 b3 N2 r2 HV
  have r3 := N3.out.2.1.cell
  have f3 := N3.out.2.1.free
  obtain ⟨w4, hw4⟩ : ∃ w4, w3.setCell ⟨w.heap.size, 2, none⟩ (.slice ja1 jobs.length jc1) = w4 := ⟨_, rfl⟩
  have N4 : Hid (Below w.heap.size w w4 ∧ Blk w4 w.heap.size #[.int .i64 last, (.slice sa1 stays.length sc1), (.slice ja1 jobs.length jc1)] 25 ∧ Blk w4 (w.heap.size + 1) #[.int .i64 0, .slice none 0 0, .slice none 0 0] 25) := by
    show _ ∧ _ ∧ _
    rw [← hw4]
    exact ⟨N3.out.1.setCell (p := ⟨w.heap.size, 2, none⟩) (Nat.le_refl _) _, N3.out.2.1.set 2 _, N3.out.2.2.other (by omega) _ _⟩
  have HO : Hid (∀ a b c, OwnBook (((w4.setCell ⟨w.heap.size + 1, 0, none⟩ a).setCell ⟨w.heap.size + 1, 1, none⟩ b).setCell ⟨w.heap.size + 1, 2, none⟩ c) w.heap.size (.slice sa1 stays.length sc1) (.slice ja1 jobs.length jc1) stays jobs) := fun a b c => by
    rw [← hw4]
    refine ⟨?_, ?_, OB.out.ne⟩
    · rcases OB.out.s with h | ⟨g, cap, cur, hv, hg, hk, r⟩
      · exact Or.inl h
      · exact Or.inr ⟨g, cap, cur, hv, by omega, (((hk.other (by omega) _ _).other (by omega) _ _).other (by omega) _ _).other (by omega) _ _, r⟩
    · rcases OB.out.j with h | ⟨g, cap, cur, hv, hg, hk, r⟩
      · exact Or.inl h
      · exact Or.inr ⟨g, cap, cur, hv, by omega, (((hk.other (by omega) _ _).other (by omega) _ _).other (by omega) _ _).other (by omega) _ _, r⟩
  have r4 := N4.out.2.1.cell
  have gg := N4.out.2.2.cell
  have ff := N4.out.2.2.free
  clear N3 OB
  go_wp2
  (try simp only [Exit.inBlock, Exit.then])
  refine bodyPost_ret (v := .agg #[.int .i64 last, (.slice sa1 stays.length sc1), (.slice ja1 jobs.length jc1)]) (by simp [results, Tryd.results14, go_sem, set3_0 gg, set3_1 gg, set3_2 gg]; try rfl) rfl ?_
  exact ⟨(.slice sa1 stays.length sc1), (.slice ja1 jobs.length jc1), rfl, HO.out _ _ _, ((N4.out.1.setCell (p := ⟨w.heap.size + 1, 0, none⟩) (Nat.le_succ _) _).setCell (p := ⟨w.heap.size + 1, 1, none⟩) (Nat.le_succ _) _).setCell (p := ⟨w.heap.size + 1, 2, none⟩) (Nat.le_succ _) _⟩

end Bk
end Go.Proofs.YtkgicpialdhnhaaDoor
