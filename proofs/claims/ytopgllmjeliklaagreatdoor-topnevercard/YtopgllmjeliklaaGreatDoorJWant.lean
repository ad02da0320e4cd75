/- Chapter 7: a car is wanted (E5); contract for the laws. -/
import Derived.Test.YtopgllmjeliklaaGreatDoorJBits
namespace Go.Proofs.YtopgllmjeliklaaGreatDoor
open Go.Shelf Go.Lib Go.ChangeShapes Go.WideShapes Go.ChangeAt Go.RowKit
set_option maxRecDepth 100000
set_option linter.unusedSimpArgs false
set_option linter.unusedVariables false

namespace Bk
/-- What is wrong with wanting a car. -/
def wantN (b : Book) (t : Int) : Int :=
  if findI b t < 0 then 5 else if hasJob b.jobs ⟨t, true⟩ then 6 else if 8 ≤ b.jobs.length then 8 else 0
/-- What Want answers. -/
def WantPost (b : Book) (t : Int) (w : World) (e : Ending) (w' : World) : Prop :=
  (∃ k, e = .returned (.tuple #[.agg #[.int .i64 0, .slice none 0 0, .slice none 0 0], errV k]) ∧ k ≠ 0 ∧ wantN b t = k) ∧ Below w.heap.size w w' ∨
  (wantN b t = 0 ∧ ∃ vs vj, e = .returned (.tuple #[.agg #[.int .i64 b.last, vs, vj], .nilIface]) ∧ OwnBook w' w.heap.size vs vj b.stays (b.jobs ++ [⟨t, true⟩]) ∧ Below w.heap.size w w')

/-- What Want holds from the copy on. -/
structure WantI (w wx : World) (b0 X : Nat) (nx jo : Array Value) (vs vj : Value) (S : List Stay) (J : List Job) : Prop where
  base : w.heap.size + 2 < b0
  far : w.heap.size + 2 < X
  below : Below w.heap.size w wx
  jb : Blk wx (w.heap.size + 2) jo 88
  rb : Blk wx (w.heap.size + 1) #[.int .i64 0, .slice none 0 0, .slice none 0 0] 39
  nb : Blk wx X nx 39
  s : OwnAt wx b0 67 8 Stay.enc vs S
  j : OwnAt wx b0 88 2 Job.enc vj J
theorem WantI.ownbook {w wx : World} {b0 X : Nat} {nx jo : Array Value} {vs vj : Value} {S : List Stay} {J : List Job} (h : WantI w wx b0 X nx jo vs vj S J) : OwnBook wx w.heap.size vs vj S J := by
  have hb := h.base
  refine ⟨h.s.base (by omega), h.j.base (by omega), fun g e e' => ?_⟩
  rcases h.j with ⟨rfl, _⟩ | ⟨g', cap, cur, rfl, hg, hk, _⟩
  · simp [Value.ownBlock] at e'
  · simp [Value.ownBlock] at e'
    subst e'
    exact own_ne h.s hk (by decide) e
theorem WantI.next {w wx wy : World} {b0 X : Nat} {nx jo : Array Value} {vs vj : Value} {S : List Stay} {J : List Job} (h : WantI w wx b0 X nx jo vs vj S J) (hb : Below wx.heap.size wx wy) : WantI w wy b0 X nx jo vs vj S J :=
  ⟨h.base, h.far, B.next h.below hb h.below.size, h.jb.below hb, h.rb.below hb, h.nb.below hb, h.s.below hb, h.j.below hb⟩
/-- A cell of the new book is written. -/
theorem WantI.set {w wx : World} {b0 X : Nat} {nx jo : Array Value} {vs vj : Value} {S : List Stay} {J : List Job} (h : WantI w wx b0 X nx jo vs vj S J) (o : Nat) (v : Value) : WantI w (wx.setCell ⟨X, o, none⟩ v) b0 X (nx.setIfInBounds o v) jo vs vj S J := by
  have hX := h.far
  refine ⟨h.base, h.far, h.below.setCell (p := ⟨X, o, none⟩) (by show w.heap.size ≤ X; omega) _, h.jb.other (by omega) _ _, h.rb.other (by omega) _ _, h.nb.set o _, ?_, ?_⟩
  · have hn := own_ne h.s h.nb (by decide)
    rcases h.s with h' | ⟨g, cap, cur, rfl, hg, hk, r⟩
    · exact Or.inl h'
    · exact Or.inr ⟨g, cap, cur, rfl, hg, hk.other (fun e => hn (by rw [e]; rfl)) _ _, r⟩
  · have hn := own_ne h.j h.nb (by decide)
    rcases h.j with h' | ⟨g, cap, cur, rfl, hg, hk, r⟩
    · exact Or.inl h'
    · exact Or.inr ⟨g, cap, cur, rfl, hg, hk.other (fun e => hn (by rw [e]; rfl)) _ _, r⟩
theorem WantI.grownJ {w wx wy : World} {b0 X : Nat} {nx jo : Array Value} {vs vj vj' : Value} {S : List Stay} {J J' : List Job} (h : WantI w wx b0 X nx jo vs vj S J) (g : wx.grownBy wy vj.ownBlock) (ho : OwnAt wy b0 88 2 Job.enc vj' J') : WantI w wy b0 X nx jo vs vj' S J' := by
  have kb : ∀ {n : Nat} {a : Array Value} {T : TypeId}, Blk wx n a T → 88 ≠ T → Blk wy n a T := fun hk hT => (g.block _ hk.lt (fun e => own_ne h.j hk hT e.symm)).trans hk
  have hb := h.base
  refine ⟨h.base, h.far, grown_below' h.below g (fun n e => Nat.le_trans (by omega) (h.j.block n e).1) h.below.size, ?_, kb h.rb (by decide), kb h.nb (by decide), ?_, ho⟩
  · refine (g.block _ h.jb.lt (fun e => ?_)).trans h.jb
    have := (h.j.block _ e.symm).1
    omega
  · rcases h.s with h' | ⟨n, cap, cur, rfl, hg, hk, r⟩
    · exact Or.inl h'
    · exact Or.inr ⟨n, cap, cur, rfl, hg, kb hk (by decide), r⟩
theorem WantI.result {w wx : World} {b0 X : Nat} {nx jo : Array Value} {vs vj : Value} {S : List Stay} {J : List Job} (h : WantI w wx b0 X nx jo vs vj S J) (a b c : Value) :
    OwnBook (((wx.setCell ⟨w.heap.size + 1, 0, none⟩ a).setCell ⟨w.heap.size + 1, 1, none⟩ b).setCell ⟨w.heap.size + 1, 2, none⟩ c) w.heap.size vs vj S J ∧ Below w.heap.size w (((wx.setCell ⟨w.heap.size + 1, 0, none⟩ a).setCell ⟨w.heap.size + 1, 1, none⟩ b).setCell ⟨w.heap.size + 1, 2, none⟩ c) := by
  have ho := h.ownbook
  have h1 := own_ne h.s h.rb (by decide)
  have h2 := own_ne h.j h.rb (by decide)
  refine ⟨⟨?_, ?_, ho.ne⟩, ((h.below.setCell (p := ⟨w.heap.size + 1, 0, none⟩) (Nat.le_add_right _ _) _).setCell (p := ⟨w.heap.size + 1, 1, none⟩) (Nat.le_add_right _ _) _).setCell (p := ⟨w.heap.size + 1, 2, none⟩) (Nat.le_add_right _ _) _⟩
  · rcases ho.s with h' | ⟨g, cap, cur, rfl, hg, hk, r⟩
    · exact Or.inl h'
    · have hn : w.heap.size + 1 ≠ g := fun e => h1 (by rw [e]; rfl)
      exact Or.inr ⟨g, cap, cur, rfl, hg, ((hk.other hn _ _).other hn _ _).other hn _ _, r⟩
  · rcases ho.j with h' | ⟨g, cap, cur, rfl, hg, hk, r⟩
    · exact Or.inl h'
    · have hn : w.heap.size + 1 ≠ g := fun e => h2 (by rw [e]; rfl)
      exact Or.inr ⟨g, cap, cur, rfl, hg, ((hk.other hn _ _).other hn _ _).other hn _ _, r⟩

set_option maxHeartbeats 8000000 in
theorem want_any (b : Book) (t : Int) (w : World) (hb : b.At w) (hst : b.stays.length ≤ 20) (hjb : b.jobs.length ≤ 12) :
    Calls Tryz.prog 67 #[b.val, .int .i64 t] w (WantPost b t w) := by
  obtain ⟨last, sa, sc, ja, jc, stays, jobs⟩ := b
  simp only [Book.val] at *
  have HFI : Hid (∀ wx, Below w.heap.size w wx → Calls Tryz.prog 30 #[.agg #[.int .i64 last, .slice sa stays.length sc, .slice ja jobs.length jc], .int .i64 t] wx fun e w' => e = .returned (.int .i64 (findI ⟨last, sa, sc, ja, jc, stays, jobs⟩ t)) ∧ Below wx.heap.size wx w') := fun wx h => find_any ⟨last, sa, sc, ja, jc, stays, jobs⟩ t wx (hb.below h)
  have HHJ : Hid (∀ wx, Below w.heap.size w wx → Calls Tryz.prog 62 #[.slice ja jobs.length jc, .agg #[.int .i64 t, .bool true]] wx fun e w' => e = .returned (.bool (hasJob jobs ⟨t, true⟩)) ∧ Below wx.heap.size wx w') := fun wx h => hasJob_any ja jc jobs t true wx (hb.below h).2
  have HCP : Hid (∀ wx, Below w.heap.size w wx → Calls Tryz.prog 77 #[.agg #[.int .i64 last, .slice sa stays.length sc, .slice ja jobs.length jc]] wx fun e w' => ∃ vs vj, e = .returned (.agg #[.int .i64 last, vs, vj]) ∧ OwnBook w' wx.heap.size vs vj stays jobs ∧ Below wx.heap.size wx w') := fun wx h => copy_any ⟨last, sa, sc, ja, jc, stays, jobs⟩ wx (hb.below h) (by show stays.length ≤ 1000; omega) (by show jobs.length ≤ 1000; omega)
  have KP : Hid (wantN ⟨last, sa, sc, ja, jc, stays, jobs⟩ t = if findI ⟨last, sa, sc, ja, jc, stays, jobs⟩ t < 0 then 5 else if hasJob jobs ⟨t, true⟩ then 6 else if 8 ≤ jobs.length then 8 else 0) := rfl
  obtain ⟨iJ, hiJ, hzJ0, hzJ1, hzJ2⟩ := Tryz.infoJob
  have HIJ : Hid (Tryz.prog.info? 88 = some iJ) := hiJ
  have HZJ : Hid (iJ.zero = some (.agg #[.int .i64 0, .bool false]) ∧ iJ.size = 2 ∧ iJ.bytes = 16) := ⟨hzJ0, hzJ1, hzJ2⟩
  clear hiJ hzJ0 hzJ1 hzJ2
  have hm2 := hb.2.2.1; have hm3 := hb.2.1
  unfold maxLen at hm2
  obtain ⟨w0, hw0⟩ : ∃ w0, ((w.alloc (.cells #[.int .i64 last, .slice sa stays.length sc, .slice ja jobs.length jc] 39)).alloc (.cells #[.int .i64 0, .slice none 0 0, .slice none 0 0] 39)).alloc (.cells #[.int .i64 t, .bool true] 88) = w0 := ⟨_, rfl⟩
  have N0 : Hid (Below w.heap.size w w0 ∧ Blk w0 w.heap.size #[.int .i64 last, .slice sa stays.length sc, .slice ja jobs.length jc] 39 ∧ Blk w0 (w.heap.size + 2) #[.int .i64 t, .bool true] 88 ∧ Blk w0 (w.heap.size + 1) #[.int .i64 0, .slice none 0 0, .slice none 0 0] 39) := by
    show _ ∧ _ ∧ _ ∧ _
    rw [← hw0]
    exact ⟨((B.new1 _ _).alloc (by simp) _).alloc (by simp; omega) _, ((Blk.new _ _ _).old _).old _, Blk.new1 (by simp) _ _, (Blk.new1 (by simp) _ _).old _⟩
  have r0 := N0.out.2.1.cell
  clear hb
  go_enter Tryz.func67, Tryz.ntmps67
  go_wp2_with fail
  clear r0 hw0
  refine (HFI.out _ N0.out.1).mono ?_
  rintro e w1 ⟨rfl, b1⟩
  have N1 : Hid (Below w.heap.size w w1 ∧ Blk w1 w.heap.size #[.int .i64 last, .slice sa stays.length sc, .slice ja jobs.length jc] 39 ∧ Blk w1 (w.heap.size + 2) #[.int .i64 t, .bool true] 88 ∧ Blk w1 (w.heap.size + 1) #[.int .i64 0, .slice none 0 0, .slice none 0 0] 39) := ⟨B.next N0.out.1 b1 N0.out.1.size, N0.out.2.1.below b1, N0.out.2.2.1.below b1, N0.out.2.2.2.below b1⟩
  clear b1 N0 HFI
  by_cases hof : findI ⟨last, sa, sc, ja, jc, stays, jobs⟩ t < 0
  · have HK : Hid (wantN ⟨last, sa, sc, ja, jc, stays, jobs⟩ t = 5) := by show _ = _; rw [KP.out, if_pos hof]
    generalize findI ⟨last, sa, sc, ja, jc, stays, jobs⟩ t = qo at *
    clear KP
    have gg := N1.out.2.2.2.cell
    have ff := N1.out.2.2.2.free
    go_wp2
    (try simp only [Exit.inBlock, Exit.then])
    refine bodyPost_ret (v := .tuple #[.agg #[.int .i64 0, .slice none 0 0, .slice none 0 0], .iface 103 (.int .i64 5)]) (by simp [results, Tryz.results67, go_sem, set3_0 gg, set3_1 gg, set3_2 gg]; try rfl) rfl ?_
    exact Or.inl ⟨⟨5, rfl, by decide, HK.out⟩, (((N1.out.1.setCell (p := ⟨w.heap.size + 1, 0, none⟩) (Nat.le_add_right _ _) _).setCell (p := ⟨w.heap.size + 1, 1, none⟩) (Nat.le_add_right _ _) _).setCell (p := ⟨w.heap.size + 1, 2, none⟩) (Nat.le_add_right _ _) _)⟩
  have KP2 : Hid (wantN ⟨last, sa, sc, ja, jc, stays, jobs⟩ t = if hasJob jobs ⟨t, true⟩ then 6 else if 8 ≤ jobs.length then 8 else 0) := by show _ = _; rw [KP.out, if_neg hof]
  clear KP
  generalize findI ⟨last, sa, sc, ja, jc, stays, jobs⟩ t = qo at *
  have r1 := N1.out.2.1.cell
  have r1c := N1.out.2.2.1.cell
  go_wp2_with fail
  clear r1 r1c
  refine (HHJ.out _ N1.out.1).mono ?_
  rintro e w2 ⟨rfl, b2⟩
  have N2 : Hid (Below w.heap.size w w2 ∧ Blk w2 w.heap.size #[.int .i64 last, .slice sa stays.length sc, .slice ja jobs.length jc] 39 ∧ Blk w2 (w.heap.size + 2) #[.int .i64 t, .bool true] 88 ∧ Blk w2 (w.heap.size + 1) #[.int .i64 0, .slice none 0 0, .slice none 0 0] 39) := ⟨B.next N1.out.1 b2 N1.out.1.size, N1.out.2.1.below b2, N1.out.2.2.1.below b2, N1.out.2.2.2.below b2⟩
  clear b2 N1 HHJ hof
  obtain ⟨ps, HPS⟩ : ∃ ps, Hid (hasJob jobs ⟨t, true⟩ = ps) := ⟨_, rfl⟩
  rw [HPS.out]
  rw [HPS.out] at KP2
  clear HPS
  cases ps
  case true =>
    have HK : Hid (wantN ⟨last, sa, sc, ja, jc, stays, jobs⟩ t = 6) := by show _ = _; rw [KP2.out]; rfl
    clear KP2
    have gg := N2.out.2.2.2.cell
    have ff := N2.out.2.2.2.free
    go_wp2
    (try simp only [Exit.inBlock, Exit.then])
    refine bodyPost_ret (v := .tuple #[.agg #[.int .i64 0, .slice none 0 0, .slice none 0 0], .iface 103 (.int .i64 6)]) (by simp [results, Tryz.results67, go_sem, set3_0 gg, set3_1 gg, set3_2 gg]; try rfl) rfl ?_
    exact Or.inl ⟨⟨6, rfl, by decide, HK.out⟩, (((N2.out.1.setCell (p := ⟨w.heap.size + 1, 0, none⟩) (Nat.le_add_right _ _) _).setCell (p := ⟨w.heap.size + 1, 1, none⟩) (Nat.le_add_right _ _) _).setCell (p := ⟨w.heap.size + 1, 2, none⟩) (Nat.le_add_right _ _) _)⟩
  have r2 := N2.out.2.1.cell
  by_cases hjo : 8 ≤ jobs.length
  · have HK : Hid (wantN ⟨last, sa, sc, ja, jc, stays, jobs⟩ t = 8) := by show _ = _; rw [KP2.out]; simp [hjo]
    have hjz : (8 : Int) ≤ (jobs.length : Int) := by omega
    have gg := N2.out.2.2.2.cell
    have ff := N2.out.2.2.2.free
    go_wp2
    (try simp only [Exit.inBlock, Exit.then])
    refine bodyPost_ret (v := .tuple #[.agg #[.int .i64 0, .slice none 0 0, .slice none 0 0], .iface 103 (.int .i64 8)]) (by simp [results, Tryz.results67, go_sem, set3_0 gg, set3_1 gg, set3_2 gg]; try rfl) rfl ?_
    exact Or.inl ⟨⟨8, rfl, by decide, HK.out⟩, (((N2.out.1.setCell (p := ⟨w.heap.size + 1, 0, none⟩) (Nat.le_add_right _ _) _).setCell (p := ⟨w.heap.size + 1, 1, none⟩) (Nat.le_add_right _ _) _).setCell (p := ⟨w.heap.size + 1, 2, none⟩) (Nat.le_add_right _ _) _)⟩
  have HK : Hid (wantN ⟨last, sa, sc, ja, jc, stays, jobs⟩ t = 0) := by show _ = _; rw [KP2.out]; simp [hjo]
  have hjz : ¬ (8 : Int) ≤ (jobs.length : Int) := by omega
  clear KP2
  go_wp2_with fail
  clear r2
  refine (HCP.out _ N2.out.1).mono ?_
  rintro e w5 ⟨vs, vj, rfl, o5, b5⟩
  obtain ⟨sa1, sc1, hvs, _⟩ := o5.s.rows
  obtain ⟨ja1, jc1, hvj, _⟩ := o5.j.rows
  subst hvs hvj
  obtain ⟨w6, hw6⟩ : ∃ w6, w5.alloc (.cells #[.int .i64 last, .slice sa1 stays.length sc1, .slice ja1 jobs.length jc1] 39) = w6 := ⟨_, rfl⟩
  have P6 : Hid (WantI w w6 w2.heap.size w5.heap.size #[.int .i64 last, .slice sa1 stays.length sc1, .slice ja1 jobs.length jc1] #[.int .i64 t, .bool true] (.slice sa1 stays.length sc1) (.slice ja1 jobs.length jc1) stays jobs) := by
    show WantI _ _ _ _ _ _ _ _ _ _
    rw [← hw6]
    have hl := N2.out.2.2.1.lt
    have hl5 := b5.size
    exact ⟨hl, by omega, B.next (B.next N2.out.1 b5 N2.out.1.size) (B.new1 _ _) (Nat.le_trans N2.out.1.size b5.size), (N2.out.2.2.1.below b5).old _, (N2.out.2.2.2.below b5).old _, Blk.new _ _ _, o5.s.below (B.new1 _ _), o5.j.below (B.new1 _ _)⟩
  have hb5 : Hid (w2.heap.size ≤ w5.heap.size) := b5.size
  clear o5 b5 N2 HCP
  have r6 := P6.out.nb.cell
  have r6j := P6.out.jb.cell
  generalize w2.heap.size = b0 at *
  obtain ⟨wB, hwB⟩ : ∃ wB, w6.alloc (.cells #[.int .i64 t, .bool true] 88) = wB := ⟨_, rfl⟩
  have PB : Hid (WantI w wB b0 w5.heap.size #[.int .i64 last, .slice sa1 stays.length sc1, .slice ja1 jobs.length jc1] #[.int .i64 t, .bool true] (.slice sa1 stays.length sc1) (.slice ja1 jobs.length jc1) stays jobs) := by
    show WantI _ _ _ _ _ _ _ _ _ _
    rw [← hwB]
    exact P6.out.next (B.new1 _ _)
  have OB : Hid (wB.ownsRow b0 88 2 (.slice ja1 jobs.length jc1) jobs.length (jobs.flatMap Job.enc)) := PB.out.j.to_owns job_len
  have NB : Hid (∀ j u, ([.int .i64 t, .bool true] : List Value)[j]? = some u → wB.cell? ((⟨w6.heap.size, 0, none⟩ : Addr).add j) = some u) := by
    show ∀ _ _, _
    rw [← hwB]
    exact news_cells rfl [.int .i64 t, .bool true] 88
  have HBB : Hid (b0 ≤ wB.heap.size) := by
    show _ ≤ _
    have : b0 ≤ w5.heap.size := hb5.out
    have h2 := PB.out.nb.lt
    omega
  clear P6
  obtain ⟨J8, HJ8⟩ : ∃ J8, Hid (jobs ++ [(⟨t, true⟩ : Job)] = J8) := ⟨_, rfl⟩
  have HEJ8 : Hid (J8.length = jobs.length + 1) := by show _ = _; rw [← HJ8.out]; simp
  have HEG : Hid (jobs.flatMap Job.enc ++ [.int .i64 t, .bool true] = J8.flatMap Job.enc) := by show _ = _; rw [← HJ8.out, List.flatMap_append]; rfl
  go_wp2_with (first
    | (at_builtin; refine wpList_append_own _ rfl _ _ 37 rfl b0 88 iJ _ 2 16 Tryz.underlying37 HIJ.out HZJ.out.1 HZJ.out.2.1 HZJ.out.2.2 rfl (by decide) _ jobs.length (jobs.flatMap Job.enc) rfl OB.out ⟨w6.heap.size, 0, none⟩ 1 1 [.int .i64 t, .bool true] rfl rfl NB.out (by intro u hu; simp only [List.mem_cons, List.not_mem_nil, or_false] at hu; rcases hu with rfl | rfl <;> rfl) (by unfold maxLen; omega) (by omega) HBB.out ?_
       intro v10 w10 ho10 hg10 hn10
       rw [HEG.out, ← HEJ8.out] at ho10
       have o10 : OwnAt w10 b0 88 2 Job.enc v10 J8 := OwnAt.of_owns job_len ho10
       have P10 : Hid (WantI w w10 b0 w5.heap.size #[.int .i64 last, .slice sa1 stays.length sc1, .slice ja1 jobs.length jc1] #[.int .i64 t, .bool true] (.slice sa1 stays.length sc1) v10 stays J8) := PB.out.grownJ hg10 o10
       obtain ⟨ja10, jc10, hv10, _⟩ := o10.rows
       subst hv10
       have r10 := P10.out.nb.cell
       have f10 := P10.out.nb.free
       obtain ⟨w11, hw11⟩ : ∃ w11, w10.setCell ⟨w5.heap.size, 2, none⟩ (.slice ja10 J8.length jc10) = w11 := ⟨_, rfl⟩
       have P11 : Hid (WantI w w11 b0 w5.heap.size #[.int .i64 last, .slice sa1 stays.length sc1, .slice ja10 J8.length jc10] #[.int .i64 t, .bool true] (.slice sa1 stays.length sc1) (.slice ja10 J8.length jc10) stays J8) := by
         show WantI _ _ _ _ _ _ _ _ _ _
         rw [← hw11]
         exact P10.out.set 2 _
       have r11 := P11.out.nb.cell
       have gg := P11.out.rb.cell
       have ff := P11.out.rb.free
       have hfar := P11.out.far
       have hne : ¬ w5.heap.size = w.heap.size + 1 := by omega
       have hne2 : ¬ w.heap.size + 1 = w5.heap.size := by omega
       clear ho10 hg10 hn10 o10 P10))
  all_goals (try simp only [Exit.inBlock, Exit.then])
  all_goals
    refine bodyPost_ret (v := .tuple #[.agg #[.int .i64 last, .slice sa1 stays.length sc1, .slice ja10 J8.length jc10], .nilIface]) (by simp [results, Tryz.results67, go_sem, set3_0 gg, set3_1 gg, set3_2 gg]; try rfl) rfl ?_
    have hq := P11.out.result (.int .i64 last) (.slice sa1 stays.length sc1) (.slice ja10 J8.length jc10)
    refine Or.inr ⟨HK.out, _, _, rfl, ?_, ?_⟩
    · simp only
      rw [HJ8.out]
      exact hq.1
    · exact hq.2

end Bk
end Go.Proofs.YtopgllmjeliklaaGreatDoor
