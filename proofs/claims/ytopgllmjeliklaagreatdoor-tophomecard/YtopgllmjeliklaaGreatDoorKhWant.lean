/- Want HsD TopParkA. -/
import Derived.Test.YtopgllmjeliklaaGreatDoorKhPark
set_option maxRecDepth 100000
set_option linter.unusedSimpArgs false
set_option linter.unusedVariables false
namespace Go.Proofs.YtopgllmjeliklaaGreatDoor
open Go.Shelf Go.Lib Go.ChangeShapes Go.WideShapes Go.ChangeAt Go.RowKit
namespace Bk
def wantN (b : Book) (t : Int) : Int :=
 if findI b t < 0 then 5 else if hasJob b.jobs ⟨t, true⟩ then 6 else if 8 ≤ b.jobs.length then 8 else 0
def WantPost (b : Book) (t : Int) (w : World) (e : Ending) (w' : World) : Prop :=
 (∃ k, e = .returned (.tuple #[.agg #[.int .i64 0, .slice none 0 0, .slice none 0 0], errV k]) ∧ k ≠ 0 ∧ wantN b t = k) ∧ Below w.heap.size w w' ∨
 (wantN b t = 0 ∧ ∃ vs vj, e = .returned (.tuple #[.agg #[.int .i64 b.last, vs, vj], .nilIface]) ∧ OwnBook w' w.heap.size vs vj b.stays (b.jobs ++ [⟨t, true⟩]) ∧ Below w.heap.size w w')
structure WantI (w wx : World) (b0 X : Nat) (nx jo : Array Value) (vs vj : Value) (S : List Stay) (J : List Job) : Prop where
 base : w.heap.size + 2 < b0
 far : w.heap.size + 2 < X
 below : Below w.heap.size w wx
 jb : Blk wx (w.heap.size + 2) jo 88
 rb : Blk wx (w.heap.size + 1) #[.int .i64 0, .slice none 0 0, .slice none 0 0] 39
 nb : Blk wx X nx 39
 s : OwnAt wx b0 67 8 Stay.enc vs S
 j : OwnAt wx b0 88 2 Job.enc vj J
theorem WantI.ownbook {w wx : World} {b0 X : Nat} {nx jo : Array Value} {vs vj : Value} {S : List Stay} {J : List Job} (h : WantI w wx b0 X nx jo vs vj S J) : OwnBook wx w.heap.size vs vj S J := by
 have hb := h.base; refine ⟨h.s.base (by omega), h.j.base (by omega), fun g e e' => ?_⟩
 rcases h.j with ⟨rfl, _⟩ | ⟨g', cap, cur, rfl, hg, hk, _⟩
 ·simp [Value.ownBlock] at e'
 ·simp [Value.ownBlock] at e'
  subst e'; exact own_ne h.s hk (by decide) e
theorem WantI.next {w wx wy : World} {b0 X : Nat} {nx jo : Array Value} {vs vj : Value} {S : List Stay} {J : List Job} (h : WantI w wx b0 X nx jo vs vj S J) (hb : Below wx.heap.size wx wy) : WantI w wy b0 X nx jo vs vj S J :=
 ⟨h.base, h.far, B.next h.below hb h.below.size, h.jb.below hb, h.rb.below hb, h.nb.below hb, h.s.below hb, h.j.below hb⟩
theorem WantI.set {w wx : World} {b0 X : Nat} {nx jo : Array Value} {vs vj : Value} {S : List Stay} {J : List Job} (h : WantI w wx b0 X nx jo vs vj S J) (o : Nat) (v : Value) : WantI w (wx.setCell ⟨X, o, none⟩ v) b0 X (nx.setIfInBounds o v) jo vs vj S J := by
 have hX := h.far; refine ⟨h.base, h.far, h.below.setCell (p := ⟨X, o, none⟩) (by show w.heap.size ≤ X; omega) _, h.jb.other (by omega) _ _, h.rb.other (by omega) _ _, h.nb.set o _, ?_, ?_⟩
 ·have hn := own_ne h.s h.nb (by decide)
  rcases h.s with h' | ⟨g, cap, cur, rfl, hg, hk, r⟩
  ·exact Or.inl h'
  ·exact Or.inr ⟨g, cap, cur, rfl, hg, hk.other (fun e => hn (by rw [e]; rfl)) _ _, r⟩
 ·have hn := own_ne h.j h.nb (by decide)
  rcases h.j with h' | ⟨g, cap, cur, rfl, hg, hk, r⟩
  ·exact Or.inl h'
  ·exact Or.inr ⟨g, cap, cur, rfl, hg, hk.other (fun e => hn (by rw [e]; rfl)) _ _, r⟩
theorem WantI.grownJ {w wx wy : World} {b0 X : Nat} {nx jo : Array Value} {vs vj vj' : Value} {S : List Stay} {J J' : List Job} (h : WantI w wx b0 X nx jo vs vj S J) (g : wx.grownBy wy vj.ownBlock) (ho : OwnAt wy b0 88 2 Job.enc vj' J') : WantI w wy b0 X nx jo vs vj' S J' := by
 have kb : ∀ {n : Nat} {a : Array Value} {T : TypeId}, Blk wx n a T → 88 ≠ T → Blk wy n a T := fun hk hT => (g.block _ hk.lt (fun e => own_ne h.j hk hT e.symm)).trans hk
 have hb := h.base; refine ⟨h.base, h.far, grown_below' h.below g (fun n e => Nat.le_trans (by omega) (h.j.block n e).1) h.below.size, ?_, kb h.rb (by decide), kb h.nb (by decide), ?_, ho⟩
 ·refine (g.block _ h.jb.lt (fun e => ?_)).trans h.jb
  have := (h.j.block _ e.symm).1
  omega
 ·rcases h.s with h' | ⟨n, cap, cur, rfl, hg, hk, r⟩
  ·exact Or.inl h'
  ·exact Or.inr ⟨n, cap, cur, rfl, hg, kb hk (by decide), r⟩
theorem WantI.result {w wx : World} {b0 X : Nat} {nx jo : Array Value} {vs vj : Value} {S : List Stay} {J : List Job} (h : WantI w wx b0 X nx jo vs vj S J) (a b c : Value) :
  OwnBook (((wx.setCell ⟨w.heap.size + 1, 0, none⟩ a).setCell ⟨w.heap.size + 1, 1, none⟩ b).setCell ⟨w.heap.size + 1, 2, none⟩ c) w.heap.size vs vj S J ∧ Below w.heap.size w (((wx.setCell ⟨w.heap.size + 1, 0, none⟩ a).setCell ⟨w.heap.size + 1, 1, none⟩ b).setCell ⟨w.heap.size + 1, 2, none⟩ c) := by
 have ho := h.ownbook; have h1 := own_ne h.s h.rb (by decide); have h2 := own_ne h.j h.rb (by decide); refine ⟨⟨?_, ?_, ho.ne⟩, ((h.below.setCell (p := ⟨w.heap.size + 1, 0, none⟩) (Nat.le_add_right _ _) _).setCell (p := ⟨w.heap.size + 1, 1, none⟩) (Nat.le_add_right _ _) _).setCell (p := ⟨w.heap.size + 1, 2, none⟩) (Nat.le_add_right _ _) _⟩
 ·rcases ho.s with h' | ⟨g, cap, cur, rfl, hg, hk, r⟩
  ·exact Or.inl h'
  ·have hn : w.heap.size + 1 ≠ g := fun e => h1 (by rw [e]; rfl)
   exact Or.inr ⟨g, cap, cur, rfl, hg, ((hk.other hn _ _).other hn _ _).other hn _ _, r⟩
 ·rcases ho.j with h' | ⟨g, cap, cur, rfl, hg, hk, r⟩
  ·exact Or.inl h'
  ·have hn : w.heap.size + 1 ≠ g := fun e => h2 (by rw [e]; rfl)
   exact Or.inr ⟨g, cap, cur, rfl, hg, ((hk.other hn _ _).other hn _ _).other hn _ _, r⟩
set_option maxHeartbeats 8000000 in
theorem want_any (b : Book) (t : Int) (w : World) (hb : b.At w) (hst : b.stays.length ≤ 20) (hjb : b.jobs.length ≤ 12) :
  Calls Tryz.prog 67 #[b.val, .int .i64 t] w (WantPost b t w) := by
 obtain ⟨last, sa, sc, ja, jc, stays, jobs⟩ := b; simp only [Book.val] at *; have HFI : Hid (∀ wx, Below w.heap.size w wx → Calls Tryz.prog 30 #[.agg #[.int .i64 last, .slice sa stays.length sc, .slice ja jobs.length jc], .int .i64 t] wx fun e w' => e = .returned (.int .i64 (findI ⟨last, sa, sc, ja, jc, stays, jobs⟩ t)) ∧ Below wx.heap.size wx w') := fun wx h => find_any ⟨last, sa, sc, ja, jc, stays, jobs⟩ t wx (hb.below h)
 have HHJ : Hid (∀ wx, Below w.heap.size w wx → Calls Tryz.prog 62 #[.slice ja jobs.length jc, .agg #[.int .i64 t, .bool true]] wx fun e w' => e = .returned (.bool (hasJob jobs ⟨t, true⟩)) ∧ Below wx.heap.size wx w') := fun wx h => hasJob_any ja jc jobs t true wx (hb.below h).2
 have HCP : Hid (∀ wx, Below w.heap.size w wx → Calls Tryz.prog 77 #[.agg #[.int .i64 last, .slice sa stays.length sc, .slice ja jobs.length jc]] wx fun e w' => ∃ vs vj, e = .returned (.agg #[.int .i64 last, vs, vj]) ∧ OwnBook w' wx.heap.size vs vj stays jobs ∧ Below wx.heap.size wx w') := fun wx h => copy_any ⟨last, sa, sc, ja, jc, stays, jobs⟩ wx (hb.below h) (by show stays.length ≤ 1000; omega) (by show jobs.length ≤ 1000; omega)
 have KP : Hid (wantN ⟨last, sa, sc, ja, jc, stays, jobs⟩ t = if findI ⟨last, sa, sc, ja, jc, stays, jobs⟩ t < 0 then 5 else if hasJob jobs ⟨t, true⟩ then 6 else if 8 ≤ jobs.length then 8 else 0) := rfl
 obtain ⟨iJ, hiJ, hzJ0, hzJ1, hzJ2⟩ := Tryz.infoJob; have HIJ : Hid (Tryz.prog.info? 88 = some iJ) := hiJ; have HZJ : Hid (iJ.zero = some (.agg #[.int .i64 0, .bool false]) ∧ iJ.size = 2 ∧ iJ.bytes = 16) := ⟨hzJ0, hzJ1, hzJ2⟩; clear hiJ hzJ0 hzJ1 hzJ2; have hm2 := hb.2.2.1; have hm3 := hb.2.1; unfold maxLen at hm2; obtain ⟨w0, hw0⟩ : ∃ w0, ((w.alloc (.cells #[.int .i64 last, .slice sa stays.length sc, .slice ja jobs.length jc] 39)).alloc (.cells #[.int .i64 0, .slice none 0 0, .slice none 0 0] 39)).alloc (.cells #[.int .i64 t, .bool true] 88) = w0 := ⟨_, rfl⟩
 have N0 : Hid (Below w.heap.size w w0 ∧ Blk w0 w.heap.size #[.int .i64 last, .slice sa stays.length sc, .slice ja jobs.length jc] 39 ∧ Blk w0 (w.heap.size + 2) #[.int .i64 t, .bool true] 88 ∧ Blk w0 (w.heap.size + 1) #[.int .i64 0, .slice none 0 0, .slice none 0 0] 39) := by
  show _ ∧ _ ∧ _ ∧ _
  rw [← hw0]; exact ⟨((B.new1 _ _).alloc (by simp) _).alloc (by simp; omega) _, ((Blk.new _ _ _).old _).old _, Blk.new1 (by simp) _ _, (Blk.new1 (by simp) _ _).old _⟩
 have r0 := N0.out.2.1.cell; clear hb
 go_enter Tryz.func67, Tryz.ntmps67
 go_wp2_with fail; clear r0 hw0; refine (HFI.out _ N0.out.1).mono ?_; rintro e w1 ⟨rfl, b1⟩; have N1 : Hid (Below w.heap.size w w1 ∧ Blk w1 w.heap.size #[.int .i64 last, .slice sa stays.length sc, .slice ja jobs.length jc] 39 ∧ Blk w1 (w.heap.size + 2) #[.int .i64 t, .bool true] 88 ∧ Blk w1 (w.heap.size + 1) #[.int .i64 0, .slice none 0 0, .slice none 0 0] 39) := ⟨B.next N0.out.1 b1 N0.out.1.size, N0.out.2.1.below b1, N0.out.2.2.1.below b1, N0.out.2.2.2.below b1⟩; clear b1 N0 HFI
 by_cases hof : findI ⟨last, sa, sc, ja, jc, stays, jobs⟩ t < 0
 ·have HK : Hid (wantN ⟨last, sa, sc, ja, jc, stays, jobs⟩ t = 5) := by show _ = _; rw [KP.out, if_pos hof]
  generalize findI ⟨last, sa, sc, ja, jc, stays, jobs⟩ t = qo at *; clear KP; have gg := N1.out.2.2.2.cell; have ff := N1.out.2.2.2.free; go_wp2
  (try simp only [Exit.inBlock, Exit.then])
  refine bodyPost_ret (v := .tuple #[.agg #[.int .i64 0, .slice none 0 0, .slice none 0 0], .iface 103 (.int .i64 5)]) (by simp [results, Tryz.results67, go_sem, set3_0 gg, set3_1 gg, set3_2 gg]; try rfl) rfl ?_; exact Or.inl ⟨⟨5, rfl, by decide, HK.out⟩, (((N1.out.1.setCell (p := ⟨w.heap.size + 1, 0, none⟩) (Nat.le_add_right _ _) _).setCell (p := ⟨w.heap.size + 1, 1, none⟩) (Nat.le_add_right _ _) _).setCell (p := ⟨w.heap.size + 1, 2, none⟩) (Nat.le_add_right _ _) _)⟩
 have KP2 : Hid (wantN ⟨last, sa, sc, ja, jc, stays, jobs⟩ t = if hasJob jobs ⟨t, true⟩ then 6 else if 8 ≤ jobs.length then 8 else 0) := by show _ = _; rw [KP.out, if_neg hof]
 clear KP; generalize findI ⟨last, sa, sc, ja, jc, stays, jobs⟩ t = qo at *; have r1 := N1.out.2.1.cell; have r1c := N1.out.2.2.1.cell; go_wp2_with fail; clear r1 r1c; refine (HHJ.out _ N1.out.1).mono ?_; rintro e w2 ⟨rfl, b2⟩; have N2 : Hid (Below w.heap.size w w2 ∧ Blk w2 w.heap.size #[.int .i64 last, .slice sa stays.length sc, .slice ja jobs.length jc] 39 ∧ Blk w2 (w.heap.size + 2) #[.int .i64 t, .bool true] 88 ∧ Blk w2 (w.heap.size + 1) #[.int .i64 0, .slice none 0 0, .slice none 0 0] 39) := ⟨B.next N1.out.1 b2 N1.out.1.size, N1.out.2.1.below b2, N1.out.2.2.1.below b2, N1.out.2.2.2.below b2⟩; clear b2 N1 HHJ hof; obtain ⟨ps, HPS⟩ : ∃ ps, Hid (hasJob jobs ⟨t, true⟩ = ps) := ⟨_, rfl⟩
 rw [HPS.out]; rw [HPS.out] at KP2; clear HPS
 cases ps
 case true =>
  have HK : Hid (wantN ⟨last, sa, sc, ja, jc, stays, jobs⟩ t = 6) := by show _ = _; rw [KP2.out]; rfl
  clear KP2; have gg := N2.out.2.2.2.cell; have ff := N2.out.2.2.2.free; go_wp2
  (try simp only [Exit.inBlock, Exit.then])
  refine bodyPost_ret (v := .tuple #[.agg #[.int .i64 0, .slice none 0 0, .slice none 0 0], .iface 103 (.int .i64 6)]) (by simp [results, Tryz.results67, go_sem, set3_0 gg, set3_1 gg, set3_2 gg]; try rfl) rfl ?_; exact Or.inl ⟨⟨6, rfl, by decide, HK.out⟩, (((N2.out.1.setCell (p := ⟨w.heap.size + 1, 0, none⟩) (Nat.le_add_right _ _) _).setCell (p := ⟨w.heap.size + 1, 1, none⟩) (Nat.le_add_right _ _) _).setCell (p := ⟨w.heap.size + 1, 2, none⟩) (Nat.le_add_right _ _) _)⟩
 have r2 := N2.out.2.1.cell
 by_cases hjo : 8 ≤ jobs.length
 ·have HK : Hid (wantN ⟨last, sa, sc, ja, jc, stays, jobs⟩ t = 8) := by show _ = _; rw [KP2.out]; simp [hjo]
  have hjz : (8 : Int) ≤ (jobs.length : Int) := by omega
  have gg := N2.out.2.2.2.cell; have ff := N2.out.2.2.2.free; go_wp2
  (try simp only [Exit.inBlock, Exit.then])
  refine bodyPost_ret (v := .tuple #[.agg #[.int .i64 0, .slice none 0 0, .slice none 0 0], .iface 103 (.int .i64 8)]) (by simp [results, Tryz.results67, go_sem, set3_0 gg, set3_1 gg, set3_2 gg]; try rfl) rfl ?_; exact Or.inl ⟨⟨8, rfl, by decide, HK.out⟩, (((N2.out.1.setCell (p := ⟨w.heap.size + 1, 0, none⟩) (Nat.le_add_right _ _) _).setCell (p := ⟨w.heap.size + 1, 1, none⟩) (Nat.le_add_right _ _) _).setCell (p := ⟨w.heap.size + 1, 2, none⟩) (Nat.le_add_right _ _) _)⟩
 have HK : Hid (wantN ⟨last, sa, sc, ja, jc, stays, jobs⟩ t = 0) := by show _ = _; rw [KP2.out]; simp [hjo]
 have hjz : ¬ (8 : Int) ≤ (jobs.length : Int) := by omega
 clear KP2; go_wp2_with fail; clear r2; refine (HCP.out _ N2.out.1).mono ?_; rintro e w5 ⟨vs, vj, rfl, o5, b5⟩; obtain ⟨sa1, sc1, hvs, _⟩ := o5.s.rows; obtain ⟨ja1, jc1, hvj, _⟩ := o5.j.rows; subst hvs hvj; obtain ⟨w6, hw6⟩ : ∃ w6, w5.alloc (.cells #[.int .i64 last, .slice sa1 stays.length sc1, .slice ja1 jobs.length jc1] 39) = w6 := ⟨_, rfl⟩
 have P6 : Hid (WantI w w6 w2.heap.size w5.heap.size #[.int .i64 last, .slice sa1 stays.length sc1, .slice ja1 jobs.length jc1] #[.int .i64 t, .bool true] (.slice sa1 stays.length sc1) (.slice ja1 jobs.length jc1) stays jobs) := by
  show WantI _ _ _ _ _ _ _ _ _ _
  rw [← hw6]; have hl := N2.out.2.2.1.lt; have hl5 := b5.size; exact ⟨hl, by omega, B.next (B.next N2.out.1 b5 N2.out.1.size) (B.new1 _ _) (Nat.le_trans N2.out.1.size b5.size), (N2.out.2.2.1.below b5).old _, (N2.out.2.2.2.below b5).old _, Blk.new _ _ _, o5.s.below (B.new1 _ _), o5.j.below (B.new1 _ _)⟩
 have hb5 : Hid (w2.heap.size ≤ w5.heap.size) := b5.size; clear o5 b5 N2 HCP; have r6 := P6.out.nb.cell; have r6j := P6.out.jb.cell; generalize w2.heap.size = b0 at *; obtain ⟨wB, hwB⟩ : ∃ wB, w6.alloc (.cells #[.int .i64 t, .bool true] 88) = wB := ⟨_, rfl⟩
 have PB : Hid (WantI w wB b0 w5.heap.size #[.int .i64 last, .slice sa1 stays.length sc1, .slice ja1 jobs.length jc1] #[.int .i64 t, .bool true] (.slice sa1 stays.length sc1) (.slice ja1 jobs.length jc1) stays jobs) := by
  show WantI _ _ _ _ _ _ _ _ _ _
  rw [← hwB]; exact P6.out.next (B.new1 _ _)
 have OB : Hid (wB.ownsRow b0 88 2 (.slice ja1 jobs.length jc1) jobs.length (jobs.flatMap Job.enc)) := PB.out.j.to_owns job_len
 have NB : Hid (∀ j u, ([.int .i64 t, .bool true] : List Value)[j]? = some u → wB.cell? ((⟨w6.heap.size, 0, none⟩ : Addr).add j) = some u) := by
  show ∀ _ _, _
  rw [← hwB]; exact news_cells rfl [.int .i64 t, .bool true] 88
 have HBB : Hid (b0 ≤ wB.heap.size) := by
  show _ ≤ _
  have : b0 ≤ w5.heap.size := hb5.out; have h2 := PB.out.nb.lt
  omega
 clear P6; obtain ⟨J8, HJ8⟩ : ∃ J8, Hid (jobs ++ [(⟨t, true⟩ : Job)] = J8) := ⟨_, rfl⟩
 have HEJ8 : Hid (J8.length = jobs.length + 1) := by show _ = _; rw [← HJ8.out]; simp
 have HEG : Hid (jobs.flatMap Job.enc ++ [.int .i64 t, .bool true] = J8.flatMap Job.enc) := by show _ = _; rw [← HJ8.out, List.flatMap_append]; rfl
 go_wp2_with (first
  | (at_builtin; refine wpList_append_own _ rfl _ _ 37 rfl b0 88 iJ _ 2 16 Tryz.underlying37 HIJ.out HZJ.out.1 HZJ.out.2.1 HZJ.out.2.2 rfl (by decide) _ jobs.length (jobs.flatMap Job.enc) rfl OB.out ⟨w6.heap.size, 0, none⟩ 1 1 [.int .i64 t, .bool true] rfl rfl NB.out (by intro u hu; simp only [List.mem_cons, List.not_mem_nil, or_false] at hu; rcases hu with rfl | rfl <;> rfl) (by unfold maxLen; omega) (by omega) HBB.out ?_
     intro v10 w10 ho10 hg10 hn10
     rw [HEG.out, ← HEJ8.out] at ho10; have o10 : OwnAt w10 b0 88 2 Job.enc v10 J8 := OwnAt.of_owns job_len ho10; have P10 : Hid (WantI w w10 b0 w5.heap.size #[.int .i64 last, .slice sa1 stays.length sc1, .slice ja1 jobs.length jc1] #[.int .i64 t, .bool true] (.slice sa1 stays.length sc1) v10 stays J8) := PB.out.grownJ hg10 o10; obtain ⟨ja10, jc10, hv10, _⟩ := o10.rows; subst hv10; have r10 := P10.out.nb.cell; have f10 := P10.out.nb.free; obtain ⟨w11, hw11⟩ : ∃ w11, w10.setCell ⟨w5.heap.size, 2, none⟩ (.slice ja10 J8.length jc10) = w11 := ⟨_, rfl⟩
     have P11 : Hid (WantI w w11 b0 w5.heap.size #[.int .i64 last, .slice sa1 stays.length sc1, .slice ja10 J8.length jc10] #[.int .i64 t, .bool true] (.slice sa1 stays.length sc1) (.slice ja10 J8.length jc10) stays J8) := by
      show WantI _ _ _ _ _ _ _ _ _ _
      rw [← hw11]; exact P10.out.set 2 _
     have r11 := P11.out.nb.cell; have gg := P11.out.rb.cell; have ff := P11.out.rb.free; have hfar := P11.out.far; have hne : ¬ w5.heap.size = w.heap.size + 1 := by omega
     have hne2 : ¬ w.heap.size + 1 = w5.heap.size := by omega
     clear ho10 hg10 hn10 o10 P10))
 all_goals (try simp only [Exit.inBlock, Exit.then])
 all_goals
  refine bodyPost_ret (v := .tuple #[.agg #[.int .i64 last, .slice sa1 stays.length sc1, .slice ja10 J8.length jc10], .nilIface]) (by simp [results, Tryz.results67, go_sem, set3_0 gg, set3_1 gg, set3_2 gg]; try rfl) rfl ?_; have hq := P11.out.result (.int .i64 last) (.slice sa1 stays.length sc1) (.slice ja10 J8.length jc10); refine Or.inr ⟨HK.out, _, _, rfl, ?_, ?_⟩
  ·simp only
   rw [HJ8.out]; exact hq.1
  ·exact hq.2
end Bk
namespace Hs
open Bk Lg Pl Dk Tx
def HKeep (base pb mb n db sb L hb : Nat) (secs : List Sec) (armed : Bool) (lv : List (Int × Int × Int)) (s : St) (b' : PB) (gs : List (Int × Int)) (w : World) (e : Ending) (w' : World) : Prop :=
 (e = .returned .nilIface ∧ LFr base w w' ∧ ∃ secs' left', HouseS w' base pb mb n db sb L hb secs' armed left' lv s b' gs ∧ secs'.length = secs.length) ∨
 (armed = true ∧ e = .returned (errV 9) ∧ LFr base w w' ∧ (∀ k arr, Blk w k arr 133 → Blk w' k arr 133) ∧ IsP w' pb mb n s ∧ ∃ secs' bit' left', LeftOk armed left' ∧ DiskAt w' base db sb secs' bit' armed left' true ∧ Fell secs secs' (nxN secs) ⟨(textL b'.last b'.stays b'.jobs).toArray⟩)
theorem HKeep.value {base pb mb n db sb L hb : Nat} {secs : List Sec} {armed : Bool} {lv : List (Int × Int × Int)} {s : St} {b' : PB} {gs : List (Int × Int)} {w : World} {e : Ending} {w' : World} (h : HKeep base pb mb n db sb L hb secs armed lv s b' gs w e w') : (e = .returned .nilIface ∨ e = .returned (.iface 103 (.int .i64 9))) := by
 rcases h with ⟨rfl, _⟩ | ⟨_, rfl, _⟩
 ·exact Or.inl rfl
 ·exact Or.inr rfl
theorem HKeep.fr {base pb mb n db sb L hb : Nat} {secs : List Sec} {armed : Bool} {lv : List (Int × Int × Int)} {s : St} {b' : PB} {gs : List (Int × Int)} {w : World} {e : Ending} {w' : World} (h : HKeep base pb mb n db sb L hb secs armed lv s b' gs w e w') : LFr base w w' := by
 rcases h with ⟨_, h, _⟩ | ⟨_, _, h, _⟩
 ·exact h
 ·exact h
theorem HKeep.front {base pb mb n db sb L hb : Nat} {secs : List Sec} {armed : Bool} {lv : List (Int × Int × Int)} {s : St} {b' : PB} {gs : List (Int × Int)} {w w1 : World} {e : Ending} {w' : World} (h : HKeep base pb mb n db sb L hb secs armed lv s b' gs w1 e w') (f : DFr base w w1) : HKeep base pb mb n db sb L hb secs armed lv s b' gs w e w' := by
 rcases h with ⟨h1, h2, h3⟩ | ⟨h1, h2, h3, hL, h4⟩
 ·exact Or.inl ⟨h1, (LFr.of_dfr f).trans h2, h3⟩
 ·exact Or.inr ⟨h1, h2, (LFr.of_dfr f).trans h3, fun k arr hk => hL k arr (f.far k arr _ (by decide) (by decide) (by decide) hk), h4⟩
theorem own_at2 {w : World} {base : Nat} {last : Int} {vs vj : Value} {S : List Stay} {J : List Job} (h : OwnBook w base vs vj S J) : ∃ sa sc ja jc, vs = .slice sa S.length sc ∧ vj = .slice ja J.length jc ∧ Book.At ⟨last, sa, sc, ja, jc, S, J⟩ w := by
 obtain ⟨sa, sc, hs, hrs⟩ := h.s.rows; obtain ⟨ja, jc, hj, hrj⟩ := h.j.rows; exact ⟨sa, sc, ja, jc, hs, hj, ⟨hrs, hrj⟩⟩
theorem hkeep (base pb mb n db sb L hb : Nat) (secs : List Sec) (armed : Bool) (left : Int) (lv : List (Int × Int × Int)) (s : St) (b b' : PB) (gs : List (Int × Int)) (vs vj : Value) (w : World) (h : HouseS w base pb mb n db sb L hb secs armed left lv s b gs) (G : Glob w) (hbg : Tryz.prog.globals.size ≤ base) (ho : OwnBook w base vs vj b'.stays b'.jobs) (ok : BookOK b'.last lv.length b'.stays b'.jobs) :
  Calls Tryz.prog 53 #[.pointer (some ⟨L, 0, none⟩), .agg #[.int .i64 b'.last, vs, vj]] w (HKeep base pb mb n db sb L hb secs armed lv s b' gs w) := by
 obtain ⟨sa, sc, ja, jc, hvs, hvj, hat⟩ := own_at2 (last := b'.last) ho
 have hfar : ∀ W, DFr base w W → Book.At ⟨b'.last, sa, sc, ja, jc, b'.stays, b'.jobs⟩ W := fun W hW => by
  obtain ⟨sa2, sc2, ja2, jc2, e1, e2, hat2⟩ := own_at2 (last := b'.last) (bookFar ho (LFr.of_dfr hW)); rw [hvs] at e1; rw [hvj] at e2; injection e1 with a1 a2 a3; injection e2 with b1 b2 b3; subst a1 a3 b1 b3; exact hat2
 subst hvs hvj; refine (keepS base db sb secs armed left L lv.length b ⟨b'.last, sa, sc, ja, jc, b'.stays, b'.jobs⟩ w h.l h.hsz G hbg hat hfar h.n1 h.n4).mono ?_; have h0 : bookN ⟨b'.last, sa, sc, ja, jc, b'.stays, b'.jobs⟩ lv.length = 0 := (bookN_zero _ _).2 ok; rintro e w' (⟨h1, _⟩ | ⟨_, h2, h3, s', l', h4, h5⟩ | ⟨_, h2, h3, h4, s', b2, l', h5, h6, h7⟩)
 ·exact absurd h0 h1
 ·exact Or.inl ⟨h2, h3, s', l', h.kept h3 h4 ok, h5⟩
 ·exact Or.inr ⟨h2, h3, LFr.of_dfr h4, fun k arr hk => h4.far k arr _ (by decide) (by decide) (by decide) hk, isP_l h.p (LFr.of_dfr h4), s', b2, l', h5, h6, h7⟩
def HWant (base pb mb n db sb L hb : Nat) (secs : List Sec) (armed : Bool) (lv : List (Int × Int × Int)) (s : St) (b : PB) (gs : List (Int × Int)) (t : Int) (w : World) (e : Ending) (w' : World) : Prop :=
 (∃ k, k ≠ 0 ∧ wantN b.book t = k ∧ e = .returned (errV k) ∧ Below w.heap.size w w') ∨
 (wantN b.book t = 0 ∧ HKeep base pb mb n db sb L hb secs armed lv s ⟨b.last, b.stays, b.jobs ++ [⟨t, true⟩]⟩ gs w e w')
theorem ok_wanted {last : Int} {n : Nat} {S : List Stay} {J : List Job} {t : Int} (h : BookOK last n S J) (hw : wantN ⟨last, none, 0, none, 0, S, J⟩ t = 0) : BookOK last n S (J ++ [⟨t, true⟩]) := by
 unfold wantN at hw
 by_cases h1 : findI ⟨last, none, 0, none, 0, S, J⟩ t < 0
 ·rw [if_pos h1] at hw; cases hw
 rw [if_neg h1] at hw
 by_cases h2 : hasJob J ⟨t, true⟩ = true
 ·rw [if_pos h2] at hw; cases hw
 rw [if_neg h2] at hw
 by_cases h3 : 8 ≤ J.length
 ·rw [if_pos h3] at hw; cases hw
 have hf := (findI_nonneg ⟨last, none, 0, none, 0, S, J⟩ t).1 (by omega); refine ⟨h.lim, h.fewS, by simp; omega, h.s, ⟨fun x hx => ?_, ?_⟩⟩
 ·rcases List.mem_append.1 hx with hx | hx
  ·exact h.j.each x hx
  ·rw [List.mem_singleton.1 hx]; exact hf
 ·refine List.pairwise_append.2 ⟨h.j.pair, List.pairwise_singleton _ _, fun a ha b hb e => ?_⟩
  rw [List.mem_singleton.1 hb] at e; exact h2 ((hasJob_iff J _).2 (e ▸ ha))
set_option maxHeartbeats 4000000 in
theorem hwant_any (base pb mb n db sb L hb : Nat) (secs : List Sec) (armed : Bool) (left : Int) (lv : List (Int × Int × Int)) (s : St) (b : PB) (gs : List (Int × Int)) (t : Int) (w : World) (h : HouseS w base pb mb n db sb L hb secs armed left lv s b gs) (G : Glob w) (hbg : Tryz.prog.globals.size ≤ base) :
  Calls Tryz.prog 38 #[.pointer (some ⟨hb, 0, none⟩), .int .i64 t] w (HWant base pb mb n db sb L hb secs armed lv s b gs t w) := by
 have HNO : Hid (∀ k w', k ≠ 0 → wantN b.book t = k → Below w.heap.size w w' → HWant base pb mb n db sb L hb secs armed lv s b gs t w (.returned (.iface 103 (.int .i64 k))) w') := fun k w' h0 h1 h2 => Or.inl ⟨k, h0, h1, by rw [errV_ne h0], h2⟩
 have HYES : Hid (wantN b.book t = 0 → ∀ W e w', Below w.heap.size w W → HKeep base pb mb n db sb L hb secs armed lv s ⟨b.last, b.stays, b.jobs ++ [⟨t, true⟩]⟩ gs W e w' → HWant base pb mb n db sb L hb secs armed lv s b gs t w e w') := fun h0 W e w' h1 h2 => Or.inr ⟨h0, h2.front (DFr.of_below h1 h.hsz)⟩
 have HBK : Hid (Calls Tryz.prog 20 #[.pointer (some ⟨hb, 0, none⟩)] w fun e w' => ∃ vs vj, e = .returned (.agg #[.int .i64 b.last, vs, vj]) ∧ OwnBook w' w.heap.size vs vj b.stays b.jobs ∧ Below w.heap.size w w') := hbook_any base pb mb n db sb L hb secs armed left lv s b gs w h
 have HWT : Hid (∀ vs vj W, OwnBook W w.heap.size vs vj b.stays b.jobs → Calls Tryz.prog 67 #[.agg #[.int .i64 b.last, vs, vj], .int .i64 t] W fun e w' => ∃ v x, e = .returned (.tuple #[v, x]) ∧ Hid ((∃ k, k ≠ 0 ∧ wantN b.book t = k ∧ v = .agg #[.int .i64 0, .slice none 0 0, .slice none 0 0] ∧ x = .iface 103 (.int .i64 k)) ∨ (wantN b.book t = 0 ∧ x = .nilIface ∧ ∃ vs vj, v = .agg #[.int .i64 b.last, vs, vj] ∧ OwnBook w' W.heap.size vs vj b.stays (b.jobs ++ [⟨t, true⟩]))) ∧ Below W.heap.size W w') := fun vs vj W ho => by
  obtain ⟨sa, sc, ja, jc, rfl, rfl, hat⟩ := own_at2 (last := b.last) ho; refine (want_any ⟨b.last, sa, sc, ja, jc, b.stays, b.jobs⟩ t W hat (by have := h.ok.fewS; show b.stays.length ≤ 20; omega) (by have := h.ok.fewJ; show b.jobs.length ≤ 12; omega)).mono ?_
  rintro e w' (⟨⟨k, rfl, hk, hn⟩, hB⟩ | ⟨hn, vs, vj, rfl, ho2, hB⟩)
  ·exact ⟨_, _, rfl, Or.inl ⟨k, hk, hn, rfl, by rw [errV_ne hk]⟩, hB⟩
  ·exact ⟨_, _, rfl, Or.inr ⟨hn, rfl, vs, vj, rfl, ho2⟩, hB⟩
 have HKP : Hid (wantN b.book t = 0 → ∀ vs vj W, Below w.heap.size w W → OwnBook W base vs vj b.stays (b.jobs ++ [⟨t, true⟩]) → Calls Tryz.prog 53 #[.pointer (some ⟨L, 0, none⟩), .agg #[.int .i64 b.last, vs, vj]] W (HKeep base pb mb n db sb L hb secs armed lv s ⟨b.last, b.stays, b.jobs ++ [⟨t, true⟩]⟩ gs W)) := fun h0 vs vj W hB ho => hkeep base pb mb n db sb L hb secs armed left lv s b ⟨b.last, b.stays, b.jobs ++ [⟨t, true⟩]⟩ gs vs vj W (h.below hB) (G.new hB) hbg ho (ok_wanted h.ok h0)
 obtain ⟨vl, vg, hH, hL, hG⟩ := h.h; have hsz : Hid (base ≤ w.heap.size) := h.hsz; have HH : Hid (∀ W, Below w.heap.size w W → Blk W hb #[vl, .pointer (some ⟨pb, 0, none⟩), .pointer (some ⟨L, 0, none⟩), vg] 96) := fun W hB => hH.below hB
 have hhb : Hid (hb < w.heap.size) := hH.lt; clear h hH hL hG G; generalize HWant base pb mb n db sb L hb secs armed lv s b gs t w = PP at *; generalize hKP : HKeep base pb mb n db sb L hb secs armed lv s ⟨b.last, b.stays, b.jobs ++ [⟨t, true⟩]⟩ gs = KP at *
 have HKV : Hid (∀ W e w', KP W e w' → (∃ v, e = .returned v) ∧ LFr base W w') := fun W e w' hk => by
  rw [← hKP] at hk; refine ⟨?_, hk.fr⟩
  rcases hk.value with h | h
  ·exact ⟨_, h⟩
  ·exact ⟨_, h⟩
 clear hKP; generalize wantN b.book t = wn at *; generalize b.jobs ++ [⟨t, true⟩] = jobs2 at *; generalize b.last = last at *; generalize b.stays = stays at *; generalize b.jobs = jobs at *
 go_enter Tryz.func38, Tryz.ntmps38
 go_wp2_with fail; refine HBK.out.mono ?_; rintro e w1 ⟨vs, vj, rfl, ho, b1⟩; have X1 : Hid (Below w.heap.size w w1) := b1; have HW1 := hidd (HWT.out vs vj w1 ho); clear HBK HWT ho b1; go_wp2_with fail; refine HW1.out.mono ?_; rintro e w2 ⟨v, x, rfl, hv, b2⟩; have X2 : Hid (Below w.heap.size w w2) := B.next X1.out b2 X1.out.size; have X12 : Hid (w.heap.size ≤ w1.heap.size) := X1.out.size; clear HW1 b2 X1
 rcases hv.out with ⟨k, hk, hwn, rfl, rfl⟩ | ⟨hwn, rfl, vs2, vj2, rfl, ho2⟩
 ·have HF : Hid (∀ w', Below w2.heap.size w2 w' → PP (.returned (.iface 103 (.int .i64 k))) w') := fun w' hB => HNO.out k w' hk hwn (B.next X2.out hB X2.out.size)
  clear HNO HYES HKP HKV hv; go_wp2; exact HF.out _ (B.new1 _ _)
 ·obtain ⟨sx, cx, hvs, _⟩ := ho2.s.rows
  obtain ⟨jx, dx, hvj, _⟩ := ho2.j.rows; obtain ⟨w3, hw3⟩ : ∃ w3, w2.alloc (.cells #[.int .i64 last, vs2, vj2] 39) = w3 := ⟨_, rfl⟩
  have N3 : Hid (Below w2.heap.size w2 w3 ∧ Blk w3 w2.heap.size #[.int .i64 last, vs2, vj2] 39) := by
   show _ ∧ _
   rw [← hw3]; exact ⟨B.new1 _ _, Blk.new _ _ _⟩
  have X3 : Hid (Below w.heap.size w w3.drew) := (B.next X2.out N3.out.1 X2.out.size).drew; have D3 : Hid (Below w3.heap.size w3 w3.drew) := (Below.refl _ _).drew; have HK3 := hidd (HKP.out hwn vs2 vj2 w3.drew X3.out (bookDown ((ho2.below N3.out.1).below D3.out) (Nat.le_trans hsz.out X12.out))); have HF : Hid (∀ e w', KP w3.drew e w' → PP e w') := fun e w' hk => HYES.out hwn _ e w' X3.out hk
  subst hvs hvj; have HS : Hid (w3.drew.cell? ⟨hb, 2, none⟩ = some (.pointer (some ⟨L, 0, none⟩)) ∧ w3.drew.cell? ⟨w2.heap.size, 0, none⟩ = some (.int .i64 last) ∧ w3.drew.cell? ⟨w2.heap.size, 1, none⟩ = some (.slice sx stays.length cx) ∧ w3.drew.cell? ⟨w2.heap.size, 2, none⟩ = some (.slice jx jobs2.length dx)) := ⟨(HH.out _ X3.out).cell 2, (N3.out.2.below D3.out).cell 0, (N3.out.2.below D3.out).cell 1, (N3.out.2.below D3.out).cell 2⟩
  have HS4 : Hid (∀ W, LFr base w3.drew W → W.cell? ⟨hb, 2, none⟩ = some (.pointer (some ⟨L, 0, none⟩)) ∧ W.cell? ⟨w2.heap.size, 0, none⟩ = some (.int .i64 last) ∧ W.cell? ⟨w2.heap.size, 1, none⟩ = some (.slice sx stays.length cx) ∧ W.cell? ⟨w2.heap.size, 2, none⟩ = some (.slice jx jobs2.length dx)) := fun W hf => by
   have k1 := hf.far _ _ _ (by decide) (by decide) (by decide) (by decide) (HH.out _ X3.out); have k2 := hf.far _ _ _ (by decide) (by decide) (by decide) (by decide) (N3.out.2.below D3.out); exact ⟨k1.cell 2, k2.cell 0, k2.cell 1, k2.cell 2⟩
  have hhb3 : Hid (hb < w3.heap.size) := Nat.lt_of_lt_of_le hhb (Nat.le_trans X2.out.size N3.out.1.size); clear HNO HYES HKP hv ho2 D3 X3 N3 HH X2 X12 hsz
  go_upto_region 4 with fail
  (try simp only [hw3])
  clear hw3
  go_region_held3 (fun W => W.cell? ⟨hb, 2, none⟩ = some (.pointer (some ⟨L, 0, none⟩)) ∧ W.cell? ⟨w2.heap.size, 0, none⟩ = some (.int .i64 last) ∧ W.cell? ⟨w2.heap.size, 1, none⟩ = some (.slice sx stays.length cx) ∧ W.cell? ⟨w2.heap.size, 2, none⟩ = some (.slice jx jobs2.length dx)) (first | with_reducible exact HS.out | with_reducible exact HS4.out _ HL4.out | go_keep)
   (first | (go_at_call 53; refine HK3.out.mono ?_; rintro e w4 hk; have HQ : Hid (PP e w4) := HF.out e w4 hk; have HE := HKV.out _ _ _ hk; clear hk HF HKV; have HL4 : Hid (LFr base w3.drew w4) := HE.2; obtain ⟨⟨v, rfl⟩, _⟩ := HE))
  clear HK3 HS HS4; go_wp2; exact HQ.out
end Hs
namespace Bk
theorem nodup_le {α : Type} [BEq α] [LawfulBEq α] : ∀ (l m : List α), l.Pairwise (fun a b => a ≠ b) → (∀ x ∈ l, x ∈ m) → l.length ≤ m.length
 | [], m, _, _ => Nat.zero_le _
 | a :: l, m, hp, hs => by
   rw [List.pairwise_cons] at hp; have ha : a ∈ m := hs a (by simp); have := nodup_le l (m.erase a) hp.2 (fun x hx => (List.mem_erase_of_ne (fun e => hp.1 x hx e.symm)).2 (hs x (by simp [hx])))
   rw [List.length_erase_of_mem ha] at this; have h0 : 0 < m.length := List.length_pos_of_mem ha; simp only [List.length_cons]
   omega
theorem eqP_iff {a b c x y z : Int} : eqP a b c x y z = true ↔ a = x ∧ b = y ∧ c = z := by
 unfold eqP
 simp [and_assoc]
theorem hasPlace_iff (l : List (Int × Int × Int)) (p : Int × Int × Int) : hasPlace l p = true ↔ p ∈ l := by
 unfold hasPlace; rw [List.any_eq_true]
 constructor
 ·rintro ⟨y, hy, h⟩
  simp at h
  obtain ⟨p1, p2, p3⟩ := p; obtain ⟨y1, y2, y3⟩ := y
  simp at h
  obtain ⟨⟨rfl, rfl⟩, rfl⟩ := h; exact hy
 ·intro h
  exact ⟨p, h, by simp⟩
theorem stays_few {last : Int} {n : Nat} {l : List Stay} (h1 : 1 ≤ n) (h4 : n ≤ 4) (h : StaysOK last n l) : l.length ≤ 14 := by
 have hp : (l.map (fun s => (s.x, s.y, s.z))).Pairwise (fun a b => a ≠ b) := by
  rw [List.pairwise_map]; refine h.pair.imp ?_
  intro a b hab e
  have := hab.2; unfold clash at this; simp only [Prod.mk.injEq] at e; rw [eqP_iff.2 ⟨e.1, e.2.1, e.2.2⟩] at this
  simp at this
 have := nodup_le _ (placesTo n (2 * n)) hp (fun x hx => by
  obtain ⟨s, hs, rfl⟩ := List.mem_map.1 hx; exact (hasPlace_iff _ _).1 (h.each s hs).2.2.2)
 rw [List.length_map, places_len n h1 h4] at this
 omega
theorem BookOK.parked {last : Int} {n : Nat} {stays : List Stay} {jobs : List Job} {sa ja : Option Addr} {sc jc : Nat} {f : Nat → Int × Int × Int} {ci ca cb cc : Int} {po : Int × Int × Int} (h1 : 1 ≤ n) (h4 : n ≤ 4) (h : BookOK last n stays jobs)
  (hk : parkN ⟨last, sa, sc, ja, jc, stays, jobs⟩ f n ci ca cb cc = 0) (hpo : pickO ⟨last, sa, sc, ja, jc, stays, jobs⟩ f ca cb cc n = some po) :
  BookOK (last + 1) n (stays ++ [⟨last + 1, ci, ca, cb, cc, po.1, po.2.1, po.2.2⟩]) (jobs ++ [⟨last + 1, false⟩]) := by
 have hcar : carN ci ca cb cc = 0 := by
  unfold parkN at hk
  by_cases e : carN ci ca cb cc = 0
  ·exact e
  ·rw [if_pos e] at hk; exact hk
 have hof : ¬ 0 ≤ ofI ⟨last, sa, sc, ja, jc, stays, jobs⟩ ci := by
  intro e
  unfold parkN at hk; rw [if_neg (by simp [hcar]), if_pos e] at hk; exact absurd hk (by decide)
 have hfull : ¬ (999999 ≤ last ∨ 8 ≤ jobs.length) := by
  intro e
  unfold parkN at hk; rw [if_neg (by simp [hcar]), if_neg hof, if_pos (Or.inr e)] at hk; exact absurd hk (by decide)
 have hid : ∀ s ∈ stays, s.id ≠ ci := by
  intro s hs e
  have := stayIdx_nonneg (fun s => s.id == ci) stays
  have h2 : stays.any (fun s => s.id == ci) = true := List.any_eq_true.2 ⟨s, hs, by simpa using e⟩
  rw [h2] at this; exact hof (of_decide_eq_true this)
 have hfew := stays_few h1 h4 h.s; have hmem : po ∈ placesTo n (2 * n) := List.mem_of_find?_eq_some hpo; have hok : okP ⟨last, sa, sc, ja, jc, stays, jobs⟩ f ca cb cc po = true := List.find?_some hpo
 have hbar : ∀ s ∈ stays, eqP s.x s.y s.z po.1 po.2.1 po.2.2 = false := by
  intro s hs
  unfold okP barredB at hok; simp only [Bool.and_eq_true, Bool.not_eq_true'] at hok; have h2 := List.any_eq_false.1 hok.2 s hs; unfold barP at h2
  cases hq : eqP s.x s.y s.z po.1 po.2.1 po.2.2 with
  | false => rfl
  | true => rw [hq] at h2; simp at h2
 have hpl : placeB po.1 po.2.1 po.2.2 n = true := by
  obtain ⟨i, hi, e⟩ := List.getElem_of_mem hmem; have := (places_good n h1 h4 i (by rw [← places_len n h1 h4]; exact hi)).1; have e2 : (placesTo n (2 * n)).getD i (0, 0, 0) = po := by simp [List.getD, hi, e]
  simp only [e2] at this; exact this
 refine ⟨by have := h.lim; omega, by rw [List.length_append]; simp; omega, by rw [List.length_append]; simp; omega, ⟨?_, ?_⟩, ⟨?_, ?_⟩⟩
 ·intro s hs
  rcases List.mem_append.1 hs with hs | hs
  ·obtain ⟨a, b, c, d⟩ := h.s.each s hs
   refine ⟨a, b, ?_, d⟩; simp only [decide_eq_true_eq] at c ⊢
   omega
  ·simp only [List.mem_singleton] at hs
   subst hs; refine ⟨hcar, hpl, ?_, (hasPlace_iff _ _).2 hmem⟩; have := h.lim; simp only [decide_eq_true_eq]
   omega
 ·rw [List.pairwise_append]
  refine ⟨h.s.pair, List.pairwise_singleton _ _, fun a ha b hb => ?_⟩
  simp only [List.mem_singleton] at hb; subst hb; have hr := (h.s.each a ha).2.2.1; simp only [decide_eq_true_eq] at hr; refine ⟨by show a.t < last + 1; omega, ?_⟩
  unfold clash; simp only [hbar a ha, Bool.false_or]
  simpa using hid a ha
 ·intro x hx
  rcases List.mem_append.1 hx with hx | hx
  ·obtain ⟨s, hs, e⟩ := h.j.each x hx
   exact ⟨s, List.mem_append_left _ hs, e⟩
  ·simp only [List.mem_singleton] at hx
   subst hx; exact ⟨_, List.mem_append_right _ (List.mem_singleton.2 rfl), rfl⟩
 ·rw [List.pairwise_append]
  refine ⟨h.j.pair, List.pairwise_singleton _ _, fun a ha b hb e => ?_⟩
  simp only [List.mem_singleton] at hb; subst hb; obtain ⟨s, hs, es⟩ := h.j.each a ha; have hr := (h.s.each s hs).2.2.1; simp only [decide_eq_true_eq] at hr; rw [e] at es; simp only at es
  omega
end Bk
end Go.Proofs.YtopgllmjeliklaaGreatDoor
