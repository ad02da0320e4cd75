/- Done Round. -/
import Derived.Test.YtopgllmjeliklaaGreatDoorKhStoreB
import Derived.OrdersIn
set_option maxRecDepth 100000
set_option linter.unusedSimpArgs false
set_option linter.unusedVariables false
namespace Go.Proofs.YtopgllmjeliklaaGreatDoor
open Go.Shelf Go.Lib Go.ChangeShapes Go.WideShapes Go.ChangeAt Go.RowKit
namespace Bk
def goesJ (t : Int) (f en : Bool) (x : Job) : Bool := (x.t == t && x.f == f) || (en && x.t == t)
def doneJobs (t : Int) (f en : Bool) (jobs : List Job) : List Job := jobs.filter fun x => !goesJ t f en x
def doneStays (t : Int) (en : Bool) (stays : List Stay) : List Stay := if en = true then stays.filter (fun x => !(x.t == t)) else stays
theorem eqJ_run (t k : Int) (f g : Bool) (w : World) : Sem.run Tryz.prog (binOp .eql 88 (.agg #[.int .i64 t, .bool f]) (.agg #[.int .i64 k, .bool g])) w = .ok (.bool (t == k && f == g)) w := eqJob.1 ⟨t, f⟩ ⟨k, g⟩ w
theorem eqJ_guard (t k : Int) (f g : Bool) (op : BinOp) (u v : Operand) (w : World) : Sem.run Tryz.prog (eqGuard op 88 u v (.agg #[.int .i64 t, .bool f]) (.agg #[.int .i64 k, .bool g])) w = .ok () w := eqJob.2 op u v ⟨t, f⟩ ⟨k, g⟩ w
set_option maxHeartbeats 1000000 in
theorem done1_any (t : Int) (f en : Bool) (P0 P1 : Nat) (x : Job) (w : World) (h0 : Blk w P0 #[.int .i64 t, .bool f] 88) (h1 : Blk w P1 #[.bool en] 4) :
  Calls Tryz.prog 120 #[.agg #[.int .i64 x.t, .bool x.f], .pointer (some ⟨P0, 0, none⟩), .pointer (some ⟨P1, 0, none⟩)] w fun e w' => e = .returned (.bool (goesJ t f en x)) ∧ Below w.heap.size w w' := by
 obtain ⟨xt, xf⟩ := x; have l0 := h0.lt; have l1 := h1.lt; have n0 : ¬ P0 = w.heap.size := by omega
 have n1 : ¬ P1 = w.heap.size := by omega
 have c0 : ∀ o, (w.alloc o).cell? ⟨P0, 0, none⟩ = some (.int .i64 t) := fun o => (h0.old o).cell 0
 have c1 : ∀ o, (w.alloc o).cell? ⟨P0, 1, none⟩ = some (.bool f) := fun o => (h0.old o).cell 1
 have c2 : ∀ o, (w.alloc o).cell? ⟨P1, 0, none⟩ = some (.bool en) := fun o => (h1.old o).cell 0
 have e1 := eqJ_run xt t xf f; have g1 := eqJ_guard xt t xf f; have KB : Hid (goesJ t f en ⟨xt, xf⟩ = ((xt == t && xf == f) || (en && xt == t))) := rfl
 rw [KB.out]; clear h0 h1 KB; generalize (xt == t && xf == f) = q at *
 cases q
 ·cases en
  all_goals go_enter Tryz.func120, Tryz.ntmps120
  all_goals go_wp2
  all_goals go_returns
  all_goals exact ⟨B.ret_bool (by simp [*]), by go_grown⟩
 ·go_enter Tryz.func120, Tryz.ntmps120
  go_wp2
  all_goals go_returns
  all_goals exact ⟨B.ret_bool (by simp [*]), by go_grown⟩
set_option maxHeartbeats 1000000 in
theorem done2_any (t : Int) (f : Bool) (P0 : Nat) (x : Stay) (w : World) (h0 : Blk w P0 #[.int .i64 t, .bool f] 88) :
  Calls Tryz.prog 122 #[.agg #[.int .i64 x.t, .int .i64 x.id, .int .i64 x.a, .int .i64 x.b, .int .i64 x.c, .int .i64 x.x, .int .i64 x.y, .int .i64 x.z], .pointer (some ⟨P0, 0, none⟩)] w fun e w' => e = .returned (.bool (x.t == t)) ∧ Below w.heap.size w w' := by
 have l0 := h0.lt; have n0 : ¬ P0 = w.heap.size := by omega
 have c0 : ∀ o, (w.alloc o).cell? ⟨P0, 0, none⟩ = some (.int .i64 t) := fun o => (h0.old o).cell 0
 clear h0
 go_enter Tryz.func122, Tryz.ntmps122
 go_wp2
 all_goals go_returns
 all_goals exact ⟨B.ret_bool (by simp [*]), by go_grown⟩
structure DoneI (w wx : World) (b0 X : Nat) (last : Int) (vs vj : Value) (t : Int) (f en : Bool) (S : List Stay) (J : List Job) : Prop where
 below : Below w.heap.size w wx
 jb : Blk wx (w.heap.size + 1) #[.int .i64 t, .bool f] 88
 rb : Blk wx (w.heap.size + 2) #[.int .i64 0, .slice none 0 0, .slice none 0 0] 39
 nb : Blk wx X #[.int .i64 last, vs, vj] 39
 eb : Blk wx (X + 1) #[.bool en] 4
 own : OwnBook wx b0 vs vj S J
 ltX : ∀ g, vs.ownBlock = some g ∨ vj.ownBlock = some g → g < X
theorem DoneI.ne {w wx : World} {b0 X : Nat} {last : Int} {vs vj : Value} {t : Int} {f en : Bool} {S : List Stay} {J : List Job} (h : DoneI w wx b0 X last vs vj t f en S J) (hb : w.heap.size + 2 < b0) : ∀ g, vs.ownBlock = some g ∨ vj.ownBlock = some g → g ≠ w.heap.size + 1 ∧ g ≠ w.heap.size + 2 ∧ g ≠ X ∧ g ≠ X + 1 ∧ w.heap.size ≤ g := fun g hg => by
 have h1 : b0 ≤ g := by
  rcases hg with hg | hg
  ·exact (h.own.s.block g hg).1
  ·exact (h.own.j.block g hg).1
 have h2 := h.ltX g hg
 omega
theorem grown_below' {N : Nat} {a b c : World} {row : Option Nat} (h : Below N a b) (k : b.grownBy c row) (hg : ∀ g, row = some g → N ≤ g) (hN : N ≤ b.heap.size) : Below N a c :=
 ⟨k.os.trans h.os, k.tape.trans h.tape, k.output.trans h.output, Nat.le_trans h.size k.size, fun i hi => (k.block i (by omega) (fun e => by have := hg i e.symm; omega)).trans (h.block i hi)⟩
theorem DoneI.jobs {w wx wy : World} {b0 X : Nat} {last : Int} {vs vj vj' : Value} {t : Int} {f en : Bool} {S : List Stay} {J J' : List Job} (h : DoneI w wx b0 X last vs vj t f en S J) (hb : w.heap.size + 2 < b0) (hX : w.heap.size + 2 < X) (ho : OwnAt wy b0 88 2 Job.enc vj' J') (hg : wx.grownBy wy vj.ownBlock) (hv : ∀ g, vj'.ownBlock = some g → vj.ownBlock = some g) :
  DoneI w (wy.setCell ⟨X, 2, none⟩ vj') b0 X last vs vj' t f en S J' := by
 have hne := h.ne hb; have nj : ∀ g, vj.ownBlock = some g → g ≠ w.heap.size + 1 ∧ g ≠ w.heap.size + 2 ∧ g ≠ X ∧ g ≠ X + 1 ∧ w.heap.size ≤ g := fun g e => hne g (Or.inr e)
 have kb : ∀ {n : Nat} {a : Array Value} {T : TypeId}, Blk wx n a T → vj.ownBlock ≠ some n → Blk wy n a T := fun hk hn => (hg.block _ hk.lt (fun e => hn e.symm)).trans hk
 have hN : w.heap.size ≤ wx.heap.size := h.below.size; refine ⟨(grown_below' h.below hg (fun g e => (nj g e).2.2.2.2) hN).setCell (p := ⟨X, 2, none⟩) (by show w.heap.size ≤ X; omega) _, (kb h.jb (fun e => (nj _ e).1 rfl)).other (by omega) _ _, (kb h.rb (fun e => (nj _ e).2.1 rfl)).other (by omega) _ _, (kb h.nb (fun e => (nj _ e).2.2.1 rfl)).set 2 _, (kb h.eb (fun e => (nj _ e).2.2.2.1 rfl)).other (by omega) _ _, ?_, ?_⟩
 ·refine ⟨?_, ?_, fun g e e' => h.own.ne g e (hv g e')⟩
  ·rcases h.own.s.grown hg (fun g e e' => h.own.ne g e e') with h' | ⟨g, cap, cur, rfl, hg', hk, r⟩
   ·exact Or.inl h'
   ·exact Or.inr ⟨g, cap, cur, rfl, hg', hk.other (by have := h.ltX g (Or.inl rfl); omega) _ _, r⟩
  ·rcases ho with h' | ⟨g, cap, cur, rfl, hg', hk, r⟩
   ·exact Or.inl h'
   ·exact Or.inr ⟨g, cap, cur, rfl, hg', hk.other (by have := h.ltX g (Or.inr (hv g rfl)); omega) _ _, r⟩
 ·intro g e
  rcases e with e | e
  ·exact h.ltX g (Or.inl e)
  ·exact h.ltX g (Or.inr (hv g e))
theorem DoneI.stays {w wx wy : World} {b0 X : Nat} {last : Int} {vs vj vs' : Value} {t : Int} {f en : Bool} {S S' : List Stay} {J : List Job} (h : DoneI w wx b0 X last vs vj t f en S J) (hb : w.heap.size + 2 < b0) (hX : w.heap.size + 2 < X) (ho : OwnAt wy b0 67 8 Stay.enc vs' S') (hg : wx.grownBy wy vs.ownBlock) (hv : ∀ g, vs'.ownBlock = some g → vs.ownBlock = some g) :
  DoneI w (wy.setCell ⟨X, 1, none⟩ vs') b0 X last vs' vj t f en S' J := by
 have hne := h.ne hb; have nj : ∀ g, vs.ownBlock = some g → g ≠ w.heap.size + 1 ∧ g ≠ w.heap.size + 2 ∧ g ≠ X ∧ g ≠ X + 1 ∧ w.heap.size ≤ g := fun g e => hne g (Or.inl e)
 have kb : ∀ {n : Nat} {a : Array Value} {T : TypeId}, Blk wx n a T → vs.ownBlock ≠ some n → Blk wy n a T := fun hk hn => (hg.block _ hk.lt (fun e => hn e.symm)).trans hk
 have hN : w.heap.size ≤ wx.heap.size := h.below.size; refine ⟨(grown_below' h.below hg (fun g e => (nj g e).2.2.2.2) hN).setCell (p := ⟨X, 1, none⟩) (by show w.heap.size ≤ X; omega) _, (kb h.jb (fun e => (nj _ e).1 rfl)).other (by omega) _ _, (kb h.rb (fun e => (nj _ e).2.1 rfl)).other (by omega) _ _, (kb h.nb (fun e => (nj _ e).2.2.1 rfl)).set 1 _, (kb h.eb (fun e => (nj _ e).2.2.2.1 rfl)).other (by omega) _ _, ?_, ?_⟩
 ·refine ⟨?_, ?_, fun g e e' => h.own.ne g (hv g e) e'⟩
  ·rcases ho with h' | ⟨g, cap, cur, rfl, hg', hk, r⟩
   ·exact Or.inl h'
   ·exact Or.inr ⟨g, cap, cur, rfl, hg', hk.other (by have := h.ltX g (Or.inl (hv g rfl)); omega) _ _, r⟩
  ·rcases h.own.j.grown hg (fun g e e' => h.own.ne g e' e) with h' | ⟨g, cap, cur, rfl, hg', hk, r⟩
   ·exact Or.inl h'
   ·exact Or.inr ⟨g, cap, cur, rfl, hg', hk.other (by have := h.ltX g (Or.inr rfl); omega) _ _, r⟩
 ·intro g e
  rcases e with e | e
  ·exact h.ltX g (Or.inl (hv g e))
  ·exact h.ltX g (Or.inr e)
set_option maxHeartbeats 4000000 in
theorem done_t (b : Book) (t : Int) (gone : Bool) (w : World) (h : b.At w) (hs : b.stays.length ≤ 1000) (hj : b.jobs.length ≤ 1000) (he : True) :
  Calls Tryz.prog 84 #[b.val, .agg #[.int .i64 t, .bool true], .bool gone] w fun e w' => ∃ vs vj, e = .returned (.agg #[.int .i64 b.last, vs, vj]) ∧ OwnBook w' w.heap.size vs vj (doneStays t true b.stays) (doneJobs t true true b.jobs) ∧ Below w.heap.size w w' := by
 obtain ⟨last, sa, sc, ja, jc, stays, jobs⟩ := b; simp only [Book.val] at *; have HCP : Hid (∀ wx, Below w.heap.size w wx → Calls Tryz.prog 77 #[.agg #[.int .i64 last, .slice sa stays.length sc, .slice ja jobs.length jc]] wx fun e w' => ∃ vs vj, e = .returned (.agg #[.int .i64 last, vs, vj]) ∧ OwnBook w' wx.heap.size vs vj stays jobs ∧ Below wx.heap.size wx w') := fun wx hb => copy_any ⟨last, sa, sc, ja, jc, stays, jobs⟩ wx (h.below hb) hs hj
 obtain ⟨w0, hw0⟩ : ∃ w0, ((w.alloc (.cells #[.int .i64 last, .slice sa stays.length sc, .slice ja jobs.length jc] 39)).alloc (.cells #[.int .i64 t, .bool true] 88)).alloc (.cells #[.int .i64 0, .slice none 0 0, .slice none 0 0] 39) = w0 := ⟨_, rfl⟩
 have N0 : Hid (Below w.heap.size w w0 ∧ Blk w0 w.heap.size #[.int .i64 last, .slice sa stays.length sc, .slice ja jobs.length jc] 39 ∧ Blk w0 (w.heap.size + 1) #[.int .i64 t, .bool true] 88 ∧ Blk w0 (w.heap.size + 2) #[.int .i64 0, .slice none 0 0, .slice none 0 0] 39 ∧ w.heap.size + 2 < w0.heap.size) := by
  show _ ∧ _ ∧ _ ∧ _ ∧ _
  rw [← hw0]; exact ⟨((B.new1 _ _).alloc (by simp) _).alloc (by simp; omega) _, ((Blk.new _ _ _).old _).old _, (Blk.new1 (by simp) _ _).old _, Blk.new1 (by simp) _ _, by simp⟩
 have r0 := N0.out.2.1.cell; have hmf := makeFunc_run; clear h
 all_goals
  clear he
  go_enter Tryz.func84, Tryz.ntmps84
  go_wp2_with fail; refine (HCP.out _ N0.out.1).mono ?_; rintro e w1 ⟨vs, vj, rfl, o1, b1⟩; obtain ⟨sa1, sc1, hvs, _⟩ := o1.s.rows; obtain ⟨ja1, jc1, hvj, _⟩ := o1.j.rows; subst hvs hvj; have N1 : Hid (Below w.heap.size w w1 ∧ Blk w1 (w.heap.size + 1) #[.int .i64 t, .bool true] 88 ∧ Blk w1 (w.heap.size + 2) #[.int .i64 0, .slice none 0 0, .slice none 0 0] 39 ∧ w.heap.size + 2 < w1.heap.size) := ⟨B.next N0.out.1 b1 N0.out.1.size, N0.out.2.2.1.below b1, N0.out.2.2.2.1.below b1, Nat.lt_of_lt_of_le N0.out.2.2.2.2 b1.size⟩; have O1 : Hid (OwnBook w1 w0.heap.size (.slice sa1 stays.length sc1) (.slice ja1 jobs.length jc1) stays jobs) := o1; have hb0 : Hid (w.heap.size + 2 < w0.heap.size) := N0.out.2.2.2.2; clear o1 b1 N0 r0 hw0 HCP; generalize w0.heap.size = b0 at *; obtain ⟨w2, hw2⟩ : ∃ w2, (w1.alloc (.cells #[.int .i64 last, (.slice sa1 stays.length sc1), (.slice ja1 jobs.length jc1)] 39)).alloc (.cells #[.bool true] 4) = w2 := ⟨_, rfl⟩
  have D2 : Hid (DoneI w w2 b0 w1.heap.size last (.slice sa1 stays.length sc1) (.slice ja1 jobs.length jc1) t true true stays jobs) := by
   show DoneI _ _ _ _ _ _ _ _ _ _ _ _
   rw [← hw2]
   exact ⟨(N1.out.1.alloc N1.out.1.size _).alloc (by have := N1.out.1.size; simp; omega) _, (N1.out.2.1.old _).old _, (N1.out.2.2.1.old _).old _, (Blk.new _ _ _).old _, Blk.new1 (by simp) _ _, (O1.out.below (B.new1 _ _)).below (B.new1 _ _), fun g hg => by
    rcases hg with hg | hg
    ·exact (O1.out.s.block g hg).2
    ·exact (O1.out.j.block g hg).2⟩
  have hX : Hid (w.heap.size + 2 < w1.heap.size) := N1.out.2.2.2; have r1b : ∀ o, (w1.alloc o).cell? ⟨w.heap.size + 1, 1, none⟩ = some (.bool true) := fun o => (N1.out.2.1.old o).cell 1
  have hxn : ¬ w.heap.size + 1 = w1.heap.size := by have := hX.out; omega
  clear N1 O1; have HW2 : Hid ((w1.alloc (.cells #[.int .i64 last, (.slice sa1 stays.length sc1), (.slice ja1 jobs.length jc1)] 39)).alloc (.cells #[.bool true] 4) = w2) := hw2; clear hw2; go_wp2_with fail; rw [HW2.out]; clear HW2 r1b hxn; generalize w1.heap.size = X at *
  have HJ : Hid (Calls Tryz.prog 119 #[(.slice ja1 jobs.length jc1), .func (.func 120) #[] #[.pointer (some ⟨w.heap.size + 1, 0, none⟩), .pointer (some ⟨X + 1, 0, none⟩)]] w2 fun e w' => ∃ v', e = .returned v' ∧ OwnAt w' b0 88 2 Job.enc v' (jobs.filter fun x => !goesJ t true true x) ∧ w2.grownBy w' (Value.ownBlock (.slice ja1 jobs.length jc1)) ∧ (∀ g, v'.ownBlock = some g → (Value.ownBlock (.slice ja1 jobs.length jc1)) = some g)) :=
   delJ_any (goesJ t true true) 120 _ (enters_of Tryz.func120 (by kernel_rfl) rfl) b0 (.slice ja1 jobs.length jc1) jobs w2 D2.out.own.j hj (fun W hg x => done1_any t true true (w.heap.size + 1) (X + 1) x W ((hg.block _ D2.out.jb.lt (fun e => (D2.out.ne hb0.out _ (Or.inr e.symm)).1 rfl)).trans D2.out.jb) ((hg.block _ D2.out.eb.lt (fun e => (D2.out.ne hb0.out _ (Or.inr e.symm)).2.2.2.1 rfl)).trans D2.out.eb))
  refine HJ.out.mono ?_; rintro e w3 ⟨v3, rfl, o3, g3, k3⟩; obtain ⟨ja3, jc3, hv3, _⟩ := o3.rows; subst hv3; have N3 : Hid (Blk w3 X #[.int .i64 last, (.slice sa1 stays.length sc1), (.slice ja1 jobs.length jc1)] 39) := (g3.block _ D2.out.nb.lt (fun e => (D2.out.ne hb0.out _ (Or.inr e.symm)).2.2.1 rfl)).trans D2.out.nb
  have D3 : Hid (DoneI w (w3.setCell ⟨X, 2, none⟩ _) b0 X last (.slice sa1 stays.length sc1) _ t true true stays _) := D2.out.jobs hb0.out hX.out o3 g3 k3; generalize hJ : (jobs.filter fun x => !goesJ t true true x) = J at *
  have HJE : Hid (doneJobs t true true jobs = J) := hJ; clear o3 g3 k3 D2 HJ hJ; have r3 := N3.out.cell; have f3 := N3.out.free; obtain ⟨w4, hw4⟩ : ∃ w4, w3.setCell ⟨X, 2, none⟩ (.slice ja3 J.length jc3) = w4 := ⟨_, rfl⟩
  rw [hw4] at D3; have r4 := D3.out.nb.cell; have r4e := D3.out.eb.cell; go_wp2_with fail; clear hw4 r3 f3
  have HS : Hid (Calls Tryz.prog 121 #[(.slice sa1 stays.length sc1), .func (.func 122) #[] #[.pointer (some ⟨w.heap.size + 1, 0, none⟩)]] w4 fun e w' => ∃ v', e = .returned v' ∧ OwnAt w' b0 67 8 Stay.enc v' (stays.filter fun x => !(x.t == t)) ∧ w4.grownBy w' (Value.ownBlock (.slice sa1 stays.length sc1)) ∧ (∀ g, v'.ownBlock = some g → (Value.ownBlock (.slice sa1 stays.length sc1)) = some g)) :=
   delS_any (fun x => x.t == t) 122 _ (enters_of Tryz.func122 (by kernel_rfl) rfl) b0 (.slice sa1 stays.length sc1) stays w4 D3.out.own.s hs (fun W hg x => done2_any t true (w.heap.size + 1) x W ((hg.block _ D3.out.jb.lt (fun e => (D3.out.ne hb0.out _ (Or.inl e.symm)).1 rfl)).trans D3.out.jb))
  refine HS.out.mono ?_; rintro e w5 ⟨v5, rfl, o5, g5, k5⟩; obtain ⟨sa5, sc5, hv5, _⟩ := o5.rows; subst hv5; have N5 : Hid (Blk w5 X #[.int .i64 last, (.slice sa1 stays.length sc1), .slice ja3 J.length jc3] 39) := (g5.block _ D3.out.nb.lt (fun e => (D3.out.ne hb0.out _ (Or.inl e.symm)).2.2.1 rfl)).trans D3.out.nb
  have D5 : Hid (DoneI w (w5.setCell ⟨X, 1, none⟩ _) b0 X last _ (.slice ja3 J.length jc3) t true true _ J) := D3.out.stays hb0.out hX.out o5 g5 k5; generalize hS : (stays.filter fun x => !(x.t == t)) = S at *
  have HSE : Hid (doneStays t true stays = S) := hS; clear o5 g5 k5 D3 r4 r4e HS hS; have r5 := N5.out.cell; have f5 := N5.out.free; obtain ⟨w6, hw6⟩ : ∃ w6, w5.setCell ⟨X, 1, none⟩ (.slice sa5 S.length sc5) = w6 := ⟨_, rfl⟩
  rw [hw6] at D5; have r6 := D5.out.nb.cell; have gg := D5.out.rb.cell; have ff := D5.out.rb.free
  have HO : Hid (∀ a b c, OwnBook (((w6.setCell ⟨w.heap.size + 2, 0, none⟩ a).setCell ⟨w.heap.size + 2, 1, none⟩ b).setCell ⟨w.heap.size + 2, 2, none⟩ c) w.heap.size (.slice sa5 S.length sc5) (.slice ja3 J.length jc3) S J) := fun a b c => by
   have hn := D5.out.ne hb0.out; refine ⟨?_, ?_, D5.out.own.ne⟩
   ·rcases D5.out.own.s with h' | ⟨g, cap, cur, hv, hg, hk, r⟩
    ·exact Or.inl h'
    ·have hh := (hn g (Or.inl (by rw [hv]; rfl))).2.1
     exact Or.inr ⟨g, cap, cur, hv, by have := hb0.out; omega, ((hk.other (Ne.symm hh) _ _).other (Ne.symm hh) _ _).other (Ne.symm hh) _ _, r⟩
   ·rcases D5.out.own.j with h' | ⟨g, cap, cur, hv, hg, hk, r⟩
    ·exact Or.inl h'
    ·have hh := (hn g (Or.inr (by rw [hv]; rfl))).2.1
     exact Or.inr ⟨g, cap, cur, hv, by have := hb0.out; omega, ((hk.other (Ne.symm hh) _ _).other (Ne.symm hh) _ _).other (Ne.symm hh) _ _, r⟩
  have BB : Hid (Below w.heap.size w w6) := D5.out.below; go_wp2
  (try simp only [Exit.inBlock, Exit.then])
  refine bodyPost_ret (v := .agg #[.int .i64 last, (.slice sa5 S.length sc5), .slice ja3 J.length jc3]) (by simp [results, Tryz.results84, go_sem, set3_0 gg, set3_1 gg, set3_2 gg]; try rfl) rfl ?_; exact ⟨_, _, rfl, by rw [HSE.out, HJE.out]; exact HO.out _ _ _, ((BB.out.setCell (p := ⟨w.heap.size + 2, 0, none⟩) (Nat.le_add_right _ _) _).setCell (p := ⟨w.heap.size + 2, 1, none⟩) (Nat.le_add_right _ _) _).setCell (p := ⟨w.heap.size + 2, 2, none⟩) (Nat.le_add_right _ _) _⟩
set_option maxHeartbeats 4000000 in
theorem done_g (b : Book) (t : Int) (gone : Bool) (w : World) (h : b.At w) (hs : b.stays.length ≤ 1000) (hj : b.jobs.length ≤ 1000) (he : gone = true) :
  Calls Tryz.prog 84 #[b.val, .agg #[.int .i64 t, .bool false], .bool gone] w fun e w' => ∃ vs vj, e = .returned (.agg #[.int .i64 b.last, vs, vj]) ∧ OwnBook w' w.heap.size vs vj (doneStays t true b.stays) (doneJobs t false true b.jobs) ∧ Below w.heap.size w w' := by
 obtain ⟨last, sa, sc, ja, jc, stays, jobs⟩ := b; simp only [Book.val] at *; have HCP : Hid (∀ wx, Below w.heap.size w wx → Calls Tryz.prog 77 #[.agg #[.int .i64 last, .slice sa stays.length sc, .slice ja jobs.length jc]] wx fun e w' => ∃ vs vj, e = .returned (.agg #[.int .i64 last, vs, vj]) ∧ OwnBook w' wx.heap.size vs vj stays jobs ∧ Below wx.heap.size wx w') := fun wx hb => copy_any ⟨last, sa, sc, ja, jc, stays, jobs⟩ wx (h.below hb) hs hj
 obtain ⟨w0, hw0⟩ : ∃ w0, ((w.alloc (.cells #[.int .i64 last, .slice sa stays.length sc, .slice ja jobs.length jc] 39)).alloc (.cells #[.int .i64 t, .bool false] 88)).alloc (.cells #[.int .i64 0, .slice none 0 0, .slice none 0 0] 39) = w0 := ⟨_, rfl⟩
 have N0 : Hid (Below w.heap.size w w0 ∧ Blk w0 w.heap.size #[.int .i64 last, .slice sa stays.length sc, .slice ja jobs.length jc] 39 ∧ Blk w0 (w.heap.size + 1) #[.int .i64 t, .bool false] 88 ∧ Blk w0 (w.heap.size + 2) #[.int .i64 0, .slice none 0 0, .slice none 0 0] 39 ∧ w.heap.size + 2 < w0.heap.size) := by
  show _ ∧ _ ∧ _ ∧ _ ∧ _
  rw [← hw0]; exact ⟨((B.new1 _ _).alloc (by simp) _).alloc (by simp; omega) _, ((Blk.new _ _ _).old _).old _, (Blk.new1 (by simp) _ _).old _, Blk.new1 (by simp) _ _, by simp⟩
 have r0 := N0.out.2.1.cell; have hmf := makeFunc_run; clear h
 all_goals
  subst he
  go_enter Tryz.func84, Tryz.ntmps84
  go_wp2_with fail; refine (HCP.out _ N0.out.1).mono ?_; rintro e w1 ⟨vs, vj, rfl, o1, b1⟩; obtain ⟨sa1, sc1, hvs, _⟩ := o1.s.rows; obtain ⟨ja1, jc1, hvj, _⟩ := o1.j.rows; subst hvs hvj; have N1 : Hid (Below w.heap.size w w1 ∧ Blk w1 (w.heap.size + 1) #[.int .i64 t, .bool false] 88 ∧ Blk w1 (w.heap.size + 2) #[.int .i64 0, .slice none 0 0, .slice none 0 0] 39 ∧ w.heap.size + 2 < w1.heap.size) := ⟨B.next N0.out.1 b1 N0.out.1.size, N0.out.2.2.1.below b1, N0.out.2.2.2.1.below b1, Nat.lt_of_lt_of_le N0.out.2.2.2.2 b1.size⟩; have O1 : Hid (OwnBook w1 w0.heap.size (.slice sa1 stays.length sc1) (.slice ja1 jobs.length jc1) stays jobs) := o1; have hb0 : Hid (w.heap.size + 2 < w0.heap.size) := N0.out.2.2.2.2; clear o1 b1 N0 r0 hw0 HCP; generalize w0.heap.size = b0 at *; obtain ⟨w2, hw2⟩ : ∃ w2, (w1.alloc (.cells #[.int .i64 last, (.slice sa1 stays.length sc1), (.slice ja1 jobs.length jc1)] 39)).alloc (.cells #[.bool true] 4) = w2 := ⟨_, rfl⟩
  have D2 : Hid (DoneI w w2 b0 w1.heap.size last (.slice sa1 stays.length sc1) (.slice ja1 jobs.length jc1) t false true stays jobs) := by
   show DoneI _ _ _ _ _ _ _ _ _ _ _ _
   rw [← hw2]
   exact ⟨(N1.out.1.alloc N1.out.1.size _).alloc (by have := N1.out.1.size; simp; omega) _, (N1.out.2.1.old _).old _, (N1.out.2.2.1.old _).old _, (Blk.new _ _ _).old _, Blk.new1 (by simp) _ _, (O1.out.below (B.new1 _ _)).below (B.new1 _ _), fun g hg => by
    rcases hg with hg | hg
    ·exact (O1.out.s.block g hg).2
    ·exact (O1.out.j.block g hg).2⟩
  have hX : Hid (w.heap.size + 2 < w1.heap.size) := N1.out.2.2.2; have r1b : ∀ o, (w1.alloc o).cell? ⟨w.heap.size + 1, 1, none⟩ = some (.bool false) := fun o => (N1.out.2.1.old o).cell 1
  have hxn : ¬ w.heap.size + 1 = w1.heap.size := by have := hX.out; omega
  clear N1 O1; have HW2 : Hid ((w1.alloc (.cells #[.int .i64 last, (.slice sa1 stays.length sc1), (.slice ja1 jobs.length jc1)] 39)).alloc (.cells #[.bool true] 4) = w2) := hw2; clear hw2; go_wp2_with fail; rw [HW2.out]; clear HW2 r1b hxn; generalize w1.heap.size = X at *
  have HJ : Hid (Calls Tryz.prog 119 #[(.slice ja1 jobs.length jc1), .func (.func 120) #[] #[.pointer (some ⟨w.heap.size + 1, 0, none⟩), .pointer (some ⟨X + 1, 0, none⟩)]] w2 fun e w' => ∃ v', e = .returned v' ∧ OwnAt w' b0 88 2 Job.enc v' (jobs.filter fun x => !goesJ t false true x) ∧ w2.grownBy w' (Value.ownBlock (.slice ja1 jobs.length jc1)) ∧ (∀ g, v'.ownBlock = some g → (Value.ownBlock (.slice ja1 jobs.length jc1)) = some g)) :=
   delJ_any (goesJ t false true) 120 _ (enters_of Tryz.func120 (by kernel_rfl) rfl) b0 (.slice ja1 jobs.length jc1) jobs w2 D2.out.own.j hj (fun W hg x => done1_any t false true (w.heap.size + 1) (X + 1) x W ((hg.block _ D2.out.jb.lt (fun e => (D2.out.ne hb0.out _ (Or.inr e.symm)).1 rfl)).trans D2.out.jb) ((hg.block _ D2.out.eb.lt (fun e => (D2.out.ne hb0.out _ (Or.inr e.symm)).2.2.2.1 rfl)).trans D2.out.eb))
  refine HJ.out.mono ?_; rintro e w3 ⟨v3, rfl, o3, g3, k3⟩; obtain ⟨ja3, jc3, hv3, _⟩ := o3.rows; subst hv3; have N3 : Hid (Blk w3 X #[.int .i64 last, (.slice sa1 stays.length sc1), (.slice ja1 jobs.length jc1)] 39) := (g3.block _ D2.out.nb.lt (fun e => (D2.out.ne hb0.out _ (Or.inr e.symm)).2.2.1 rfl)).trans D2.out.nb
  have D3 : Hid (DoneI w (w3.setCell ⟨X, 2, none⟩ _) b0 X last (.slice sa1 stays.length sc1) _ t false true stays _) := D2.out.jobs hb0.out hX.out o3 g3 k3; generalize hJ : (jobs.filter fun x => !goesJ t false true x) = J at *
  have HJE : Hid (doneJobs t false true jobs = J) := hJ; clear o3 g3 k3 D2 HJ hJ; have r3 := N3.out.cell; have f3 := N3.out.free; obtain ⟨w4, hw4⟩ : ∃ w4, w3.setCell ⟨X, 2, none⟩ (.slice ja3 J.length jc3) = w4 := ⟨_, rfl⟩
  rw [hw4] at D3; have r4 := D3.out.nb.cell; have r4e := D3.out.eb.cell; go_wp2_with fail; clear hw4 r3 f3
  have HS : Hid (Calls Tryz.prog 121 #[(.slice sa1 stays.length sc1), .func (.func 122) #[] #[.pointer (some ⟨w.heap.size + 1, 0, none⟩)]] w4 fun e w' => ∃ v', e = .returned v' ∧ OwnAt w' b0 67 8 Stay.enc v' (stays.filter fun x => !(x.t == t)) ∧ w4.grownBy w' (Value.ownBlock (.slice sa1 stays.length sc1)) ∧ (∀ g, v'.ownBlock = some g → (Value.ownBlock (.slice sa1 stays.length sc1)) = some g)) :=
   delS_any (fun x => x.t == t) 122 _ (enters_of Tryz.func122 (by kernel_rfl) rfl) b0 (.slice sa1 stays.length sc1) stays w4 D3.out.own.s hs (fun W hg x => done2_any t false (w.heap.size + 1) x W ((hg.block _ D3.out.jb.lt (fun e => (D3.out.ne hb0.out _ (Or.inl e.symm)).1 rfl)).trans D3.out.jb))
  refine HS.out.mono ?_; rintro e w5 ⟨v5, rfl, o5, g5, k5⟩; obtain ⟨sa5, sc5, hv5, _⟩ := o5.rows; subst hv5; have N5 : Hid (Blk w5 X #[.int .i64 last, (.slice sa1 stays.length sc1), .slice ja3 J.length jc3] 39) := (g5.block _ D3.out.nb.lt (fun e => (D3.out.ne hb0.out _ (Or.inl e.symm)).2.2.1 rfl)).trans D3.out.nb
  have D5 : Hid (DoneI w (w5.setCell ⟨X, 1, none⟩ _) b0 X last _ (.slice ja3 J.length jc3) t false true _ J) := D3.out.stays hb0.out hX.out o5 g5 k5; generalize hS : (stays.filter fun x => !(x.t == t)) = S at *
  have HSE : Hid (doneStays t true stays = S) := hS; clear o5 g5 k5 D3 r4 r4e HS hS; have r5 := N5.out.cell; have f5 := N5.out.free; obtain ⟨w6, hw6⟩ : ∃ w6, w5.setCell ⟨X, 1, none⟩ (.slice sa5 S.length sc5) = w6 := ⟨_, rfl⟩
  rw [hw6] at D5; have r6 := D5.out.nb.cell; have gg := D5.out.rb.cell; have ff := D5.out.rb.free
  have HO : Hid (∀ a b c, OwnBook (((w6.setCell ⟨w.heap.size + 2, 0, none⟩ a).setCell ⟨w.heap.size + 2, 1, none⟩ b).setCell ⟨w.heap.size + 2, 2, none⟩ c) w.heap.size (.slice sa5 S.length sc5) (.slice ja3 J.length jc3) S J) := fun a b c => by
   have hn := D5.out.ne hb0.out; refine ⟨?_, ?_, D5.out.own.ne⟩
   ·rcases D5.out.own.s with h' | ⟨g, cap, cur, hv, hg, hk, r⟩
    ·exact Or.inl h'
    ·have hh := (hn g (Or.inl (by rw [hv]; rfl))).2.1
     exact Or.inr ⟨g, cap, cur, hv, by have := hb0.out; omega, ((hk.other (Ne.symm hh) _ _).other (Ne.symm hh) _ _).other (Ne.symm hh) _ _, r⟩
   ·rcases D5.out.own.j with h' | ⟨g, cap, cur, hv, hg, hk, r⟩
    ·exact Or.inl h'
    ·have hh := (hn g (Or.inr (by rw [hv]; rfl))).2.1
     exact Or.inr ⟨g, cap, cur, hv, by have := hb0.out; omega, ((hk.other (Ne.symm hh) _ _).other (Ne.symm hh) _ _).other (Ne.symm hh) _ _, r⟩
  have BB : Hid (Below w.heap.size w w6) := D5.out.below; go_wp2
  (try simp only [Exit.inBlock, Exit.then])
  refine bodyPost_ret (v := .agg #[.int .i64 last, (.slice sa5 S.length sc5), .slice ja3 J.length jc3]) (by simp [results, Tryz.results84, go_sem, set3_0 gg, set3_1 gg, set3_2 gg]; try rfl) rfl ?_; exact ⟨_, _, rfl, by rw [HSE.out, HJE.out]; exact HO.out _ _ _, ((BB.out.setCell (p := ⟨w.heap.size + 2, 0, none⟩) (Nat.le_add_right _ _) _).setCell (p := ⟨w.heap.size + 2, 1, none⟩) (Nat.le_add_right _ _) _).setCell (p := ⟨w.heap.size + 2, 2, none⟩) (Nat.le_add_right _ _) _⟩
set_option maxHeartbeats 4000000 in
theorem done_f (b : Book) (t : Int) (gone : Bool) (w : World) (h : b.At w) (hs : b.stays.length ≤ 1000) (hj : b.jobs.length ≤ 1000) (he : gone = false) :
  Calls Tryz.prog 84 #[b.val, .agg #[.int .i64 t, .bool false], .bool gone] w fun e w' => ∃ vs vj, e = .returned (.agg #[.int .i64 b.last, vs, vj]) ∧ OwnBook w' w.heap.size vs vj (doneStays t false b.stays) (doneJobs t false false b.jobs) ∧ Below w.heap.size w w' := by
 obtain ⟨last, sa, sc, ja, jc, stays, jobs⟩ := b; simp only [Book.val] at *; have HCP : Hid (∀ wx, Below w.heap.size w wx → Calls Tryz.prog 77 #[.agg #[.int .i64 last, .slice sa stays.length sc, .slice ja jobs.length jc]] wx fun e w' => ∃ vs vj, e = .returned (.agg #[.int .i64 last, vs, vj]) ∧ OwnBook w' wx.heap.size vs vj stays jobs ∧ Below wx.heap.size wx w') := fun wx hb => copy_any ⟨last, sa, sc, ja, jc, stays, jobs⟩ wx (h.below hb) hs hj
 obtain ⟨w0, hw0⟩ : ∃ w0, ((w.alloc (.cells #[.int .i64 last, .slice sa stays.length sc, .slice ja jobs.length jc] 39)).alloc (.cells #[.int .i64 t, .bool false] 88)).alloc (.cells #[.int .i64 0, .slice none 0 0, .slice none 0 0] 39) = w0 := ⟨_, rfl⟩
 have N0 : Hid (Below w.heap.size w w0 ∧ Blk w0 w.heap.size #[.int .i64 last, .slice sa stays.length sc, .slice ja jobs.length jc] 39 ∧ Blk w0 (w.heap.size + 1) #[.int .i64 t, .bool false] 88 ∧ Blk w0 (w.heap.size + 2) #[.int .i64 0, .slice none 0 0, .slice none 0 0] 39 ∧ w.heap.size + 2 < w0.heap.size) := by
  show _ ∧ _ ∧ _ ∧ _ ∧ _
  rw [← hw0]; exact ⟨((B.new1 _ _).alloc (by simp) _).alloc (by simp; omega) _, ((Blk.new _ _ _).old _).old _, (Blk.new1 (by simp) _ _).old _, Blk.new1 (by simp) _ _, by simp⟩
 have r0 := N0.out.2.1.cell; have hmf := makeFunc_run; clear h
 all_goals
  subst he
  go_enter Tryz.func84, Tryz.ntmps84
  go_wp2_with fail; refine (HCP.out _ N0.out.1).mono ?_; rintro e w1 ⟨vs, vj, rfl, o1, b1⟩; obtain ⟨sa1, sc1, hvs, _⟩ := o1.s.rows; obtain ⟨ja1, jc1, hvj, _⟩ := o1.j.rows; subst hvs hvj; have N1 : Hid (Below w.heap.size w w1 ∧ Blk w1 (w.heap.size + 1) #[.int .i64 t, .bool false] 88 ∧ Blk w1 (w.heap.size + 2) #[.int .i64 0, .slice none 0 0, .slice none 0 0] 39 ∧ w.heap.size + 2 < w1.heap.size) := ⟨B.next N0.out.1 b1 N0.out.1.size, N0.out.2.2.1.below b1, N0.out.2.2.2.1.below b1, Nat.lt_of_lt_of_le N0.out.2.2.2.2 b1.size⟩; have O1 : Hid (OwnBook w1 w0.heap.size (.slice sa1 stays.length sc1) (.slice ja1 jobs.length jc1) stays jobs) := o1; have hb0 : Hid (w.heap.size + 2 < w0.heap.size) := N0.out.2.2.2.2; clear o1 b1 N0 r0 hw0 HCP; generalize w0.heap.size = b0 at *; obtain ⟨w2, hw2⟩ : ∃ w2, (w1.alloc (.cells #[.int .i64 last, (.slice sa1 stays.length sc1), (.slice ja1 jobs.length jc1)] 39)).alloc (.cells #[.bool false] 4) = w2 := ⟨_, rfl⟩
  have D2 : Hid (DoneI w w2 b0 w1.heap.size last (.slice sa1 stays.length sc1) (.slice ja1 jobs.length jc1) t false false stays jobs) := by
   show DoneI _ _ _ _ _ _ _ _ _ _ _ _
   rw [← hw2]
   exact ⟨(N1.out.1.alloc N1.out.1.size _).alloc (by have := N1.out.1.size; simp; omega) _, (N1.out.2.1.old _).old _, (N1.out.2.2.1.old _).old _, (Blk.new _ _ _).old _, Blk.new1 (by simp) _ _, (O1.out.below (B.new1 _ _)).below (B.new1 _ _), fun g hg => by
    rcases hg with hg | hg
    ·exact (O1.out.s.block g hg).2
    ·exact (O1.out.j.block g hg).2⟩
  have hX : Hid (w.heap.size + 2 < w1.heap.size) := N1.out.2.2.2; have r1b : ∀ o, (w1.alloc o).cell? ⟨w.heap.size + 1, 1, none⟩ = some (.bool false) := fun o => (N1.out.2.1.old o).cell 1
  have hxn : ¬ w.heap.size + 1 = w1.heap.size := by have := hX.out; omega
  clear N1 O1; have HW2 : Hid ((w1.alloc (.cells #[.int .i64 last, (.slice sa1 stays.length sc1), (.slice ja1 jobs.length jc1)] 39)).alloc (.cells #[.bool false] 4) = w2) := hw2; clear hw2; go_wp2_with fail; rw [HW2.out]; clear HW2 r1b hxn; generalize w1.heap.size = X at *
  have HJ : Hid (Calls Tryz.prog 119 #[(.slice ja1 jobs.length jc1), .func (.func 120) #[] #[.pointer (some ⟨w.heap.size + 1, 0, none⟩), .pointer (some ⟨X + 1, 0, none⟩)]] w2 fun e w' => ∃ v', e = .returned v' ∧ OwnAt w' b0 88 2 Job.enc v' (jobs.filter fun x => !goesJ t false false x) ∧ w2.grownBy w' (Value.ownBlock (.slice ja1 jobs.length jc1)) ∧ (∀ g, v'.ownBlock = some g → (Value.ownBlock (.slice ja1 jobs.length jc1)) = some g)) :=
   delJ_any (goesJ t false false) 120 _ (enters_of Tryz.func120 (by kernel_rfl) rfl) b0 (.slice ja1 jobs.length jc1) jobs w2 D2.out.own.j hj (fun W hg x => done1_any t false false (w.heap.size + 1) (X + 1) x W ((hg.block _ D2.out.jb.lt (fun e => (D2.out.ne hb0.out _ (Or.inr e.symm)).1 rfl)).trans D2.out.jb) ((hg.block _ D2.out.eb.lt (fun e => (D2.out.ne hb0.out _ (Or.inr e.symm)).2.2.2.1 rfl)).trans D2.out.eb))
  refine HJ.out.mono ?_; rintro e w3 ⟨v3, rfl, o3, g3, k3⟩; obtain ⟨ja3, jc3, hv3, _⟩ := o3.rows; subst hv3; have N3 : Hid (Blk w3 X #[.int .i64 last, (.slice sa1 stays.length sc1), (.slice ja1 jobs.length jc1)] 39) := (g3.block _ D2.out.nb.lt (fun e => (D2.out.ne hb0.out _ (Or.inr e.symm)).2.2.1 rfl)).trans D2.out.nb
  have D3 : Hid (DoneI w (w3.setCell ⟨X, 2, none⟩ _) b0 X last (.slice sa1 stays.length sc1) _ t false false stays _) := D2.out.jobs hb0.out hX.out o3 g3 k3; generalize hJ : (jobs.filter fun x => !goesJ t false false x) = J at *
  have HJE : Hid (doneJobs t false false jobs = J) := hJ; clear o3 g3 k3 D2 HJ hJ; have r3 := N3.out.cell; have f3 := N3.out.free; obtain ⟨w4, hw4⟩ : ∃ w4, w3.setCell ⟨X, 2, none⟩ (.slice ja3 J.length jc3) = w4 := ⟨_, rfl⟩
  rw [hw4] at D3; have r4 := D3.out.nb.cell; have r4e := D3.out.eb.cell; have HSE : Hid (doneStays t false stays = stays) := rfl; have gg := D3.out.rb.cell; have ff := D3.out.rb.free
  have HO : Hid (∀ a b c, OwnBook (((w4.setCell ⟨w.heap.size + 2, 0, none⟩ a).setCell ⟨w.heap.size + 2, 1, none⟩ b).setCell ⟨w.heap.size + 2, 2, none⟩ c) w.heap.size (.slice sa1 stays.length sc1) (.slice ja3 J.length jc3) stays J) := fun a b c => by
   have hn := D3.out.ne hb0.out; refine ⟨?_, ?_, D3.out.own.ne⟩
   ·rcases D3.out.own.s with h' | ⟨g, cap, cur, hv, hg, hk, r⟩
    ·exact Or.inl h'
    ·have hh := (hn g (Or.inl (by rw [hv]; rfl))).2.1
     exact Or.inr ⟨g, cap, cur, hv, by have := hb0.out; omega, ((hk.other (Ne.symm hh) _ _).other (Ne.symm hh) _ _).other (Ne.symm hh) _ _, r⟩
   ·rcases D3.out.own.j with h' | ⟨g, cap, cur, hv, hg, hk, r⟩
    ·exact Or.inl h'
    ·have hh := (hn g (Or.inr (by rw [hv]; rfl))).2.1
     exact Or.inr ⟨g, cap, cur, hv, by have := hb0.out; omega, ((hk.other (Ne.symm hh) _ _).other (Ne.symm hh) _ _).other (Ne.symm hh) _ _, r⟩
  have BB : Hid (Below w.heap.size w w4) := D3.out.below; go_wp2
  (try simp only [Exit.inBlock, Exit.then])
  refine bodyPost_ret (v := .agg #[.int .i64 last, (.slice sa1 stays.length sc1), .slice ja3 J.length jc3]) (by simp [results, Tryz.results84, go_sem, set3_0 gg, set3_1 gg, set3_2 gg]; try rfl) rfl ?_; exact ⟨_, _, rfl, by rw [HSE.out, HJE.out]; exact HO.out _ _ _, ((BB.out.setCell (p := ⟨w.heap.size + 2, 0, none⟩) (Nat.le_add_right _ _) _).setCell (p := ⟨w.heap.size + 2, 1, none⟩) (Nat.le_add_right _ _) _).setCell (p := ⟨w.heap.size + 2, 2, none⟩) (Nat.le_add_right _ _) _⟩
theorem done_any (b : Book) (t : Int) (f gone : Bool) (w : World) (h : b.At w) (hs : b.stays.length ≤ 1000) (hj : b.jobs.length ≤ 1000) :
  Calls Tryz.prog 84 #[b.val, .agg #[.int .i64 t, .bool f], .bool gone] w fun e w' => ∃ vs vj, e = .returned (.agg #[.int .i64 b.last, vs, vj]) ∧ OwnBook w' w.heap.size vs vj (doneStays t (f || gone) b.stays) (doneJobs t f (f || gone) b.jobs) ∧ Below w.heap.size w w' := by
 cases f with
 | true => exact done_t b t gone w h hs hj trivial
 | false =>
   cases gone with
   | true => exact done_g b t true w h hs hj rfl
   | false => exact done_f b t false w h hs hj rfl
end Bk
end Go.Proofs.YtopgllmjeliklaaGreatDoor
namespace Go.Proofs.YtopgllmjeliklaaGreatDoor
open Go.RowKit
namespace Rd
theorem rows_round {P : Program} {l n : Nat} {row : String} {args : Array Value} {w : World} {R : Value → World → Prop} (h : Rows P row args w R) : RowsIn (Fence.wide.inRound l) n P row args w R :=
 fun c cs _ => let ⟨v, w', r, s⟩ := h c cs; ⟨v, w', r, stepsIn_wide.2 s⟩
theorem oper_round {P : Program} {l n : Nat} {o : Oper} {a : Act} {w : World} {next : Act → World → Prop} {Q : Exit → Act → World → Prop} (hd : ∀ c, o.op ≠ .defer c) (h : o.wp P a w next Q) : o.wpIn (Fence.wide.inRound l) n P a w next Q := by
 refine ⟨fun _ _ => trivial, ?_⟩
 rw [show (Fence.wide.inRound l).round = some l from rfl, Oper.semAt_some l _ _ hd]
 unfold Oper.wp at h; generalize (execOp a.eval o).run P w = r at *
 cases r with
 | ok x w' =>
   cases x with
   | value v => exact h
   | skip => exact h
   | defer d => exact h
   | enter f args =>
     refine ⟨(fun e => by cases e), CallsIn.inRound l (callsIn_wide.2 (Calls.mono h fun e w'' hh => ?_))⟩
     cases e <;> exact hh
   | row row args => exact ⟨(fun e => by cases e), rows_round h⟩
   | round l f tmps assign body => exact h.elim
   | _ => exact h.elim
 | halt hh w' =>
   cases hh with
   | panic v => exact h
   | _ => exact h.elim
def noDefer (ops : Array Oper) : Bool := ops.all fun o => match o.op with | .defer _ => false | _ => true
theorem noDefer_at {ops : Array Oper} (h : noDefer ops = true) {i : Nat} {o : Oper} (hi : ops[i]? = some o) : ∀ c, o.op ≠ .defer c := by
 intro c e
 have hm : o ∈ ops := Array.mem_of_getElem? hi; have := Array.all_eq_true_iff_forall_mem.1 h o hm; rw [e] at this
 cases this
theorem op_round {P : Program} {l n : Nat} {ops : Array Oper} {Q : Exit → Act → World → Prop} (hd : noDefer ops = true) (hQ : ¬ LetsOut Q) {i : Nat} {K K' : Act → World → Prop} (hK : ∀ a w, K a w → K' a w) {a : Act} {w : World} (h : wpOp P ops Q i K a w) : wpOpIn (Fence.wide.inRound l) n P ops Q i K' a w := by
 unfold wpOp at h; unfold wpOpIn
 cases hi : ops[i]? with
 | none => rw [hi] at h; exact hK _ _ h
 | some o =>
   rw [hi] at h; simp only at h ⊢
   by_cases hw : Region.wanted o (yielded ops a.tmps) = true
   ·rw [if_pos hw] at h
    rw [if_pos hw]
    rcases h with h | ⟨_, h⟩
    ·exact Oper.wpIn_mono hK (oper_round (noDefer_at hd hi) h)
    ·exact absurd h hQ
   ·rw [if_neg hw] at h
    rw [if_neg hw]; exact ⟨fun _ _ => trivial, hK _ _ h⟩
theorem any_round {P : Program} {l n : Nat} {md : Region.Mode} {ops : Array Oper} {Q : Exit → Act → World → Prop} (hd : noDefer ops = true) (hQ : ¬ LetsOut Q) : ∀ (fuel : Nat) (listed : Array Bool) (a : Act) (w : World), wpAny P md ops Q fuel listed a w → wpAnyIn (Fence.wide.inRound l) n P md ops Q fuel listed a w
 | 0, _, _, _, h => h
 | fuel + 1, listed, a, w, h => ⟨h.1, fun i hi => op_round hd hQ (fun a w hh => any_round hd hQ fuel _ a w hh) (h.2 i hi)⟩
theorem region_round {P : Program} {l n id : Nat} {ops : Array Oper} {Q : Exit → Act → World → Prop} {S : World → Prop} {a : Act} {w : World} (hm : P.follows .mixedOrders = true) (hd : noDefer ops = true) (hQ : ¬ LetsOut Q)
  (h : wpAnyH P .any ops Q S ops.size (Array.replicate ops.size false) a { w with drawn := w.drawn + 1 }) : (Code.region id ops true).wpIn (Fence.wide.inRound l) n P Q a w :=
 wpIn_region_any hm (any_round hd hQ _ _ _ _ (wpAny_of_held _ _ _ _ h))
def Onward (Q : Exit → Act → World → Prop) : Exit → Act → World → Prop
 | .normal, a, w => Q .normal a w
 | _, _, _ => False
theorem onward_out (Q : Exit → Act → World → Prop) : ¬ LetsOut (Onward Q) := fun ⟨_, _, h⟩ => h
theorem region_onward {P : Program} {l n id : Nat} {ops : Array Oper} {Q : Exit → Act → World → Prop} {S : World → Prop} {a : Act} {w : World} (hm : P.follows .mixedOrders = true) (hd : noDefer ops = true)
  (h : wpAnyH P .any ops (Onward Q) S ops.size (Array.replicate ops.size false) a w.drew) : (Code.region id ops true).wpIn (Fence.wide.inRound l) n P Q a w :=
 wpIn_mono (region_round hm hd (onward_out Q) h) fun e a w hh => by cases e <;> first | exact hh | exact (hh : False).elim
theorem region_wide {P : Program} {n id : Nat} {ops : Array Oper} {Q : Exit → Act → World → Prop} {S : World → Prop} {a : Act} {w : World} (hm : P.follows .mixedOrders = true)
  (h : wpAnyH P .any ops (Onward Q) S ops.size (Array.replicate ops.size false) a w.drew) : (Code.region id ops true).wpIn Fence.wide n P Q a w :=
 wpIn_mono (wpIn_wide.2 (wp_region_held hm h)) fun e a w hh => by cases e <;> first | exact hh | exact (hh : False).elim
end Rd
end Go.Proofs.YtopgllmjeliklaaGreatDoor
