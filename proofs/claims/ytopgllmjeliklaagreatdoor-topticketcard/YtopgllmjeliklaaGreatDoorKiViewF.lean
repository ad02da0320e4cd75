/- ViewF SetAll RDone. -/
import Derived.Test.YtopgllmjeliklaaGreatDoorKiHsF
set_option maxRecDepth 100000
set_option linter.unusedSimpArgs false
set_option linter.unusedVariables false
namespace Go.Proofs.YtopgllmjeliklaaGreatDoor
open Go.Shelf Go.Lib Go.ChangeShapes Go.WideShapes Go.ChangeAt Go.RowKit
namespace Tn
open Bk Pl
def zS : Stay := ⟨0, 0, 0, 0, 0, 0, 0, 0⟩
def tickO (b : Book) (t : Int) : Option Stay := b.stays.find? (fun s => s.t == t)
def firstO (b : Book) (j0 : Job) : Option Stay → Job
 | none => j0
 | some x => if hasJob b.jobs ⟨x.t, false⟩ = true then ⟨x.t, false⟩ else j0
def firstJ (b : Book) (s : St) : Job := firstO b b.jobs[0]! (carO b s.ba)
theorem Blk.cast {w : World} {n : Nat} {a a' : Array Value} {T : TypeId} (h : Blk w n a T) (e : a = a') : Blk w n a' T := e ▸ h
theorem below_set {w0 w : World} {N vb : Nat} (h : Below N w0 w) (hv : N ≤ vb) (o : Nat) (v : Value) : Below N w0 (w.setCell ⟨vb, o, none⟩ v) := h.setCell (p := ⟨vb, o, none⟩) hv v
def StayOfJob (b : Book) (t : Int) : Stay := (tickO b t).getD zS
set_option maxHeartbeats 2000000 in
theorem vchoose_any (vb pb mb n : Nat) (s : St) (b : Book) (q1 q2 q3 : Bool) (w0 w : World) (hp : IsP w0 pb mb n s) (hk : b.At w0) (hb : Below w0.heap.size w0 w) (hv : w0.heap.size ≤ vb) (hV : Blk w vb (vArr b s pb q1 q2 q3 false 0 false zS) 135) :
  Calls Tryz.prog 78 #[.pointer (some ⟨vb, 0, none⟩)] w fun e w' => e = .returned (.tuple #[]) ∧ Below w0.heap.size w0 w' ∧
   ((b.jobs = [] ∧ Blk w' vb (vArr b s pb q1 q2 q3 false 0 false zS) 135) ∨ (b.jobs ≠ [] ∧ Blk w' vb (vArr b s pb q1 q2 q3 true (firstJ b s).t (firstJ b s).f (StayOfJob b (firstJ b s).t)) 135)) := by
 have HK : Hid (∀ wx, Below w0.heap.size w0 wx → b.At wx) := fun wx h => hk.below h
 have HSO : Hid (∀ jt jf vs wx, Below w0.heap.size w0 wx ∧ Blk wx vb (vArr b s pb q1 q2 q3 true jt jf vs) 135 → Calls Tryz.prog 114 #[.pointer (some ⟨vb, 0, none⟩), .int .i64 s.ba] wx (StayPost b s.ba wx)) := fun jt jf vs wx h => vstayOf_any vb pb mb n s b q1 q2 q3 true jt jf vs s.ba wx ⟨hp.below h.1, h.2, hk.below h.1⟩
 have hm3 : b.jc ≤ maxLen := hk.2.2.1; have hn3 : b.jobs.length ≤ b.jc := hk.2.1; have hm1 : b.sc ≤ maxLen := hk.1.2.1; have hn1 : b.stays.length ≤ b.sc := hk.1.1; unfold maxLen at hm3 hm1; have HV : Hid (w0.heap.size ≤ vb) := hv; have N0 : Hid (Below w0.heap.size w0 w ∧ Blk w vb (vArr b s pb q1 q2 q3 false 0 false zS) 135) := ⟨hb, hV⟩; generalize hPP : (fun (e : Ending) (w' : World) => e = .returned (.tuple #[]) ∧ Below w0.heap.size w0 w' ∧ ((b.jobs = [] ∧ Blk w' vb (vArr b s pb q1 q2 q3 false 0 false zS) 135) ∨ (b.jobs ≠ [] ∧ Blk w' vb (vArr b s pb q1 q2 q3 true (firstJ b s).t (firstJ b s).f (StayOfJob b (firstJ b s).t)) 135))) = PP
 have HPE : Hid (b.jobs = [] → ∀ w', Below w0.heap.size w0 w' ∧ Blk w' vb (vArr b s pb q1 q2 q3 false 0 false zS) 135 → PP (.returned (.tuple #[])) w') := fun h w' h2 => by rw [← hPP]; exact ⟨rfl, h2.1, Or.inl ⟨h, h2.2⟩⟩
 have HPG : Hid (b.jobs ≠ [] → ∀ j w', firstJ b s = j → Below w0.heap.size w0 w' ∧ Blk w' vb (vArr b s pb q1 q2 q3 true j.t j.f (StayOfJob b j.t)) 135 → PP (.returned (.tuple #[])) w') := fun h j w' hj h2 => by subst hj; rw [← hPP]; exact ⟨rfl, h2.1, Or.inr ⟨h, h2.2⟩⟩
 clear hPP hb hV hp hk; have rv := N0.out.2.cell; simp only [vArr, zS] at rv
 go_enter Tryz.func78, Tryz.ntmps78
 by_cases hj0 : b.jobs.length = 0
 ·have hjz : (b.jobs.length : Int) = 0 := by omega
  have hnil : b.jobs = [] := List.length_eq_zero_iff.1 hj0; rw [hj0] at rv; go_wp2
  (try simp only [Exit.inBlock, Exit.then])
  refine bodyPost_ret (v := .tuple #[]) (by simp [results, Tryz.results78, go_sem]; try rfl) rfl ?_; exact HPE.out hnil _ N0.out
 have hne : b.jobs ≠ [] := fun e => hj0 (by rw [e]; rfl)
 have hjz : ¬ (b.jobs.length : Int) = 0 := by omega
 have hjp : (0 : Int) < (b.jobs.length : Int) := by omega
 have hjn : 0 < b.jobs.length := by omega
 have HP := HPG.out hne; have HPG' : Hid (∀ j w', firstJ b s = j → Below w0.heap.size w0 w' ∧ Blk w' vb (vArr b s pb q1 q2 q3 true j.t j.f (StayOfJob b j.t)) 135 → PP (.returned (.tuple #[])) w') := HP
 clear HP HPG HPE hne; have KF : Hid (firstJ b s = firstO b b.jobs[0]! (carO b s.ba)) := rfl
 obtain ⟨jb, joff, hja⟩ := rows_some (HK.out _ N0.out.1).2 hjn; have hrr := (HK.out _ N0.out.1).2; rw [hja] at hrr rv; have j0 := rows_cell hrr 0 hjn 0 _ rfl; have j1 := rows_cell hrr 0 hjn 1 _ rfl; simp only [Nat.add_zero, Nat.zero_mul] at j0 j1; clear hrr; obtain ⟨jv, hjv⟩ : ∃ jv, b.jobs[0]! = jv := ⟨_, rfl⟩
 rw [hjv] at KF j0 j1; clear hjv; have fv := N0.out.2.free; obtain ⟨w1, hw1⟩ : ∃ w1, (((w.setCell ⟨vb, 15, none⟩ (.bool true)).setCell ⟨vb, 16, none⟩ (.int .i64 jv.t)).setCell ⟨vb, 17, none⟩ (.bool jv.f)) = w1 := ⟨_, rfl⟩
 have N1 : Hid (Below w0.heap.size w0 w1 ∧ Blk w1 vb (vArr b s pb q1 q2 q3 true jv.t jv.f zS) 135) := by
  show _ ∧ _
  rw [← hw1]; exact ⟨below_set (below_set (below_set N0.out.1 HV.out _ _) HV.out _ _) HV.out _ _, Blk.cast (((N0.out.2.set 15 (.bool true)).set 16 (.int .i64 jv.t)).set 17 (.bool jv.f)) (by kernel_rfl)⟩
 have HW1 : Hid ((((w.setCell ⟨vb, 15, none⟩ (.bool true)).setCell ⟨vb, 16, none⟩ (.int .i64 jv.t)).setCell ⟨vb, 17, none⟩ (.bool jv.f)) = w1) := hw1; clear hw1 N0
 go_upto_region 2 with fail
 simp only [HW1.out]; clear HW1 rv j0 j1 fv hja; have rv := N1.out.2.cell; simp only [vArr, zS] at rv; go_wp2_with fail; clear rv; refine (HSO.out _ _ _ _ N1.out).mono ?_; rintro e w2 ⟨rfl, b2⟩; have N2 : Hid (Below w0.heap.size w0 w2 ∧ Blk w2 vb (vArr b s pb q1 q2 q3 true jv.t jv.f zS) 135) := ⟨B.next N1.out.1 b2 N1.out.1.size, N1.out.2.below b2⟩; clear b2 N1 HSO; obtain ⟨o, ho⟩ : ∃ o, carO b s.ba = o := ⟨_, rfl⟩
 rw [ho] at KF ⊢; clear ho
 cases o with
 | none =>
   simp only [stayA, Option.isSome]; have HF : firstJ b s = ⟨jv.t, jv.f⟩ := KF.out
   clear KF; obtain ⟨w3, hw3⟩ : ∃ w3, w2.alloc (.cells #[.int .i64 0, .int .i64 0, .int .i64 0, .int .i64 0, .int .i64 0, .int .i64 0, .int .i64 0, .int .i64 0] 67) = w3 := ⟨_, rfl⟩
   have N3 : Hid (Below w0.heap.size w0 w3 ∧ Blk w3 vb (vArr b s pb q1 q2 q3 true jv.t jv.f zS) 135) := by
    show _ ∧ _
    rw [← hw3]; exact ⟨N2.out.1.alloc N2.out.1.size _, N2.out.2.old _⟩
   have HW3 : Hid (w2.alloc (.cells #[.int .i64 0, .int .i64 0, .int .i64 0, .int .i64 0, .int .i64 0, .int .i64 0, .int .i64 0, .int .i64 0] 67) = w3) := hw3; clear hw3 N2
   go_upto_if 36 with fail
   simp only [HW3.out]; clear HW3; have HVC : Hid (∀ p : BelowW w3, Blk p.wd vb (vArr b s pb q1 q2 q3 true jv.t jv.f zS) 135) := fun p => N3.out.2.below p.hb
   have v0 := fun p : BelowW w3 => (HVC.out p).cell 0
   have v1 := fun p : BelowW w3 => (HVC.out p).cell 1
   have v2 := fun p : BelowW w3 => (HVC.out p).cell 2
   have v16 := fun p : BelowW w3 => (HVC.out p).cell 16
   simp only [vArr] at v0 v1 v2 v16; obtain ⟨fi, hfi⟩ : ∃ fi, findI b jv.t = fi := ⟨_, rfl⟩
   have HFQ : Hid (∀ p : BelowW w3, Calls Tryz.prog 30 #[.agg #[.int .i64 b.last, .slice b.sa b.stays.length b.sc, .slice b.ja b.jobs.length b.jc], .int .i64 jv.t] p.wd fun e w' => e = .returned (.int .i64 fi) ∧ Below p.wd.heap.size p.wd w') := fun p => by
    rw [← hfi]; exact find_any b jv.t p.wd (HK.out _ (B.next N3.out.1 p.hb N3.out.1.size))
   go_upto_region 7 with fail
   refine wp_region_below (by kernel_rfl) (by kernel_rfl) ?_
   repeat (go_big_quiet_step (first | (go_at_call 30; exact Calls.wof (HFQ.out _))))
   refine wpQuiet_nil ?_; rintro wd ⟨⟨_, NQ⟩, rfl⟩; have NB : Hid (Below w0.heap.size w0 wd ∧ Blk wd vb (vArr b s pb q1 q2 q3 true jv.t jv.f zS) 135) := ⟨B.next N3.out.1 NQ N3.out.1.size, N3.out.2.below NQ⟩; clear HVC v0 v1 v2 v16 HFQ NQ N3
   rcases idx_find (fun s : Stay => s.t == jv.t) b.stays with ⟨hi, hf⟩ | ⟨k, hk, hi, hf⟩
   ·have hfl : fi < 0 := by rw [← hfi]; exact hi
    have hso : StayOfJob b jv.t = zS := by unfold StayOfJob tickO; rw [hf]; rfl
    clear hi hf hfi; go_wp2
    (try simp only [Exit.inBlock, Exit.then])
    refine bodyPost_ret (v := .tuple #[]) (by simp [results, Tryz.results78, go_sem]; try rfl) rfl ?_; exact HPG'.out ⟨jv.t, jv.f⟩ _ HF ⟨NB.out.1, by rw [hso]; exact NB.out.2⟩
   ·obtain rfl : fi = (k : Int) := by rw [← hfi]; exact hi
    have hso : StayOfJob b jv.t = b.stays[k]! := by unfold StayOfJob tickO; rw [hf]; rfl
    have hkz : (k : Int) < (b.stays.length : Int) := by omega
    clear hi hf hfi; obtain ⟨sb, soff, hsa⟩ := rows_some (HK.out _ NB.out.1).1 (by omega); have hrr := (HK.out _ NB.out.1).1; have rv := NB.out.2.cell; simp only [vArr, zS] at rv; rw [hsa] at hrr rv; have s0 := rows_cell hrr k hk 0 _ rfl; have s1 := rows_cell hrr k hk 1 _ rfl; have s2 := rows_cell hrr k hk 2 _ rfl; have s3 := rows_cell hrr k hk 3 _ rfl; have s4 := rows_cell hrr k hk 4 _ rfl; have s5 := rows_cell hrr k hk 5 _ rfl; have s6 := rows_cell hrr k hk 6 _ rfl; have s7 := rows_cell hrr k hk 7 _ rfl; simp only [Nat.add_zero] at s0; clear hrr hsa; obtain ⟨sv, hsv⟩ : ∃ sv, b.stays[k]! = sv := ⟨_, rfl⟩
    rw [hsv] at hso s0 s1 s2 s3 s4 s5 s6 s7; clear hsv; have fv := NB.out.2.free; obtain ⟨w9, hw9⟩ : ∃ w9, ((((((((wd.setCell ⟨vb, 18, none⟩ (.int .i64 sv.t)).setCell ⟨vb, 19, none⟩ (.int .i64 sv.id)).setCell ⟨vb, 20, none⟩ (.int .i64 sv.a)).setCell ⟨vb, 21, none⟩ (.int .i64 sv.b)).setCell ⟨vb, 22, none⟩ (.int .i64 sv.c)).setCell ⟨vb, 23, none⟩ (.int .i64 sv.x)).setCell ⟨vb, 24, none⟩ (.int .i64 sv.y)).setCell ⟨vb, 25, none⟩ (.int .i64 sv.z)) = w9 := ⟨_, rfl⟩
    have N9 : Hid (Below w0.heap.size w0 w9 ∧ Blk w9 vb (vArr b s pb q1 q2 q3 true jv.t jv.f sv) 135) := by
     show _ ∧ _
     rw [← hw9]; exact ⟨below_set (below_set (below_set (below_set (below_set (below_set (below_set (below_set NB.out.1 HV.out _ _) HV.out _ _) HV.out _ _) HV.out _ _) HV.out _ _) HV.out _ _) HV.out _ _) HV.out _ _, Blk.cast ((((((((NB.out.2.set 18 (.int .i64 sv.t)).set 19 (.int .i64 sv.id)).set 20 (.int .i64 sv.a)).set 21 (.int .i64 sv.b)).set 22 (.int .i64 sv.c)).set 23 (.int .i64 sv.x)).set 24 (.int .i64 sv.y)).set 25 (.int .i64 sv.z)) (by kernel_rfl)⟩
    have HW9 : Hid (((((((((wd.setCell ⟨vb, 18, none⟩ (.int .i64 sv.t)).setCell ⟨vb, 19, none⟩ (.int .i64 sv.id)).setCell ⟨vb, 20, none⟩ (.int .i64 sv.a)).setCell ⟨vb, 21, none⟩ (.int .i64 sv.b)).setCell ⟨vb, 22, none⟩ (.int .i64 sv.c)).setCell ⟨vb, 23, none⟩ (.int .i64 sv.x)).setCell ⟨vb, 24, none⟩ (.int .i64 sv.y)).setCell ⟨vb, 25, none⟩ (.int .i64 sv.z)) = w9) := hw9; clear hw9 NB; go_wp2; simp only [HW9.out]
    (try simp only [Exit.inBlock, Exit.then])
    refine bodyPost_ret (v := .tuple #[]) (by simp [results, Tryz.results78, go_sem]; try rfl) rfl ?_; exact HPG'.out ⟨jv.t, jv.f⟩ _ HF ⟨N9.out.1, by rw [hso]; exact N9.out.2⟩
 | some x =>
   simp only [stayA, Option.isSome]; obtain ⟨w3, hw3⟩ : ∃ w3, w2.alloc (.cells #[.int .i64 x.t, .int .i64 x.id, .int .i64 x.a, .int .i64 x.b, .int .i64 x.c, .int .i64 x.x, .int .i64 x.y, .int .i64 x.z] 67) = w3 := ⟨_, rfl⟩
   obtain ⟨w4, hw4⟩ : ∃ w4, w3.alloc (.cells #[.int .i64 x.t, .bool false] 88) = w4 := ⟨_, rfl⟩
   obtain ⟨sbk, hsb⟩ : ∃ sbk, w2.heap.size = sbk := ⟨_, rfl⟩
   obtain ⟨jbk, hjb⟩ : ∃ jbk, w3.heap.size = jbk := ⟨_, rfl⟩
   have N3 : Hid ((Below w0.heap.size w0 w3 ∧ Blk w3 vb (vArr b s pb q1 q2 q3 true jv.t jv.f zS) 135) ∧ Blk w3 sbk #[.int .i64 x.t, .int .i64 x.id, .int .i64 x.a, .int .i64 x.b, .int .i64 x.c, .int .i64 x.x, .int .i64 x.y, .int .i64 x.z] 67) := by
    show _ ∧ _
    rw [← hw3]; exact ⟨⟨N2.out.1.alloc N2.out.1.size _, N2.out.2.old _⟩, Blk.new1 hsb.symm _ _⟩
   have N4 : Hid ((Below w0.heap.size w0 w4 ∧ Blk w4 vb (vArr b s pb q1 q2 q3 true jv.t jv.f zS) 135) ∧ Blk w4 jbk #[.int .i64 x.t, .bool false] 88) := by
    show _ ∧ _
    rw [← hw4]; exact ⟨⟨N3.out.1.1.alloc N3.out.1.1.size _, N3.out.1.2.old _⟩, Blk.new1 hjb.symm _ _⟩
   have HW3 : Hid (w2.alloc (.cells #[.int .i64 x.t, .int .i64 x.id, .int .i64 x.a, .int .i64 x.b, .int .i64 x.c, .int .i64 x.x, .int .i64 x.y, .int .i64 x.z] 67) = w3) := hw3; have HW4 : Hid (w3.alloc (.cells #[.int .i64 x.t, .bool false] 88) = w4) := hw4; clear hw3 hw4 N2
   go_upto_region 4 with fail
   simp only [HW3.out, hsb]; clear HW3 hsb; have rs := N3.out.2.cell
   go_upto_region 5 with fail
   simp only [HW4.out, hjb]; clear HW4 hjb rs N3; obtain ⟨hj, hhj⟩ : ∃ hj, hasJob b.jobs ⟨x.t, false⟩ = hj := ⟨_, rfl⟩
   have HCQ : Hid (∀ p : BelowW w4, Calls Tryz.prog 62 #[.slice b.ja b.jobs.length b.jc, .agg #[.int .i64 x.t, .bool false]] p.wd fun e w' => e = .returned (.bool hj) ∧ Below p.wd.heap.size p.wd w') := fun p => by
    rw [← hhj]; exact hasJob_any b.ja b.jc b.jobs x.t false p.wd (HK.out _ (B.next N4.out.1.1 p.hb N4.out.1.1.size)).2
   have HVC : Hid (∀ p : BelowW w4, Blk p.wd vb (vArr b s pb q1 q2 q3 true jv.t jv.f zS) 135) := fun p => N4.out.1.2.below p.hb
   have v2 := fun p : BelowW w4 => (HVC.out p).cell 2
   simp only [vArr] at v2; have y0 := fun p : BelowW w4 => (N4.out.2.below p.hb).cell 0
   have y1 := fun p : BelowW w4 => (N4.out.2.below p.hb).cell 1
   refine wp_region_below (by kernel_rfl) (by kernel_rfl) ?_
   repeat (go_big_quiet_step (first | (go_at_call 62; exact Calls.wof (HCQ.out _))))
   refine wpQuiet_nil ?_; rintro wb ⟨⟨_, NQ⟩, rfl⟩; have N5 : Hid ((Below w0.heap.size w0 wb ∧ Blk wb vb (vArr b s pb q1 q2 q3 true jv.t jv.f zS) 135) ∧ Blk wb jbk #[.int .i64 x.t, .bool false] 88) := ⟨⟨B.next N4.out.1.1 NQ N4.out.1.1.size, N4.out.1.2.below NQ⟩, N4.out.2.below NQ⟩; clear HCQ HVC v2 y0 y1 NQ N4
   cases hj
   ·have HF : firstJ b s = ⟨jv.t, jv.f⟩ := by rw [KF.out]; simp only [firstO]; rw [hhj]; rfl
    have N6 : Hid (Below w0.heap.size w0 wb ∧ Blk wb vb (vArr b s pb q1 q2 q3 true jv.t jv.f zS) 135) := N5.out.1; clear KF hhj N5; obtain ⟨w6, hw6⟩ : ∃ w6, wb = w6 := ⟨_, rfl⟩
    subst hw6; have HVC : Hid (∀ p : BelowW wb, Blk p.wd vb (vArr b s pb q1 q2 q3 true jv.t jv.f zS) 135) := fun p => N6.out.2.below p.hb
    have v0 := fun p : BelowW wb => (HVC.out p).cell 0
    have v1 := fun p : BelowW wb => (HVC.out p).cell 1
    have v2 := fun p : BelowW wb => (HVC.out p).cell 2
    have v16 := fun p : BelowW wb => (HVC.out p).cell 16
    simp only [vArr] at v0 v1 v2 v16; obtain ⟨fi, hfi⟩ : ∃ fi, findI b jv.t = fi := ⟨_, rfl⟩
    have HFQ : Hid (∀ p : BelowW wb, Calls Tryz.prog 30 #[.agg #[.int .i64 b.last, .slice b.sa b.stays.length b.sc, .slice b.ja b.jobs.length b.jc], .int .i64 jv.t] p.wd fun e w' => e = .returned (.int .i64 fi) ∧ Below p.wd.heap.size p.wd w') := fun p => by
     rw [← hfi]; exact find_any b jv.t p.wd (HK.out _ (B.next N6.out.1 p.hb N6.out.1.size))
    go_upto_region 7 with fail
    refine wp_region_below (by kernel_rfl) (by kernel_rfl) ?_
    repeat (go_big_quiet_step (first | (go_at_call 30; exact Calls.wof (HFQ.out _))))
    refine wpQuiet_nil ?_; rintro wd ⟨⟨_, NQ⟩, rfl⟩; have NB : Hid (Below w0.heap.size w0 wd ∧ Blk wd vb (vArr b s pb q1 q2 q3 true jv.t jv.f zS) 135) := ⟨B.next N6.out.1 NQ N6.out.1.size, N6.out.2.below NQ⟩; clear HVC v0 v1 v2 v16 HFQ NQ N6
    rcases idx_find (fun s : Stay => s.t == jv.t) b.stays with ⟨hi, hf⟩ | ⟨k, hk, hi, hf⟩
    ·have hfl : fi < 0 := by rw [← hfi]; exact hi
     have hso : StayOfJob b jv.t = zS := by unfold StayOfJob tickO; rw [hf]; rfl
     clear hi hf hfi; go_wp2
     (try simp only [Exit.inBlock, Exit.then])
     refine bodyPost_ret (v := .tuple #[]) (by simp [results, Tryz.results78, go_sem]; try rfl) rfl ?_; exact HPG'.out ⟨jv.t, jv.f⟩ _ HF ⟨NB.out.1, by rw [hso]; exact NB.out.2⟩
    ·obtain rfl : fi = (k : Int) := by rw [← hfi]; exact hi
     have hso : StayOfJob b jv.t = b.stays[k]! := by unfold StayOfJob tickO; rw [hf]; rfl
     have hkz : (k : Int) < (b.stays.length : Int) := by omega
     clear hi hf hfi; obtain ⟨sb, soff, hsa⟩ := rows_some (HK.out _ NB.out.1).1 (by omega); have hrr := (HK.out _ NB.out.1).1; have rv := NB.out.2.cell; simp only [vArr, zS] at rv; rw [hsa] at hrr rv; have s0 := rows_cell hrr k hk 0 _ rfl; have s1 := rows_cell hrr k hk 1 _ rfl; have s2 := rows_cell hrr k hk 2 _ rfl; have s3 := rows_cell hrr k hk 3 _ rfl; have s4 := rows_cell hrr k hk 4 _ rfl; have s5 := rows_cell hrr k hk 5 _ rfl; have s6 := rows_cell hrr k hk 6 _ rfl; have s7 := rows_cell hrr k hk 7 _ rfl; simp only [Nat.add_zero] at s0; clear hrr hsa; obtain ⟨sv, hsv⟩ : ∃ sv, b.stays[k]! = sv := ⟨_, rfl⟩
     rw [hsv] at hso s0 s1 s2 s3 s4 s5 s6 s7; clear hsv; have fv := NB.out.2.free; obtain ⟨w9, hw9⟩ : ∃ w9, ((((((((wd.setCell ⟨vb, 18, none⟩ (.int .i64 sv.t)).setCell ⟨vb, 19, none⟩ (.int .i64 sv.id)).setCell ⟨vb, 20, none⟩ (.int .i64 sv.a)).setCell ⟨vb, 21, none⟩ (.int .i64 sv.b)).setCell ⟨vb, 22, none⟩ (.int .i64 sv.c)).setCell ⟨vb, 23, none⟩ (.int .i64 sv.x)).setCell ⟨vb, 24, none⟩ (.int .i64 sv.y)).setCell ⟨vb, 25, none⟩ (.int .i64 sv.z)) = w9 := ⟨_, rfl⟩
     have N9 : Hid (Below w0.heap.size w0 w9 ∧ Blk w9 vb (vArr b s pb q1 q2 q3 true jv.t jv.f sv) 135) := by
      show _ ∧ _
      rw [← hw9]; exact ⟨below_set (below_set (below_set (below_set (below_set (below_set (below_set (below_set NB.out.1 HV.out _ _) HV.out _ _) HV.out _ _) HV.out _ _) HV.out _ _) HV.out _ _) HV.out _ _) HV.out _ _, Blk.cast ((((((((NB.out.2.set 18 (.int .i64 sv.t)).set 19 (.int .i64 sv.id)).set 20 (.int .i64 sv.a)).set 21 (.int .i64 sv.b)).set 22 (.int .i64 sv.c)).set 23 (.int .i64 sv.x)).set 24 (.int .i64 sv.y)).set 25 (.int .i64 sv.z)) (by kernel_rfl)⟩
     have HW9 : Hid (((((((((wd.setCell ⟨vb, 18, none⟩ (.int .i64 sv.t)).setCell ⟨vb, 19, none⟩ (.int .i64 sv.id)).setCell ⟨vb, 20, none⟩ (.int .i64 sv.a)).setCell ⟨vb, 21, none⟩ (.int .i64 sv.b)).setCell ⟨vb, 22, none⟩ (.int .i64 sv.c)).setCell ⟨vb, 23, none⟩ (.int .i64 sv.x)).setCell ⟨vb, 24, none⟩ (.int .i64 sv.y)).setCell ⟨vb, 25, none⟩ (.int .i64 sv.z)) = w9) := hw9; clear hw9 NB; go_wp2; simp only [HW9.out]
     (try simp only [Exit.inBlock, Exit.then])
     refine bodyPost_ret (v := .tuple #[]) (by simp [results, Tryz.results78, go_sem]; try rfl) rfl ?_; exact HPG'.out ⟨jv.t, jv.f⟩ _ HF ⟨N9.out.1, by rw [hso]; exact N9.out.2⟩
   ·have HF : firstJ b s = ⟨x.t, false⟩ := by rw [KF.out]; simp only [firstO]; rw [hhj]; rfl
    clear KF hhj; have rv := N5.out.1.2.cell; have fv := N5.out.1.2.free; have ry := N5.out.2.cell; simp only [vArr, zS] at rv; obtain ⟨w6, hw6⟩ : ∃ w6, ((wb.setCell ⟨vb, 16, none⟩ (.int .i64 x.t)).setCell ⟨vb, 17, none⟩ (.bool false)) = w6 := ⟨_, rfl⟩
    have N6 : Hid (Below w0.heap.size w0 w6 ∧ Blk w6 vb (vArr b s pb q1 q2 q3 true x.t false zS) 135) := by
     show _ ∧ _
     rw [← hw6]; exact ⟨below_set (below_set N5.out.1.1 HV.out _ _) HV.out _ _, Blk.cast ((N5.out.1.2.set 16 (.int .i64 x.t)).set 17 (.bool false)) (by kernel_rfl)⟩
    have HW6 : Hid (((wb.setCell ⟨vb, 16, none⟩ (.int .i64 x.t)).setCell ⟨vb, 17, none⟩ (.bool false)) = w6) := hw6; clear hw6 N5
    go_upto_region 7 with fail
    simp only [HW6.out]; clear HW6 rv fv ry; have HVC : Hid (∀ p : BelowW w6, Blk p.wd vb (vArr b s pb q1 q2 q3 true x.t false zS) 135) := fun p => N6.out.2.below p.hb
    have v0 := fun p : BelowW w6 => (HVC.out p).cell 0
    have v1 := fun p : BelowW w6 => (HVC.out p).cell 1
    have v2 := fun p : BelowW w6 => (HVC.out p).cell 2
    have v16 := fun p : BelowW w6 => (HVC.out p).cell 16
    simp only [vArr] at v0 v1 v2 v16; obtain ⟨fi, hfi⟩ : ∃ fi, findI b x.t = fi := ⟨_, rfl⟩
    have HFQ : Hid (∀ p : BelowW w6, Calls Tryz.prog 30 #[.agg #[.int .i64 b.last, .slice b.sa b.stays.length b.sc, .slice b.ja b.jobs.length b.jc], .int .i64 x.t] p.wd fun e w' => e = .returned (.int .i64 fi) ∧ Below p.wd.heap.size p.wd w') := fun p => by
     rw [← hfi]; exact find_any b x.t p.wd (HK.out _ (B.next N6.out.1 p.hb N6.out.1.size))
    go_upto_region 7 with fail
    refine wp_region_below (by kernel_rfl) (by kernel_rfl) ?_
    repeat (go_big_quiet_step (first | (go_at_call 30; exact Calls.wof (HFQ.out _))))
    refine wpQuiet_nil ?_; rintro wd ⟨⟨_, NQ⟩, rfl⟩; have NB : Hid (Below w0.heap.size w0 wd ∧ Blk wd vb (vArr b s pb q1 q2 q3 true x.t false zS) 135) := ⟨B.next N6.out.1 NQ N6.out.1.size, N6.out.2.below NQ⟩; clear HVC v0 v1 v2 v16 HFQ NQ N6
    rcases idx_find (fun s : Stay => s.t == x.t) b.stays with ⟨hi, hf⟩ | ⟨k, hk, hi, hf⟩
    ·have hfl : fi < 0 := by rw [← hfi]; exact hi
     have hso : StayOfJob b x.t = zS := by unfold StayOfJob tickO; rw [hf]; rfl
     clear hi hf hfi; go_wp2
     (try simp only [Exit.inBlock, Exit.then])
     refine bodyPost_ret (v := .tuple #[]) (by simp [results, Tryz.results78, go_sem]; try rfl) rfl ?_; exact HPG'.out ⟨x.t, false⟩ _ HF ⟨NB.out.1, by rw [hso]; exact NB.out.2⟩
    ·obtain rfl : fi = (k : Int) := by rw [← hfi]; exact hi
     have hso : StayOfJob b x.t = b.stays[k]! := by unfold StayOfJob tickO; rw [hf]; rfl
     have hkz : (k : Int) < (b.stays.length : Int) := by omega
     clear hi hf hfi; obtain ⟨sb, soff, hsa⟩ := rows_some (HK.out _ NB.out.1).1 (by omega); have hrr := (HK.out _ NB.out.1).1; have rv := NB.out.2.cell; simp only [vArr, zS] at rv; rw [hsa] at hrr rv; have s0 := rows_cell hrr k hk 0 _ rfl; have s1 := rows_cell hrr k hk 1 _ rfl; have s2 := rows_cell hrr k hk 2 _ rfl; have s3 := rows_cell hrr k hk 3 _ rfl; have s4 := rows_cell hrr k hk 4 _ rfl; have s5 := rows_cell hrr k hk 5 _ rfl; have s6 := rows_cell hrr k hk 6 _ rfl; have s7 := rows_cell hrr k hk 7 _ rfl; simp only [Nat.add_zero] at s0; clear hrr hsa; obtain ⟨sv, hsv⟩ : ∃ sv, b.stays[k]! = sv := ⟨_, rfl⟩
     rw [hsv] at hso s0 s1 s2 s3 s4 s5 s6 s7; clear hsv; have fv := NB.out.2.free; obtain ⟨w9, hw9⟩ : ∃ w9, ((((((((wd.setCell ⟨vb, 18, none⟩ (.int .i64 sv.t)).setCell ⟨vb, 19, none⟩ (.int .i64 sv.id)).setCell ⟨vb, 20, none⟩ (.int .i64 sv.a)).setCell ⟨vb, 21, none⟩ (.int .i64 sv.b)).setCell ⟨vb, 22, none⟩ (.int .i64 sv.c)).setCell ⟨vb, 23, none⟩ (.int .i64 sv.x)).setCell ⟨vb, 24, none⟩ (.int .i64 sv.y)).setCell ⟨vb, 25, none⟩ (.int .i64 sv.z)) = w9 := ⟨_, rfl⟩
     have N9 : Hid (Below w0.heap.size w0 w9 ∧ Blk w9 vb (vArr b s pb q1 q2 q3 true x.t false sv) 135) := by
      show _ ∧ _
      rw [← hw9]; exact ⟨below_set (below_set (below_set (below_set (below_set (below_set (below_set (below_set NB.out.1 HV.out _ _) HV.out _ _) HV.out _ _) HV.out _ _) HV.out _ _) HV.out _ _) HV.out _ _) HV.out _ _, Blk.cast ((((((((NB.out.2.set 18 (.int .i64 sv.t)).set 19 (.int .i64 sv.id)).set 20 (.int .i64 sv.a)).set 21 (.int .i64 sv.b)).set 22 (.int .i64 sv.c)).set 23 (.int .i64 sv.x)).set 24 (.int .i64 sv.y)).set 25 (.int .i64 sv.z)) (by kernel_rfl)⟩
     have HW9 : Hid (((((((((wd.setCell ⟨vb, 18, none⟩ (.int .i64 sv.t)).setCell ⟨vb, 19, none⟩ (.int .i64 sv.id)).setCell ⟨vb, 20, none⟩ (.int .i64 sv.a)).setCell ⟨vb, 21, none⟩ (.int .i64 sv.b)).setCell ⟨vb, 22, none⟩ (.int .i64 sv.c)).setCell ⟨vb, 23, none⟩ (.int .i64 sv.x)).setCell ⟨vb, 24, none⟩ (.int .i64 sv.y)).setCell ⟨vb, 25, none⟩ (.int .i64 sv.z)) = w9) := hw9; clear hw9 NB; go_wp2; simp only [HW9.out]
     (try simp only [Exit.inBlock, Exit.then])
     refine bodyPost_ret (v := .tuple #[]) (by simp [results, Tryz.results78, go_sem]; try rfl) rfl ?_; exact HPG'.out ⟨x.t, false⟩ _ HF ⟨N9.out.1, by rw [hso]; exact N9.out.2⟩
end Tn
namespace Tn
open Bk
def arrSet (arr : Array Value) : Nat → List Value → Array Value
 | _, [] => arr
 | o, v :: vs => arrSet (arr.setIfInBounds o v) (o + 1) vs
theorem arrSet_get (vs : List Value) : ∀ (arr : Array Value) (o j : Nat), (arrSet arr o vs)[j]? = if o ≤ j ∧ j < o + vs.length ∧ j < arr.size then vs[j - o]? else arr[j]? := by
 induction vs with
 | nil => intro arr o j; show arr[j]? = _; rw [if_neg (by simp; omega)]
 | cons v vs ih =>
   intro arr o j
   show (arrSet (arr.setIfInBounds o v) (o + 1) vs)[j]? = _
   rw [ih]
   by_cases h : o + 1 ≤ j ∧ j < o + 1 + vs.length ∧ j < (arr.setIfInBounds o v).size
   ·rw [if_pos h]
    have h2 : j < arr.size := by simpa using h.2.2
    rw [if_pos ⟨by omega, by simp; omega, h2⟩, show j - o = (j - (o + 1)) + 1 from by omega]
    simp
   ·rw [if_neg h]
    by_cases e : o = j
    ·subst e
     by_cases hl : o < arr.size
     ·rw [if_pos ⟨Nat.le_refl _, by simp, hl⟩]
      simp [hl]
     ·rw [if_neg (by omega)]
      simp [hl]
    ·rw [Array.getElem?_setIfInBounds_ne e]
     by_cases h3 : o ≤ j ∧ j < o + (v :: vs).length ∧ j < arr.size
     ·refine absurd ⟨by omega, ?_, ?_⟩ h
      ·have := h3.2.1; simp at this; omega
      ·simpa using h3.2.2
     ·rw [if_neg h3]
theorem arrSet_all (arr : Array Value) (vs : List Value) (h : arr.size = vs.length) : arrSet arr 0 vs = vs.toArray := by
 apply Array.ext_getElem?
 intro j
 rw [arrSet_get]
 by_cases hj : j < vs.length
 ·rw [if_pos ⟨Nat.zero_le _, by omega, by omega⟩]
  simp
 ·rw [if_neg (by omega)]
  rw [Array.getElem?_eq_none (by omega)]
  simp; omega
theorem Blk.setCells {b : Nat} {T : TypeId} (vs : List Value) : ∀ {w : World} {arr : Array Value} (o : Nat), Blk w b arr T → Blk (w.setCells b o vs) b (arrSet arr o vs) T := by
 induction vs with
 | nil => intro w arr o h; exact h
 | cons v vs ih => intro w arr o h; exact ih (o + 1) (h.set o v)
theorem Blk.setAll {w : World} {b : Nat} {arr : Array Value} {T : TypeId} (h : Blk w b arr T) (vs : List Value) (hs : arr.size = vs.length) : Blk (w.setCells b 0 vs) b vs.toArray T := by
 have := Blk.setCells vs 0 h
 rwa [arrSet_all arr vs hs] at this
theorem below_setCells {w0 : World} {N b : Nat} (hv : N ≤ b) (vs : List Value) : ∀ {w : World} (o : Nat), Below N w0 w → Below N w0 (w.setCells b o vs) := by
 induction vs with
 | nil => intro w o h; exact h
 | cons v vs ih => intro w o h; exact ih (o + 1) (below_set h hv o v)
theorem Blk.there {w : World} {b : Nat} {arr : Array Value} {T : TypeId} (h : Blk w b arr T) : w.there b 0 arr.size := fun j hj => by
 rw [Nat.zero_add, h.cell]; exact ⟨by simp [hj], h.free j⟩
end Tn
namespace Bk
structure DWI (w wx : World) (bk : Array Value) (last : Int) (vs vj : Value) (t : Int) (f : Bool) (S : List Stay) (J : List Job) : Prop where
 below : Below w.heap.size w wx
 b0 : Blk wx w.heap.size bk 39
 b1 : Blk wx (w.heap.size + 1) #[.int .i64 t, .bool f] 88
 b2 : Blk wx (w.heap.size + 1 + 1) #[.int .i64 0, .slice none 0 0, .slice none 0 0] 39
 b3 : Blk wx (w.heap.size + 1 + 1 + 1) #[.int .i64 last, vs, vj] 39
 s : OwnAt wx (w.heap.size + 4) 67 8 Stay.enc vs S
 j : OwnAt wx (w.heap.size + 4) 88 2 Job.enc vj J
theorem OwnAt.set {α : Type} [Inhabited α] {w : World} {base : Nat} {T : TypeId} {k : Nat} {enc : α → List Value} {v : Value} {l : List α} (h : OwnAt w base T k enc v l) {b o : Nat} (u : Value) (hne : b < base) : OwnAt (w.setCell ⟨b, o, none⟩ u) base T k enc v l := by
 rcases h with h | ⟨n, cap, cur, rfl, hg, hk, r⟩
 ·exact Or.inl h
 ·exact Or.inr ⟨n, cap, cur, rfl, hg, hk.other (by omega) _ _, r⟩
end Bk
end Go.Proofs.YtopgllmjeliklaaGreatDoor
