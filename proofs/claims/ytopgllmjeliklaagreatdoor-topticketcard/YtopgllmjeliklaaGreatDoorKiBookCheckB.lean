/- BookCheckB BookPure TextP. -/
import Derived.Test.YtopgllmjeliklaaGreatDoorKiBookCheck
import Derived.Test.YtopgllmjeliklaaGreatDoorKiDone
import Derived.Lib.AtoiTie
import Derived.Lib.IndexBytes
set_option maxRecDepth 100000
set_option linter.unusedSimpArgs false
set_option linter.unusedVariables false
namespace Go.Proofs.YtopgllmjeliklaaGreatDoor
open Go.Shelf Go.Lib Go.ChangeShapes Go.WideShapes Go.ChangeAt Go.RowKit
namespace Bk
def staysF (last : Int) (n : Nat) (stays : List Stay) : Nat → Nat → Int
 | 0, _ => 0
 | m + 1, i => if stayN last n (stays.take i) stays[i]! = 0 then staysF last n stays m (i + 1) else stayN last n (stays.take i) stays[i]!
def jobBad (b : Book) (i : Nat) : Bool := decide (findI b b.jobs[i]!.t < 0) || hasJob (b.jobs.take i) b.jobs[i]!
def jobsF (b : Book) : Nat → Nat → Int
 | 0, _ => 0
 | m + 1, i => if jobBad b i = true then 3 else jobsF b m (i + 1)
def bookN (b : Book) (n : Nat) : Int :=
 if decide (0 ≤ b.last ∧ b.last ≤ 999999) = false then 1 else if 16 < b.stays.length ∨ 8 < b.jobs.length then 2 else
 if staysF b.last n b.stays b.stays.length 0 ≠ 0 then staysF b.last n b.stays b.stays.length 0 else jobsF b b.jobs.length 0
set_option maxHeartbeats 4000000 in
theorem bookCheck_any (b : Book) (n : Nat) (w : World) (h : b.At w) (n1 : 1 ≤ n) (n4 : n ≤ 4) :
  Calls Tryz.prog 32 #[b.val, .int .i64 n] w fun e w' => e = .returned (errV (bookN b n)) ∧ Below w.heap.size w w' := by
 have HCS : Hid (∀ i, i < b.stays.length → b.stays.length ≤ 16 → ∀ wx, Below w.heap.size w wx → Calls Tryz.prog 61 #[.agg #[.int .i64 b.last, .slice b.sa b.stays.length b.sc, .slice b.ja b.jobs.length b.jc], .int .i64 i, .int .i64 n] wx fun e w' => e = .returned (errV (stayN b.last n (b.stays.take i) b.stays[i]!)) ∧ Below wx.heap.size wx w') := fun i hi h16 wx hb => checkStay_any b i n wx (h.below hb) hi h16 n1 n4
 have HFI : Hid (∀ k wx, Below w.heap.size w wx → Calls Tryz.prog 30 #[.agg #[.int .i64 b.last, .slice b.sa b.stays.length b.sc, .slice b.ja b.jobs.length b.jc], .int .i64 k] wx fun e w' => e = .returned (.int .i64 (findI b k)) ∧ Below wx.heap.size wx w') := fun k wx hb => find_any b k wx (h.below hb)
 have HJR : Hid (∀ wx, Below w.heap.size w wx → RowsAt wx b.ja b.jc 2 Job.enc b.jobs) := fun wx hb => h.2.below hb
 have hm1 := h.1.2.1; have hm0 := h.1.1; have hm2 := h.2.2.1; have hm3 := h.2.1; unfold maxLen at hm1 hm2
 have KB : Hid (bookN b n = if decide (0 ≤ b.last ∧ b.last ≤ 999999) = false then 1 else if 16 < b.stays.length ∨ 8 < b.jobs.length then 2 else
  if staysF b.last n b.stays b.stays.length 0 ≠ 0 then staysF b.last n b.stays b.stays.length 0 else jobsF b b.jobs.length 0) := rfl
 obtain ⟨w0, hw0⟩ : ∃ w0, w.alloc (.cells #[.int .i64 b.last, .slice b.sa b.stays.length b.sc, .slice b.ja b.jobs.length b.jc] 39) = w0 := ⟨_, rfl⟩
 have B0 : Hid (Below w.heap.size w w0 ∧ Blk w0 w.heap.size #[.int .i64 b.last, .slice b.sa b.stays.length b.sc, .slice b.ja b.jobs.length b.jc] 39) := by
  show _ ∧ _
  rw [← hw0]; exact ⟨B.new1 _ _, Blk.new _ _ _⟩
 unfold Book.val; clear h; have r0 := B0.out.2.cell
 go_enter Tryz.func32, Tryz.ntmps32
 go_wp2_with fail; refine (bwithin_any _ _ _ _).mono ?_; rintro e W1 ⟨rfl, hw1⟩; subst hw1
 cases hla : decide (0 ≤ b.last ∧ b.last ≤ 999999)
 ·go_wp2
  go_returns; refine ⟨?_, B0.out.1⟩; rw [KB.out, if_pos hla]
  rfl
 ·have HLA : Hid (decide (0 ≤ b.last ∧ b.last ≤ 999999) = true) := hla
  clear hla
  by_cases hst : 16 < b.stays.length
  ·have hstz : (16 : Int) < (b.stays.length : Int) := by omega
   go_wp2; go_returns; refine ⟨?_, B0.out.1⟩; rw [KB.out, if_neg (by rw [HLA.out]; decide), if_pos (Or.inl hst)]
   rfl
  ·by_cases hjo : 8 < b.jobs.length
   ·have hstz : ¬ (16 : Int) < (b.stays.length : Int) := by omega
    have hjoz : (8 : Int) < (b.jobs.length : Int) := by omega
    go_wp2; go_returns; refine ⟨?_, B0.out.1⟩; rw [KB.out, if_neg (by rw [HLA.out]; decide), if_pos (Or.inr hjo)]
    rfl
   ·have hstz : ¬ (16 : Int) < (b.stays.length : Int) := by omega
    have hjoz : ¬ (8 : Int) < (b.jobs.length : Int) := by omega
    have KB2 : Hid (bookN b n = if staysF b.last n b.stays b.stays.length 0 ≠ 0 then staysF b.last n b.stays b.stays.length 0 else jobsF b b.jobs.length 0) := by
     show _ = _
     rw [KB.out, if_neg (by rw [HLA.out]; decide), if_neg (by omega)]
    clear KB; have l16 : b.stays.length ≤ 16 := by omega
    have l8 : b.jobs.length ≤ 8 := by omega
    go_wp2_with fail; clear r0 hstz hjoz hst hjo
    go_loopg [28] b.stays.length (fun g s28 wr => ∃ k : Nat, k ≤ b.stays.length ∧ b.stays.length - k ≤ g ∧ s28 = .int .i64 k ∧ Hid (staysF b.last n b.stays b.stays.length 0 = staysF b.last n b.stays (b.stays.length - k) k) ∧ Hid (Below w.heap.size w wr ∧ Blk wr w.heap.size #[.int .i64 b.last, .slice b.sa b.stays.length b.sc, .slice b.ja b.jobs.length b.jc] 39))
    case atStart => exact ⟨0, Nat.zero_le _, by omega, rfl, rfl, B0⟩
    case round =>
     obtain ⟨k, hk, hg, rfl, HF, HB⟩ := hrel; have r1 := HB.out.2.cell
     by_cases hlt : k < b.stays.length
     ·have hltz : (k : Int) < (b.stays.length : Int) := by omega
      have HS : Hid (staysF b.last n b.stays (b.stays.length - k) k = if stayN b.last n (b.stays.take k) b.stays[k]! = 0 then staysF b.last n b.stays (b.stays.length - (k + 1)) (k + 1) else stayN b.last n (b.stays.take k) b.stays[k]!) := by
       show _ = _
       rw [show b.stays.length - k = (b.stays.length - (k + 1)) + 1 from by omega]
       rfl
      go_wp2_with fail; refine (HCS.out k hlt l16 _ HB.out.1).mono ?_; rintro e W2 ⟨rfl, b2⟩; have HB2 : Hid (Below w.heap.size w W2 ∧ Blk W2 w.heap.size #[.int .i64 b.last, .slice b.sa b.stays.length b.sc, .slice b.ja b.jobs.length b.jc] 39) := ⟨B.next HB.out.1 b2 HB.out.1.size, HB.out.2.below b2⟩; clear b2 r1
      by_cases hz : stayN b.last n (b.stays.take k) b.stays[k]! = 0
      ·have HZ : Hid (stayN b.last n (b.stays.take k) b.stays[k]! = 0) := hz
       rw [hz, errV0]; clear hz; go_wp2
       go_roundg (b.stays.length - (k + 1))
       case measure => omega
       case rel => exact ⟨k + 1, by omega, by omega, by go_num, (by show staysF b.last n b.stays b.stays.length 0 = _; rw [HF.out, HS.out, if_pos HZ.out]), HB2⟩
      ·have HZ : Hid (¬ stayN b.last n (b.stays.take k) b.stays[k]! = 0) := hz
       rw [errV_ne hz]; clear hz
       have HV : Hid (errV (bookN b n) = .iface 103 (.int .i64 (stayN b.last n (b.stays.take k) b.stays[k]!))) := by
        show _ = _
        rw [KB2.out, HF.out, HS.out, if_neg HZ.out, if_pos HZ.out, errV_ne HZ.out]
       generalize stayN b.last n (b.stays.take k) b.stays[k]! = q at *; go_wp2; go_returns; refine ⟨?_, HB2.out.1⟩; rw [HV.out]
       rfl
     ·have hltz : ¬ (k : Int) < (b.stays.length : Int) := by omega
      have KJ : Hid (bookN b n = jobsF b b.jobs.length 0) := by
       show _ = _
       rw [KB2.out, HF.out, show b.stays.length - k = 0 from by omega]
       rfl
      go_wp2_with fail; clear r1 HF HCS KB2
      go_loopg [42] b.jobs.length (fun g s42 wr => ∃ k : Nat, k ≤ b.jobs.length ∧ b.jobs.length - k ≤ g ∧ s42 = .int .i64 k ∧ Hid (jobsF b b.jobs.length 0 = jobsF b (b.jobs.length - k) k) ∧ Hid (Below w.heap.size w wr ∧ Blk wr w.heap.size #[.int .i64 b.last, .slice b.sa b.stays.length b.sc, .slice b.ja b.jobs.length b.jc] 39))
      case atStart => exact ⟨0, Nat.zero_le _, by omega, rfl, rfl, HB⟩
      case round =>
       clear HB hltz hlt hk hg; obtain ⟨k, hk, hg, rfl, HF2, HB⟩ := hrel
       by_cases hlt : k < b.jobs.length
       ·have hltz : (k : Int) < (b.jobs.length : Int) := by omega
        have hkc : (k : Int) ≤ (b.jc : Int) := by omega
        have HS : Hid (jobsF b (b.jobs.length - k) k = if jobBad b k = true then 3 else jobsF b (b.jobs.length - (k + 1)) (k + 1)) := by
         show _ = _
         rw [show b.jobs.length - k = (b.jobs.length - (k + 1)) + 1 from by omega]
         rfl
        obtain ⟨_, _, hc⟩ := HJR.out wr HB.out.1; obtain ⟨jb, joff, hja, hjb, hcell⟩ := hc (by omega); have c0 := hcell k hlt 0 _ rfl; have c1 := hcell k hlt 1 _ rfl; simp only [Nat.add_zero] at c0; have KJB : Hid (jobBad b k = (decide (findI b b.jobs[k]!.t < 0) || hasJob (b.jobs.take k) b.jobs[k]!)) := rfl
        have HJX : Hid (∀ wx, Below w.heap.size w wx → RowsAt wx (some ⟨jb, joff, none⟩) b.jc 2 Job.enc (b.jobs.take k)) := fun wx hb => by
         have := (HJR.out wx hb).take k (by omega); rw [hja] at this; exact this
        have HFX : Hid (∀ k wx, Below w.heap.size w wx → Calls Tryz.prog 30 #[.agg #[.int .i64 b.last, .slice b.sa b.stays.length b.sc, .slice (some ⟨jb, joff, none⟩) b.jobs.length b.jc], .int .i64 k] wx fun e w' => e = .returned (.int .i64 (findI b k)) ∧ Below wx.heap.size wx w') := fun k wx hb => by
         have := HFI.out k wx hb; rw [hja] at this; exact this
        have HB' : Hid (Below w.heap.size w wr ∧ Blk wr w.heap.size #[.int .i64 b.last, .slice b.sa b.stays.length b.sc, .slice (some ⟨jb, joff, none⟩) b.jobs.length b.jc] 39) := by
         have := HB.out; rw [hja] at this; exact this
        have HJA : Hid (b.ja = some ⟨jb, joff, none⟩) := hja; rw [hja]; clear hc hcell hja; generalize b.jobs[k]! = j at *; obtain ⟨t, f⟩ := j; simp only at c0 c1 KJB; obtain ⟨wa, hwa⟩ : ∃ wa, wr.alloc (.cells #[.int .i64 t, .bool f] 88) = wa := ⟨_, rfl⟩
        have HA : Hid (Below w.heap.size w wa ∧ Blk wa w.heap.size #[.int .i64 b.last, .slice b.sa b.stays.length b.sc, .slice (some ⟨jb, joff, none⟩) b.jobs.length b.jc] 39 ∧ Blk wa wr.heap.size #[.int .i64 t, .bool f] 88) := by
         show _ ∧ _ ∧ _
         rw [← hwa]; exact ⟨B.next HB'.out.1 (B.new1 _ _) HB'.out.1.size, HB'.out.2.old _, Blk.new _ _ _⟩
        have f0 := fun p : BelowW wa => (HA.out.2.1.below p.hb).cell 0
        have f1 := fun p : BelowW wa => (HA.out.2.1.below p.hb).cell 1
        have f2 := fun p : BelowW wa => (HA.out.2.1.below p.hb).cell 2
        have f3 := fun p : BelowW wa => (HA.out.2.2.below p.hb).cell 0
        have f4 := fun p : BelowW wa => (HA.out.2.2.below p.hb).cell 1
        have HCJ : Hid (∀ p : BelowW wa, Calls Tryz.prog 62 #[.slice (some ⟨jb, joff, none⟩) k b.jc, .agg #[.int .i64 t, .bool f]] p.wd fun e w' => e = .returned (.bool (hasJob (b.jobs.take k) ⟨t, f⟩)) ∧ Below p.wd.heap.size p.wd w') := fun p => by
         have := hasJob_any (some ⟨jb, joff, none⟩) b.jc (b.jobs.take k) t f p.wd (HJX.out p.wd (B.next HA.out.1 p.hb HA.out.1.size)); rw [List.length_take, Nat.min_eq_left (by omega)] at this; exact this
        have HFJ : Hid (∀ p : BelowW wa, Calls Tryz.prog 30 #[.agg #[.int .i64 b.last, .slice b.sa b.stays.length b.sc, .slice (some ⟨jb, joff, none⟩) b.jobs.length b.jc], .int .i64 t] p.wd fun e w' => e = .returned (.int .i64 (findI b t)) ∧ Below p.wd.heap.size p.wd w') := fun p => HFX.out t p.wd (B.next HA.out.1 p.hb HA.out.1.size)
        generalize findI b t = qf at *; generalize hasJob (b.jobs.take k) ⟨t, f⟩ = qh at *; clear HFX HJX
        by_cases hq : qf < 0
        ·have HJB : Hid (jobBad b k = true) := by show _ = _; rw [KJB.out]; simp [hq]
         go_wp2_with fail; refine wp_region_below (by kernel_rfl) (by kernel_rfl) ?_
         repeat (quiet_step (first | (go_at_call 30; exact Calls.wof (HFJ.out _)) | (go_at_call 62; exact Calls.wof (HCJ.out _))))
         refine wpQuiet_nil ?_; rintro wq ⟨⟨_, NQ⟩, rfl⟩; have HQ : Hid (Below w.heap.size w wq) := B.next HA.out.1 NQ HA.out.1.size; clear f0 f1 f2 f3 f4; go_wp2; go_returns; refine ⟨?_, HQ.out⟩; rw [KJ.out, HF2.out, HS.out, if_pos HJB.out]
         rfl
        ·cases qh
         ·have HJB : Hid (jobBad b k = false) := by show _ = _; rw [KJB.out]; simp [hq]
          go_wp2_with fail; refine wp_region_below (by kernel_rfl) (by kernel_rfl) ?_
          repeat (quiet_step (first | (go_at_call 30; exact Calls.wof (HFJ.out _)) | (go_at_call 62; exact Calls.wof (HCJ.out _))))
          refine wpQuiet_nil ?_; rintro wq ⟨⟨_, NQ⟩, rfl⟩
          have HQ : Hid (Below w.heap.size w wq ∧ Blk wq w.heap.size #[.int .i64 b.last, .slice b.sa b.stays.length b.sc, .slice b.ja b.jobs.length b.jc] 39) := by
           have := HA.out.2.1.below NQ; rw [← HJA.out] at this; exact ⟨B.next HA.out.1 NQ HA.out.1.size, this⟩
          clear f0 f1 f2 f3 f4; rw [← HJA.out]; go_wp2
          go_roundg (b.jobs.length - (k + 1))
          case measure => omega
          case rel => exact ⟨k + 1, by omega, by omega, by go_num, (by show jobsF b b.jobs.length 0 = _; rw [HF2.out, HS.out, if_neg (by rw [HJB.out]; decide)]), HQ⟩
         ·have HJB : Hid (jobBad b k = true) := by show _ = _; rw [KJB.out]; simp
          go_wp2_with fail; refine wp_region_below (by kernel_rfl) (by kernel_rfl) ?_
          repeat (quiet_step (first | (go_at_call 30; exact Calls.wof (HFJ.out _)) | (go_at_call 62; exact Calls.wof (HCJ.out _))))
          refine wpQuiet_nil ?_; rintro wq ⟨⟨_, NQ⟩, rfl⟩; have HQ : Hid (Below w.heap.size w wq) := B.next HA.out.1 NQ HA.out.1.size; clear f0 f1 f2 f3 f4; go_wp2; go_returns; refine ⟨?_, HQ.out⟩; rw [KJ.out, HF2.out, HS.out, if_pos HJB.out]
          rfl
       ·have hltz : ¬ (k : Int) < (b.jobs.length : Int) := by omega
        go_wp2; go_returns; refine ⟨?_, HB.out.1⟩; rw [KJ.out, HF2.out, show b.jobs.length - k = 0 from by omega]
        rfl
end Bk
namespace Bk
def okS (last : Int) (n : Nat) (s : Stay) : Prop := carN s.id s.a s.b s.c = 0 ∧ placeB s.x s.y s.z n = true ∧ decide (1 ≤ s.t ∧ s.t ≤ last) = true ∧ hasPlace (placesTo n (2 * n)) (s.x, s.y, s.z) = true
structure StaysOK (last : Int) (n : Nat) (l : List Stay) : Prop where
 each : ∀ s ∈ l, okS last n s
 pair : l.Pairwise (fun a s => a.t < s.t ∧ clash s a = false)
structure JobsOK (stays : List Stay) (jobs : List Job) : Prop where
 each : ∀ x ∈ jobs, ∃ s ∈ stays, s.t = x.t
 pair : jobs.Pairwise (fun a x => a ≠ x)
theorem stayN_zero {last : Int} {n : Nat} {ahead : List Stay} {s : Stay} : stayN last n ahead s = 0 ↔ okS last n s ∧ ¬ (0 < ahead.length ∧ s.t ≤ (ahead.getD (ahead.length - 1) default).t) ∧ ahead.any (clash s) = false := by
 unfold stayN okS
 by_cases h1 : carN s.id s.a s.b s.c = 0
 ·rw [if_neg (by simp [h1])]
  cases h2 : placeB s.x s.y s.z n
  ·simp [h1]
  ·rw [if_neg (by decide)]
   cases h3 : decide (1 ≤ s.t ∧ s.t ≤ last)
   ·simp [h1]
   ·rw [if_neg (by decide)]
    cases h4 : hasPlace (placesTo n (2 * n)) (s.x, s.y, s.z)
    ·simp [h1]
    ·rw [if_neg (by decide)]
     by_cases h5 : 0 < ahead.length ∧ s.t ≤ (ahead.getD (ahead.length - 1) default).t
     ·rw [if_pos h5]
      exact ⟨fun h => absurd h (by decide), fun h => absurd h5 h.2.1⟩
     ·rw [if_neg h5]
      cases h6 : ahead.any (clash s)
      ·exact ⟨fun _ => ⟨⟨h1, rfl, rfl, rfl⟩, h5, rfl⟩, fun _ => rfl⟩
      ·exact ⟨fun h => absurd h (by decide), fun h => absurd h.2.2 (by decide)⟩
 ·rw [if_pos h1]
  simp [h1]
theorem staysF_zero (last : Int) (n : Nat) (l : List Stay) : ∀ m i, staysF last n l m i = 0 ↔ ∀ j, i ≤ j → j < i + m → stayN last n (l.take j) l[j]! = 0
 | 0, i => ⟨fun _ j h1 h2 => by omega, fun _ => rfl⟩
 | m + 1, i => by
   unfold staysF
   by_cases h : stayN last n (l.take i) l[i]! = 0
   ·rw [if_pos h, staysF_zero last n l m (i + 1)]
    refine ⟨fun hh j h1 h2 => ?_, fun hh j h1 h2 => hh j (by omega) (by omega)⟩
    by_cases e : j = i
    ·subst e; exact h
    ·exact hh j (by omega) (by omega)
   ·rw [if_neg h]
    exact ⟨fun e => absurd e h, fun hh => hh i (Nat.le_refl _) (by omega)⟩
theorem staysOK_iff (last : Int) (n : Nat) (l : List Stay) : staysF last n l l.length 0 = 0 ↔ StaysOK last n l := by
 rw [staysF_zero]
 constructor
 ·intro h
  have h' : ∀ j (hj : j < l.length), okS last n l[j] ∧ ¬ (0 < (l.take j).length ∧ l[j].t ≤ ((l.take j).getD ((l.take j).length - 1) default).t) ∧ (l.take j).any (clash l[j]) = false := fun j hj => by
   have := stayN_zero.1 (h j (Nat.zero_le _) (by omega))
   rwa [getElem!_pos l j hj] at this
  refine ⟨fun s hs => ?_, ?_⟩
  ·obtain ⟨j, hj, rfl⟩ := List.getElem_of_mem hs
   exact (h' j hj).1
  ·have hinc : ∀ j (hj : j < l.length) i (hi : i < j), (l[i]'(by omega)).t < l[j].t := by
    intro j
    induction j with
    | zero => intro _ i hi; omega
    | succ j ih =>
      intro hj i hi
      have h2 := (h' (j + 1) hj).2.1; have hlen : (l.take (j + 1)).length = j + 1 := by simp; omega
      rw [hlen] at h2; have hg : (l.take (j + 1)).getD (j + 1 - 1) default = l[j] := by simp [List.getD, List.getElem?_take, show j < j + 1 from by omega, show j < l.length from by omega]
      rw [hg] at h2
      have h3 : (l[j]'(by omega)).t < l[j + 1].t := by
       rcases Int.lt_or_le (l[j]'(by omega)).t l[j + 1].t with h | h
       ·exact h
       ·exact absurd ⟨by omega, h⟩ h2
      by_cases e : i = j
      ·subst e; exact h3
      ·have := ih (by omega) i (by omega); omega
   rw [List.pairwise_iff_getElem]
   intro i j hi hj hij
   refine ⟨hinc j hj i hij, ?_⟩; have h3 := (h' j hj).2.2; rw [List.any_eq_false] at h3
   have hm : l[i] ∈ l.take j := by
    rw [List.mem_take_iff_getElem]; exact ⟨i, by omega, rfl⟩
   cases hc : clash l[j] l[i] with
   | false => rfl
   | true => exact absurd hc (by simpa using h3 _ hm)
 ·intro h j _ hj
  have hj : j < l.length := by omega
  rw [getElem!_pos l j hj, stayN_zero]; have hp := List.pairwise_iff_getElem.1 h.pair; refine ⟨h.each _ (List.getElem_mem hj), ?_, ?_⟩
  ·rintro ⟨h0, hle⟩
   have hlen : (l.take j).length = j := by simp; omega
   rw [hlen] at h0 hle; have hg : (l.take j).getD (j - 1) default = l[j - 1] := by simp [List.getD, List.getElem?_take, show j - 1 < j from by omega, show j - 1 < l.length from by omega]
   rw [hg] at hle; have := (hp (j - 1) j (by omega) hj (by omega)).1
   omega
  ·rw [List.any_eq_false]
   intro a ha
   rw [List.mem_take_iff_getElem] at ha; obtain ⟨i, hi, rfl⟩ := ha; rw [(hp i j (by omega) hj (by omega)).2]
   decide
theorem jobsF_zero (b : Book) : ∀ m i, jobsF b m i = 0 ↔ ∀ j, i ≤ j → j < i + m → jobBad b j = false
 | 0, i => ⟨fun _ j h1 h2 => by omega, fun _ => rfl⟩
 | m + 1, i => by
   unfold jobsF
   cases h : jobBad b i with
   | true =>
     rw [if_pos rfl]; exact ⟨fun e => absurd e (by decide), fun hh => by rw [hh i (Nat.le_refl _) (by omega)] at h; cases h⟩
   | false =>
     rw [if_neg (by decide), jobsF_zero b m (i + 1)]; refine ⟨fun hh j h1 h2 => ?_, fun hh j h1 h2 => hh j (by omega) (by omega)⟩
     by_cases e : j = i
     ·subst e; exact h
     ·exact hh j (by omega) (by omega)
theorem findI_nonneg (b : Book) (k : Int) : 0 ≤ findI b k ↔ ∃ s ∈ b.stays, s.t = k := by
 have := stayIdx_nonneg (fun s => s.t == k) b.stays
 unfold findI
 constructor
 ·intro h
  rw [decide_eq_true h] at this; obtain ⟨s, hs, e⟩ := List.any_eq_true.1 this.symm; exact ⟨s, hs, by simpa using e⟩
 ·rintro ⟨s, hs, e⟩
  have h2 : b.stays.any (fun s => s.t == k) = true := List.any_eq_true.2 ⟨s, hs, by simpa using e⟩
  rw [h2] at this; exact of_decide_eq_true this
theorem hasJob_iff (l : List Job) (x : Job) : hasJob l x = true ↔ x ∈ l := by
 unfold hasJob; rw [List.any_eq_true]
 constructor
 ·rintro ⟨y, hy, h⟩
  simp at h
  obtain ⟨t, f⟩ := x; obtain ⟨t', f'⟩ := y
  simp at h
  obtain ⟨rfl, rfl⟩ := h; exact hy
 ·intro h
  exact ⟨x, h, by simp⟩
theorem jobsOK_iff (b : Book) : jobsF b b.jobs.length 0 = 0 ↔ JobsOK b.stays b.jobs := by
 rw [jobsF_zero]
 constructor
 ·intro h
  have h' : ∀ j (hj : j < b.jobs.length), (∃ s ∈ b.stays, s.t = b.jobs[j].t) ∧ b.jobs[j] ∉ b.jobs.take j := fun j hj => by
   have := h j (Nat.zero_le _) (by omega); unfold jobBad at this; rw [getElem!_pos b.jobs j hj, Bool.or_eq_false_iff] at this; refine ⟨(findI_nonneg b _).1 (by have := of_decide_eq_false this.1; omega), fun hm => ?_⟩
   rw [(hasJob_iff _ _).2 hm] at this; exact absurd this.2 (by decide)
  refine ⟨fun x hx => ?_, ?_⟩
  ·obtain ⟨j, hj, rfl⟩ := List.getElem_of_mem hx
   exact (h' j hj).1
  ·rw [List.pairwise_iff_getElem]
   intro i j hi hj hij e
   refine (h' j hj).2 ?_; rw [← e, List.mem_take_iff_getElem]; exact ⟨i, by omega, rfl⟩
 ·intro h j _ hj
  have hj : j < b.jobs.length := by omega
  unfold jobBad; rw [getElem!_pos b.jobs j hj, Bool.or_eq_false_iff]; refine ⟨decide_eq_false (by have := (findI_nonneg b b.jobs[j].t).2 (h.each _ (List.getElem_mem hj)); omega), ?_⟩
  cases hc : hasJob (b.jobs.take j) b.jobs[j] with
  | false => rfl
  | true =>
    have hm := (hasJob_iff _ _).1 hc; rw [List.mem_take_iff_getElem] at hm; obtain ⟨i, hi, e⟩ := hm; exact absurd e (List.pairwise_iff_getElem.1 h.pair i j (by omega) hj (by omega))
structure BookOK (last : Int) (n : Nat) (stays : List Stay) (jobs : List Job) : Prop where
 lim : 0 ≤ last ∧ last ≤ 999999
 fewS : stays.length ≤ 16
 fewJ : jobs.length ≤ 8
 s : StaysOK last n stays
 j : JobsOK stays jobs
theorem bookN_zero (b : Book) (n : Nat) : bookN b n = 0 ↔ BookOK b.last n b.stays b.jobs := by
 unfold bookN
 by_cases h1 : 0 ≤ b.last ∧ b.last ≤ 999999
 ·rw [if_neg (by simp [h1])]
  by_cases h2 : 16 < b.stays.length ∨ 8 < b.jobs.length
  ·rw [if_pos h2]
   exact ⟨fun h => absurd h (by decide), fun h => by have := h.fewS; have := h.fewJ; omega⟩
  ·rw [if_neg h2]
   by_cases h3 : staysF b.last n b.stays b.stays.length 0 = 0
   ·rw [if_neg (by simp [h3]), jobsOK_iff]
    exact ⟨fun h => ⟨h1, by omega, by omega, (staysOK_iff _ _ _).1 h3, h⟩, fun h => h.j⟩
   ·rw [if_pos h3]
    exact ⟨fun h => absurd h h3, fun h => absurd ((staysOK_iff _ _ _).2 h.s) h3⟩
 ·rw [if_pos (by simpa using h1)]
  exact ⟨fun h => absurd h (by decide), fun h => absurd h.lim h1⟩
def keepS (t : Int) (en : Bool) (s : Stay) : Bool := !(en && s.t == t)
theorem doneStays_eq (t : Int) (en : Bool) (l : List Stay) : doneStays t en l = l.filter (keepS t en) := by
 unfold doneStays keepS
 cases en
 ·simp only [Bool.false_and, Bool.not_false, Bool.false_eq_true, if_false]
  exact (List.filter_eq_self.2 (fun _ _ => rfl)).symm
 ·simp
theorem BookOK.done {last : Int} {n : Nat} {stays : List Stay} {jobs : List Job} (h : BookOK last n stays jobs) (t : Int) (f en : Bool) (hf : f = true → en = true) : BookOK last n (doneStays t en stays) (doneJobs t f en jobs) := by
 rw [doneStays_eq]; refine ⟨h.lim, Nat.le_trans (List.length_filter_le _ _) h.fewS, Nat.le_trans (List.length_filter_le _ _) h.fewJ, ⟨fun s hs => h.s.each s (List.mem_filter.1 hs).1, h.s.pair.filter _⟩, ⟨fun x hx => ?_, h.j.pair.filter _⟩⟩
 have hm := List.mem_filter.1 hx; obtain ⟨s, hs, e⟩ := h.j.each x hm.1; refine ⟨s, List.mem_filter.2 ⟨hs, ?_⟩, e⟩; unfold keepS
 cases en with
 | false => rfl
 | true =>
   have h2 := hm.2
   simp [goesJ] at h2
   simp [e, h2.2]
def posOf {α : Type} (k : α → Bool) (l : List α) (i : Nat) : Nat := ((l.take i).filter k).length
theorem findI_at (b : Book) (i : Nat) (hi : i < b.stays.length) (hp : b.stays.Pairwise (fun a s => a.t < s.t ∧ clash s a = false)) : findI b b.stays[i].t = i := by
 have := idxByFrom_spec (fun (_ y : Stay) => y.t == b.stays[i].t) default b.stays 0
 unfold findI stayIdx Lib.idxBy
 rcases this with ⟨_, h⟩ | ⟨k, hk, e, h1, _⟩
 ·have := h i hi
  rw [getElem!_pos b.stays i hi] at this
  simp at this
 ·rw [e]
  rw [getElem!_pos b.stays k hk] at h1
  have hk2 : k = i := by
   have hp' := List.pairwise_iff_getElem.1 hp; have h1' : b.stays[k].t = b.stays[i].t := by simpa using h1
   rcases Nat.lt_trichotomy k i with h | h | h
   ·have := (hp' k i hk hi h).1; omega
   ·exact h
   ·have := (hp' i k hi hk h).1; omega
  subst hk2
  simp
end Bk
end Go.Proofs.YtopgllmjeliklaaGreatDoor
namespace Go.Proofs.YtopgllmjeliklaaGreatDoor
open Go.Shelf Go.ChangeShapes Go.WideShapes Go.ChangeAt Go.RowKit
namespace Tx
open Bk
theorem decFrom_snoc : ∀ (l : List UInt8) (acc : Nat) (b : UInt8), Lib.decFrom acc (l ++ [b]) = (Lib.decFrom acc l).bind fun n => (Lib.digitVal b).map fun d => n * 10 + d
 | [], acc, b => by
   simp only [List.nil_append, Lib.decFrom, Option.bind_some]
   cases Lib.digitVal b <;> rfl
 | a :: t, acc, b => by
   simp only [List.cons_append, Lib.decFrom]
   cases Lib.digitVal a with
   | none => rfl
   | some d => exact decFrom_snoc t _ b
theorem digit_ofNat {d : Nat} (h : d < 10) : (UInt8.ofNat (48 + d)).toNat = 48 + d := by
 simp only [UInt8.toNat_ofNat']
 omega
theorem digitVal_ofNat {d : Nat} (h : d < 10) : Lib.digitVal (UInt8.ofNat (48 + d)) = some d := by
 unfold Lib.digitVal; rw [digit_ofNat h, if_pos (by omega)]
 congr 1
 omega
theorem decFrom_digits (u : Nat) : Lib.decFrom 0 (Lib.decDigits u) = some u := by
 induction u using Nat.strongRecOn with
 | _ u ih =>
   by_cases h : u < 10
   ·rw [Lib.decDigits_one h]
    unfold Lib.decFrom; rw [digitVal_ofNat h]; simp only [Nat.zero_mul, Nat.zero_add]
    rfl
   ·rw [Lib.decDigits, dif_neg h, decFrom_snoc, ih (u / 10) (by omega), digitVal_ofNat (by omega)]
    simp only [Option.bind_some, Option.map_some, Option.some.injEq]
    omega
theorem digits_mem (u : Nat) : ∀ b ∈ Lib.decDigits u, 48 ≤ b.toNat ∧ b.toNat ≤ 57 := by
 induction u using Nat.strongRecOn with
 | _ u ih =>
   intro b hb
   by_cases h : u < 10
   ·rw [Lib.decDigits_one h] at hb
    simp only [List.mem_singleton] at hb; subst hb; rw [digit_ofNat h]
    omega
   ·rw [Lib.decDigits, dif_neg h] at hb
    rcases List.mem_append.1 hb with hb | hb
    ·exact ih (u / 10) (by omega) b hb
    ·simp only [List.mem_singleton] at hb
     subst hb; rw [digit_ofNat (by omega)]
     omega
theorem digits_len : ∀ (k u : Nat), u < 10 ^ (k + 1) → (Lib.decDigits u).length ≤ k + 1
 | 0, u, h => by rw [Lib.decDigits_one (by simpa using h)]; simp
 | k + 1, u, h => by
   by_cases h1 : u < 10
   ·rw [Lib.decDigits_one h1]; simp
   ·rw [Lib.decDigits, dif_neg h1, List.length_append, List.length_singleton]
    have := digits_len k (u / 10) (by rw [Nat.pow_succ] at h; omega)
    omega
theorem digits_ne (u : Nat) : Lib.decDigits u ≠ [] := by
 intro e
 have := decFrom_digits u; have hl : (Lib.decDigits u).length = 0 := by rw [e]; rfl
 rw [Lib.decDigits_length] at hl; have := Lib.nDigits_pos u
 omega
theorem atoi_digits (u : Nat) (h : u ≤ 999999) : Lib.atoiAll (Lib.decDigits u) = .ok (u : Int) := by
 have hl := digits_len 5 u (by omega); rw [Lib.atoiAll_short _ (by omega)]; have hm := digits_mem u; have hd := decFrom_digits u; have hn := digits_ne u; generalize Lib.decDigits u = l at *
 cases l with
 | nil => exact absurd rfl hn
 | cons b r =>
   have hb := hm b (by simp)
   have e1 : (b == 45) = false := by
    cases hc : b == 45 with
    | false => rfl
    | true => rw [beq_iff_eq] at hc; subst hc; exact absurd hb.1 (by decide)
   have e2 : (b == 43) = false := by
    cases hc : b == 43 with
    | false => rfl
    | true => rw [beq_iff_eq] at hc; subst hc; exact absurd hb.1 (by decide)
   have e3 : Lib.decNat (b :: r) = some u := by
    unfold Lib.decNat
    rw [if_neg (by simp)]; exact hd
   unfold Lib.atoi; simp only [e1, e2, e3]
   rfl
theorem itoa_pos {n : Int} (h0 : 0 ≤ n) : Lib.itoa n = Lib.decDigits n.toNat := by
 unfold Lib.itoa; rw [if_neg (by omega)]
theorem atoi_itoa {n : Int} (h0 : 0 ≤ n) (h1 : n ≤ 999999) : Lib.atoiAll (Lib.itoa n) = .ok n := by
 rw [itoa_pos h0, atoi_digits _ (by omega)]
 congr 1
 omega
theorem itoa_mem {n : Int} (h0 : 0 ≤ n) : ∀ b ∈ Lib.itoa n, 48 ≤ b.toNat ∧ b.toNat ≤ 57 := by
 rw [itoa_pos h0]; exact digits_mem _
theorem no32 {n : Int} (h0 : 0 ≤ n) : (32 : UInt8) ∉ Lib.itoa n := fun h => absurd (itoa_mem h0 32 h).1 (by decide)
theorem itoa_len (k : Nat) {n : Int} (h0 : 0 ≤ n) (h1 : n < ((10 ^ (k + 1) : Nat) : Int)) : (Lib.itoa n).length ≤ k + 1 := by
 rw [itoa_pos h0]; exact digits_len k _ (by omega)
theorem index_absent : ∀ l : List UInt8, (32 : UInt8) ∉ l → Lib.index l [32] = -1
 | [], _ => rfl
 | b :: l, h => by
   have hb : ([32] : List UInt8).isPrefixOf (b :: l) = false := by
    simp only [List.isPrefixOf, Bool.and_true]; exact beq_eq_false_iff_ne.2 fun e => h (by rw [e]; simp)
   have ih := index_absent l (fun hm => h (by simp [hm]))
   unfold Lib.index; rw [if_neg (by rw [hb]; decide), ih]
   rfl
theorem index_at : ∀ (w r : List UInt8), (32 : UInt8) ∉ w → Lib.index (w ++ 32 :: r) [32] = w.length
 | [], r, _ => by
   rw [List.nil_append]; unfold Lib.index; rw [if_pos (by simp [List.isPrefixOf])]
   rfl
 | b :: w, r, h => by
   have hb : ([32] : List UInt8).isPrefixOf (b :: (w ++ 32 :: r)) = false := by
    simp only [List.isPrefixOf, Bool.and_true]; exact beq_eq_false_iff_ne.2 fun e => h (by rw [e]; simp)
   have ih := index_at w r (fun hm => h (by simp [hm]))
   rw [List.cons_append]; unfold Lib.index; rw [if_neg (by rw [hb]; decide), ih, if_neg (by simp only [beq_iff_eq]; omega)]
   simp
theorem join_two (w v : List UInt8) (r : List (List UInt8)) : Lib.join (w :: v :: r) [32] = w ++ 32 :: Lib.join (v :: r) [32] := by
 rw [Lib.join_cons, Lib.join_cons]
 simp [Lib.joinTail]
theorem splitK_join : ∀ (ws : List (List UInt8)) (k : Nat), ws ≠ [] → ws.length ≤ k + 1 → (∀ w ∈ ws, (32 : UInt8) ∉ w) → Lib.splitK [32] 0 k (Lib.join ws [32]) = ws
 | [], _, h, _, _ => absurd rfl h
 | [w], k, _, _, h => by
   rw [Lib.join_one]
   cases k with
   | zero => rfl
   | succ k =>
     unfold Lib.splitK; rw [if_pos (by rw [index_absent w (h w (by simp))]; rfl)]
 | w :: v :: r, 0, _, hk, _ => by simp at hk
 | w :: v :: r, k + 1, _, hk, h => by
   have hw := h w (by simp); rw [join_two]; unfold Lib.splitK; rw [index_at w _ hw, if_neg (by simp only [beq_iff_eq]; omega)]; have ih := splitK_join (v :: r) k (by simp) (by simpa using hk) (fun x hx => h x (by simp [hx]))
   have e1 : (w ++ 32 :: Lib.join (v :: r) [32]).take ((w.length : Int).toNat + 0) = w := by simp
   have e2 : (w ++ 32 :: Lib.join (v :: r) [32]).drop ((w.length : Int).toNat + [(32 : UInt8)].length) = Lib.join (v :: r) [32] := by
    rw [show (w.length : Int).toNat + [(32 : UInt8)].length = w.length + 1 from by simp, ← List.drop_drop, List.drop_left]
    rfl
   rw [e1, e2, ih]
theorem join_count : ∀ (ws : List (List UInt8)), ws.length ≤ (Lib.join ws [32]).length + 1
 | [] => by simp
 | [w] => by simp
 | w :: v :: r => by
   have := join_count (v :: r); rw [join_two, List.length_append]; simp only [List.length_cons] at this ⊢
   omega
theorem words_join (ws : List (List UInt8)) (h0 : ws ≠ []) (h1 : ws.length ≤ 147) (h : ∀ w ∈ ws, (32 : UInt8) ∉ w) : (wordsB ⟨(Lib.join ws [32]).toArray⟩).map (·.data.toList) = ws := by
 unfold wordsB; rw [Lib.splitB_data]; have hc := join_count ws
 have hs : (⟨(Lib.join ws [32]).toArray⟩ : ByteArray).size = (Lib.join ws [32]).length := by
  show (Lib.join ws [32]).toArray.size = _
  simp
 rw [hs]; exact splitK_join ws _ h0 (by omega) h
theorem atoiO_of {x : ByteArray} {n : Int} (hx : x.data.toList = Lib.itoa n) (h0 : 0 ≤ n) (h1 : n ≤ 999999) : atoiO x = some n := by
 unfold atoiO; rw [hx, atoi_itoa h0 h1]
theorem mapM_itoa : ∀ (l : List ByteArray) (ns : List Int), l.map (·.data.toList) = ns.map Lib.itoa → (∀ n ∈ ns, 0 ≤ n ∧ n ≤ 999999) → l.mapM atoiO = some ns
 | [], [], _, _ => rfl
 | [], n :: ns, h, _ => by simp at h
 | x :: l, [], h, _ => by simp at h
 | x :: l, n :: ns, h, hn => by
   simp only [List.map_cons, List.cons.injEq] at h; rw [List.mapM_cons, atoiO_of h.1 (hn n (by simp)).1 (hn n (by simp)).2, mapM_itoa l ns h.2 (fun k hk => hn k (by simp [hk]))]
   rfl
theorem numsP_text (ns : List Int) (h0 : ns ≠ []) (h1 : ns.length ≤ 147) (h : ∀ n ∈ ns, 0 ≤ n ∧ n ≤ 999999) : numsP ⟨(Lib.join (ns.map Lib.itoa) [32]).toArray⟩ = some ns := by
 unfold numsP; refine mapM_itoa _ _ (words_join _ (by simpa using h0) (by simpa using h1) ?_) h
 intro w hw
 obtain ⟨n, hn, rfl⟩ := List.mem_map.1 hw; exact no32 (h n hn).1
def stayP (L : List Int) : Stay := ⟨L.getD 0 0, L.getD 1 0, L.getD 2 0, L.getD 3 0, L.getD 4 0, L.getD 5 0, L.getD 6 0, L.getD 7 0⟩
def jobP (L : List Int) : Job := ⟨L.getD 0 0, decide (L.getD 1 0 = 1)⟩
def staysP : Nat → List Int → List Stay
 | 0, _ => []
 | k + 1, L => stayP L :: staysP k (L.drop 8)
def jobsP : Nat → List Int → List Job
 | 0, _ => []
 | k + 1, L => jobP L :: jobsP k (L.drop 2)
structure PB where
 last : Int
 stays : List Stay
 jobs : List Job
def PB.book (b : PB) : Book := ⟨b.last, none, 0, none, 0, b.stays, b.jobs⟩
def PB.text (b : PB) : List UInt8 := textL b.last b.stays b.jobs
def okNs (a b : Int) (m : Nat) : Bool := decide (0 ≤ a ∧ a ≤ 16) && (decide (0 ≤ b ∧ b ≤ 8) && decide ((m : Int) = a * 8 + b * 2))
def fromP (L : List Int) : Option PB :=
 if L.length < 3 then none else
 if okNs (L.getD 1 0) (L.getD 2 0) (L.length - 3) = true then some ⟨L.getD 0 0, staysP (L.getD 1 0).toNat (L.drop 3), jobsP (L.getD 2 0).toNat (L.drop (3 + 8 * (L.getD 1 0).toNat))⟩ else none
theorem bookN_pure (b : Book) (n : Nat) : bookN b n = bookN (PB.book ⟨b.last, b.stays, b.jobs⟩) n := by
 have hf : ∀ k, findI b k = findI (PB.book ⟨b.last, b.stays, b.jobs⟩) k := fun k => rfl
 have hj : ∀ i, jobBad b i = jobBad (PB.book ⟨b.last, b.stays, b.jobs⟩) i := fun i => rfl
 have hF : ∀ m i, jobsF b m i = jobsF (PB.book ⟨b.last, b.stays, b.jobs⟩) m i := by
  intro m
  induction m with
  | zero => intro i; rfl
  | succ m ih => intro i; unfold jobsF; rw [hj, ih]
 unfold bookN; rw [hF]
 rfl
def parseP (s : ByteArray) (n : Nat) : Option PB := (numsP s).bind fun L => (fromP L).bind fun b => if bookN b.book n = 0 ∧ b.text = s.data.toList then some b else none
theorem stayP_ns (x : Stay) (r : List Int) : stayP (stayNs x ++ r) = x := rfl
theorem staysP_ns : ∀ (l : List Stay) (r : List Int), staysP l.length (l.flatMap stayNs ++ r) = l
 | [], _ => rfl
 | x :: l, r => by
   rw [List.flatMap_cons, List.append_assoc, List.length_cons]; unfold staysP; rw [stayP_ns, show (stayNs x ++ (l.flatMap stayNs ++ r)).drop 8 = l.flatMap stayNs ++ r from rfl, staysP_ns l r]
theorem jobP_ns (x : Job) (r : List Int) : jobP (jobNs x ++ r) = x := by
 obtain ⟨t, f⟩ := x
 cases f <;> rfl
theorem jobsP_ns : ∀ (l : List Job) (r : List Int), jobsP l.length (l.flatMap jobNs ++ r) = l
 | [], _ => rfl
 | x :: l, r => by
   rw [List.flatMap_cons, List.append_assoc, List.length_cons]; unfold jobsP; rw [jobP_ns, show (jobNs x ++ (l.flatMap jobNs ++ r)).drop 2 = l.flatMap jobNs ++ r from rfl, jobsP_ns l r]
theorem stays_flat : ∀ (l : List Stay), (l.flatMap stayNs).length = 8 * l.length
 | [] => rfl
 | x :: l => by rw [List.flatMap_cons, List.length_append, stays_flat l, List.length_cons]; simp [stayNs]; omega
theorem jobs_flat : ∀ (l : List Job), (l.flatMap jobNs).length = 2 * l.length
 | [] => rfl
 | x :: l => by rw [List.flatMap_cons, List.length_append, jobs_flat l, List.length_cons]; simp [jobNs]; omega
theorem nums_len (last : Int) (stays : List Stay) (jobs : List Job) : (numsOf last stays jobs).length = 3 + 8 * stays.length + 2 * jobs.length := by
 unfold numsOf; rw [List.length_append, List.length_append, stays_flat, jobs_flat]
 rfl
theorem fromP_nums (last : Int) (stays : List Stay) (jobs : List Job) (hs : stays.length ≤ 16) (hj : jobs.length ≤ 8) : fromP (numsOf last stays jobs) = some ⟨last, stays, jobs⟩ := by
 have hl := nums_len last stays jobs; have e0 : (numsOf last stays jobs).getD 0 0 = last := rfl; have e1 : (numsOf last stays jobs).getD 1 0 = (stays.length : Int) := rfl; have e2 : (numsOf last stays jobs).getD 2 0 = (jobs.length : Int) := rfl; have e3 : (numsOf last stays jobs).drop 3 = stays.flatMap stayNs ++ jobs.flatMap jobNs := rfl; unfold fromP
 rw [if_neg (by omega), e0, e1, e2]
 have e4 : (numsOf last stays jobs).drop (3 + 8 * ((stays.length : Int)).toNat) = jobs.flatMap jobNs ++ [] := by
  rw [← List.drop_drop, e3, Int.toNat_natCast, ← stays_flat, List.drop_left, List.append_nil]
 rw [if_pos (by unfold okNs; rw [hl]; simp only [Bool.and_eq_true, decide_eq_true_eq]; omega), e3, e4]; simp only [Int.toNat_natCast]; rw [staysP_ns, jobsP_ns]
theorem car_bounds {id a b c : Int} (h : carN id a b c = 0) : (1 ≤ id ∧ id ≤ 999) ∧ (1 ≤ a ∧ a ≤ 99) ∧ (1 ≤ b ∧ b ≤ 99) ∧ (1 ≤ c ∧ c ≤ 99) := by
 unfold carN faultN at h
 cases hb : decide (1 ≤ id ∧ id ≤ 999) && sizeB a b c with
 | false => rw [hb] at h; simp at h
 | true =>
   unfold sizeB at hb; simp only [Bool.and_eq_true, decide_eq_true_eq] at hb
   omega
theorem place_bounds {x y z : Int} {n : Nat} (hn : n ≤ 4) (h : placeB x y z n = true) : (1 ≤ x ∧ x ≤ 4) ∧ (0 ≤ y ∧ y ≤ 1) ∧ (0 ≤ z ∧ z ≤ 1) := by
 unfold placeB at h; simp only [decide_eq_true_eq] at h
 omega
end Tx
end Go.Proofs.YtopgllmjeliklaaGreatDoor
