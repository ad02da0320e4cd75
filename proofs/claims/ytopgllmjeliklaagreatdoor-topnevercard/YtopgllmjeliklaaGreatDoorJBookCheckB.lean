/- Chapter 6: may a book be (E1): the whole of it; contracts for the laws. -/
import Derived.Test.YtopgllmjeliklaaGreatDoorJBookCheck
namespace Go.Proofs.YtopgllmjeliklaaGreatDoor
open Go.Shelf Go.Lib Go.ChangeShapes Go.WideShapes Go.ChangeAt Go.RowKit
set_option maxRecDepth 100000
set_option linter.unusedSimpArgs false
set_option linter.unusedVariables false

namespace Bk
/-- The first fault of so many stays from i on. -/
def staysF (last : Int) (n : Nat) (stays : List Stay) : Nat → Nat → Int
  | 0, _ => 0
  | m + 1, i => if stayN last n (stays.take i) stays[i]! = 0 then staysF last n stays m (i + 1) else stayN last n (stays.take i) stays[i]!
def jobBad (b : Book) (i : Nat) : Bool := decide (findI b b.jobs[i]!.t < 0) || hasJob (b.jobs.take i) b.jobs[i]!
/-- The first fault of so many jobs from i on. -/
def jobsF (b : Book) : Nat → Nat → Int
  | 0, _ => 0
  | m + 1, i => if jobBad b i = true then 3 else jobsF b m (i + 1)
/-- What is wrong with a book. -/
def bookN (b : Book) (n : Nat) : Int :=
  if decide (0 ≤ b.last ∧ b.last ≤ 999999) = false then 1 else if 16 < b.stays.length ∨ 8 < b.jobs.length then 2 else
  if staysF b.last n b.stays b.stays.length 0 ≠ 0 then staysF b.last n b.stays b.stays.length 0 else jobsF b b.jobs.length 0

set_option maxHeartbeats 4000000 in
theorem bookCheck_any (b : Book) (n : Nat) (w : World) (h : b.At w) (n1 : 1 ≤ n) (n4 : n ≤ 4) :
    Calls Tryz.prog 32 #[b.val, .int .i64 n] w fun e w' => e = .returned (errV (bookN b n)) ∧ Below w.heap.size w w' := by
  have HCS : Hid (∀ i, i < b.stays.length → b.stays.length ≤ 16 → ∀ wx, Below w.heap.size w wx → Calls Tryz.prog 61 #[.agg #[.int .i64 b.last, .slice b.sa b.stays.length b.sc, .slice b.ja b.jobs.length b.jc], .int .i64 i, .int .i64 n] wx fun e w' => e = .returned (errV (stayN b.last n (b.stays.take i) b.stays[i]!)) ∧ Below wx.heap.size wx w') := fun i hi h16 wx hb => checkStay_any b i n wx (h.below hb) hi h16 n1 n4
  have HFI : Hid (∀ k wx, Below w.heap.size w wx → Calls Tryz.prog 30 #[.agg #[.int .i64 b.last, .slice b.sa b.stays.length b.sc, .slice b.ja b.jobs.length b.jc], .int .i64 k] wx fun e w' => e = .returned (.int .i64 (findI b k)) ∧ Below wx.heap.size wx w') := fun k wx hb => find_any b k wx (h.below hb)
  have HJR : Hid (∀ wx, Below w.heap.size w wx → RowsAt wx b.ja b.jc 2 Job.enc b.jobs) := fun wx hb => h.2.below hb
  have hm1 := h.1.2.1
  have hm0 := h.1.1
  have hm2 := h.2.2.1
  have hm3 := h.2.1
  unfold maxLen at hm1 hm2
  have KB : Hid (bookN b n = if decide (0 ≤ b.last ∧ b.last ≤ 999999) = false then 1 else if 16 < b.stays.length ∨ 8 < b.jobs.length then 2 else
    if staysF b.last n b.stays b.stays.length 0 ≠ 0 then staysF b.last n b.stays b.stays.length 0 else jobsF b b.jobs.length 0) := rfl
  obtain ⟨w0, hw0⟩ : ∃ w0, w.alloc (.cells #[.int .i64 b.last, .slice b.sa b.stays.length b.sc, .slice b.ja b.jobs.length b.jc] 39) = w0 := ⟨_, rfl⟩
  have B0 : Hid (Below w.heap.size w w0 ∧ Blk w0 w.heap.size #[.int .i64 b.last, .slice b.sa b.stays.length b.sc, .slice b.ja b.jobs.length b.jc] 39) := by
    show _ ∧ _
    rw [← hw0]
    exact ⟨B.new1 _ _, Blk.new _ _ _⟩
  unfold Book.val
  clear h
  have r0 := B0.out.2.cell
  go_enter Tryz.func32, Tryz.ntmps32
  go_wp2_with fail
  refine (bwithin_any _ _ _ _).mono ?_
  rintro e W1 ⟨rfl, hw1⟩
  subst hw1
  cases hla : decide (0 ≤ b.last ∧ b.last ≤ 999999)
  · go_wp2
    go_returns
    refine ⟨?_, B0.out.1⟩
    rw [KB.out, if_pos hla]
    rfl
  · have HLA : Hid (decide (0 ≤ b.last ∧ b.last ≤ 999999) = true) := hla
    clear hla
    by_cases hst : 16 < b.stays.length
    · have hstz : (16 : Int) < (b.stays.length : Int) := by omega
      go_wp2
      go_returns
      refine ⟨?_, B0.out.1⟩
      rw [KB.out, if_neg (by rw [HLA.out]; decide), if_pos (Or.inl hst)]
      rfl
    · by_cases hjo : 8 < b.jobs.length
      · have hstz : ¬ (16 : Int) < (b.stays.length : Int) := by omega
        have hjoz : (8 : Int) < (b.jobs.length : Int) := by omega
        go_wp2
        go_returns
        refine ⟨?_, B0.out.1⟩
        rw [KB.out, if_neg (by rw [HLA.out]; decide), if_pos (Or.inr hjo)]
        rfl
      · have hstz : ¬ (16 : Int) < (b.stays.length : Int) := by omega
        have hjoz : ¬ (8 : Int) < (b.jobs.length : Int) := by omega
        have KB2 : Hid (bookN b n = if staysF b.last n b.stays b.stays.length 0 ≠ 0 then staysF b.last n b.stays b.stays.length 0 else jobsF b b.jobs.length 0) := by
          show _ = _
          rw [KB.out, if_neg (by rw [HLA.out]; decide), if_neg (by omega)]
        clear KB
        have l16 : b.stays.length ≤ 16 := by omega
        have l8 : b.jobs.length ≤ 8 := by omega
        go_wp2_with fail
        clear r0 hstz hjoz hst hjo
        go_loopg [28] b.stays.length (fun g s28 wr => ∃ k : Nat, k ≤ b.stays.length ∧ b.stays.length - k ≤ g ∧ s28 = .int .i64 k ∧ Hid (staysF b.last n b.stays b.stays.length 0 = staysF b.last n b.stays (b.stays.length - k) k) ∧ Hid (Below w.heap.size w wr ∧ Blk wr w.heap.size #[.int .i64 b.last, .slice b.sa b.stays.length b.sc, .slice b.ja b.jobs.length b.jc] 39))
        case atStart => exact ⟨0, Nat.zero_le _, by omega, rfl, rfl, B0⟩
        case round =>
          obtain ⟨k, hk, hg, rfl, HF, HB⟩ := hrel
          have r1 := HB.out.2.cell
          by_cases hlt : k < b.stays.length
          · have hltz : (k : Int) < (b.stays.length : Int) := by omega
            have HS : Hid (staysF b.last n b.stays (b.stays.length - k) k = if stayN b.last n (b.stays.take k) b.stays[k]! = 0 then staysF b.last n b.stays (b.stays.length - (k + 1)) (k + 1) else stayN b.last n (b.stays.take k) b.stays[k]!) := by
              show _ = _
              rw [show b.stays.length - k = (b.stays.length - (k + 1)) + 1 from by omega]
              rfl
            go_wp2_with fail
            refine (HCS.out k hlt l16 _ HB.out.1).mono ?_
            rintro e W2 ⟨rfl, b2⟩
            have HB2 : Hid (Below w.heap.size w W2 ∧ Blk W2 w.heap.size #[.int .i64 b.last, .slice b.sa b.stays.length b.sc, .slice b.ja b.jobs.length b.jc] 39) := ⟨B.next HB.out.1 b2 HB.out.1.size, HB.out.2.below b2⟩
            clear b2 r1
            by_cases hz : stayN b.last n (b.stays.take k) b.stays[k]! = 0
            · have HZ : Hid (stayN b.last n (b.stays.take k) b.stays[k]! = 0) := hz
              rw [hz, errV0]
              clear hz
              go_wp2
              go_roundg (b.stays.length - (k + 1))
              case measure => omega
              case rel => exact ⟨k + 1, by omega, by omega, by go_num, (by show staysF b.last n b.stays b.stays.length 0 = _; rw [HF.out, HS.out, if_pos HZ.out]), HB2⟩
            · have HZ : Hid (¬ stayN b.last n (b.stays.take k) b.stays[k]! = 0) := hz
              rw [errV_ne hz]
              clear hz
              have HV : Hid (errV (bookN b n) = .iface 103 (.int .i64 (stayN b.last n (b.stays.take k) b.stays[k]!))) := by
                show _ = _
                rw [KB2.out, HF.out, HS.out, if_neg HZ.out, if_pos HZ.out, errV_ne HZ.out]
              generalize stayN b.last n (b.stays.take k) b.stays[k]! = q at *
              go_wp2
              go_returns
              refine ⟨?_, HB2.out.1⟩
              rw [HV.out]
              rfl
          · have hltz : ¬ (k : Int) < (b.stays.length : Int) := by omega
            have KJ : Hid (bookN b n = jobsF b b.jobs.length 0) := by
              show _ = _
              rw [KB2.out, HF.out, show b.stays.length - k = 0 from by omega]
              rfl
            go_wp2_with fail
            clear r1 HF HCS KB2
            go_loopg [42] b.jobs.length (fun g s42 wr => ∃ k : Nat, k ≤ b.jobs.length ∧ b.jobs.length - k ≤ g ∧ s42 = .int .i64 k ∧ Hid (jobsF b b.jobs.length 0 = jobsF b (b.jobs.length - k) k) ∧ Hid (Below w.heap.size w wr ∧ Blk wr w.heap.size #[.int .i64 b.last, .slice b.sa b.stays.length b.sc, .slice b.ja b.jobs.length b.jc] 39))
            case atStart => exact ⟨0, Nat.zero_le _, by omega, rfl, rfl, HB⟩
            case round =>
              clear HB hltz hlt hk hg
              obtain ⟨k, hk, hg, rfl, HF2, HB⟩ := hrel
              by_cases hlt : k < b.jobs.length
              · have hltz : (k : Int) < (b.jobs.length : Int) := by omega
                have hkc : (k : Int) ≤ (b.jc : Int) := by omega
                have HS : Hid (jobsF b (b.jobs.length - k) k = if jobBad b k = true then 3 else jobsF b (b.jobs.length - (k + 1)) (k + 1)) := by
                  show _ = _
                  rw [show b.jobs.length - k = (b.jobs.length - (k + 1)) + 1 from by omega]
                  rfl
                obtain ⟨_, _, hc⟩ := HJR.out wr HB.out.1
                obtain ⟨jb, joff, hja, hjb, hcell⟩ := hc (by omega)
                have c0 := hcell k hlt 0 _ rfl
                have c1 := hcell k hlt 1 _ rfl
                simp only [Nat.add_zero] at c0
                have KJB : Hid (jobBad b k = (decide (findI b b.jobs[k]!.t < 0) || hasJob (b.jobs.take k) b.jobs[k]!)) := rfl
                have HJX : Hid (∀ wx, Below w.heap.size w wx → RowsAt wx (some ⟨jb, joff, none⟩) b.jc 2 Job.enc (b.jobs.take k)) := fun wx hb => by
                  have := (HJR.out wx hb).take k (by omega)
                  rw [hja] at this
                  exact this
                have HFX : Hid (∀ k wx, Below w.heap.size w wx → Calls Tryz.prog 30 #[.agg #[.int .i64 b.last, .slice b.sa b.stays.length b.sc, .slice (some ⟨jb, joff, none⟩) b.jobs.length b.jc], .int .i64 k] wx fun e w' => e = .returned (.int .i64 (findI b k)) ∧ Below wx.heap.size wx w') := fun k wx hb => by
                  have := HFI.out k wx hb
                  rw [hja] at this
                  exact this
                have HB' : Hid (Below w.heap.size w wr ∧ Blk wr w.heap.size #[.int .i64 b.last, .slice b.sa b.stays.length b.sc, .slice (some ⟨jb, joff, none⟩) b.jobs.length b.jc] 39) := by
                  have := HB.out
                  rw [hja] at this
                  exact this
                have HJA : Hid (b.ja = some ⟨jb, joff, none⟩) := hja
                rw [hja]
                clear hc hcell hja
                generalize b.jobs[k]! = j at *
                obtain ⟨t, f⟩ := j
                simp only at c0 c1 KJB
                obtain ⟨wa, hwa⟩ : ∃ wa, wr.alloc (.cells #[.int .i64 t, .bool f] 88) = wa := ⟨_, rfl⟩
                have HA : Hid (Below w.heap.size w wa ∧ Blk wa w.heap.size #[.int .i64 b.last, .slice b.sa b.stays.length b.sc, .slice (some ⟨jb, joff, none⟩) b.jobs.length b.jc] 39 ∧ Blk wa wr.heap.size #[.int .i64 t, .bool f] 88) := by
                  show _ ∧ _ ∧ _
                  rw [← hwa]
                  exact ⟨B.next HB'.out.1 (B.new1 _ _) HB'.out.1.size, HB'.out.2.old _, Blk.new _ _ _⟩
                have f0 := fun p : BelowW wa => (HA.out.2.1.below p.hb).cell 0
                have f1 := fun p : BelowW wa => (HA.out.2.1.below p.hb).cell 1
                have f2 := fun p : BelowW wa => (HA.out.2.1.below p.hb).cell 2
                have f3 := fun p : BelowW wa => (HA.out.2.2.below p.hb).cell 0
                have f4 := fun p : BelowW wa => (HA.out.2.2.below p.hb).cell 1
                have HCJ : Hid (∀ p : BelowW wa, Calls Tryz.prog 62 #[.slice (some ⟨jb, joff, none⟩) k b.jc, .agg #[.int .i64 t, .bool f]] p.wd fun e w' => e = .returned (.bool (hasJob (b.jobs.take k) ⟨t, f⟩)) ∧ Below p.wd.heap.size p.wd w') := fun p => by
                  have := hasJob_any (some ⟨jb, joff, none⟩) b.jc (b.jobs.take k) t f p.wd (HJX.out p.wd (B.next HA.out.1 p.hb HA.out.1.size))
                  rw [List.length_take, Nat.min_eq_left (by omega)] at this
                  exact this
                have HFJ : Hid (∀ p : BelowW wa, Calls Tryz.prog 30 #[.agg #[.int .i64 b.last, .slice b.sa b.stays.length b.sc, .slice (some ⟨jb, joff, none⟩) b.jobs.length b.jc], .int .i64 t] p.wd fun e w' => e = .returned (.int .i64 (findI b t)) ∧ Below p.wd.heap.size p.wd w') := fun p => HFX.out t p.wd (B.next HA.out.1 p.hb HA.out.1.size)
                generalize findI b t = qf at *
                generalize hasJob (b.jobs.take k) ⟨t, f⟩ = qh at *
                clear HFX HJX
                by_cases hq : qf < 0
                · have HJB : Hid (jobBad b k = true) := by show _ = _; rw [KJB.out]; simp [hq]
                  go_wp2_with fail
                  refine wp_region_below (by kernel_rfl) (by kernel_rfl) ?_
                  repeat (quiet_step (first | (go_at_call 30; exact Calls.wof (HFJ.out _)) | (go_at_call 62; exact Calls.wof (HCJ.out _))))
                  refine wpQuiet_nil ?_
                  rintro wq ⟨⟨_, NQ⟩, rfl⟩
                  have HQ : Hid (Below w.heap.size w wq) := B.next HA.out.1 NQ HA.out.1.size
                  clear f0 f1 f2 f3 f4
                  go_wp2
                  go_returns
                  refine ⟨?_, HQ.out⟩
                  rw [KJ.out, HF2.out, HS.out, if_pos HJB.out]
                  rfl
                · cases qh
                  · have HJB : Hid (jobBad b k = false) := by show _ = _; rw [KJB.out]; simp [hq]
                    go_wp2_with fail
                    refine wp_region_below (by kernel_rfl) (by kernel_rfl) ?_
                    repeat (quiet_step (first | (go_at_call 30; exact Calls.wof (HFJ.out _)) | (go_at_call 62; exact Calls.wof (HCJ.out _))))
                    refine wpQuiet_nil ?_
                    rintro wq ⟨⟨_, NQ⟩, rfl⟩
                    have HQ : Hid (Below w.heap.size w wq ∧ Blk wq w.heap.size #[.int .i64 b.last, .slice b.sa b.stays.length b.sc, .slice b.ja b.jobs.length b.jc] 39) := by
                      have := HA.out.2.1.below NQ
                      rw [← HJA.out] at this
                      exact ⟨B.next HA.out.1 NQ HA.out.1.size, this⟩
                    clear f0 f1 f2 f3 f4
                    rw [← HJA.out]
                    go_wp2
                    go_roundg (b.jobs.length - (k + 1))
                    case measure => omega
                    case rel => exact ⟨k + 1, by omega, by omega, by go_num, (by show jobsF b b.jobs.length 0 = _; rw [HF2.out, HS.out, if_neg (by rw [HJB.out]; decide)]), HQ⟩
                  · have HJB : Hid (jobBad b k = true) := by show _ = _; rw [KJB.out]; simp
                    go_wp2_with fail
                    refine wp_region_below (by kernel_rfl) (by kernel_rfl) ?_
                    repeat (quiet_step (first | (go_at_call 30; exact Calls.wof (HFJ.out _)) | (go_at_call 62; exact Calls.wof (HCJ.out _))))
                    refine wpQuiet_nil ?_
                    rintro wq ⟨⟨_, NQ⟩, rfl⟩
                    have HQ : Hid (Below w.heap.size w wq) := B.next HA.out.1 NQ HA.out.1.size
                    clear f0 f1 f2 f3 f4
                    go_wp2
                    go_returns
                    refine ⟨?_, HQ.out⟩
                    rw [KJ.out, HF2.out, HS.out, if_pos HJB.out]
                    rfl
              · have hltz : ¬ (k : Int) < (b.jobs.length : Int) := by omega
                go_wp2
                go_returns
                refine ⟨?_, HB.out.1⟩
                rw [KJ.out, HF2.out, show b.jobs.length - k = 0 from by omega]
                rfl

end Bk
end Go.Proofs.YtopgllmjeliklaaGreatDoor
