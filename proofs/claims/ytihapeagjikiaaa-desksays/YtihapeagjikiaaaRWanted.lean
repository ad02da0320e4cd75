/- The document's Wanted (E5), where it answers a book; contract for the laws. -/
import Derived.Test.YtihapeagjikiaaaRWantedBad
import Derived.Test.YtihapeagjikiaaaRApp
import Derived.Test.YtihapeagjikiaaaRDone
import Derived.Deep.RegionHeld3
namespace Go.Proofs.Ytihapeagjikiaaa
open Go.Shelf Go.Lib Go.ChangeShapes Go.WideShapes Go.ChangeAt Go.RowKit
set_option maxRecDepth 100000
set_option linter.unusedSimpArgs false
set_option linter.unusedVariables false

namespace Bk
/-- What Wanted answers where it answers a book: the stays lie where they lay. -/
def RWantedGood (b : Book) (t : Int) (w : World) (e : Ending) (w' : World) : Prop :=
  ∃ vj, e = .returned (.tuple #[.agg #[.int .i64 b.last, .slice b.sa b.stays.length b.sc, vj], .int .i64 0]) ∧ OwnAt w' w.heap.size 32 2 Job.enc vj (b.jobs ++ [⟨t, true⟩]) ∧ Below w.heap.size w w'

set_option maxHeartbeats 4000000 in
theorem rwanted_good (b : Book) (t : Int) (w : World) (hb : b.At w) (hj8 : b.jobs.length ≤ 8) (hgood : wantN b t = 0) :
    Calls Try.prog 21 #[b.val, .int .i64 t] w (RWantedGood b t w) := by
  obtain ⟨last, sa, sc, ja, jc, stays, jobs⟩ := b
  simp only [Book.val] at *
  have H1 : Hid (∀ wx, Below w.heap.size w wx → RowsAt wx sa sc 8 Stay.enc stays) := fun wx h => hb.1.below h
  have H3 : Hid (∀ wx, Below w.heap.size w wx → RowsAt wx ja jc 2 Job.enc jobs) := fun wx h => hb.2.below h
  have hm1 : sc ≤ maxLen := hb.1.2.1
  have hn1 : stays.length ≤ sc := hb.1.1
  have hm3 : jc ≤ maxLen := hb.2.2.1
  have hn3 : jobs.length ≤ jc := hb.2.1
  unfold maxLen at hm1 hm3
  have hf : (findI ⟨last, sa, sc, ja, jc, stays, jobs⟩ t < 0) = (stays.any (fun s => s.t == t) = false) := by
    have := stayIdx_nonneg (fun s : Stay => s.t == t) stays
    rw [← this]
    show (stayIdx _ _ < 0) = _
    simp
  have KP : Hid (wantN ⟨last, sa, sc, ja, jc, stays, jobs⟩ t = if stays.any (fun s => s.t == t) = false then 5 else if hasJob jobs ⟨t, true⟩ then 6 else if 8 ≤ jobs.length then 8 else 0) := by
    show _ = _
    unfold wantN
    simp only [hf]
  have HB : Hid (wantN ⟨last, sa, sc, ja, jc, stays, jobs⟩ t = 0) := hgood
  have HP : Hid (∀ vj w', OwnAt w' w.heap.size 32 2 Job.enc vj (jobs ++ [⟨t, true⟩]) → Below w.heap.size w w' → RWantedGood ⟨last, sa, sc, ja, jc, stays, jobs⟩ t w (.returned (.tuple #[.agg #[.int .i64 last, .slice sa stays.length sc, vj], .int .i64 0])) w') := fun vj w' h1 h2 => ⟨vj, rfl, h1, h2⟩
  generalize RWantedGood ⟨last, sa, sc, ja, jc, stays, jobs⟩ t w = PP at *
  generalize wantN ⟨last, sa, sc, ja, jc, stays, jobs⟩ t = kk at *
  clear hf hgood
  obtain ⟨w0, hw0⟩ : ∃ w0, (w.alloc (.cells #[.int .i64 last, .slice sa stays.length sc, .slice ja jobs.length jc] 25)).alloc (.cells #[.int .i64 0, .slice none 0 0, .slice none 0 0] 25) = w0 := ⟨_, rfl⟩
  have N0 : Hid (Below w.heap.size w w0 ∧ Blk w0 w.heap.size #[.int .i64 last, .slice sa stays.length sc, .slice ja jobs.length jc] 25 ∧ Blk w0 (w.heap.size + 1) #[.int .i64 0, .slice none 0 0, .slice none 0 0] 25) := by
    show _ ∧ _ ∧ _
    rw [← hw0]
    exact ⟨(B.new1 _ _).alloc (by simp) _, (Blk.new _ _ _).old _, Blk.new1 (by simp) _ _⟩
  clear hb
  go_enter Try.func21, Try.ntmps21
  go_wp2_with fail
  clear hw0
  go_loopg [6, 7] stays.length (fun gg s6 s7 wr => ∃ (i : Nat) (q : Bool), i ≤ stays.length ∧ stays.length - i ≤ gg ∧ s7 = .int .i64 i ∧ s6 = .bool q ∧ Hid (q = (stays.take i).any (fun s => s.t == t)) ∧ Hid (Below w.heap.size w wr ∧ Blk wr w.heap.size #[.int .i64 last, .slice sa stays.length sc, .slice ja jobs.length jc] 25 ∧ Blk wr (w.heap.size + 1) #[.int .i64 0, .slice none 0 0, .slice none 0 0] 25))
  case atStart => exact ⟨0, false, Nat.zero_le _, by omega, rfl, rfl, (show Hid _ from by simp [Hid]), N0⟩
  case round =>
    clear N0
    obtain ⟨i, q, hi, hg, rfl, rfl, Q, M⟩ := hrel
    have ra := M.out.2.1.cell
    by_cases hlt : i < stays.length
    · have hltz : (i : Int) < (stays.length : Int) := by omega
      obtain ⟨sb, soff, rfl⟩ := rows_some (H1.out _ M.out.1) (by omega)
      have s0 := rows_cell (H1.out _ M.out.1) i hlt 0 _ rfl
      simp only [Nat.add_zero] at s0
      have QN : Hid ((q || stays[i]!.t == t) = (stays.take (i + 1)).any (fun s => s.t == t)) := by show _ = _; rw [any_upto _ _ _ hlt, ← Q.out]
      generalize stays[i]!.t = st at *
      clear Q
      cases q
      · go_wp2
        go_roundg (stays.length - (i + 1))
        case measure => omega
        case rel => exact ⟨i + 1, (st == t), by omega, by omega, by go_num, rfl, (by have := QN.out; simpa [Hid] using this), M⟩
      · go_wp2
        go_roundg (stays.length - (i + 1))
        case measure => omega
        case rel => exact ⟨i + 1, true, by omega, by omega, by go_num, rfl, (by have := QN.out; simpa [Hid] using this), M⟩
    · have hltz : ¬ (i : Int) < (stays.length : Int) := by omega
      have hil : i = stays.length := by omega
      have Q2 : Hid (q = stays.any (fun s => s.t == t)) := by show _ = _; rw [Q.out, hil, List.take_length]
      clear Q hil
      cases q
      · exact absurd HB.out (by rw [KP.out, if_pos Q2.out.symm]; decide)
      · have KP2 : Hid (kk = if hasJob jobs ⟨t, true⟩ then 6 else if 8 ≤ jobs.length then 8 else 0) := by show _ = _; rw [KP.out, if_neg (by rw [← Q2.out]; decide)]
        clear KP Q2
        obtain ⟨wj, hwj⟩ : ∃ wj, wr.alloc (.cells #[.int .i64 t, .bool true] 32) = wj := ⟨_, rfl⟩
        have NJ : Hid ((Below w.heap.size w wj ∧ Blk wj w.heap.size #[.int .i64 last, .slice sa stays.length sc, .slice ja jobs.length jc] 25 ∧ Blk wj (w.heap.size + 1) #[.int .i64 0, .slice none 0 0, .slice none 0 0] 25) ∧ Blk wj wr.heap.size #[.int .i64 t, .bool true] 32) := by
          show _ ∧ _
          rw [← hwj]
          exact ⟨⟨B.next M.out.1 (B.new1 _ _) M.out.1.size, M.out.2.1.old _, M.out.2.2.old _⟩, Blk.new _ _ _⟩
        clear M
        go_wp2_with fail
        clear ra hwj hltz hlt hg hi
        generalize wr.heap.size = jb at *
        go_loopg [9] jobs.length (fun gg s9 wr => ∃ i : Nat, i ≤ jobs.length ∧ jobs.length - i ≤ gg ∧ s9 = .int .i64 i ∧ Hid (∀ k, k < i → (jobs[k]!.t == t && jobs[k]!.f == true) = false) ∧ Hid ((Below w.heap.size w wr ∧ Blk wr w.heap.size #[.int .i64 last, .slice sa stays.length sc, .slice ja jobs.length jc] 25 ∧ Blk wr (w.heap.size + 1) #[.int .i64 0, .slice none 0 0, .slice none 0 0] 25) ∧ Blk wr jb #[.int .i64 t, .bool true] 32))
        case atStart => exact ⟨0, Nat.zero_le _, by omega, rfl, fun k hk => absurd hk (Nat.not_lt_zero _), NJ⟩
        case round =>
          clear NJ
          obtain ⟨i, hi, hg, rfl, A, M⟩ := hrel
          have ra := M.out.1.2.1.cell
          by_cases hlt : i < jobs.length
          · have hltz : (i : Int) < (jobs.length : Int) := by omega
            obtain ⟨sb, soff, rfl⟩ := rows_some (H3.out _ M.out.1.1) (by omega)
            have b1 := fun p : BelowW wr => (M.out.1.2.1.below p.hb).cell 2
            have j0 := fun p : BelowW wr => (M.out.2.below p.hb).cell 0
            have j1 := fun p : BelowW wr => (M.out.2.below p.hb).cell 1
            have s0 := fun p : BelowW wr => rows_cell (H3.out p.wd (B.next M.out.1.1 p.hb M.out.1.1.size)) i hlt 0 _ rfl
            have s1 := fun p : BelowW wr => rows_cell (H3.out p.wd (B.next M.out.1.1 p.hb M.out.1.1.size)) i hlt 1 _ rfl
            simp only [Nat.add_zero] at s0
            have eS := eqJ_run jobs[i]!.t t jobs[i]!.f true
            have gS := eqJ_guard jobs[i]!.t t jobs[i]!.f true
            have AF : Hid ((jobs[i]!.t == t && jobs[i]!.f == true) = true → kk = 6) := fun h => by rw [KP2.out, if_pos (a_job jobs t i hlt h)]
            have AN : Hid ((jobs[i]!.t == t && jobs[i]!.f == true) = false → ∀ k, k < i + 1 → (jobs[k]!.t == t && jobs[k]!.f == true) = false) := fun h k hk => by
              by_cases e : k < i
              · exact A.out k e
              · have : k = i := by omega
                subst this; exact h
            generalize jobs[i]! = jv at *
            obtain ⟨q, HQ⟩ : ∃ q, Hid ((jv.t == t && jv.f == true) = q) := ⟨_, rfl⟩
            rw [HQ.out] at eS AF AN
            clear HQ A
            go_wp2_with fail
            clear ra
            refine wp_region_below (by kernel_rfl) (by kernel_rfl) ?_
            repeat (go_big_quiet_step (fail))
            refine wpQuiet_nil ?_
            rintro wq ⟨⟨_, NQ⟩, rfl⟩
            have MQ : Hid ((Below w.heap.size w wq ∧ Blk wq w.heap.size #[.int .i64 last, .slice sa stays.length sc, .slice (some ⟨sb, soff, none⟩) jobs.length jc] 25 ∧ Blk wq (w.heap.size + 1) #[.int .i64 0, .slice none 0 0, .slice none 0 0] 25) ∧ Blk wq jb #[.int .i64 t, .bool true] 32) := ⟨⟨B.next M.out.1.1 NQ M.out.1.1.size, M.out.1.2.1.below NQ, M.out.1.2.2.below NQ⟩, M.out.2.below NQ⟩
            clear s0 s1 j0 j1 b1 eS gS NQ M
            cases q
            · go_wp2
              go_roundg (jobs.length - (i + 1))
              case measure => omega
              case rel => exact ⟨i + 1, by omega, by omega, by go_num, AN.out (by trivial), MQ⟩
            · exact absurd HB.out (by rw [AF.out (by trivial)]; decide)
          · have hltz : ¬ (i : Int) < (jobs.length : Int) := by omega
            have hil : i = jobs.length := by omega
            have hj : hasJob jobs ⟨t, true⟩ = false := no_job jobs t (by subst hil; exact A.out)
            have h8 : ¬ jobs.length = 8 := by
              intro e
              have h1 := KP2.out
              rw [hj, if_neg (by decide), if_pos (by omega)] at h1
              exact absurd (HB.out.symm.trans h1) (by decide)
            have h8z : ¬ (jobs.length : Int) = 8 := by omega
            clear KP2 HB hj A hil
            go_upto_region 16 with fail
            clear ra
            obtain ⟨iJ, hiJ, hzJ0, hzJ1, hzJ2⟩ := Try.infoJob
            have hl8 : jobs.length ≤ 1000 := by omega
            have hN : w.heap.size + 1 < wr.heap.size := M.out.1.2.2.lt
            have hrr := H3.out _ M.out.1.1
            have kjb := M.out.2
            have kbk := M.out.1.2.1
            have krs := M.out.1.2.2
            have bwr := M.out.1.1
            have hjl := kjb.lt
            have hnj : w.heap.size + 1 ≠ jb := fun e => by
              have h1 := krs
              rw [e] at h1
              exact absurd (blk_type h1 kjb) (by decide)
            have dr : Below wr.heap.size wr wr.drew := (Below.refl _ _).drew
            have hsd : wr.drew.heap.size = wr.heap.size := rfl
            obtain ⟨vA, wA, hrA, oA, gA⟩ := run_rows (P := Try.prog) (T := 23) job_len job_one 23 Try.underlying23 hiJ hzJ0 hzJ1 hzJ2 rfl (by decide) (by decide) ja jc jobs wr.drew (hrr.below dr) hl8
            obtain ⟨wA1, hwA1⟩ : ∃ wA1, wA.alloc (.cells #[.int .i64 t, .bool true] 32) = wA1 := ⟨_, rfl⟩
            have bA : Below wr.heap.size wr wA := grown_below' dr gA (fun g e => by cases e) (Nat.le_of_eq hsd.symm)
            have bA1 : Below wr.heap.size wr wA1 := by rw [← hwA1]; exact bA.alloc bA.size _
            have oA1 : OwnAt wA1 wr.heap.size 32 2 Job.enc vA jobs := by rw [← hwA1]; exact oA.below (B.new1 _ _)
            have kA1 : Blk wA1 wA.heap.size (Job.enc ⟨t, true⟩).toArray 32 := by rw [← hwA1]; exact Blk.new _ _ _
            obtain ⟨vC, wC, hrC, oC, gC⟩ := run_more (P := Try.prog) (T := 23) job_len job_one 23 Try.underlying23 hiJ hzJ0 hzJ1 hzJ2 rfl (by decide) (by decide) vA jobs wr.heap.size wA.heap.size (⟨t, true⟩ : Job) wA1 oA1 hl8 kA1 bA1.size
            have bC : Below wr.heap.size wr wC := grown_below' bA1 gC (fun g e => (oA1.ge g e).1) bA1.size
            obtain ⟨wB0, hwB0⟩ : ∃ wB0, wr.drew.alloc (.cells #[.int .i64 t, .bool true] 32) = wB0 := ⟨_, rfl⟩
            have bB0 : Below wr.heap.size wr wB0 := by rw [← hwB0]; exact dr.alloc (Nat.le_of_eq hsd.symm) _
            have kB0 : Blk wB0 wr.heap.size (Job.enc ⟨t, true⟩).toArray 32 := by rw [← hwB0]; exact Blk.new1 hsd.symm _ _
            obtain ⟨vB, wB, hrB, oB, gB⟩ := run_rows (P := Try.prog) (T := 23) job_len job_one 23 Try.underlying23 hiJ hzJ0 hzJ1 hzJ2 rfl (by decide) (by decide) ja jc jobs wB0 (hrr.below bB0) hl8
            have bB : Below wr.heap.size wr wB := grown_below' bB0 gB (fun g e => by cases e) bB0.size
            have kB : Blk wB wr.heap.size (Job.enc ⟨t, true⟩).toArray 32 := (gB.block _ kB0.lt (fun e => by cases e)).trans kB0
            have oB' : OwnAt wB wr.heap.size 32 2 Job.enc vB jobs := oB.base bB0.size
            obtain ⟨vD, wD, hrD, oD, gD⟩ := run_more (P := Try.prog) (T := 23) job_len job_one 23 Try.underlying23 hiJ hzJ0 hzJ1 hzJ2 rfl (by decide) (by decide) vB jobs wr.heap.size wr.heap.size (⟨t, true⟩ : Job) wB oB' hl8 kB bB.size
            have bD : Below wr.heap.size wr wD := grown_below' bB gD (fun g e => (oB'.ge g e).1) bB.size
            obtain ⟨aC, cC, hvC, _⟩ := oC.rows
            obtain ⟨aD, cD, hvD, _⟩ := oD.rows
            rw [hvC] at hrC oC
            rw [hvD] at hrD oD
            clear hvC hvD
            have HS : Hid (∀ W, Blk W w.heap.size #[.int .i64 last, .slice sa stays.length sc, .slice ja jobs.length jc] 25 → Blk W jb #[.int .i64 t, .bool true] 32 → W.cell? ⟨w.heap.size, 0, none⟩ = some (.int .i64 last) ∧ W.cell? ⟨w.heap.size, 1, none⟩ = some (.slice sa stays.length sc) ∧ W.cell? ⟨w.heap.size, 2, none⟩ = some (.slice ja jobs.length jc) ∧ W.cell? ⟨jb, 0, none⟩ = some (.int .i64 t) ∧ W.cell? ⟨jb, 1, none⟩ = some (.bool true)) := fun W h1 h2 => ⟨h1.cell 0, h1.cell 1, h1.cell 2, h2.cell 0, h2.cell 1⟩
            have KD : Hid (Blk wr.drew w.heap.size #[.int .i64 last, .slice sa stays.length sc, .slice ja jobs.length jc] 25 ∧ Blk wr.drew jb #[.int .i64 t, .bool true] 32) := ⟨kbk.below dr, kjb.below dr⟩
            have KA : Hid (Blk wA w.heap.size #[.int .i64 last, .slice sa stays.length sc, .slice ja jobs.length jc] 25 ∧ Blk wA jb #[.int .i64 t, .bool true] 32) := ⟨kbk.below bA, kjb.below bA⟩
            have KA1 : Hid (Blk wA1 w.heap.size #[.int .i64 last, .slice sa stays.length sc, .slice ja jobs.length jc] 25 ∧ Blk wA1 jb #[.int .i64 t, .bool true] 32) := ⟨kbk.below bA1, kjb.below bA1⟩
            have KC : Hid (Blk wC w.heap.size #[.int .i64 last, .slice sa stays.length sc, .slice ja jobs.length jc] 25 ∧ Blk wC jb #[.int .i64 t, .bool true] 32) := ⟨kbk.below bC, kjb.below bC⟩
            have KB0 : Hid (Blk wB0 w.heap.size #[.int .i64 last, .slice sa stays.length sc, .slice ja jobs.length jc] 25 ∧ Blk wB0 jb #[.int .i64 t, .bool true] 32) := ⟨kbk.below bB0, kjb.below bB0⟩
            have KB : Hid (Blk wB w.heap.size #[.int .i64 last, .slice sa stays.length sc, .slice ja jobs.length jc] 25 ∧ Blk wB jb #[.int .i64 t, .bool true] 32) := ⟨kbk.below bB, kjb.below bB⟩
            have KDD : Hid (Blk wD w.heap.size #[.int .i64 last, .slice sa stays.length sc, .slice ja jobs.length jc] 25 ∧ Blk wD jb #[.int .i64 t, .bool true] 32) := ⟨kbk.below bD, kjb.below bD⟩
            have gC1 := (krs.below bC).cell
            have fC1 := (krs.below bC).free
            have gD1 := (krs.below bD).cell
            have fD1 := (krs.below bD).free
            have HRA : Hid (AppRun Try.prog 23 23 (.slice none 0 0) (.slice ja jobs.length jc) wr.drew vA wA) := hrA
            have HRB : Hid (AppRun Try.prog 23 23 (.slice none 0 0) (.slice ja jobs.length jc) wB0 vB wB) := hrB
            have HRC : Hid (AppRun Try.prog 23 23 vA (.slice (some ⟨wA.heap.size, 0, none⟩) 1 1) wA1 (.slice aC (jobs ++ [(⟨t, true⟩ : Job)]).length cC) wC) := hrC
            have HRD : Hid (AppRun Try.prog 23 23 vB (.slice (some ⟨wr.heap.size, 0, none⟩) 1 1) wB (.slice aD (jobs ++ [(⟨t, true⟩ : Job)]).length cD) wD) := hrD
            have ZC : Hid (∀ a b c : Value, PP (.returned (.tuple #[.agg #[.int .i64 last, .slice sa stays.length sc, .slice aC (jobs ++ [(⟨t, true⟩ : Job)]).length cC], .int .i64 0])) (((wC.setCell ⟨w.heap.size + 1, 0, none⟩ a).setCell ⟨w.heap.size + 1, 1, none⟩ b).setCell ⟨w.heap.size + 1, 2, none⟩ c)) := fun a b c =>
              HP.out _ _ ((((oC.set _ (by omega)).set _ (by omega)).set _ (by omega)).base (by omega)) ((((B.next bwr bC bwr.size).setCell (p := ⟨w.heap.size + 1, 0, none⟩) (Nat.le_add_right _ _) _).setCell (p := ⟨w.heap.size + 1, 1, none⟩) (Nat.le_add_right _ _) _).setCell (p := ⟨w.heap.size + 1, 2, none⟩) (Nat.le_add_right _ _) _)
            have ZD : Hid (∀ a b c : Value, PP (.returned (.tuple #[.agg #[.int .i64 last, .slice sa stays.length sc, .slice aD (jobs ++ [(⟨t, true⟩ : Job)]).length cD], .int .i64 0])) (((wD.setCell ⟨w.heap.size + 1, 0, none⟩ a).setCell ⟨w.heap.size + 1, 1, none⟩ b).setCell ⟨w.heap.size + 1, 2, none⟩ c)) := fun a b c =>
              HP.out _ _ ((((oD.set _ (by omega)).set _ (by omega)).set _ (by omega)).base (by omega)) ((((B.next bwr bD bwr.size).setCell (p := ⟨w.heap.size + 1, 0, none⟩) (Nat.le_add_right _ _) _).setCell (p := ⟨w.heap.size + 1, 1, none⟩) (Nat.le_add_right _ _) _).setCell (p := ⟨w.heap.size + 1, 2, none⟩) (Nat.le_add_right _ _) _)
            have HNJ : Hid (w.heap.size + 1 ≠ w.heap.size ∧ w.heap.size + 1 ≠ jb) := ⟨by omega, hnj⟩
            generalize (jobs ++ [(⟨t, true⟩ : Job)]).length = n1 at *
            clear hrA hrB hrC hrD oA oB oC oD gA gB gC gD bA bA1 bB bB0 bC bD oA1 oB' kA1 kB0 kB kjb kbk krs bwr hrr hiJ hzJ0 hzJ1 hzJ2 dr hsd M H1 H3 HP hnj
            go_region_held3 (fun W => W.cell? ⟨w.heap.size, 0, none⟩ = some (.int .i64 last) ∧ W.cell? ⟨w.heap.size, 1, none⟩ = some (.slice sa stays.length sc) ∧ W.cell? ⟨w.heap.size, 2, none⟩ = some (.slice ja jobs.length jc) ∧ W.cell? ⟨jb, 0, none⟩ = some (.int .i64 t) ∧ W.cell? ⟨jb, 1, none⟩ = some (.bool true)) (first | with_reducible exact HS.out _ KD.out.1 KD.out.2 | with_reducible exact HS.out _ KA.out.1 KA.out.2 | with_reducible exact HS.out _ KA1.out.1 KA1.out.2 | with_reducible exact HS.out _ KC.out.1 KC.out.2 | with_reducible exact HS.out _ KB0.out.1 KB0.out.2 | with_reducible exact HS.out _ KB.out.1 KB.out.2 | with_reducible exact HS.out _ KDD.out.1 KDD.out.2 | with_reducible exact HS.out _ (((KC.out.1.other HNJ.out.1 _ _).other HNJ.out.1 _ _).other HNJ.out.1 _ _) (((KC.out.2.other HNJ.out.2 _ _).other HNJ.out.2 _ _).other HNJ.out.2 _ _) | with_reducible exact HS.out _ (((KDD.out.1.other HNJ.out.1 _ _).other HNJ.out.1 _ _).other HNJ.out.1 _ _) (((KDD.out.2.other HNJ.out.2 _ _).other HNJ.out.2 _ _).other HNJ.out.2 _ _) | go_keep)
              (first | (refine step_of_run (by rfl) _ _ _ (by rfl) _ _ (by rfl) (by rfl) _ _ HRA.out ?_) | (refine step_of_run (by rfl) _ _ _ (by rfl) _ _ (by rfl) (by rfl) _ _ HRB.out ?_) | (refine step_of_run (by rfl) _ _ _ (by rfl) _ _ (by rfl) (by rfl) _ _ HRC.out ?_) | (refine step_of_run (by rfl) _ _ _ (by rfl) _ _ (by rfl) (by rfl) _ _ HRD.out ?_))
            · go_wp2
              (try simp only [Exit.inBlock, Exit.then])
              refine bodyPost_ret (v := .tuple #[.agg #[.int .i64 last, .slice sa stays.length sc, .slice aC n1 cC], .int .i64 0]) (by simp [results, Try.results21, go_sem, set3_0 gC1, set3_1 gC1, set3_2 gC1]; try rfl) rfl ?_
              exact ZC.out _ _ _
            · go_wp2
              (try simp only [Exit.inBlock, Exit.then])
              refine bodyPost_ret (v := .tuple #[.agg #[.int .i64 last, .slice sa stays.length sc, .slice aD n1 cD], .int .i64 0]) (by simp [results, Try.results21, go_sem, set3_0 gD1, set3_1 gD1, set3_2 gD1]; try rfl) rfl ?_
              exact ZD.out _ _ _

end Bk
end Go.Proofs.Ytihapeagjikiaaa
