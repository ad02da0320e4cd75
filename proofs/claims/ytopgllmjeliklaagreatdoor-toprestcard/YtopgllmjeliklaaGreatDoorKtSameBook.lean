/- SameBook. -/
import Derived.Test.YtopgllmjeliklaaGreatDoorKtPlantK
set_option maxRecDepth 100000
set_option linter.unusedSimpArgs false
set_option linter.unusedVariables false
namespace Go.Proofs.YtopgllmjeliklaaGreatDoor
open Go.Shelf Go.Lib Go.ChangeShapes Go.WideShapes Go.ChangeAt Go.RowKit
namespace Bk
set_option maxHeartbeats 4000000 in
theorem sameBook_any (last : Int) (stays : List Stay) (jobs : List Job) (sa ja sx jx : Option Addr) (sc jc cx dx : Nat) (w : World) (h1 : Book.At ⟨last, sa, sc, ja, jc, stays, jobs⟩ w) (h2 : Book.At ⟨last, sx, cx, jx, dx, stays, jobs⟩ w) :
  Calls Tryz.prog 22 #[.agg #[.int .i64 last, .slice sa stays.length sc, .slice ja jobs.length jc], .agg #[.int .i64 last, .slice sx stays.length cx, .slice jx jobs.length dx]] w fun e w' => e = .returned (.bool true) ∧ Below w.heap.size w w' := by
 have H1 : Hid (∀ wx, Below w.heap.size w wx → RowsAt wx sa sc 8 Stay.enc stays) := fun wx h => h1.1.below h
 have H2 : Hid (∀ wx, Below w.heap.size w wx → RowsAt wx sx cx 8 Stay.enc stays) := fun wx h => h2.1.below h
 have H3 : Hid (∀ wx, Below w.heap.size w wx → RowsAt wx ja jc 2 Job.enc jobs) := fun wx h => h1.2.below h
 have H4 : Hid (∀ wx, Below w.heap.size w wx → RowsAt wx jx dx 2 Job.enc jobs) := fun wx h => h2.2.below h
 have hm1 : sc ≤ maxLen := h1.1.2.1; have hm2 : cx ≤ maxLen := h2.1.2.1; have hm3 : jc ≤ maxLen := h1.2.2.1; have hm4 : dx ≤ maxLen := h2.2.2.1; have hn1 : stays.length ≤ sc := h1.1.1; have hn2 : stays.length ≤ cx := h2.1.1; have hn3 : jobs.length ≤ jc := h1.2.1; have hn4 : jobs.length ≤ dx := h2.2.1; unfold maxLen at hm1 hm2 hm3 hm4; obtain ⟨w0, hw0⟩ : ∃ w0, (w.alloc (.cells #[.int .i64 last, .slice sa stays.length sc, .slice ja jobs.length jc] 39)).alloc (.cells #[.int .i64 last, .slice sx stays.length cx, .slice jx jobs.length dx] 39) = w0 := ⟨_, rfl⟩
 have N0 : Hid (Below w.heap.size w w0 ∧ Blk w0 w.heap.size #[.int .i64 last, .slice sa stays.length sc, .slice ja jobs.length jc] 39 ∧ Blk w0 (w.heap.size + 1) #[.int .i64 last, .slice sx stays.length cx, .slice jx jobs.length dx] 39) := by
  show _ ∧ _ ∧ _
  rw [← hw0]; exact ⟨(B.new1 _ _).alloc (by simp) _, (Blk.new _ _ _).old _, Blk.new1 (by simp) _ _⟩
 have ra := N0.out.2.1.cell; have rb := N0.out.2.2.cell; clear h1 h2
 go_enter Tryz.func22, Tryz.ntmps22
 go_wp2_with fail; clear ra rb hw0
 go_loopg [5] stays.length (fun gg s5 wr => ∃ i : Nat, i ≤ stays.length ∧ stays.length - i ≤ gg ∧ s5 = .int .i64 i ∧ Hid (Below w.heap.size w wr ∧ Blk wr w.heap.size #[.int .i64 last, .slice sa stays.length sc, .slice ja jobs.length jc] 39 ∧ Blk wr (w.heap.size + 1) #[.int .i64 last, .slice sx stays.length cx, .slice jx jobs.length dx] 39))
 case atStart => exact ⟨0, Nat.zero_le _, by omega, rfl, N0⟩
 case round =>
  clear N0; obtain ⟨i, hi, hg, rfl, M⟩ := hrel; have ra := M.out.2.1.cell
  by_cases hlt : i < stays.length
  ·have hltz : (i : Int) < (stays.length : Int) := by omega
   obtain ⟨sb, soff, rfl⟩ := rows_some (H1.out _ M.out.1) (by omega); obtain ⟨xb, xoff, rfl⟩ := rows_some (H2.out _ M.out.1) (by omega); have b1 := fun p : BelowW wr => (M.out.2.1.below p.hb).cell 1
   have b2 := fun p : BelowW wr => (M.out.2.2.below p.hb).cell 1
   have s0 := fun p : BelowW wr => rows_cell (H1.out p.wd (B.next M.out.1 p.hb M.out.1.size)) i hlt 0 _ rfl
   have q0 := fun p : BelowW wr => rows_cell (H2.out p.wd (B.next M.out.1 p.hb M.out.1.size)) i hlt 0 _ rfl
   have s1 := fun p : BelowW wr => rows_cell (H1.out p.wd (B.next M.out.1 p.hb M.out.1.size)) i hlt 1 _ rfl
   have q1 := fun p : BelowW wr => rows_cell (H2.out p.wd (B.next M.out.1 p.hb M.out.1.size)) i hlt 1 _ rfl
   have s2 := fun p : BelowW wr => rows_cell (H1.out p.wd (B.next M.out.1 p.hb M.out.1.size)) i hlt 2 _ rfl
   have q2 := fun p : BelowW wr => rows_cell (H2.out p.wd (B.next M.out.1 p.hb M.out.1.size)) i hlt 2 _ rfl
   have s3 := fun p : BelowW wr => rows_cell (H1.out p.wd (B.next M.out.1 p.hb M.out.1.size)) i hlt 3 _ rfl
   have q3 := fun p : BelowW wr => rows_cell (H2.out p.wd (B.next M.out.1 p.hb M.out.1.size)) i hlt 3 _ rfl
   have s4 := fun p : BelowW wr => rows_cell (H1.out p.wd (B.next M.out.1 p.hb M.out.1.size)) i hlt 4 _ rfl
   have q4 := fun p : BelowW wr => rows_cell (H2.out p.wd (B.next M.out.1 p.hb M.out.1.size)) i hlt 4 _ rfl
   have s5 := fun p : BelowW wr => rows_cell (H1.out p.wd (B.next M.out.1 p.hb M.out.1.size)) i hlt 5 _ rfl
   have q5 := fun p : BelowW wr => rows_cell (H2.out p.wd (B.next M.out.1 p.hb M.out.1.size)) i hlt 5 _ rfl
   have s6 := fun p : BelowW wr => rows_cell (H1.out p.wd (B.next M.out.1 p.hb M.out.1.size)) i hlt 6 _ rfl
   have q6 := fun p : BelowW wr => rows_cell (H2.out p.wd (B.next M.out.1 p.hb M.out.1.size)) i hlt 6 _ rfl
   have s7 := fun p : BelowW wr => rows_cell (H1.out p.wd (B.next M.out.1 p.hb M.out.1.size)) i hlt 7 _ rfl
   have q7 := fun p : BelowW wr => rows_cell (H2.out p.wd (B.next M.out.1 p.hb M.out.1.size)) i hlt 7 _ rfl
   simp only [Nat.add_zero] at s0 q0; have eS := neqStay_run stays[i]!; have gS := guardStay_run; generalize stays[i]! = sv at *; go_wp2_with fail; clear ra; refine wp_region_below (by kernel_rfl) (by kernel_rfl) ?_
   repeat (go_big_quiet_step (fail))
   refine wpQuiet_nil ?_; rintro wq ⟨⟨_, NQ⟩, rfl⟩; have MQ : Hid (Below w.heap.size w wq ∧ Blk wq w.heap.size #[.int .i64 last, .slice (some ⟨sb, soff, none⟩) stays.length sc, .slice ja jobs.length jc] 39 ∧ Blk wq (w.heap.size + 1) #[.int .i64 last, .slice (some ⟨xb, xoff, none⟩) stays.length cx, .slice jx jobs.length dx] 39) := ⟨B.next M.out.1 NQ M.out.1.size, M.out.2.1.below NQ, M.out.2.2.below NQ⟩; clear s0 q0 s1 q1 s2 q2 s3 q3 s4 q4 s5 q5 s6 q6 s7 q7 b1 b2 eS gS NQ M; go_wp2
   go_roundg (stays.length - (i + 1))
   case measure => omega
   case rel => exact ⟨i + 1, by omega, by omega, by go_num, MQ⟩
  ·have hltz : ¬ (i : Int) < (stays.length : Int) := by omega
   go_wp2_with fail; clear ra hltz hlt hg hi
   go_loopg [6] jobs.length (fun gg s6 wr => ∃ i : Nat, i ≤ jobs.length ∧ jobs.length - i ≤ gg ∧ s6 = .int .i64 i ∧ Hid (Below w.heap.size w wr ∧ Blk wr w.heap.size #[.int .i64 last, .slice sa stays.length sc, .slice ja jobs.length jc] 39 ∧ Blk wr (w.heap.size + 1) #[.int .i64 last, .slice sx stays.length cx, .slice jx jobs.length dx] 39))
   case atStart => exact ⟨0, Nat.zero_le _, by omega, rfl, M⟩
   case round =>
    clear M; obtain ⟨i, hi, hg, rfl, M⟩ := hrel; have ra := M.out.2.1.cell
    by_cases hlt : i < jobs.length
    ·have hltz : (i : Int) < (jobs.length : Int) := by omega
     obtain ⟨sb, soff, rfl⟩ := rows_some (H3.out _ M.out.1) (by omega); obtain ⟨xb, xoff, rfl⟩ := rows_some (H4.out _ M.out.1) (by omega); have b1 := fun p : BelowW wr => (M.out.2.1.below p.hb).cell 2
     have b2 := fun p : BelowW wr => (M.out.2.2.below p.hb).cell 2
     have s0 := fun p : BelowW wr => rows_cell (H3.out p.wd (B.next M.out.1 p.hb M.out.1.size)) i hlt 0 _ rfl
     have s1 := fun p : BelowW wr => rows_cell (H3.out p.wd (B.next M.out.1 p.hb M.out.1.size)) i hlt 1 _ rfl
     have q0 := fun p : BelowW wr => rows_cell (H4.out p.wd (B.next M.out.1 p.hb M.out.1.size)) i hlt 0 _ rfl
     have q1 := fun p : BelowW wr => rows_cell (H4.out p.wd (B.next M.out.1 p.hb M.out.1.size)) i hlt 1 _ rfl
     simp only [Nat.add_zero] at s0 q0; have eS := neqJJ_run jobs[i]!.t jobs[i]!.t jobs[i]!.f jobs[i]!.f; have gS := eqJ_guard jobs[i]!.t jobs[i]!.t jobs[i]!.f jobs[i]!.f; generalize jobs[i]! = jv at *; rw [show (!(jv.t == jv.t && jv.f == jv.f)) = false from by simp] at eS
     go_wp2_with fail; clear ra; refine wp_region_below (by kernel_rfl) (by kernel_rfl) ?_
     repeat (go_big_quiet_step (fail))
     refine wpQuiet_nil ?_; rintro wq ⟨⟨_, NQ⟩, rfl⟩; have MQ : Hid (Below w.heap.size w wq ∧ Blk wq w.heap.size #[.int .i64 last, .slice sa stays.length sc, .slice (some ⟨sb, soff, none⟩) jobs.length jc] 39 ∧ Blk wq (w.heap.size + 1) #[.int .i64 last, .slice sx stays.length cx, .slice (some ⟨xb, xoff, none⟩) jobs.length dx] 39) := ⟨B.next M.out.1 NQ M.out.1.size, M.out.2.1.below NQ, M.out.2.2.below NQ⟩; clear s0 s1 q0 q1 b1 b2 eS gS NQ M; go_wp2
     go_roundg (jobs.length - (i + 1))
     case measure => omega
     case rel => exact ⟨i + 1, by omega, by omega, by go_num, MQ⟩
    ·have hltz : ¬ (i : Int) < (jobs.length : Int) := by omega
     go_wp2; go_returns; exact ⟨rfl, M.out.1⟩
end Bk
end Go.Proofs.YtopgllmjeliklaaGreatDoor
