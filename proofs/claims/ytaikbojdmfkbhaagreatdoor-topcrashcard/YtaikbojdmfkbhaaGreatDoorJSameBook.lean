/- The document's books: two that are the same; contract for the laws. -/
import Derived.Test.YtaikbojdmfkbhaaGreatDoorDone
import Derived.Test.YtaikbojdmfkbhaaGreatDoorTopOverA
namespace Go.Proofs.YtaikbojdmfkbhaaGreatDoor
open Go.Shelf Go.Lib Go.ChangeShapes Go.WideShapes Go.ChangeAt Go.RowKit
set_option maxRecDepth 100000
set_option linter.unusedSimpArgs false
set_option linter.unusedVariables false

namespace Bk
set_option maxHeartbeats 4000000 in
theorem sameBook_any (last : Int) (stays : List Stay) (jobs : List Job) (sa ja sx jx : Option Addr) (sc jc cx dx : Nat) (w : World) (h1 : Book.At ⟨last, sa, sc, ja, jc, stays, jobs⟩ w) (h2 : Book.At ⟨last, sx, cx, jx, dx, stays, jobs⟩ w) :
    Calls Tryz.prog 23 #[.agg #[.int .i64 last, .slice sa stays.length sc, .slice ja jobs.length jc], .agg #[.int .i64 last, .slice sx stays.length cx, .slice jx jobs.length dx]] w fun e w' => e = .returned (.bool true) ∧ Below w.heap.size w w' := by
  have H1 : Hid (∀ wx, Below w.heap.size w wx → RowsAt wx sa sc 8 Stay.enc stays) := fun wx h => h1.1.below h
  have H2 : Hid (∀ wx, Below w.heap.size w wx → RowsAt wx sx cx 8 Stay.enc stays) := fun wx h => h2.1.below h
  have H3 : Hid (∀ wx, Below w.heap.size w wx → RowsAt wx ja jc 2 Job.enc jobs) := fun wx h => h1.2.below h
  have H4 : Hid (∀ wx, Below w.heap.size w wx → RowsAt wx jx dx 2 Job.enc jobs) := fun wx h => h2.2.below h
  have hm1 : sc ≤ maxLen := h1.1.2.1
  have hm2 : cx ≤ maxLen := h2.1.2.1
  have hm3 : jc ≤ maxLen := h1.2.2.1
  have hm4 : dx ≤ maxLen := h2.2.2.1
  have hn1 : stays.length ≤ sc := h1.1.1
  have hn2 : stays.length ≤ cx := h2.1.1
  have hn3 : jobs.length ≤ jc := h1.2.1
  have hn4 : jobs.length ≤ dx := h2.2.1
  unfold maxLen at hm1 hm2 hm3 hm4
  obtain ⟨w0, hw0⟩ : ∃ w0, (w.alloc (.cells #[.int .i64 last, .slice sa stays.length sc, .slice ja jobs.length jc] 38)).alloc (.cells #[.int .i64 last, .slice sx stays.length cx, .slice jx jobs.length dx] 38) = w0 := ⟨_, rfl⟩
  have N0 : Hid (Below w.heap.size w w0 ∧ Blk w0 w.heap.size #[.int .i64 last, .slice sa stays.length sc, .slice ja jobs.length jc] 38 ∧ Blk w0 (w.heap.size + 1) #[.int .i64 last, .slice sx stays.length cx, .slice jx jobs.length dx] 38) := by
    show _ ∧ _ ∧ _
    rw [← hw0]
    exact ⟨(B.new1 _ _).alloc (by simp) _, (Blk.new _ _ _).old _, Blk.new1 (by simp) _ _⟩
  have ra := N0.out.2.1.cell
  have rb := N0.out.2.2.cell
  clear h1 h2
  go_enter Tryz.func23, Tryz.ntmps23
  go_wp2_with fail
  clear ra rb hw0
  go_loopg [5] stays.length (fun gg s5 wr => ∃ i : Nat, i ≤ stays.length ∧ stays.length - i ≤ gg ∧ s5 = .int .i64 i ∧ Hid (Below w.heap.size w wr ∧ Blk wr w.heap.size #[.int .i64 last, .slice sa stays.length sc, .slice ja jobs.length jc] 38 ∧ Blk wr (w.heap.size + 1) #[.int .i64 last, .slice sx stays.length cx, .slice jx jobs.length dx] 38))
  case atStart => exact ⟨0, Nat.zero_le _, by omega, rfl, N0⟩
  case round =>
    clear N0
    obtain ⟨i, hi, hg, rfl, M⟩ := hrel
    have ra := M.out.2.1.cell
    by_cases hlt : i < stays.length
    · have hltz : (i : Int) < (stays.length : Int) := by omega
      obtain ⟨sb, soff, rfl⟩ := rows_some (H1.out _ M.out.1) (by omega)
      obtain ⟨xb, xoff, rfl⟩ := rows_some (H2.out _ M.out.1) (by omega)
      have b1 := fun p : BelowW wr => (M.out.2.1.below p.hb).cell 1
      have b2 := fun p : BelowW wr => (M.out.2.2.below p.hb).cell 1
      have s0 := fun p : BelowW wr => rows_cell (H1.out p.wd (B.next M.out.1 p.hb M.out.1.size)) i hlt 0 _ rfl
      have q0 := fun p : BelowW wr => rows_cell (H2.out p.wd (B.next M.out.1 p.hb M.out.1.size)) i hlt 0 _ rfl
      have s1 := fun p : BelowW wr => rows_cell (H1.out p.wd (B.next M.out.1 p.hb M.out.1.size)) i hlt 1 _ rfl
      have q1 := fun p : BelowW wr => rows_cell (H2.out p.wd (B.next M.out.1 p.hb M.out.1.size)) i hlt 1 _ rfl
      have s2 := fun p : BelowW wr => rows_cell (H1.out p.wd (B.next M.out.1 p.hb M.out.1.size)) i hlt 2 _ rfl
      have q2 := fun p : BelowW wr => rows_cell (H2.out p.wd (B.next M.out.1 p.hb M.out.1.size)) i hlt 2 _ rfl
      have s3 := fun p : BelowW wr => rows_cell (H1.out p.wd (B.next M.out.1 p.hb M.out.1.size)) i hlt 3 _ rfl
      have q3 := fun p : BelowW wr => rows_cell (H2.out p.wd (B.next M.out.1 p.hb M.out.1.size)) i hlt 3 _ rfl
      have s4 := fun p : BelowW wr => rows_cell (H1.out p.wd (B.next M.out.1 p.hb M.out.1.size)) i hlt 4 _ rfl
      have q4 := fun p : BelowW wr => rows_cell (H2.out p.wd (B.next M.out.1 p.hb M.out.1.size)) i hlt 4 _ rfl
      have s5 := fun p : BelowW wr => rows_cell (H1.out p.wd (B.next M.out.1 p.hb M.out.1.size)) i hlt 5 _ rfl
      have q5 := fun p : BelowW wr => rows_cell (H2.out p.wd (B.next M.out.1 p.hb M.out.1.size)) i hlt 5 _ rfl
      have s6 := fun p : BelowW wr => rows_cell (H1.out p.wd (B.next M.out.1 p.hb M.out.1.size)) i hlt 6 _ rfl
      have q6 := fun p : BelowW wr => rows_cell (H2.out p.wd (B.next M.out.1 p.hb M.out.1.size)) i hlt 6 _ rfl
      have s7 := fun p : BelowW wr => rows_cell (H1.out p.wd (B.next M.out.1 p.hb M.out.1.size)) i hlt 7 _ rfl
      have q7 := fun p : BelowW wr => rows_cell (H2.out p.wd (B.next M.out.1 p.hb M.out.1.size)) i hlt 7 _ rfl
      simp only [Nat.add_zero] at s0 q0
      have eS := neqStay_run stays[i]!
      have gS := guardStay_run
      generalize stays[i]! = sv at *
      go_wp2_with fail
      clear ra
      refine wp_region_below (by kernel_rfl) (by kernel_rfl) ?_
      repeat (go_big_quiet_step (fail))
      refine wpQuiet_nil ?_
      rintro wq ⟨⟨_, NQ⟩, rfl⟩
      have MQ : Hid (Below w.heap.size w wq ∧ Blk wq w.heap.size #[.int .i64 last, .slice (some ⟨sb, soff, none⟩) stays.length sc, .slice ja jobs.length jc] 38 ∧ Blk wq (w.heap.size + 1) #[.int .i64 last, .slice (some ⟨xb, xoff, none⟩) stays.length cx, .slice jx jobs.length dx] 38) := ⟨B.next M.out.1 NQ M.out.1.size, M.out.2.1.below NQ, M.out.2.2.below NQ⟩
      clear s0 q0 s1 q1 s2 q2 s3 q3 s4 q4 s5 q5 s6 q6 s7 q7 b1 b2 eS gS NQ M
      go_wp2
      go_roundg (stays.length - (i + 1))
      case measure => omega
      case rel => exact ⟨i + 1, by omega, by omega, by go_num, MQ⟩
    · have hltz : ¬ (i : Int) < (stays.length : Int) := by omega
      go_wp2_with fail
      clear ra hltz hlt hg hi
      go_loopg [6] jobs.length (fun gg s6 wr => ∃ i : Nat, i ≤ jobs.length ∧ jobs.length - i ≤ gg ∧ s6 = .int .i64 i ∧ Hid (Below w.heap.size w wr ∧ Blk wr w.heap.size #[.int .i64 last, .slice sa stays.length sc, .slice ja jobs.length jc] 38 ∧ Blk wr (w.heap.size + 1) #[.int .i64 last, .slice sx stays.length cx, .slice jx jobs.length dx] 38))
      case atStart => exact ⟨0, Nat.zero_le _, by omega, rfl, M⟩
      case round =>
        clear M
        obtain ⟨i, hi, hg, rfl, M⟩ := hrel
        have ra := M.out.2.1.cell
        by_cases hlt : i < jobs.length
        · have hltz : (i : Int) < (jobs.length : Int) := by omega
          obtain ⟨sb, soff, rfl⟩ := rows_some (H3.out _ M.out.1) (by omega)
          obtain ⟨xb, xoff, rfl⟩ := rows_some (H4.out _ M.out.1) (by omega)
          have b1 := fun p : BelowW wr => (M.out.2.1.below p.hb).cell 2
          have b2 := fun p : BelowW wr => (M.out.2.2.below p.hb).cell 2
          have s0 := fun p : BelowW wr => rows_cell (H3.out p.wd (B.next M.out.1 p.hb M.out.1.size)) i hlt 0 _ rfl
          have s1 := fun p : BelowW wr => rows_cell (H3.out p.wd (B.next M.out.1 p.hb M.out.1.size)) i hlt 1 _ rfl
          have q0 := fun p : BelowW wr => rows_cell (H4.out p.wd (B.next M.out.1 p.hb M.out.1.size)) i hlt 0 _ rfl
          have q1 := fun p : BelowW wr => rows_cell (H4.out p.wd (B.next M.out.1 p.hb M.out.1.size)) i hlt 1 _ rfl
          simp only [Nat.add_zero] at s0 q0
          have eS := neqJJ_run jobs[i]!.t jobs[i]!.t jobs[i]!.f jobs[i]!.f
          have gS := eqJ_guard jobs[i]!.t jobs[i]!.t jobs[i]!.f jobs[i]!.f
          generalize jobs[i]! = jv at *
          rw [show (!(jv.t == jv.t && jv.f == jv.f)) = false from by simp] at eS
          go_wp2_with fail
          clear ra
          refine wp_region_below (by kernel_rfl) (by kernel_rfl) ?_
          repeat (go_big_quiet_step (fail))
          refine wpQuiet_nil ?_
          rintro wq ⟨⟨_, NQ⟩, rfl⟩
          have MQ : Hid (Below w.heap.size w wq ∧ Blk wq w.heap.size #[.int .i64 last, .slice sa stays.length sc, .slice (some ⟨sb, soff, none⟩) jobs.length jc] 38 ∧ Blk wq (w.heap.size + 1) #[.int .i64 last, .slice sx stays.length cx, .slice (some ⟨xb, xoff, none⟩) jobs.length dx] 38) := ⟨B.next M.out.1 NQ M.out.1.size, M.out.2.1.below NQ, M.out.2.2.below NQ⟩
          clear s0 s1 q0 q1 b1 b2 eS gS NQ M
          go_wp2
          go_roundg (jobs.length - (i + 1))
          case measure => omega
          case rel => exact ⟨i + 1, by omega, by omega, by go_num, MQ⟩
        · have hltz : ¬ (i : Int) < (jobs.length : Int) := by omega
          go_wp2
          go_returns
          exact ⟨rfl, M.out.1⟩

end Bk
end Go.Proofs.YtaikbojdmfkbhaaGreatDoor

namespace Go.Proofs.YtaikbojdmfkbhaaGreatDoor
open Go.Shelf Go.Lib Go.ChangeShapes Go.WideShapes Go.ChangeAt Go.RowKit
set_option maxRecDepth 100000
set_option linter.unusedSimpArgs false
set_option linter.unusedVariables false

namespace Bk
theorem eqIn3g (T : TypeId) (d : Nat) (a b c x y z : Int) (w : World) (hS : Tryz.prog.underlying T = some (.struct (Tryz.prog.fieldsOf T))) (hp : Tryz.prog.stoodInHeld T = false) (hc : Tryz.prog.fieldsOf T = Tryz.prog.fieldsOf 82 ∨ Tryz.prog.fieldsOf T = Tryz.prog.fieldsOf 40) :
    Sem.run Tryz.prog (Op.equalIn (d + 2) T (.agg #[.int .i64 a, .int .i64 b, .int .i64 c]) (.agg #[.int .i64 x, .int .i64 y, .int .i64 z])) w = .ok (a == x && b == y && c == z) w := by
  have u3 := Tryz.underlying3
  have a3 := Tryz.isAgg3
  have z3 := Tryz.sizeOf3
  rw [show d + 2 = (d + 1) + 1 from rfl, run_equalIn_agg w (d + 1) T _ _ hS hp]
  rcases hc with hc | hc
  · rw [hc]
    simp only [Program.fieldsOf, Tryz.underlying82]
    go_simp
    by_cases h1 : a = x <;> by_cases h2 : b = y <;> by_cases h3 : c = z <;> simp [h1, h2, h3]
  · rw [hc]
    simp only [Program.fieldsOf, Tryz.underlying40]
    go_simp
    by_cases h1 : a = x <;> by_cases h2 : b = y <;> by_cases h3 : c = z <;> simp [h1, h2, h3]
theorem neqStay_ex (s r : Stay) : ∃ q : Bool, ∀ w, Sem.run Tryz.prog (binOp .neq 84 (.agg #[.int .i64 s.t, .int .i64 s.id, .int .i64 s.a, .int .i64 s.b, .int .i64 s.c, .int .i64 s.x, .int .i64 s.y, .int .i64 s.z]) (.agg #[.int .i64 r.t, .int .i64 r.id, .int .i64 r.a, .int .i64 r.b, .int .i64 r.c, .int .i64 r.x, .int .i64 r.y, .int .i64 r.z])) w = .ok (.bool q) w := by
  obtain ⟨t, id, a, b, c, x, y, z⟩ := s
  obtain ⟨t', id', a', b', c', x', y', z'⟩ := r
  have u3 := Tryz.underlying3
  have a3 := Tryz.isAgg3
  have z3 := Tryz.sizeOf3
  have hS : Tryz.prog.underlying 84 = some (.struct (Tryz.prog.fieldsOf 84)) := by kernel_rfl
  have hp : Tryz.prog.stoodInHeld 84 = false := by kernel_rfl
  have hS2 : Tryz.prog.underlying 42 = some (.struct (Tryz.prog.fieldsOf 42)) := by kernel_rfl
  have hp2 : Tryz.prog.stoodInHeld 42 = false := by kernel_rfl
  have e1 : ∀ (w : World), Sem.run Tryz.prog (Op.equalIn 9998 40 (.agg #[.int .i64 a, .int .i64 b, .int .i64 c]) (.agg #[.int .i64 a', .int .i64 b', .int .i64 c'])) w = .ok (a == a' && b == b' && c == c') w := fun w => eqIn3g 40 9996 a b c a' b' c' w (by kernel_rfl) (by kernel_rfl) (Or.inr rfl)
  have e2 : ∀ (w : World), Sem.run Tryz.prog (Op.equalIn 9999 82 (.agg #[.int .i64 x, .int .i64 y, .int .i64 z]) (.agg #[.int .i64 x', .int .i64 y', .int .i64 z'])) w = .ok (x == x' && y == y' && z == z') w := fun w => eqIn3g 82 9997 x y z x' y' z' w (by kernel_rfl) (by kernel_rfl) (Or.inl rfl)
  generalize (a == a' && b == b' && c == c') = q1 at *
  generalize (x == x' && y == y' && z == z') = q2 at *
  have aC := Tryz.isAgg42
  have zC := Tryz.sizeOf42
  have aP := Tryz.isAgg82
  have zP := Tryz.sizeOf82
  have aZ := Tryz.isAgg40
  have zZ := Tryz.sizeOf40
  have e3 : ∀ w, Sem.run Tryz.prog (Op.equalIn 9999 42 (.agg #[.int .i64 id, .int .i64 a, .int .i64 b, .int .i64 c]) (.agg #[.int .i64 id', .int .i64 a', .int .i64 b', .int .i64 c'])) w = .ok (id == id' && q1) w := by
    intro w
    rw [show (9999 : Nat) = 9998 + 1 from rfl, run_equalIn_agg w 9998 42 _ _ hS2 hp2]
    simp only [Program.fieldsOf, Tryz.underlying42]
    clear e2
    go_simp
    by_cases h1 : id = id' <;> cases q1 <;> simp [h1]
  refine ⟨!(t == t' && (id == id' && q1) && q2), fun w => ?_⟩
  generalize (id == id' && q1) = q3 at *
  rw [run_neq_struct, show (10000 : Nat) = 9999 + 1 from rfl, run_equalIn_agg w 9999 84 _ _ hS hp]
  simp only [Program.fieldsOf, Tryz.underlying84]
  clear e1 hS hp hS2 hp2
  go_simp
  by_cases h1 : t = t' <;> cases q3 <;> cases q2 <;> simp [h1]

set_option maxHeartbeats 4000000 in
theorem sameBook_ex (l1 l2 : Int) (stays stays2 : List Stay) (jobs jobs2 : List Job) (sa ja sx jx : Option Addr) (sc jc cx dx : Nat) (w : World) (h1 : Book.At ⟨l1, sa, sc, ja, jc, stays, jobs⟩ w) (h2 : Book.At ⟨l2, sx, cx, jx, dx, stays2, jobs2⟩ w) :
    Calls Tryz.prog 23 #[.agg #[.int .i64 l1, .slice sa stays.length sc, .slice ja jobs.length jc], .agg #[.int .i64 l2, .slice sx stays2.length cx, .slice jx jobs2.length dx]] w fun e w' => (∃ q : Bool, e = .returned (.bool q)) ∧ Below w.heap.size w w' := by
  have H1 : Hid (∀ wx, Below w.heap.size w wx → RowsAt wx sa sc 8 Stay.enc stays) := fun wx h => h1.1.below h
  have H2 : Hid (∀ wx, Below w.heap.size w wx → RowsAt wx sx cx 8 Stay.enc stays2) := fun wx h => h2.1.below h
  have H3 : Hid (∀ wx, Below w.heap.size w wx → RowsAt wx ja jc 2 Job.enc jobs) := fun wx h => h1.2.below h
  have H4 : Hid (∀ wx, Below w.heap.size w wx → RowsAt wx jx dx 2 Job.enc jobs2) := fun wx h => h2.2.below h
  have hm1 : sc ≤ maxLen := h1.1.2.1
  have hm2 : cx ≤ maxLen := h2.1.2.1
  have hm3 : jc ≤ maxLen := h1.2.2.1
  have hm4 : dx ≤ maxLen := h2.2.2.1
  have hn1 : stays.length ≤ sc := h1.1.1
  have hn2 : stays2.length ≤ cx := h2.1.1
  have hn3 : jobs.length ≤ jc := h1.2.1
  have hn4 : jobs2.length ≤ dx := h2.2.1
  unfold maxLen at hm1 hm2 hm3 hm4
  generalize hPP : (fun (e : Ending) (w' : World) => (∃ q : Bool, e = .returned (.bool q)) ∧ Below w.heap.size w w') = PP
  have HP : Hid (∀ (q : Bool) w', Below w.heap.size w w' → PP (.returned (.bool q)) w') := fun q w' hb => by rw [← hPP]; exact ⟨⟨q, rfl⟩, hb⟩
  clear hPP
  obtain ⟨w0, hw0⟩ : ∃ w0, (w.alloc (.cells #[.int .i64 l1, .slice sa stays.length sc, .slice ja jobs.length jc] 38)).alloc (.cells #[.int .i64 l2, .slice sx stays2.length cx, .slice jx jobs2.length dx] 38) = w0 := ⟨_, rfl⟩
  have N0 : Hid (Below w.heap.size w w0 ∧ Blk w0 w.heap.size #[.int .i64 l1, .slice sa stays.length sc, .slice ja jobs.length jc] 38 ∧ Blk w0 (w.heap.size + 1) #[.int .i64 l2, .slice sx stays2.length cx, .slice jx jobs2.length dx] 38) := by
    show _ ∧ _ ∧ _
    rw [← hw0]
    exact ⟨(B.new1 _ _).alloc (by simp) _, (Blk.new _ _ _).old _, Blk.new1 (by simp) _ _⟩
  have ra := N0.out.2.1.cell
  have rb := N0.out.2.2.cell
  clear h1 h2
  have HF0 : Hid (PP (.returned (.bool false)) w0) := HP.out false _ N0.out.1
  go_enter Tryz.func23, Tryz.ntmps23
  by_cases g1 : l1 = l2
  case neg =>
    clear H1 H2 H3 H4
    go_wp2
    exact HF0.out
  subst g1
  by_cases g2 : stays.length = stays2.length
  case neg =>
    have g2z : ¬ ((stays.length : Int) = stays2.length) := by omega
    clear H1 H2 H3 H4
    go_wp2
    exact HF0.out
  generalize hl2 : stays2.length = m2 at *
  subst g2
  by_cases g3 : jobs.length = jobs2.length
  case neg =>
    have g3b : ((jobs.length : Int) != (jobs2.length : Int)) = true := by
      rw [bne_iff_ne]
      omega
    clear H1 H2 H3 H4
    go_wp2
    exact HF0.out
  generalize hl3 : jobs2.length = m3 at *
  subst g3
  clear HF0
  go_wp2_with fail
  clear ra rb hw0
  go_loopg [5] stays.length (fun gg s5 wr => ∃ i : Nat, i ≤ stays.length ∧ stays.length - i ≤ gg ∧ s5 = .int .i64 i ∧ Hid (Below w.heap.size w wr ∧ Blk wr w.heap.size #[.int .i64 l1, .slice sa stays.length sc, .slice ja jobs.length jc] 38 ∧ Blk wr (w.heap.size + 1) #[.int .i64 l1, .slice sx stays.length cx, .slice jx jobs.length dx] 38))
  case atStart => exact ⟨0, Nat.zero_le _, by omega, rfl, N0⟩
  case round =>
    clear N0
    obtain ⟨i, hi, hg, rfl, M⟩ := hrel
    have ra := M.out.2.1.cell
    by_cases hlt : i < stays.length
    · have hltz : (i : Int) < (stays.length : Int) := by omega
      have hlt2 : i < stays2.length := by omega
      obtain ⟨sb, soff, rfl⟩ := rows_some (H1.out _ M.out.1) (by omega)
      obtain ⟨xb, xoff, rfl⟩ := rows_some (H2.out _ M.out.1) (by omega)
      have b1 := fun p : BelowW wr => (M.out.2.1.below p.hb).cell 1
      have b2 := fun p : BelowW wr => (M.out.2.2.below p.hb).cell 1
      have s0 := fun p : BelowW wr => rows_cell (H1.out p.wd (B.next M.out.1 p.hb M.out.1.size)) i hlt 0 _ rfl
      have q0 := fun p : BelowW wr => rows_cell (H2.out p.wd (B.next M.out.1 p.hb M.out.1.size)) i hlt2 0 _ rfl
      have s1 := fun p : BelowW wr => rows_cell (H1.out p.wd (B.next M.out.1 p.hb M.out.1.size)) i hlt 1 _ rfl
      have q1 := fun p : BelowW wr => rows_cell (H2.out p.wd (B.next M.out.1 p.hb M.out.1.size)) i hlt2 1 _ rfl
      have s2 := fun p : BelowW wr => rows_cell (H1.out p.wd (B.next M.out.1 p.hb M.out.1.size)) i hlt 2 _ rfl
      have q2 := fun p : BelowW wr => rows_cell (H2.out p.wd (B.next M.out.1 p.hb M.out.1.size)) i hlt2 2 _ rfl
      have s3 := fun p : BelowW wr => rows_cell (H1.out p.wd (B.next M.out.1 p.hb M.out.1.size)) i hlt 3 _ rfl
      have q3 := fun p : BelowW wr => rows_cell (H2.out p.wd (B.next M.out.1 p.hb M.out.1.size)) i hlt2 3 _ rfl
      have s4 := fun p : BelowW wr => rows_cell (H1.out p.wd (B.next M.out.1 p.hb M.out.1.size)) i hlt 4 _ rfl
      have q4 := fun p : BelowW wr => rows_cell (H2.out p.wd (B.next M.out.1 p.hb M.out.1.size)) i hlt2 4 _ rfl
      have s5 := fun p : BelowW wr => rows_cell (H1.out p.wd (B.next M.out.1 p.hb M.out.1.size)) i hlt 5 _ rfl
      have q5 := fun p : BelowW wr => rows_cell (H2.out p.wd (B.next M.out.1 p.hb M.out.1.size)) i hlt2 5 _ rfl
      have s6 := fun p : BelowW wr => rows_cell (H1.out p.wd (B.next M.out.1 p.hb M.out.1.size)) i hlt 6 _ rfl
      have q6 := fun p : BelowW wr => rows_cell (H2.out p.wd (B.next M.out.1 p.hb M.out.1.size)) i hlt2 6 _ rfl
      have s7 := fun p : BelowW wr => rows_cell (H1.out p.wd (B.next M.out.1 p.hb M.out.1.size)) i hlt 7 _ rfl
      have q7 := fun p : BelowW wr => rows_cell (H2.out p.wd (B.next M.out.1 p.hb M.out.1.size)) i hlt2 7 _ rfl
      simp only [Nat.add_zero] at s0 q0
      obtain ⟨qq, eS⟩ := neqStay_ex stays[i]! stays2[i]!
      have gS := guardStay_run
      generalize stays[i]! = sv at *
      generalize stays2[i]! = sv2 at *
      go_wp2_with fail
      clear ra
      refine wp_region_below (by kernel_rfl) (by kernel_rfl) ?_
      repeat (go_big_quiet_step (fail))
      refine wpQuiet_nil ?_
      rintro wq ⟨⟨_, NQ⟩, rfl⟩
      have MQ : Hid (Below w.heap.size w wq ∧ Blk wq w.heap.size #[.int .i64 l1, .slice (some ⟨sb, soff, none⟩) stays.length sc, .slice ja jobs.length jc] 38 ∧ Blk wq (w.heap.size + 1) #[.int .i64 l1, .slice (some ⟨xb, xoff, none⟩) stays.length cx, .slice jx jobs.length dx] 38) := ⟨B.next M.out.1 NQ M.out.1.size, M.out.2.1.below NQ, M.out.2.2.below NQ⟩
      have HFQ : Hid (PP (.returned (.bool false)) wq) := HP.out false _ MQ.out.1
      clear s0 q0 s1 q1 s2 q2 s3 q3 s4 q4 s5 q5 s6 q6 s7 q7 b1 b2 eS gS NQ M
      cases qq
      · go_wp2
        go_roundg (stays.length - (i + 1))
        case measure => omega
        case rel => exact ⟨i + 1, by omega, by omega, by go_num, MQ⟩
      · go_wp2
        exact HFQ.out
    · have hltz : ¬ (i : Int) < (stays.length : Int) := by omega
      go_wp2_with fail
      clear ra hltz hlt hg hi
      go_loopg [6] jobs.length (fun gg s6 wr => ∃ i : Nat, i ≤ jobs.length ∧ jobs.length - i ≤ gg ∧ s6 = .int .i64 i ∧ Hid (Below w.heap.size w wr ∧ Blk wr w.heap.size #[.int .i64 l1, .slice sa stays.length sc, .slice ja jobs.length jc] 38 ∧ Blk wr (w.heap.size + 1) #[.int .i64 l1, .slice sx stays.length cx, .slice jx jobs.length dx] 38))
      case atStart => exact ⟨0, Nat.zero_le _, by omega, rfl, M⟩
      case round =>
        clear M
        obtain ⟨i, hi, hg, rfl, M⟩ := hrel
        have ra := M.out.2.1.cell
        by_cases hlt : i < jobs.length
        · have hltz : (i : Int) < (jobs.length : Int) := by omega
          have hlt2 : i < jobs2.length := by omega
          obtain ⟨sb, soff, rfl⟩ := rows_some (H3.out _ M.out.1) (by omega)
          obtain ⟨xb, xoff, rfl⟩ := rows_some (H4.out _ M.out.1) (by omega)
          have b1 := fun p : BelowW wr => (M.out.2.1.below p.hb).cell 2
          have b2 := fun p : BelowW wr => (M.out.2.2.below p.hb).cell 2
          have s0 := fun p : BelowW wr => rows_cell (H3.out p.wd (B.next M.out.1 p.hb M.out.1.size)) i hlt 0 _ rfl
          have s1 := fun p : BelowW wr => rows_cell (H3.out p.wd (B.next M.out.1 p.hb M.out.1.size)) i hlt 1 _ rfl
          have q0 := fun p : BelowW wr => rows_cell (H4.out p.wd (B.next M.out.1 p.hb M.out.1.size)) i hlt2 0 _ rfl
          have q1 := fun p : BelowW wr => rows_cell (H4.out p.wd (B.next M.out.1 p.hb M.out.1.size)) i hlt2 1 _ rfl
          simp only [Nat.add_zero] at s0 q0
          have eS := neqJJ_run jobs[i]!.t jobs2[i]!.t jobs[i]!.f jobs2[i]!.f
          have gS := eqJ_guard jobs[i]!.t jobs2[i]!.t jobs[i]!.f jobs2[i]!.f
          generalize (!(jobs[i]!.t == jobs2[i]!.t && jobs[i]!.f == jobs2[i]!.f)) = qq at *
          generalize jobs[i]! = jv at *
          generalize jobs2[i]! = jv2 at *
          go_wp2_with fail
          clear ra
          refine wp_region_below (by kernel_rfl) (by kernel_rfl) ?_
          repeat (go_big_quiet_step (fail))
          refine wpQuiet_nil ?_
          rintro wq ⟨⟨_, NQ⟩, rfl⟩
          have MQ : Hid (Below w.heap.size w wq ∧ Blk wq w.heap.size #[.int .i64 l1, .slice sa stays.length sc, .slice (some ⟨sb, soff, none⟩) jobs.length jc] 38 ∧ Blk wq (w.heap.size + 1) #[.int .i64 l1, .slice sx stays.length cx, .slice (some ⟨xb, xoff, none⟩) jobs.length dx] 38) := ⟨B.next M.out.1 NQ M.out.1.size, M.out.2.1.below NQ, M.out.2.2.below NQ⟩
          have HFQ : Hid (PP (.returned (.bool false)) wq) := HP.out false _ MQ.out.1
          clear s0 s1 q0 q1 b1 b2 eS gS NQ M
          cases qq
          · go_wp2
            go_roundg (jobs.length - (i + 1))
            case measure => omega
            case rel => exact ⟨i + 1, by omega, by omega, by go_num, MQ⟩
          · go_wp2
            exact HFQ.out
        · have hltz : ¬ (i : Int) < (jobs.length : Int) := by omega
          have HFQ : Hid (PP (.returned (.bool true)) wr) := HP.out true _ M.out.1
          go_wp2
          exact HFQ.out

end Bk
end Go.Proofs.YtaikbojdmfkbhaaGreatDoor
