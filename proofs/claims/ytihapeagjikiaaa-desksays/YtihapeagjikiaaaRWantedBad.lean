/- The document's Wanted (E5), where it answers an error; contract for the laws. -/
import Derived.Test.YtihapeagjikiaaaWant
import Derived.Test.YtihapeagjikiaaaTopOverA
namespace Go.Proofs.Ytihapeagjikiaaa
open Go.Shelf Go.Lib Go.ChangeShapes Go.WideShapes Go.ChangeAt Go.RowKit
set_option maxRecDepth 100000
set_option linter.unusedSimpArgs false
set_option linter.unusedVariables false

namespace Bk
theorem no_job (l : List Job) (t : Int) (h : ∀ i, i < l.length → (l[i]!.t == t && l[i]!.f == true) = false) : hasJob l ⟨t, true⟩ = false := by
  unfold hasJob
  rw [Bool.eq_false_iff]
  intro e
  rw [List.any_eq_true] at e
  obtain ⟨x, hx, e⟩ := e
  obtain ⟨i, hi, rfl⟩ := List.getElem_of_mem hx
  have := h i hi
  rw [getElem!_pos l i hi] at this
  simp at e this
  exact absurd e.2 (by rw [this e.1.symm]; decide)
theorem a_job (l : List Job) (t : Int) (i : Nat) (hi : i < l.length) (h : (l[i]!.t == t && l[i]!.f == true) = true) : hasJob l ⟨t, true⟩ = true := by
  unfold hasJob
  rw [List.any_eq_true]
  rw [getElem!_pos l i hi] at h
  refine ⟨l[i], List.getElem_mem hi, ?_⟩
  simp at h
  simp [h.1, h.2]

/-- What Wanted answers where it answers an error. -/
def RWantedPost (b : Book) (t : Int) (w : World) (e : Ending) (w' : World) : Prop :=
  e = .returned (.tuple #[.agg #[.int .i64 0, .slice none 0 0, .slice none 0 0], .int .i64 (wantN b t)]) ∧ Below w.heap.size w w'

set_option maxHeartbeats 4000000 in
theorem rwanted_bad (b : Book) (t : Int) (w : World) (hb : b.At w) (hj8 : b.jobs.length ≤ 8) (hbad : wantN b t ≠ 0) :
    Calls Try.prog 21 #[b.val, .int .i64 t] w (RWantedPost b t w) := by
  obtain ⟨last, sa, sc, ja, jc, stays, jobs⟩ := b
  simp only [Book.val] at *
  have H1 : Hid (∀ wx, Below w.heap.size w wx → RowsAt wx sa sc 8 Stay.enc stays) := fun wx h => hb.1.below h
  have H3 : Hid (∀ wx, Below w.heap.size w wx → RowsAt wx ja jc 2 Job.enc jobs) := fun wx h => hb.2.below h
  have hm1 : sc ≤ maxLen := hb.1.2.1
  have hn1 : stays.length ≤ sc := hb.1.1
  have hm3 : jc ≤ maxLen := hb.2.2.1
  have hn3 : jobs.length ≤ jc := hb.2.1
  unfold maxLen at hm1 hm3
  have hf : (findI ⟨last, sa, sc, ja, jc, stays, jobs⟩ t < 0) = (stays.any (fun s => s.t == t) = false) := by
    have := stayIdx_nonneg (fun s : Stay => s.t == t) stays
    rw [← this]
    show (stayIdx _ _ < 0) = _
    simp
  have KP : Hid (wantN ⟨last, sa, sc, ja, jc, stays, jobs⟩ t = if stays.any (fun s => s.t == t) = false then 5 else if hasJob jobs ⟨t, true⟩ then 6 else if 8 ≤ jobs.length then 8 else 0) := by
    show _ = _
    unfold wantN
    simp only [hf]
  have HB : Hid (wantN ⟨last, sa, sc, ja, jc, stays, jobs⟩ t ≠ 0) := hbad
  have HP : Hid (∀ k, wantN ⟨last, sa, sc, ja, jc, stays, jobs⟩ t = k → ∀ w', Below w.heap.size w w' → RWantedPost ⟨last, sa, sc, ja, jc, stays, jobs⟩ t w (.returned (.tuple #[.agg #[.int .i64 0, .slice none 0 0, .slice none 0 0], .int .i64 k])) w') := fun k hk w' h => by subst hk; exact ⟨rfl, h⟩
  generalize RWantedPost ⟨last, sa, sc, ja, jc, stays, jobs⟩ t w = PP at *
  generalize wantN ⟨last, sa, sc, ja, jc, stays, jobs⟩ t = kk at *
  clear hf hbad
  obtain ⟨w0, hw0⟩ : ∃ w0, (w.alloc (.cells #[.int .i64 last, .slice sa stays.length sc, .slice ja jobs.length jc] 25)).alloc (.cells #[.int .i64 0, .slice none 0 0, .slice none 0 0] 25) = w0 := ⟨_, rfl⟩
  have N0 : Hid (Below w.heap.size w w0 ∧ Blk w0 w.heap.size #[.int .i64 last, .slice sa stays.length sc, .slice ja jobs.length jc] 25 ∧ Blk w0 (w.heap.size + 1) #[.int .i64 0, .slice none 0 0, .slice none 0 0] 25) := by
    show _ ∧ _ ∧ _
    rw [← hw0]
    exact ⟨(B.new1 _ _).alloc (by simp) _, (Blk.new _ _ _).old _, Blk.new1 (by simp) _ _⟩
  clear hb
  go_enter Try.func21, Try.ntmps21
  go_wp2_with fail
  clear hw0
  go_loopg [6, 7] stays.length (fun gg s6 s7 wr => ∃ (i : Nat) (q : Bool), i ≤ stays.length ∧ stays.length - i ≤ gg ∧ s7 = .int .i64 i ∧ s6 = .bool q ∧ Hid (q = (stays.take i).any (fun s => s.t == t)) ∧ Hid (Below w.heap.size w wr ∧ Blk wr w.heap.size #[.int .i64 last, .slice sa stays.length sc, .slice ja jobs.length jc] 25 ∧ Blk wr (w.heap.size + 1) #[.int .i64 0, .slice none 0 0, .slice none 0 0] 25))
  case atStart => exact ⟨0, false, Nat.zero_le _, by omega, rfl, rfl, (show Hid _ from by simp [Hid]), N0⟩
  case round =>
    clear N0
    obtain ⟨i, q, hi, hg, rfl, rfl, Q, M⟩ := hrel
    have ra := M.out.2.1.cell
    by_cases hlt : i < stays.length
    · have hltz : (i : Int) < (stays.length : Int) := by omega
      obtain ⟨sb, soff, rfl⟩ := rows_some (H1.out _ M.out.1) (by omega)
      have s0 := rows_cell (H1.out _ M.out.1) i hlt 0 _ rfl
      simp only [Nat.add_zero] at s0
      have QN : Hid ((q || stays[i]!.t == t) = (stays.take (i + 1)).any (fun s => s.t == t)) := by show _ = _; rw [any_upto _ _ _ hlt, ← Q.out]
      generalize stays[i]!.t = st at *
      clear Q
      cases q
      · go_wp2
        go_roundg (stays.length - (i + 1))
        case measure => omega
        case rel => exact ⟨i + 1, (st == t), by omega, by omega, by go_num, rfl, (by have := QN.out; simpa [Hid] using this), M⟩
      · go_wp2
        go_roundg (stays.length - (i + 1))
        case measure => omega
        case rel => exact ⟨i + 1, true, by omega, by omega, by go_num, rfl, (by have := QN.out; simpa [Hid] using this), M⟩
    · have hltz : ¬ (i : Int) < (stays.length : Int) := by omega
      have hil : i = stays.length := by omega
      have Q2 : Hid (q = stays.any (fun s => s.t == t)) := by show _ = _; rw [Q.out, hil, List.take_length]
      clear Q hil
      cases q
      · have HK : Hid (kk = 5) := by show _ = _; rw [KP.out, if_pos Q2.out.symm]
        clear KP Q2 HB
        have gg := M.out.2.2.cell
        have ff := M.out.2.2.free
        go_wp2
        (try simp only [Exit.inBlock, Exit.then])
        refine bodyPost_ret (v := .tuple #[.agg #[.int .i64 0, .slice none 0 0, .slice none 0 0], .int .i64 5]) (by simp [results, Try.results21, go_sem, set3_0 gg, set3_1 gg, set3_2 gg]; try rfl) rfl ?_
        exact HP.out 5 HK.out _ (((M.out.1.setCell (p := ⟨w.heap.size + 1, 0, none⟩) (Nat.le_add_right _ _) _).setCell (p := ⟨w.heap.size + 1, 1, none⟩) (Nat.le_add_right _ _) _).setCell (p := ⟨w.heap.size + 1, 2, none⟩) (Nat.le_add_right _ _) _)
      · have KP2 : Hid (kk = if hasJob jobs ⟨t, true⟩ then 6 else if 8 ≤ jobs.length then 8 else 0) := by show _ = _; rw [KP.out, if_neg (by rw [← Q2.out]; decide)]
        clear KP Q2
        obtain ⟨wj, hwj⟩ : ∃ wj, wr.alloc (.cells #[.int .i64 t, .bool true] 32) = wj := ⟨_, rfl⟩
        have NJ : Hid ((Below w.heap.size w wj ∧ Blk wj w.heap.size #[.int .i64 last, .slice sa stays.length sc, .slice ja jobs.length jc] 25 ∧ Blk wj (w.heap.size + 1) #[.int .i64 0, .slice none 0 0, .slice none 0 0] 25) ∧ Blk wj wr.heap.size #[.int .i64 t, .bool true] 32) := by
          show _ ∧ _
          rw [← hwj]
          exact ⟨⟨B.next M.out.1 (B.new1 _ _) M.out.1.size, M.out.2.1.old _, M.out.2.2.old _⟩, Blk.new _ _ _⟩
        clear M
        go_wp2_with fail
        clear ra hwj hltz hlt hg hi
        generalize wr.heap.size = jb at *
        go_loopg [9] jobs.length (fun gg s9 wr => ∃ i : Nat, i ≤ jobs.length ∧ jobs.length - i ≤ gg ∧ s9 = .int .i64 i ∧ Hid (∀ k, k < i → (jobs[k]!.t == t && jobs[k]!.f == true) = false) ∧ Hid ((Below w.heap.size w wr ∧ Blk wr w.heap.size #[.int .i64 last, .slice sa stays.length sc, .slice ja jobs.length jc] 25 ∧ Blk wr (w.heap.size + 1) #[.int .i64 0, .slice none 0 0, .slice none 0 0] 25) ∧ Blk wr jb #[.int .i64 t, .bool true] 32))
        case atStart => exact ⟨0, Nat.zero_le _, by omega, rfl, fun k hk => absurd hk (Nat.not_lt_zero _), NJ⟩
        case round =>
          clear NJ
          obtain ⟨i, hi, hg, rfl, A, M⟩ := hrel
          have ra := M.out.1.2.1.cell
          by_cases hlt : i < jobs.length
          · have hltz : (i : Int) < (jobs.length : Int) := by omega
            obtain ⟨sb, soff, rfl⟩ := rows_some (H3.out _ M.out.1.1) (by omega)
            have b1 := fun p : BelowW wr => (M.out.1.2.1.below p.hb).cell 2
            have j0 := fun p : BelowW wr => (M.out.2.below p.hb).cell 0
            have j1 := fun p : BelowW wr => (M.out.2.below p.hb).cell 1
            have s0 := fun p : BelowW wr => rows_cell (H3.out p.wd (B.next M.out.1.1 p.hb M.out.1.1.size)) i hlt 0 _ rfl
            have s1 := fun p : BelowW wr => rows_cell (H3.out p.wd (B.next M.out.1.1 p.hb M.out.1.1.size)) i hlt 1 _ rfl
            simp only [Nat.add_zero] at s0
            have eS := eqJ_run jobs[i]!.t t jobs[i]!.f true
            have gS := eqJ_guard jobs[i]!.t t jobs[i]!.f true
            have AF : Hid ((jobs[i]!.t == t && jobs[i]!.f == true) = true → kk = 6) := fun h => by rw [KP2.out, if_pos (a_job jobs t i hlt h)]
            have AN : Hid ((jobs[i]!.t == t && jobs[i]!.f == true) = false → ∀ k, k < i + 1 → (jobs[k]!.t == t && jobs[k]!.f == true) = false) := fun h k hk => by
              by_cases e : k < i
              · exact A.out k e
              · have : k = i := by omega
                subst this; exact h
            generalize jobs[i]! = jv at *
            obtain ⟨q, HQ⟩ : ∃ q, Hid ((jv.t == t && jv.f == true) = q) := ⟨_, rfl⟩
            rw [HQ.out] at eS AF AN
            clear HQ A
            go_wp2_with fail
            clear ra
            refine wp_region_below (by kernel_rfl) (by kernel_rfl) ?_
            repeat (go_big_quiet_step (fail))
            refine wpQuiet_nil ?_
            rintro wq ⟨⟨_, NQ⟩, rfl⟩
            have MQ : Hid ((Below w.heap.size w wq ∧ Blk wq w.heap.size #[.int .i64 last, .slice sa stays.length sc, .slice (some ⟨sb, soff, none⟩) jobs.length jc] 25 ∧ Blk wq (w.heap.size + 1) #[.int .i64 0, .slice none 0 0, .slice none 0 0] 25) ∧ Blk wq jb #[.int .i64 t, .bool true] 32) := ⟨⟨B.next M.out.1.1 NQ M.out.1.1.size, M.out.1.2.1.below NQ, M.out.1.2.2.below NQ⟩, M.out.2.below NQ⟩
            clear s0 s1 j0 j1 b1 eS gS NQ M
            cases q
            · go_wp2
              go_roundg (jobs.length - (i + 1))
              case measure => omega
              case rel => exact ⟨i + 1, by omega, by omega, by go_num, AN.out (by trivial), MQ⟩
            · have HK : Hid (kk = 6) := AF.out (by trivial)
              clear AF AN
              have gg := MQ.out.1.2.2.cell
              have ff := MQ.out.1.2.2.free
              go_wp2
              (try simp only [Exit.inBlock, Exit.then])
              refine bodyPost_ret (v := .tuple #[.agg #[.int .i64 0, .slice none 0 0, .slice none 0 0], .int .i64 6]) (by simp [results, Try.results21, go_sem, set3_0 gg, set3_1 gg, set3_2 gg]; try rfl) rfl ?_
              exact HP.out 6 HK.out _ (((MQ.out.1.1.setCell (p := ⟨w.heap.size + 1, 0, none⟩) (Nat.le_add_right _ _) _).setCell (p := ⟨w.heap.size + 1, 1, none⟩) (Nat.le_add_right _ _) _).setCell (p := ⟨w.heap.size + 1, 2, none⟩) (Nat.le_add_right _ _) _)
          · have hltz : ¬ (i : Int) < (jobs.length : Int) := by omega
            have hil : i = jobs.length := by omega
            have hj : hasJob jobs ⟨t, true⟩ = false := no_job jobs t (by subst hil; exact A.out)
            have h8 : jobs.length = 8 := by
              have h1 := KP2.out
              have h2 := HB.out
              rw [hj] at h1
              by_cases e : 8 ≤ jobs.length
              · omega
              · rw [if_neg (by decide), if_neg e] at h1
                exact absurd h1 h2
            have HK : Hid (kk = 8) := by
              show _ = _
              rw [KP2.out, hj, if_neg (by decide), if_pos (by omega)]
            clear KP2 HB hj A hil
            rw [h8] at ra hltz
            have MM := M.out.1.2.2
            have ML := M.out.1.1
            clear M H1 H3
            have gg := MM.cell
            have ff := MM.free
            go_wp2
            (try simp only [Exit.inBlock, Exit.then])
            refine bodyPost_ret (v := .tuple #[.agg #[.int .i64 0, .slice none 0 0, .slice none 0 0], .int .i64 8]) (by simp [results, Try.results21, go_sem, set3_0 gg, set3_1 gg, set3_2 gg]; try rfl) rfl ?_
            exact HP.out 8 HK.out _ (((ML.setCell (p := ⟨w.heap.size + 1, 0, none⟩) (Nat.le_add_right _ _) _).setCell (p := ⟨w.heap.size + 1, 1, none⟩) (Nat.le_add_right _ _) _).setCell (p := ⟨w.heap.size + 1, 2, none⟩) (Nat.le_add_right _ _) _)

end Bk
end Go.Proofs.Ytihapeagjikiaaa
