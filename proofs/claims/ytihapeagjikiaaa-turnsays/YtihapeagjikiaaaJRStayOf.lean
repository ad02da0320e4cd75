/- The document's books: the stay of a ticket or of a car; contract for the laws. -/
import Derived.Test.YtihapeagjikiaaaJTopOverA
namespace Go.Proofs.Ytihapeagjikiaaa
open Go.Shelf Go.Lib Go.ChangeShapes Go.WideShapes Go.ChangeAt Go.RowKit
set_option maxRecDepth 100000
set_option linter.unusedSimpArgs false
set_option linter.unusedVariables false

namespace Bk
/-- The stay that is asked for, by ticket, or by car where the ticket is 0. -/
def stayIs (t c : Int) (s : Stay) : Bool := s.t == t || (t == 0 && s.id == c)
def stayO (b : Book) (t c : Int) : Option Stay := b.stays.find? (stayIs t c)
def stayA : Option Stay → Array Value
  | none => #[.int .i64 0, .int .i64 0, .int .i64 0, .int .i64 0, .int .i64 0, .int .i64 0, .int .i64 0, .int .i64 0]
  | some sv => #[.int .i64 sv.t, .int .i64 sv.id, .int .i64 sv.a, .int .i64 sv.b, .int .i64 sv.c, .int .i64 sv.x, .int .i64 sv.y, .int .i64 sv.z]
theorem find_upto {p : Stay → Bool} : ∀ (l : List Stay) (k : Nat), k < l.length → (∀ i, i < k → p l[i]! = false) → p l[k]! = true → l.find? p = some l[k]!
  | [], k, h, _, _ => by simp at h
  | x :: l, 0, _, _, h => by
    have h' : p x = true := h
    simp [List.find?, h']
  | x :: l, k + 1, hk, hn, h => by
    have h0 : p x = false := hn 0 (Nat.succ_pos _)
    have := find_upto (p := p) l k (by simpa using hk) (fun i hi => by have := hn (i + 1) (by omega); simpa using this) (by simpa using h)
    simp [List.find?, h0, this]
theorem find_not {p : Stay → Bool} (l : List Stay) (hn : ∀ i, i < l.length → p l[i]! = false) : l.find? p = none := by
  rw [List.find?_eq_none]
  intro x hx
  obtain ⟨i, hi, rfl⟩ := List.getElem_of_mem hx
  have := hn i hi
  rw [getElem!_pos l i hi] at this
  simp [this]

/-- What StayOf answers. -/
def StayOfPost (b : Book) (t c : Int) (w : World) (e : Ending) (w' : World) : Prop :=
  e = .returned (.tuple #[.agg (stayA (stayO b t c)), .bool (stayO b t c).isSome]) ∧ Below w.heap.size w w'

set_option maxHeartbeats 4000000 in
theorem rstayOf_any (b : Book) (t c : Int) (w : World) (hb : b.At w) :
    Calls Try.prog 62 #[b.val, .int .i64 t, .int .i64 c] w (StayOfPost b t c w) := by
  obtain ⟨last, sa, sc, ja, jc, stays, jobs⟩ := b
  simp only [Book.val] at *
  have H1 : Hid (∀ wx, Below w.heap.size w wx → RowsAt wx sa sc 8 Stay.enc stays) := fun wx h => hb.1.below h
  have hm1 : sc ≤ maxLen := hb.1.2.1
  have hn1 : stays.length ≤ sc := hb.1.1
  unfold maxLen at hm1
  have HP : Hid (∀ q : Option Stay, stays.find? (stayIs t c) = q → ∀ w', Below w.heap.size w w' → StayOfPost ⟨last, sa, sc, ja, jc, stays, jobs⟩ t c w (.returned (.tuple #[.agg (stayA q), .bool q.isSome])) w') := fun q hq w' h => by subst hq; exact ⟨rfl, h⟩
  generalize StayOfPost ⟨last, sa, sc, ja, jc, stays, jobs⟩ t c w = PP at *
  obtain ⟨w0, hw0⟩ : ∃ w0, (w.alloc (.cells #[.int .i64 last, .slice sa stays.length sc, .slice ja jobs.length jc] 25)).alloc (.cells #[.int .i64 0, .int .i64 0, .int .i64 0, .int .i64 0, .int .i64 0, .int .i64 0, .int .i64 0, .int .i64 0] 62) = w0 := ⟨_, rfl⟩
  have N0 : Hid (Below w.heap.size w w0 ∧ Blk w0 w.heap.size #[.int .i64 last, .slice sa stays.length sc, .slice ja jobs.length jc] 25 ∧ Blk w0 (w.heap.size + 1) #[.int .i64 0, .int .i64 0, .int .i64 0, .int .i64 0, .int .i64 0, .int .i64 0, .int .i64 0, .int .i64 0] 62) := by
    show _ ∧ _ ∧ _
    rw [← hw0]
    exact ⟨(B.new1 _ _).alloc (by simp) _, (Blk.new _ _ _).old _, Blk.new1 (by simp) _ _⟩
  clear hb
  go_enter Try.func62, Try.ntmps62
  go_wp2_with fail
  clear hw0
  go_loopg [8] stays.length (fun gg s8 wr => ∃ k : Nat, k ≤ stays.length ∧ stays.length - k ≤ gg ∧ s8 = .int .i64 k ∧ Hid (∀ i, i < k → stayIs t c stays[i]! = false) ∧ Hid (Below w.heap.size w wr ∧ Blk wr w.heap.size #[.int .i64 last, .slice sa stays.length sc, .slice ja jobs.length jc] 25 ∧ Blk wr (w.heap.size + 1) #[.int .i64 0, .int .i64 0, .int .i64 0, .int .i64 0, .int .i64 0, .int .i64 0, .int .i64 0, .int .i64 0] 62))
  case atStart => exact ⟨0, Nat.zero_le _, by omega, rfl, fun i hi => absurd hi (Nat.not_lt_zero _), N0⟩
  case round =>
    clear N0
    obtain ⟨k, hk, hg, rfl, A, M⟩ := hrel
    have ra := M.out.2.1.cell
    by_cases hlt : k < stays.length
    · have hltz : (k : Int) < (stays.length : Int) := by omega
      obtain ⟨sb, soff, rfl⟩ := rows_some (H1.out _ M.out.1) (by omega)
      have s0 := rows_cell (H1.out _ M.out.1) k hlt 0 _ rfl
      have s1 := rows_cell (H1.out _ M.out.1) k hlt 1 _ rfl
      have s2 := rows_cell (H1.out _ M.out.1) k hlt 2 _ rfl
      have s3 := rows_cell (H1.out _ M.out.1) k hlt 3 _ rfl
      have s4 := rows_cell (H1.out _ M.out.1) k hlt 4 _ rfl
      have s5 := rows_cell (H1.out _ M.out.1) k hlt 5 _ rfl
      have s6 := rows_cell (H1.out _ M.out.1) k hlt 6 _ rfl
      have s7 := rows_cell (H1.out _ M.out.1) k hlt 7 _ rfl
      simp only [Nat.add_zero] at s0
      have AK : Hid (stayIs t c stays[k]! = true → ∀ w', Below w.heap.size w w' → PP (.returned (.tuple #[.agg (stayA (some stays[k]!)), .bool true])) w') := fun h w' hw' => HP.out (some stays[k]!) (find_upto stays k hlt A.out h) w' hw'
      have AN : Hid (stayIs t c stays[k]! = false → ∀ i, i < k + 1 → stayIs t c stays[i]! = false) := fun h i hi => by
        by_cases e : i < k
        · exact A.out i e
        · have : i = k := by omega
          subst this; exact h
      generalize stays[k]! = sv at *
      obtain ⟨wa, hwa⟩ : ∃ wa, wr.alloc (.cells #[.int .i64 sv.t, .int .i64 sv.id, .int .i64 sv.a, .int .i64 sv.b, .int .i64 sv.c, .int .i64 sv.x, .int .i64 sv.y, .int .i64 sv.z] 62) = wa := ⟨_, rfl⟩
      have NA : Hid (Below w.heap.size w wa ∧ Blk wa w.heap.size #[.int .i64 last, .slice (some ⟨sb, soff, none⟩) stays.length sc, .slice ja jobs.length jc] 25 ∧ Blk wa (w.heap.size + 1) #[.int .i64 0, .int .i64 0, .int .i64 0, .int .i64 0, .int .i64 0, .int .i64 0, .int .i64 0, .int .i64 0] 62) := by
        show _ ∧ _ ∧ _
        rw [← hwa]
        exact ⟨B.next M.out.1 (B.new1 _ _) M.out.1.size, M.out.2.1.old _, M.out.2.2.old _⟩
      have KA : Hid (Blk wa wr.heap.size #[.int .i64 sv.t, .int .i64 sv.id, .int .i64 sv.a, .int .i64 sv.b, .int .i64 sv.c, .int .i64 sv.x, .int .i64 sv.y, .int .i64 sv.z] 62) := by show Blk _ _ _ _; rw [← hwa]; exact Blk.new _ _ _
      have rv := KA.out.cell
      have hlr : Hid (w.heap.size + 1 < wr.heap.size) := M.out.2.2.lt
      clear A M
      have KZ := NA.out.2.2
      have ff := KZ.free
      have gg := KZ.cell
      obtain ⟨w9, hw9⟩ : ∃ w9, ((((((((wa.setCell ⟨w.heap.size + 1, 0, none⟩ (.int .i64 sv.t)).setCell ⟨w.heap.size + 1, 1, none⟩ (.int .i64 sv.id)).setCell ⟨w.heap.size + 1, 2, none⟩ (.int .i64 sv.a)).setCell ⟨w.heap.size + 1, 3, none⟩ (.int .i64 sv.b)).setCell ⟨w.heap.size + 1, 4, none⟩ (.int .i64 sv.c)).setCell ⟨w.heap.size + 1, 5, none⟩ (.int .i64 sv.x)).setCell ⟨w.heap.size + 1, 6, none⟩ (.int .i64 sv.y)).setCell ⟨w.heap.size + 1, 7, none⟩ (.int .i64 sv.z)) = w9 := ⟨_, rfl⟩
      have K9 : Hid (Blk w9 (w.heap.size + 1) #[.int .i64 sv.t, .int .i64 sv.id, .int .i64 sv.a, .int .i64 sv.b, .int .i64 sv.c, .int .i64 sv.x, .int .i64 sv.y, .int .i64 sv.z] 62 ∧ Below w.heap.size w w9) := by
        show _ ∧ _
        rw [← hw9]
        exact ⟨((((((((KZ.set 0 (.int .i64 sv.t)).set 1 (.int .i64 sv.id)).set 2 (.int .i64 sv.a)).set 3 (.int .i64 sv.b)).set 4 (.int .i64 sv.c)).set 5 (.int .i64 sv.x)).set 6 (.int .i64 sv.y)).set 7 (.int .i64 sv.z)), ((((((((NA.out.1.setCell (p := ⟨w.heap.size + 1, 0, none⟩) (Nat.le_add_right _ _) _).setCell (p := ⟨w.heap.size + 1, 1, none⟩) (Nat.le_add_right _ _) _).setCell (p := ⟨w.heap.size + 1, 2, none⟩) (Nat.le_add_right _ _) _).setCell (p := ⟨w.heap.size + 1, 3, none⟩) (Nat.le_add_right _ _) _).setCell (p := ⟨w.heap.size + 1, 4, none⟩) (Nat.le_add_right _ _) _).setCell (p := ⟨w.heap.size + 1, 5, none⟩) (Nat.le_add_right _ _) _).setCell (p := ⟨w.heap.size + 1, 6, none⟩) (Nat.le_add_right _ _) _).setCell (p := ⟨w.heap.size + 1, 7, none⟩) (Nat.le_add_right _ _) _)⟩
      clear KZ
      have fin : ∀ _ : stayIs t c sv = true, PP (.returned (.tuple #[.agg #[.int .i64 sv.t, .int .i64 sv.id, .int .i64 sv.a, .int .i64 sv.b, .int .i64 sv.c, .int .i64 sv.x, .int .i64 sv.y, .int .i64 sv.z], .bool true])) w9 := fun h => AK.out h w9 K9.out.2
      have HF : Hid (∀ _ : stayIs t c sv = true, PP (.returned (.tuple #[.agg #[.int .i64 sv.t, .int .i64 sv.id, .int .i64 sv.a, .int .i64 sv.b, .int .i64 sv.c, .int .i64 sv.x, .int .i64 sv.y, .int .i64 sv.z], .bool true])) w9) := fin
      clear fin AK
      have g9 := K9.out.1.cell
      by_cases h1 : sv.t = t
      · have b1 : (sv.t == t) = true := by simp [h1]
        have HI : Hid (stayIs t c sv = true) := by show _ = _; simp [stayIs, h1]
        clear h1
        have b1' : (decide (sv.t = t)) = true := by simpa using b1
        go_wp2
        (try simp only [Exit.inBlock, Exit.then])
        refine bodyPost_ret (v := .tuple #[.agg #[.int .i64 sv.t, .int .i64 sv.id, .int .i64 sv.a, .int .i64 sv.b, .int .i64 sv.c, .int .i64 sv.x, .int .i64 sv.y, .int .i64 sv.z], .bool true]) (by simp [results, Try.results62, go_sem, g9]; try rfl) rfl ?_
        exact HF.out HI.out
      · have b1 : (sv.t == t) = false := by simp [h1]
        by_cases h2 : t = 0 ∧ sv.id = c
        · have HI : Hid (stayIs t c sv = true) := by show _ = _; simp [stayIs, h2.1, h2.2]
          have b2 : (t == 0) = true := by simp [h2.1]
          have b3 : (sv.id == c) = true := by simp [h2.2]
          clear h1 h2
          go_wp2
          (try simp only [Exit.inBlock, Exit.then])
          refine bodyPost_ret (v := .tuple #[.agg #[.int .i64 sv.t, .int .i64 sv.id, .int .i64 sv.a, .int .i64 sv.b, .int .i64 sv.c, .int .i64 sv.x, .int .i64 sv.y, .int .i64 sv.z], .bool true]) (by simp [results, Try.results62, go_sem, g9]; try rfl) rfl ?_
          exact HF.out HI.out
        · have HI : Hid (stayIs t c sv = false) := by
            show _ = _
            simp only [stayIs, b1, Bool.false_or]
            by_cases e : t = 0
            · have : sv.id ≠ c := fun e' => h2 ⟨e, e'⟩
              simp [this]
            · simp [e]
          clear HF hw9 g9 K9 gg ff
          by_cases e : t = 0
          · have b2 : (t == 0) = true := by simp [e]
            have b3 : (sv.id == c) = false := by
              have : sv.id ≠ c := fun e' => h2 ⟨e, e'⟩
              simp [this]
            clear h1 h2 e
            go_wp2
            go_roundg (stays.length - (k + 1))
            case measure => omega
            case rel => exact ⟨k + 1, by omega, by omega, by go_num, AN.out HI.out, NA⟩
          · have b2 : (t == 0) = false := by simp [e]
            clear h1 h2 e
            go_wp2
            go_roundg (stays.length - (k + 1))
            case measure => omega
            case rel => exact ⟨k + 1, by omega, by omega, by go_num, AN.out HI.out, NA⟩
    · have hltz : ¬ (k : Int) < (stays.length : Int) := by omega
      have hkl : k = stays.length := by omega
      have KZ := M.out.2.2
      have ff := KZ.free
      have gg := KZ.cell
      obtain ⟨w9, hw9⟩ : ∃ w9, ((((((((wr.setCell ⟨w.heap.size + 1, 0, none⟩ (.int .i64 0)).setCell ⟨w.heap.size + 1, 1, none⟩ (.int .i64 0)).setCell ⟨w.heap.size + 1, 2, none⟩ (.int .i64 0)).setCell ⟨w.heap.size + 1, 3, none⟩ (.int .i64 0)).setCell ⟨w.heap.size + 1, 4, none⟩ (.int .i64 0)).setCell ⟨w.heap.size + 1, 5, none⟩ (.int .i64 0)).setCell ⟨w.heap.size + 1, 6, none⟩ (.int .i64 0)).setCell ⟨w.heap.size + 1, 7, none⟩ (.int .i64 0)) = w9 := ⟨_, rfl⟩
      have K9 : Hid (Blk w9 (w.heap.size + 1) #[.int .i64 0, .int .i64 0, .int .i64 0, .int .i64 0, .int .i64 0, .int .i64 0, .int .i64 0, .int .i64 0] 62 ∧ Below w.heap.size w w9) := by
        show _ ∧ _
        rw [← hw9]
        exact ⟨((((((((KZ.set 0 (.int .i64 0)).set 1 (.int .i64 0)).set 2 (.int .i64 0)).set 3 (.int .i64 0)).set 4 (.int .i64 0)).set 5 (.int .i64 0)).set 6 (.int .i64 0)).set 7 (.int .i64 0)), ((((((((M.out.1.setCell (p := ⟨w.heap.size + 1, 0, none⟩) (Nat.le_add_right _ _) _).setCell (p := ⟨w.heap.size + 1, 1, none⟩) (Nat.le_add_right _ _) _).setCell (p := ⟨w.heap.size + 1, 2, none⟩) (Nat.le_add_right _ _) _).setCell (p := ⟨w.heap.size + 1, 3, none⟩) (Nat.le_add_right _ _) _).setCell (p := ⟨w.heap.size + 1, 4, none⟩) (Nat.le_add_right _ _) _).setCell (p := ⟨w.heap.size + 1, 5, none⟩) (Nat.le_add_right _ _) _).setCell (p := ⟨w.heap.size + 1, 6, none⟩) (Nat.le_add_right _ _) _).setCell (p := ⟨w.heap.size + 1, 7, none⟩) (Nat.le_add_right _ _) _)⟩
      have HF : Hid (PP (.returned (.tuple #[.agg #[.int .i64 0, .int .i64 0, .int .i64 0, .int .i64 0, .int .i64 0, .int .i64 0, .int .i64 0, .int .i64 0], .bool false])) w9) := HP.out none (find_not stays (by subst hkl; exact A.out)) w9 K9.out.2
      have g9 := K9.out.1.cell
      clear hkl A KZ
      go_wp2
      (try simp only [Exit.inBlock, Exit.then])
      refine bodyPost_ret (v := .tuple #[.agg #[.int .i64 0, .int .i64 0, .int .i64 0, .int .i64 0, .int .i64 0, .int .i64 0, .int .i64 0, .int .i64 0], .bool false]) (by simp [results, Try.results62, go_sem, g9]; try rfl) rfl ?_
      exact HF.out

end Bk
end Go.Proofs.Ytihapeagjikiaaa
