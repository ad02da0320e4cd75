/- Lists of stays and jobs in memory of the call's own: how they lie; copies (Clone); contracts for the laws of stage 2. -/
import Derived.Test.YtmojjjikaaclpaaBookFind
import Derived.Laws.AppendOwn
import Derived.Lib.Walk
import Derived.Lib.SliceRun
namespace Go.Proofs.Ytmojjjikaaclpaa
open Go.Shelf Go.Lib Go.ChangeShapes Go.WideShapes Go.ChangeAt Go.RowKit
set_option maxRecDepth 100000
set_option linter.unusedSimpArgs false
set_option linter.unusedVariables false

namespace Bk
section
variable {α : Type} [Inhabited α]
/-- Rows of k cells each, at the head of a block. -/
def InRows (cur : Array Value) (k : Nat) (enc : α → List Value) (l : List α) : Prop := ∀ j, j < l.length → ∀ i u, (enc l[j]!)[i]? = some u → cur[j * k + i]? = some u
/-- A list in a block of its own (not below base). -/
def OwnAt (w : World) (base : Nat) (T : TypeId) (k : Nat) (enc : α → List Value) (v : Value) (l : List α) : Prop :=
  (v = .slice none 0 0 ∧ l = []) ∨ ∃ g cap cur, v = .slice (some ⟨g, 0, none⟩) l.length cap ∧ base ≤ g ∧ Blk w g cur T ∧ l.length ≤ cap ∧ cap ≤ maxLen ∧ cur.size = cap * k ∧ InRows cur k enc l
theorem OwnAt.below {w w' : World} {base : Nat} {T : TypeId} {k : Nat} {enc : α → List Value} {v : Value} {l : List α} (h : OwnAt w base T k enc v l) (hb : Below w.heap.size w w') : OwnAt w' base T k enc v l := by
  rcases h with h | ⟨g, cap, cur, hv, hg, hk, r⟩
  · exact Or.inl h
  · exact Or.inr ⟨g, cap, cur, hv, hg, hk.below hb, r⟩
theorem OwnAt.grown {w w' : World} {base : Nat} {T : TypeId} {k : Nat} {enc : α → List Value} {v : Value} {l : List α} {row : Option Nat} (h : OwnAt w base T k enc v l) (hb : w.grownBy w' row) (hne : ∀ g, v.ownBlock = some g → row ≠ some g) : OwnAt w' base T k enc v l := by
  rcases h with h | ⟨g, cap, cur, rfl, hg, hk, r⟩
  · exact Or.inl h
  · exact Or.inr ⟨g, cap, cur, rfl, hg, (hb.block g hk.lt (fun e => hne g rfl e.symm)).trans hk, r⟩
theorem OwnAt.rows {w : World} {base : Nat} {T : TypeId} {k : Nat} {enc : α → List Value} {v : Value} {l : List α} (h : OwnAt w base T k enc v l) : ∃ a cap, v = .slice a l.length cap ∧ RowsAt w a cap k enc l := by
  rcases h with ⟨rfl, rfl⟩ | ⟨g, cap, cur, rfl, hg, hk, hl, hm, hs, hr⟩
  · exact ⟨none, 0, rfl, Nat.le_refl _, Nat.zero_le _, fun h => absurd h (Nat.lt_irrefl _)⟩
  · refine ⟨_, cap, rfl, hl, hm, fun _ => ⟨g, 0, rfl, hk.lt, fun j hj i u hu => ?_⟩⟩
    rw [hk.cell, Nat.zero_add]
    exact hr j hj i u hu

omit [Inhabited α] in
theorem flat_len (enc : α → List Value) (k : Nat) (hk : ∀ x, (enc x).length = k) : ∀ l : List α, (l.flatMap enc).length = l.length * k
  | [] => by simp
  | x :: l => by rw [List.flatMap_cons, List.length_append, hk, flat_len enc k hk l, List.length_cons, Nat.succ_mul]; omega
theorem flat_get (enc : α → List Value) (k : Nat) (hk : ∀ x, (enc x).length = k) : ∀ (l : List α) (j i : Nat), j < l.length → i < k → (l.flatMap enc)[j * k + i]? = (enc l[j]!)[i]?
  | [], j, i, h, _ => absurd h (Nat.not_lt_zero _)
  | x :: l, 0, i, _, hi => by
    rw [List.flatMap_cons, Nat.zero_mul, Nat.zero_add, List.getElem?_append_left (by rw [hk]; exact hi)]
    rfl
  | x :: l, j + 1, i, h, hi => by
    rw [List.flatMap_cons, List.getElem?_append_right (by rw [hk, Nat.succ_mul]; omega), hk, show (j + 1) * k + i - k = j * k + i from by rw [Nat.succ_mul]; omega, flat_get enc k hk l j i (by simpa using h) hi]
    rfl
theorem OwnAt.of_owns {w : World} {base : Nat} {T : TypeId} {k : Nat} {enc : α → List Value} {v : Value} {l : List α} (hk : ∀ x, (enc x).length = k) (h : w.ownsRow base T k v l.length (l.flatMap enc)) : OwnAt w base T k enc v l := by
  obtain ⟨_, ⟨rfl, h0⟩ | ⟨g, cap, cur, rfl, hg, hb, hn, hm, hs, ht⟩⟩ := h
  · exact Or.inl ⟨rfl, List.length_eq_zero_iff.1 h0⟩
  · refine Or.inr ⟨g, cap, cur, rfl, hg, hb, hn, hm, hs, fun j hj i u hu => ?_⟩
    have hi : i < k := by rw [← hk l[j]!]; exact (List.getElem?_eq_some_iff.1 hu).1
    have h1 := flat_get enc k hk l j i hj hi
    rw [← ht, hu] at h1
    have hlt : j * k + i < l.length * k := by
      have : (j + 1) * k ≤ l.length * k := Nat.mul_le_mul_right k hj
      rw [Nat.succ_mul] at this
      omega
    rw [List.getElem?_take_of_lt hlt] at h1
    simpa using h1
theorem OwnAt.to_owns {w : World} {base : Nat} {T : TypeId} {k : Nat} {enc : α → List Value} {v : Value} {l : List α} (hk : ∀ x, (enc x).length = k) (h : OwnAt w base T k enc v l) : w.ownsRow base T k v l.length (l.flatMap enc) := by
  refine ⟨flat_len enc k hk l, ?_⟩
  rcases h with ⟨rfl, rfl⟩ | ⟨g, cap, cur, rfl, hg, hb, hl, hm, hs, hr⟩
  · exact Or.inl ⟨rfl, rfl⟩
  · refine Or.inr ⟨g, cap, cur, rfl, hg, hb, hl, hm, hs, ?_⟩
    apply List.ext_getElem?
    intro x
    by_cases hx : x < l.length * k
    · have k0 : 0 < k := by rcases Nat.eq_zero_or_pos k with h | h; (· subst h; omega); exact h
      rw [List.getElem?_take_of_lt hx]
      have hq : x / k < l.length := Nat.div_lt_of_lt_mul (by rw [Nat.mul_comm]; exact hx)
      have hr2 : x % k < k := Nat.mod_lt _ k0
      have e : x = x / k * k + x % k := by rw [Nat.mul_comm]; exact (Nat.div_add_mod x k).symm
      have h1 := flat_get enc k hk l (x / k) (x % k) hq hr2
      rw [← e] at h1
      rw [h1]
      have hv : ∃ u, (enc l[x / k]!)[x % k]? = some u := ⟨_, List.getElem?_eq_getElem (by rw [hk]; exact hr2)⟩
      obtain ⟨u, hu⟩ := hv
      have := hr _ hq _ u hu
      rw [← e] at this
      rw [hu]
      simpa using this
    · rw [List.getElem?_eq_none (by simp; omega), List.getElem?_eq_none (by rw [flat_len enc k hk]; omega)]
end

theorem stay_len (x : Stay) : x.enc.length = 8 := rfl
theorem job_len (x : Job) : x.enc.length = 2 := rfl
theorem stay_one : ∀ (l : List Stay), ∀ u ∈ l.flatMap Stay.enc, u.oneCell' = true
  | [], u, h => by simp at h
  | x :: l, u, h => by
    rw [List.flatMap_cons, List.mem_append] at h
    rcases h with h | h
    · simp only [Stay.enc, List.mem_cons, List.not_mem_nil, or_false] at h
      rcases h with rfl | rfl | rfl | rfl | rfl | rfl | rfl | rfl <;> rfl
    · exact stay_one l u h
theorem job_one : ∀ (l : List Job), ∀ u ∈ l.flatMap Job.enc, u.oneCell' = true
  | [], u, h => by simp at h
  | x :: l, u, h => by
    rw [List.flatMap_cons, List.mem_append] at h
    rcases h with h | h
    · simp only [Job.enc, List.mem_cons, List.not_mem_nil, or_false] at h
      rcases h with rfl | rfl <;> rfl
    · exact job_one l u h

/-- What lies in a list, cell by cell. -/
theorem RowsAt.flat {α : Type} [Inhabited α] {W : World} {ad : Addr} {cap k : Nat} {enc : α → List Value} {zs : List α} (hk : ∀ x, (enc x).length = k) (h : RowsAt W (some ad) cap k enc zs) : ∀ j u, (zs.flatMap enc)[j]? = some u → W.cell? (ad.add j) = some u := by
  intro x u hu
  have hx : x < zs.length * k := by rw [← flat_len enc k hk]; exact (List.getElem?_eq_some_iff.1 hu).1
  have k0 : 0 < k := by rcases Nat.eq_zero_or_pos k with h | h; (· subst h; omega); exact h
  have hq : x / k < zs.length := Nat.div_lt_of_lt_mul (by rw [Nat.mul_comm]; exact hx)
  have hr2 : x % k < k := Nat.mod_lt _ k0
  have e : x = x / k * k + x % k := by rw [Nat.mul_comm]; exact (Nat.div_add_mod x k).symm
  obtain ⟨b, off, ha, _, hcell⟩ := h.2.2 (Nat.lt_of_le_of_lt (Nat.zero_le _) hq)
  cases ha
  rw [add_none]
  rw [e, flat_get enc k hk zs _ _ hq hr2] at hu
  have := hcell _ hq _ u hu
  rw [Nat.add_assoc, ← e] at this
  exact this

theorem Try.infoJob : ∃ i0 : TypeInfo, Try.prog.info? 104 = some i0 ∧ i0.zero = some (.agg #[.int .i64 0, .bool false]) ∧ i0.size = 2 ∧ i0.bytes = 16 := ⟨_, rfl, by kernel_rfl, by kernel_rfl, by kernel_rfl⟩
theorem Try.infoStay : ∃ i0 : TypeInfo, Try.prog.info? 102 = some i0 ∧ i0.zero = some (.agg #[.int .i64 0, .int .i64 0, .int .i64 0, .int .i64 0, .int .i64 0, .int .i64 0, .int .i64 0, .int .i64 0]) ∧ i0.size = 8 ∧ i0.bytes = 64 := ⟨_, rfl, by kernel_rfl, by kernel_rfl, by kernel_rfl⟩

-- left out: this seat has not what it speaks of

-- left out: this seat has not what it speaks of

end Bk
end Go.Proofs.Ytmojjjikaaclpaa
