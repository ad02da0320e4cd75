/- Lists of stays and jobs in memory of the call's own: how they lie; copies (Clone); contracts for the laws of stage 2. -/
import Derived.Test.YtihapeagjikiaaaJBookFind
import Derived.Laws.AppendOwn
import Derived.Lib.Walk
import Derived.Lib.SliceRun
namespace Go.Proofs.Ytihapeagjikiaaa
open Go.Shelf Go.Lib Go.ChangeShapes Go.WideShapes Go.ChangeAt Go.RowKit
set_option maxRecDepth 100000
set_option linter.unusedSimpArgs false
set_option linter.unusedVariables false

namespace Bk
section
variable {α : Type} [Inhabited α]
/-- Rows of k cells each, at the head of a block. -/
def InRows (cur : Array Value) (k : Nat) (enc : α → List Value) (l : List α) : Prop := ∀ j, j < l.length → ∀ i u, (enc l[j]!)[i]? = some u → cur[j * k + i]? = some u
/-- A list in a block of its own (not below base). -/
def OwnAt (w : World) (base : Nat) (T : TypeId) (k : Nat) (enc : α → List Value) (v : Value) (l : List α) : Prop :=
  (v = .slice none 0 0 ∧ l = []) ∨ ∃ g cap cur, v = .slice (some ⟨g, 0, none⟩) l.length cap ∧ base ≤ g ∧ Blk w g cur T ∧ l.length ≤ cap ∧ cap ≤ maxLen ∧ cur.size = cap * k ∧ InRows cur k enc l
theorem OwnAt.below {w w' : World} {base : Nat} {T : TypeId} {k : Nat} {enc : α → List Value} {v : Value} {l : List α} (h : OwnAt w base T k enc v l) (hb : Below w.heap.size w w') : OwnAt w' base T k enc v l := by
  rcases h with h | ⟨g, cap, cur, hv, hg, hk, r⟩
  · exact Or.inl h
  · exact Or.inr ⟨g, cap, cur, hv, hg, hk.below hb, r⟩
theorem OwnAt.grown {w w' : World} {base : Nat} {T : TypeId} {k : Nat} {enc : α → List Value} {v : Value} {l : List α} {row : Option Nat} (h : OwnAt w base T k enc v l) (hb : w.grownBy w' row) (hne : ∀ g, v.ownBlock = some g → row ≠ some g) : OwnAt w' base T k enc v l := by
  rcases h with h | ⟨g, cap, cur, rfl, hg, hk, r⟩
  · exact Or.inl h
  · exact Or.inr ⟨g, cap, cur, rfl, hg, (hb.block g hk.lt (fun e => hne g rfl e.symm)).trans hk, r⟩
theorem OwnAt.rows {w : World} {base : Nat} {T : TypeId} {k : Nat} {enc : α → List Value} {v : Value} {l : List α} (h : OwnAt w base T k enc v l) : ∃ a cap, v = .slice a l.length cap ∧ RowsAt w a cap k enc l := by
  rcases h with ⟨rfl, rfl⟩ | ⟨g, cap, cur, rfl, hg, hk, hl, hm, hs, hr⟩
  · exact ⟨none, 0, rfl, Nat.le_refl _, Nat.zero_le _, fun h => absurd h (Nat.lt_irrefl _)⟩
  · refine ⟨_, cap, rfl, hl, hm, fun _ => ⟨g, 0, rfl, hk.lt, fun j hj i u hu => ?_⟩⟩
    rw [hk.cell, Nat.zero_add]
    exact hr j hj i u hu

omit [Inhabited α] in
theorem flat_len (enc : α → List Value) (k : Nat) (hk : ∀ x, (enc x).length = k) : ∀ l : List α, (l.flatMap enc).length = l.length * k
  | [] => by simp
  | x :: l => by rw [List.flatMap_cons, List.length_append, hk, flat_len enc k hk l, List.length_cons, Nat.succ_mul]; omega
theorem flat_get (enc : α → List Value) (k : Nat) (hk : ∀ x, (enc x).length = k) : ∀ (l : List α) (j i : Nat), j < l.length → i < k → (l.flatMap enc)[j * k + i]? = (enc l[j]!)[i]?
  | [], j, i, h, _ => absurd h (Nat.not_lt_zero _)
  | x :: l, 0, i, _, hi => by
    rw [List.flatMap_cons, Nat.zero_mul, Nat.zero_add, List.getElem?_append_left (by rw [hk]; exact hi)]
    rfl
  | x :: l, j + 1, i, h, hi => by
    rw [List.flatMap_cons, List.getElem?_append_right (by rw [hk, Nat.succ_mul]; omega), hk, show (j + 1) * k + i - k = j * k + i from by rw [Nat.succ_mul]; omega, flat_get enc k hk l j i (by simpa using h) hi]
    rfl
theorem OwnAt.of_owns {w : World} {base : Nat} {T : TypeId} {k : Nat} {enc : α → List Value} {v : Value} {l : List α} (hk : ∀ x, (enc x).length = k) (h : w.ownsRow base T k v l.length (l.flatMap enc)) : OwnAt w base T k enc v l := by
  obtain ⟨_, ⟨rfl, h0⟩ | ⟨g, cap, cur, rfl, hg, hb, hn, hm, hs, ht⟩⟩ := h
  · exact Or.inl ⟨rfl, List.length_eq_zero_iff.1 h0⟩
  · refine Or.inr ⟨g, cap, cur, rfl, hg, hb, hn, hm, hs, fun j hj i u hu => ?_⟩
    have hi : i < k := by rw [← hk l[j]!]; exact (List.getElem?_eq_some_iff.1 hu).1
    have h1 := flat_get enc k hk l j i hj hi
    rw [← ht, hu] at h1
    have hlt : j * k + i < l.length * k := by
      have : (j + 1) * k ≤ l.length * k := Nat.mul_le_mul_right k hj
      rw [Nat.succ_mul] at this
      omega
    rw [List.getElem?_take_of_lt hlt] at h1
    simpa using h1
theorem OwnAt.to_owns {w : World} {base : Nat} {T : TypeId} {k : Nat} {enc : α → List Value} {v : Value} {l : List α} (hk : ∀ x, (enc x).length = k) (h : OwnAt w base T k enc v l) : w.ownsRow base T k v l.length (l.flatMap enc) := by
  refine ⟨flat_len enc k hk l, ?_⟩
  rcases h with ⟨rfl, rfl⟩ | ⟨g, cap, cur, rfl, hg, hb, hl, hm, hs, hr⟩
  · exact Or.inl ⟨rfl, rfl⟩
  · refine Or.inr ⟨g, cap, cur, rfl, hg, hb, hl, hm, hs, ?_⟩
    apply List.ext_getElem?
    intro x
    by_cases hx : x < l.length * k
    · have k0 : 0 < k := by rcases Nat.eq_zero_or_pos k with h | h; (· subst h; omega); exact h
      rw [List.getElem?_take_of_lt hx]
      have hq : x / k < l.length := Nat.div_lt_of_lt_mul (by rw [Nat.mul_comm]; exact hx)
      have hr2 : x % k < k := Nat.mod_lt _ k0
      have e : x = x / k * k + x % k := by rw [Nat.mul_comm]; exact (Nat.div_add_mod x k).symm
      have h1 := flat_get enc k hk l (x / k) (x % k) hq hr2
      rw [← e] at h1
      rw [h1]
      have hv : ∃ u, (enc l[x / k]!)[x % k]? = some u := ⟨_, List.getElem?_eq_getElem (by rw [hk]; exact hr2)⟩
      obtain ⟨u, hu⟩ := hv
      have := hr _ hq _ u hu
      rw [← e] at this
      rw [hu]
      simpa using this
    · rw [List.getElem?_eq_none (by simp; omega), List.getElem?_eq_none (by rw [flat_len enc k hk]; omega)]
end

theorem stay_len (x : Stay) : x.enc.length = 8 := rfl
theorem job_len (x : Job) : x.enc.length = 2 := rfl
theorem stay_one : ∀ (l : List Stay), ∀ u ∈ l.flatMap Stay.enc, u.oneCell' = true
  | [], u, h => by simp at h
  | x :: l, u, h => by
    rw [List.flatMap_cons, List.mem_append] at h
    rcases h with h | h
    · simp only [Stay.enc, List.mem_cons, List.not_mem_nil, or_false] at h
      rcases h with rfl | rfl | rfl | rfl | rfl | rfl | rfl | rfl <;> rfl
    · exact stay_one l u h
theorem job_one : ∀ (l : List Job), ∀ u ∈ l.flatMap Job.enc, u.oneCell' = true
  | [], u, h => by simp at h
  | x :: l, u, h => by
    rw [List.flatMap_cons, List.mem_append] at h
    rcases h with h | h
    · simp only [Job.enc, List.mem_cons, List.not_mem_nil, or_false] at h
      rcases h with rfl | rfl <;> rfl
    · exact job_one l u h

/-- What lies in a list, cell by cell. -/
theorem RowsAt.flat {α : Type} [Inhabited α] {W : World} {ad : Addr} {cap k : Nat} {enc : α → List Value} {zs : List α} (hk : ∀ x, (enc x).length = k) (h : RowsAt W (some ad) cap k enc zs) : ∀ j u, (zs.flatMap enc)[j]? = some u → W.cell? (ad.add j) = some u := by
  intro x u hu
  have hx : x < zs.length * k := by rw [← flat_len enc k hk]; exact (List.getElem?_eq_some_iff.1 hu).1
  have k0 : 0 < k := by rcases Nat.eq_zero_or_pos k with h | h; (· subst h; omega); exact h
  have hq : x / k < zs.length := Nat.div_lt_of_lt_mul (by rw [Nat.mul_comm]; exact hx)
  have hr2 : x % k < k := Nat.mod_lt _ k0
  have e : x = x / k * k + x % k := by rw [Nat.mul_comm]; exact (Nat.div_add_mod x k).symm
  obtain ⟨b, off, ha, _, hcell⟩ := h.2.2 (Nat.lt_of_le_of_lt (Nat.zero_le _) hq)
  cases ha
  rw [add_none]
  rw [e, flat_get enc k hk zs _ _ hq hr2] at hu
  have := hcell _ hq _ u hu
  rw [Nat.add_assoc, ← e] at this
  exact this

theorem Try.infoJob : ∃ i0 : TypeInfo, Try.prog.info? 32 = some i0 ∧ i0.zero = some (.agg #[.int .i64 0, .bool false]) ∧ i0.size = 2 ∧ i0.bytes = 16 := ⟨_, rfl, by kernel_rfl, by kernel_rfl, by kernel_rfl⟩
theorem Try.infoStay : ∃ i0 : TypeInfo, Try.prog.info? 62 = some i0 ∧ i0.zero = some (.agg #[.int .i64 0, .int .i64 0, .int .i64 0, .int .i64 0, .int .i64 0, .int .i64 0, .int .i64 0, .int .i64 0]) ∧ i0.size = 8 ∧ i0.bytes = 64 := ⟨_, rfl, by kernel_rfl, by kernel_rfl, by kernel_rfl⟩

set_option maxHeartbeats 1000000 in
theorem cloneJ_any (a : Option Addr) (cap : Nat) (l : List Job) (w : World) (h : RowsAt w a cap 2 Job.enc l) (hl : l.length ≤ 1000) :
    Calls Try.prog 118 #[.slice a l.length cap] w fun e w' => ∃ v, e = .returned v ∧ OwnAt w' w.heap.size 32 2 Job.enc v l ∧ Below w.heap.size w w' := by
  obtain ⟨i0, hi, hz0, hz1, hz2⟩ := Try.infoJob
  have q22 : ∀ (w : World) (a : Option Addr) (n c n' c' : Nat), (binOp .eql 23 (.slice a n c) (.slice none n' c')).run Try.prog w = .ok (.bool a.isNone) w := fun w a n c n' c' => Lib.run_eql_slice_nil w _ _ a n c n' c' Try.underlying23
  cases a with
  | none =>
    have h0 : l = [] := by
      rcases l with _ | ⟨x, l⟩
      · rfl
      · obtain ⟨b, off, e, _⟩ := h.2.2 (by simp)
        cases e
    subst h0
    clear h hi hz0 hz1 hz2
    go_enter Try.func118, Try.ntmps118
    go_wp2
    go_returns
    exact ⟨_, rfl, Or.inl ⟨rfl, rfl⟩, Below.refl _ _⟩
  | some ad =>
    have HA : Hid (∀ j u, (l.flatMap Job.enc)[j]? = some u → w.cell? (ad.add j) = some u) := h.flat job_len
    have HL : Hid ((l.flatMap Job.enc).length = l.length * 2) := flat_len Job.enc 2 job_len l
    have H1 : Hid (∀ u ∈ l.flatMap Job.enc, u.oneCell' = true) := job_one l
    clear h
    go_enter Try.func118, Try.ntmps118
    go_wp2_with (at_builtin; refine wpList_append_own _ rfl _ _ 23 rfl w.heap.size 32 i0 _ 2 16 Try.underlying23 hi hz0 hz1 hz2 rfl (by omega) _ _ _ rfl (World.ownsRow_made w #[] 0 (Nat.le_refl _) (Nat.zero_le _) (by simp)) ad l.length cap (l.flatMap Job.enc) rfl ?qc1 ?qc2 ?qc3 ?qc4 ?qc5 ?qc6 ?_)
    case qc1 => exact HL.out
    case qc2 => intro j u hj; exact Lib.cell?_alloc_some _ (HA.out j u hj)
    case qc3 => exact H1.out
    case qc4 => unfold maxLen; omega
    case qc5 => omega
    case qc6 => simp
    intro v' w1 hown hgrow hnil
    have o1 : w1.ownsRow w.heap.size 32 2 v' l.length (l.flatMap Job.enc) := by simpa using hown
    have O1 : Hid (w1.ownsRow w.heap.size 32 2 v' l.length (l.flatMap Job.enc)) := o1
    clear o1
    have G1 : Hid (Below w.heap.size w w1) := ((Below.refl _ w).alloc (Nat.le_refl _) _).grown hgrow (by simp) (by intro k hk; simp [Value.ownBlock] at hk; omega)
    clear hown hgrow hnil
    go_wp2
    go_returns
    exact ⟨v', rfl, OwnAt.of_owns job_len O1.out, G1.out⟩

set_option maxHeartbeats 1000000 in
theorem cloneS_any (a : Option Addr) (cap : Nat) (l : List Stay) (w : World) (h : RowsAt w a cap 8 Stay.enc l) (hl : l.length ≤ 1000) :
    Calls Try.prog 117 #[.slice a l.length cap] w fun e w' => ∃ v, e = .returned v ∧ OwnAt w' w.heap.size 62 8 Stay.enc v l ∧ Below w.heap.size w w' := by
  obtain ⟨i0, hi, hz0, hz1, hz2⟩ := Try.infoStay
  have q22 : ∀ (w : World) (a : Option Addr) (n c n' c' : Nat), (binOp .eql 22 (.slice a n c) (.slice none n' c')).run Try.prog w = .ok (.bool a.isNone) w := fun w a n c n' c' => Lib.run_eql_slice_nil w _ _ a n c n' c' Try.underlying22
  cases a with
  | none =>
    have h0 : l = [] := by
      rcases l with _ | ⟨x, l⟩
      · rfl
      · obtain ⟨b, off, e, _⟩ := h.2.2 (by simp)
        cases e
    subst h0
    clear h hi hz0 hz1 hz2
    go_enter Try.func117, Try.ntmps117
    go_wp2
    go_returns
    exact ⟨_, rfl, Or.inl ⟨rfl, rfl⟩, Below.refl _ _⟩
  | some ad =>
    have HA : Hid (∀ j u, (l.flatMap Stay.enc)[j]? = some u → w.cell? (ad.add j) = some u) := h.flat stay_len
    have HL : Hid ((l.flatMap Stay.enc).length = l.length * 8) := flat_len Stay.enc 8 stay_len l
    have H1 : Hid (∀ u ∈ l.flatMap Stay.enc, u.oneCell' = true) := stay_one l
    clear h
    go_enter Try.func117, Try.ntmps117
    go_wp2_with (at_builtin; refine wpList_append_own _ rfl _ _ 22 rfl w.heap.size 62 i0 _ 8 64 Try.underlying22 hi hz0 hz1 hz2 rfl (by omega) _ _ _ rfl (World.ownsRow_made w #[] 0 (Nat.le_refl _) (Nat.zero_le _) (by simp)) ad l.length cap (l.flatMap Stay.enc) rfl ?qc1 ?qc2 ?qc3 ?qc4 ?qc5 ?qc6 ?_)
    case qc1 => exact HL.out
    case qc2 => intro j u hj; exact Lib.cell?_alloc_some _ (HA.out j u hj)
    case qc3 => exact H1.out
    case qc4 => unfold maxLen; omega
    case qc5 => omega
    case qc6 => simp
    intro v' w1 hown hgrow hnil
    have o1 : w1.ownsRow w.heap.size 62 8 v' l.length (l.flatMap Stay.enc) := by simpa using hown
    have O1 : Hid (w1.ownsRow w.heap.size 62 8 v' l.length (l.flatMap Stay.enc)) := o1
    clear o1
    have G1 : Hid (Below w.heap.size w w1) := ((Below.refl _ w).alloc (Nat.le_refl _) _).grown hgrow (by simp) (by intro k hk; simp [Value.ownBlock] at hk; omega)
    clear hown hgrow hnil
    go_wp2
    go_returns
    exact ⟨v', rfl, OwnAt.of_owns stay_len O1.out, G1.out⟩

end Bk
end Go.Proofs.Ytihapeagjikiaaa

namespace Go.Proofs.Ytihapeagjikiaaa
open Go.Shelf Go.Lib Go.ChangeShapes Go.WideShapes Go.ChangeAt Go.RowKit
set_option maxRecDepth 100000
set_option linter.unusedSimpArgs false
set_option linter.unusedVariables false

namespace Bk
/-- A book whose two lists are the call's own. -/
structure OwnBook (w : World) (base : Nat) (vs vj : Value) (stays : List Stay) (jobs : List Job) : Prop where
  s : OwnAt w base 62 8 Stay.enc vs stays
  j : OwnAt w base 32 2 Job.enc vj jobs
  ne : ∀ g, vs.ownBlock = some g → vj.ownBlock ≠ some g
theorem OwnBook.below {w w' : World} {base : Nat} {vs vj : Value} {stays : List Stay} {jobs : List Job} (h : OwnBook w base vs vj stays jobs) (hb : Below w.heap.size w w') : OwnBook w' base vs vj stays jobs := ⟨h.s.below hb, h.j.below hb, h.ne⟩
theorem OwnAt.base {α : Type} [Inhabited α] {w : World} {b b' : Nat} {T : TypeId} {k : Nat} {enc : α → List Value} {v : Value} {l : List α} (h : OwnAt w b T k enc v l) (hb : b' ≤ b) : OwnAt w b' T k enc v l := by
  rcases h with h | ⟨g, cap, cur, hv, hg, r⟩
  · exact Or.inl h
  · exact Or.inr ⟨g, cap, cur, hv, Nat.le_trans hb hg, r⟩
theorem OwnAt.block {α : Type} [Inhabited α] {w : World} {b : Nat} {T : TypeId} {k : Nat} {enc : α → List Value} {v : Value} {l : List α} (h : OwnAt w b T k enc v l) (g : Nat) (hg : v.ownBlock = some g) : b ≤ g ∧ g < w.heap.size := by
  rcases h with ⟨rfl, _⟩ | ⟨g', cap, cur, rfl, hg', hk, _⟩
  · simp [Value.ownBlock] at hg
  · simp [Value.ownBlock] at hg
    subst hg
    exact ⟨hg', hk.lt⟩

set_option maxHeartbeats 2000000 in
theorem copy_any (b : Book) (w : World) (h : b.At w) (hs : b.stays.length ≤ 1000) (hj : b.jobs.length ≤ 1000) :
    Calls Try.prog 61 #[b.val] w fun e w' => ∃ vs vj, e = .returned (.agg #[.int .i64 b.last, vs, vj]) ∧ OwnBook w' w.heap.size vs vj b.stays b.jobs ∧ Below w.heap.size w w' := by
  obtain ⟨last, sa, sc, ja, jc, stays, jobs⟩ := b
  obtain ⟨h1, h2⟩ := h
  simp only [Book.val] at *
  have HCS : Hid (∀ wx, Below w.heap.size w wx → Calls Try.prog 117 #[.slice sa stays.length sc] wx fun e w' => ∃ v, e = .returned v ∧ OwnAt w' wx.heap.size 62 8 Stay.enc v stays ∧ Below wx.heap.size wx w') := fun wx hb => cloneS_any sa sc stays wx (h1.below hb) hs
  have HCJ : Hid (∀ wx, Below w.heap.size w wx → Calls Try.prog 118 #[.slice ja jobs.length jc] wx fun e w' => ∃ v, e = .returned v ∧ OwnAt w' wx.heap.size 32 2 Job.enc v jobs ∧ Below wx.heap.size wx w') := fun wx hb => cloneJ_any ja jc jobs wx (h2.below hb) hj
  obtain ⟨w0, hw0⟩ : ∃ w0, (w.alloc (.cells #[.int .i64 last, .slice sa stays.length sc, .slice ja jobs.length jc] 25)).alloc (.cells #[.int .i64 0, .slice none 0 0, .slice none 0 0] 25) = w0 := ⟨_, rfl⟩
  have N0 : Hid (Below w.heap.size w w0 ∧ Blk w0 w.heap.size #[.int .i64 last, .slice sa stays.length sc, .slice ja jobs.length jc] 25 ∧ Blk w0 (w.heap.size + 1) #[.int .i64 0, .slice none 0 0, .slice none 0 0] 25) := by
    show _ ∧ _ ∧ _
    rw [← hw0]
    exact ⟨(B.new1 _ _).alloc (by simp) _, (Blk.new _ _ _).old _, Blk.new1 (by simp) _ _⟩
  have r0 := N0.out.2.1.cell 1
  clear h1 h2
  go_enter Try.func61, Try.ntmps61
  go_wp2_with fail
  refine (HCS.out _ N0.out.1).mono ?_
  rintro e w1 ⟨vs, rfl, o1, b1⟩
  obtain ⟨sa1, sc1, hvs, _⟩ := o1.rows
  subst hvs
  have N1 : Hid (Below w.heap.size w w1 ∧ Blk w1 w.heap.size #[.int .i64 last, .slice sa stays.length sc, .slice ja jobs.length jc] 25 ∧ Blk w1 (w.heap.size + 1) #[.int .i64 0, .slice none 0 0, .slice none 0 0] 25) := ⟨B.next N0.out.1 b1 N0.out.1.size, N0.out.2.1.below b1, N0.out.2.2.below b1⟩
  have O1 : Hid (OwnAt w1 w0.heap.size 62 8 Stay.enc (.slice sa1 stays.length sc1) stays) := o1
  have z0 : Hid (w.heap.size + 1 < w0.heap.size) := N0.out.2.2.lt
  clear o1 b1 N0 r0 hw0
  have r1 := N1.out.2.1.cell
  have f1 := N1.out.2.1.free
  obtain ⟨w2, hw2⟩ : ∃ w2, w1.setCell ⟨w.heap.size, 1, none⟩ (.slice sa1 stays.length sc1) = w2 := ⟨_, rfl⟩
  have N2 : Hid (Below w.heap.size w w2 ∧ Blk w2 w.heap.size #[.int .i64 last, (.slice sa1 stays.length sc1), .slice ja jobs.length jc] 25 ∧ Blk w2 (w.heap.size + 1) #[.int .i64 0, .slice none 0 0, .slice none 0 0] 25 ∧ OwnAt w2 w0.heap.size 62 8 Stay.enc (.slice sa1 stays.length sc1) stays) := by
    show _ ∧ _ ∧ _ ∧ _
    rw [← hw2]
    refine ⟨N1.out.1.setCell (p := ⟨w.heap.size, 1, none⟩) (Nat.le_refl _) _, N1.out.2.1.set 1 _, N1.out.2.2.other (by omega) _ _, ?_⟩
    rcases O1.out with h | ⟨g, cap, cur, hv, hg, hk, r⟩
    · exact Or.inl h
    · exact Or.inr ⟨g, cap, cur, hv, hg, hk.other (by have := z0.out; omega) _ _, r⟩
  have HV : Hid (∀ g, (Value.slice sa1 stays.length sc1).ownBlock = some g → g < w2.heap.size) := fun g hg => by rw [← hw2, size_setCell]; exact (O1.out.block g hg).2
  have r2 := N2.out.2.1.cell
  clear O1 N1
  go_wp2_with fail
  clear r1 f1 hw2
  refine (HCJ.out _ N2.out.1).mono ?_
  rintro e w3 ⟨vj, rfl, o3, b3⟩
  obtain ⟨ja1, jc1, hvj, _⟩ := o3.rows
  subst hvj
  have N3 : Hid (Below w.heap.size w w3 ∧ Blk w3 w.heap.size #[.int .i64 last, (.slice sa1 stays.length sc1), .slice ja jobs.length jc] 25 ∧ Blk w3 (w.heap.size + 1) #[.int .i64 0, .slice none 0 0, .slice none 0 0] 25) := ⟨B.next N2.out.1 b3 N2.out.1.size, N2.out.2.1.below b3, N2.out.2.2.1.below b3⟩
  have z2 : w.heap.size + 1 < w2.heap.size := N2.out.2.2.1.lt
  have OB : Hid (OwnBook w3 (w.heap.size + 2) (.slice sa1 stays.length sc1) (.slice ja1 jobs.length jc1) stays jobs) := ⟨(N2.out.2.2.2.below b3).base (by have := z0.out; omega), o3.base (by omega), fun g hg hg' => by have := HV.out g hg; have := (o3.block g hg').1; omega⟩
  clear o3 b3 N2 r2 HV
  have r3 := N3.out.2.1.cell
  have f3 := N3.out.2.1.free
  obtain ⟨w4, hw4⟩ : ∃ w4, w3.setCell ⟨w.heap.size, 2, none⟩ (.slice ja1 jobs.length jc1) = w4 := ⟨_, rfl⟩
  have N4 : Hid (Below w.heap.size w w4 ∧ Blk w4 w.heap.size #[.int .i64 last, (.slice sa1 stays.length sc1), (.slice ja1 jobs.length jc1)] 25 ∧ Blk w4 (w.heap.size + 1) #[.int .i64 0, .slice none 0 0, .slice none 0 0] 25) := by
    show _ ∧ _ ∧ _
    rw [← hw4]
    exact ⟨N3.out.1.setCell (p := ⟨w.heap.size, 2, none⟩) (Nat.le_refl _) _, N3.out.2.1.set 2 _, N3.out.2.2.other (by omega) _ _⟩
  have HO : Hid (∀ a b c, OwnBook (((w4.setCell ⟨w.heap.size + 1, 0, none⟩ a).setCell ⟨w.heap.size + 1, 1, none⟩ b).setCell ⟨w.heap.size + 1, 2, none⟩ c) w.heap.size (.slice sa1 stays.length sc1) (.slice ja1 jobs.length jc1) stays jobs) := fun a b c => by
    rw [← hw4]
    refine ⟨?_, ?_, OB.out.ne⟩
    · rcases OB.out.s with h | ⟨g, cap, cur, hv, hg, hk, r⟩
      · exact Or.inl h
      · exact Or.inr ⟨g, cap, cur, hv, by omega, (((hk.other (by omega) _ _).other (by omega) _ _).other (by omega) _ _).other (by omega) _ _, r⟩
    · rcases OB.out.j with h | ⟨g, cap, cur, hv, hg, hk, r⟩
      · exact Or.inl h
      · exact Or.inr ⟨g, cap, cur, hv, by omega, (((hk.other (by omega) _ _).other (by omega) _ _).other (by omega) _ _).other (by omega) _ _, r⟩
  have r4 := N4.out.2.1.cell
  have gg := N4.out.2.2.cell
  have ff := N4.out.2.2.free
  clear N3 OB
  go_wp2
  (try simp only [Exit.inBlock, Exit.then])
  refine bodyPost_ret (v := .agg #[.int .i64 last, (.slice sa1 stays.length sc1), (.slice ja1 jobs.length jc1)]) (by simp [results, Try.results61, go_sem, set3_0 gg, set3_1 gg, set3_2 gg]; try rfl) rfl ?_
  exact ⟨(.slice sa1 stays.length sc1), (.slice ja1 jobs.length jc1), rfl, HO.out _ _ _, ((N4.out.1.setCell (p := ⟨w.heap.size + 1, 0, none⟩) (Nat.le_succ _) _).setCell (p := ⟨w.heap.size + 1, 1, none⟩) (Nat.le_succ _) _).setCell (p := ⟨w.heap.size + 1, 2, none⟩) (Nat.le_succ _) _⟩

end Bk
end Go.Proofs.Ytihapeagjikiaaa

namespace Go.Proofs.Ytihapeagjikiaaa
open Go.Shelf Go.Lib Go.ChangeShapes Go.WideShapes Go.ChangeAt Go.RowKit
set_option maxRecDepth 100000
set_option linter.unusedSimpArgs false
set_option linter.unusedVariables false

def Try.lij_ren : Go.Shelf.Ren := ⟨fun | 6 => 120 | n => n, fun | 22 => 23 | 23 => 32 | 25 => 122 | 3 => 3 | 0 => 0 | 4 => 4 | n => n, fun | n => n⟩
theorem Try.lij : Go.Proofs.SlLaysH0.n6 Try.prog Try.lij_ren := {
  mixed := by kernel_rfl
  f6 := ⟨Try.f120.name, by decide, Try.func120.trans (congrArg some (by kernel_rfl))⟩
  t0 := Try.underlying0
  a0 := Try.isAgg0
  z0 := Try.sizeOf0
  v0 := Try.zeroValue0
  t3 := Try.underlying3
  a3 := Try.isAgg3
  z3 := Try.sizeOf3
  v3 := Try.zeroValue3
  t4 := Try.underlying4
  a4 := Try.isAgg4
  z4 := Try.sizeOf4
  v4 := Try.zeroValue4
  t22 := Try.underlying23
  a22 := Try.isAgg23
  z22 := Try.sizeOf23
  v22 := Try.zeroValue23
  t25 := Try.underlying122
  a25 := Try.isAgg122
  z25 := Try.sizeOf122
  v25 := Try.zeroValue122 }

namespace Bk
/-! ### cells written one behind the other -/
def setRow (cur : Array Value) : Nat → List Value → Array Value
  | _, [] => cur
  | o, v :: r => setRow (cur.setIfInBounds o v) (o + 1) r
theorem setRow_size : ∀ (l : List Value) (cur : Array Value) (o : Nat), (setRow cur o l).size = cur.size
  | [], _, _ => rfl
  | v :: r, cur, o => by rw [setRow, setRow_size r]; simp
theorem setRow_out : ∀ (l : List Value) (cur : Array Value) (o q : Nat), (q < o ∨ o + l.length ≤ q) → (setRow cur o l)[q]? = cur[q]?
  | [], _, _, _, _ => rfl
  | v :: r, cur, o, q, h => by
    rw [setRow, setRow_out r _ _ _ (by simp at h; omega), Array.getElem?_setIfInBounds, if_neg (by simp at h; omega)]
theorem setRow_in : ∀ (l : List Value) (cur : Array Value) (o c : Nat), c < l.length → o + l.length ≤ cur.size → (setRow cur o l)[o + c]? = l[c]?
  | [], _, _, _, h, _ => absurd h (Nat.not_lt_zero _)
  | v :: r, cur, o, 0, _, hs => by
    rw [setRow, setRow_out r _ _ _ (by omega), Array.getElem?_setIfInBounds, Nat.add_zero, if_pos rfl, if_pos (by simp at hs; omega)]
    rfl
  | v :: r, cur, o, c + 1, h, hs => by
    rw [setRow, show o + (c + 1) = (o + 1) + c from by omega, setRow_in r _ _ c (by simpa using h) (by simp at hs ⊢; omega)]
    rfl
theorem blk_setCells {w : World} {g : Nat} {T : TypeId} : ∀ (l : List Value) (cur : Array Value) (o : Nat), Blk w g cur T → Blk (w.setCells g o l) g (setRow cur o l) T := by
  intro l
  induction l generalizing w with
  | nil => intro cur o h; exact h
  | cons v r ih => intro cur o h; exact ih _ _ (h.set o v)
theorem grown_refl (w : World) (row : Option Nat) : w.grownBy w row := ⟨rfl, rfl, rfl, Nat.le_refl _, fun _ _ _ => rfl⟩
theorem grown_trans {a b c : World} {row : Option Nat} (h : a.grownBy b row) (k : b.grownBy c row) : a.grownBy c row :=
  ⟨k.os.trans h.os, k.tape.trans h.tape, k.output.trans h.output, Nat.le_trans h.size k.size, fun i hi hn => (k.block i (Nat.lt_of_lt_of_le hi h.size) hn).trans (h.block i hi hn)⟩
theorem grown_of_below {a b : World} {row : Option Nat} (h : Below a.heap.size a b) : a.grownBy b row := ⟨h.os, h.tape, h.output, h.size, fun k hk _ => h.block k hk⟩
theorem grown_set (w : World) (g o : Nat) (v : Value) : w.grownBy (w.setCell ⟨g, o, none⟩ v) (some g) := ⟨rfl, rfl, rfl, by rw [size_setCell]; exact Nat.le_refl _, fun k hk hn => Below.heap_setCell _ _ _ _ (by intro e; exact hn (by rw [e]))⟩
theorem grown_setCells (g : Nat) : ∀ (l : List Value) (w : World) (o : Nat), w.grownBy (w.setCells g o l) (some g)
  | [], w, _ => grown_refl w _
  | v :: r, w, o => grown_trans (grown_set w g o v) (grown_setCells g r _ _)
theorem below_of_grown {N : Nat} {a b c : World} {g : Nat} (h : Below N a b) (k : b.grownBy c (some g)) (hg : N ≤ g) (hN : N ≤ b.heap.size) : Below N a c :=
  ⟨k.os.trans h.os, k.tape.trans h.tape, k.output.trans h.output, Nat.le_trans h.size k.size, fun i hi => (k.block i (by omega) (by intro e; injection e with e; omega)).trans (h.block i hi)⟩

/-- The built-in clear at rows of whatever cells. -/
theorem run_clear_rows {P : Program} (w : World) (t e ty : TypeId) (z : Value) (ht : P.underlying t = some (.slice e)) (hv : ∀ w, (zeroValue e).run P w = .ok z w) (b o n c : Nat) (hn : 0 < n) (l : List Value) (hl : (Builtin.zeroCells z.cells n).toList = l)
    (hc : ∀ j, j < l.length → (w.cell? ⟨b, o + j, none⟩).isSome = true) (hf : ∀ j, j < l.length → w.frozen? ⟨b, o + j, none⟩ = false) (h1 : ∀ v ∈ l, v.oneCell' = true) :
    (Builtin.clear_ #[t] ty #[.slice (some ⟨b, o, none⟩) n c]).run P w = .ok (.tuple #[]) (w.setCells b o l) := by
  have hst := run_storeCells_cells (P := P) b o l 0 w (by simpa using hc) (by simpa using hf) h1
  simp only [Nat.add_zero] at hst
  obtain ⟨m, rfl⟩ : ∃ m, n = m + 1 := ⟨n - 1, by omega⟩
  simp [Builtin.clear_, run_underlying ht, hv, hl, hst]

section
variable {α : Type} [Inhabited α]
/-- What the loop of DeleteFunc holds: those of the first j that are kept, at the head; those from j on where they were. -/
structure DelI (w wr : World) (g cap k : Nat) (T : TypeId) (enc : α → List Value) (p : α → Bool) (l : List α) (j i : Nat) : Prop where
  grown : w.grownBy wr (some g)
  len : ((l.take j).filter (fun x => !p x)).length = i
  cur : ∃ cur, Blk wr g cur T ∧ cur.size = cap * k ∧ InRows cur k enc ((l.take j).filter (fun x => !p x)) ∧ ∀ a, j ≤ a → a < l.length → ∀ c u, (enc l[a]!)[c]? = some u → cur[a * k + c]? = some u
theorem DelI.lt {w wr : World} {g cap k : Nat} {T : TypeId} {enc : α → List Value} {p : α → Bool} {l : List α} {j i : Nat} (h : DelI w wr g cap k T enc p l j i) : i ≤ j := by
  have := h.len
  have h2 := List.length_filter_le (fun x => !p x) (l.take j)
  simp only [List.length_take] at h2
  omega
omit [Inhabited α] in
theorem take_filter (p : α → Bool) [Inhabited α] (l : List α) (j : Nat) (hj : j < l.length) : (l.take (j + 1)).filter (fun x => !p x) = (l.take j).filter (fun x => !p x) ++ (if p l[j]! = true then [] else [l[j]!]) := by
  rw [List.take_succ_eq_append_getElem hj, List.filter_append]
  have e : l[j]! = l[j] := getElem!_pos l j hj
  rw [e]
  cases h : p l[j] <;> simp [h]
theorem DelI.skip {w wr wx : World} {g cap k : Nat} {T : TypeId} {enc : α → List Value} {p : α → Bool} {l : List α} {j i : Nat} (h : DelI w wr g cap k T enc p l j i) (hj : j < l.length) (hp : p l[j]! = true) (hb : Below wr.heap.size wr wx) : DelI w wx g cap k T enc p l (j + 1) i := by
  obtain ⟨cur, hk, hs, h1, h2⟩ := h.cur
  have e := take_filter p l j hj
  rw [if_pos hp, List.append_nil] at e
  exact ⟨grown_trans h.grown (grown_of_below hb), by rw [e]; exact h.len, cur, hk.below hb, hs, by rw [e]; exact h1, fun a ha => h2 a (by omega)⟩
theorem DelI.keep {w wr wx : World} {g cap k : Nat} {T : TypeId} {enc : α → List Value} {p : α → Bool} {l : List α} {j i : Nat} (hk0 : ∀ x, (enc x).length = k) (h : DelI w wr g cap k T enc p l j i) (hj : j < l.length) (hc : l.length ≤ cap) (hp : p l[j]! = false) (hb : Below wr.heap.size wr wx) :
    DelI w (wx.setCells g (i * k) (enc l[j]!)) g cap k T enc p l (j + 1) (i + 1) := by
  have hij := h.lt
  obtain ⟨cur, hk, hs, h1, h2⟩ := h.cur
  have e := take_filter p l j hj
  rw [if_neg (by rw [hp]; decide)] at e
  have hik : i * k + k ≤ cap * k := by have : (i + 1) * k ≤ cap * k := Nat.mul_le_mul_right k (by omega); rw [Nat.succ_mul] at this; exact this
  refine ⟨grown_trans (grown_trans h.grown (grown_of_below hb)) (grown_setCells g _ _ _), by rw [e, List.length_append, h.len]; rfl, setRow cur (i * k) (enc l[j]!), blk_setCells _ _ _ (hk.below hb), by rw [setRow_size]; exact hs, ?_, ?_⟩
  · intro a ha c u hu
    rw [e] at ha hu
    rw [List.length_append, h.len] at ha
    simp only [List.length_cons, List.length_nil, Nat.zero_add] at ha
    by_cases ea : a = i
    · subst ea
      have el : ((l.take j).filter (fun x => !p x) ++ [l[j]!])[a]! = l[j]! := by
        rw [getElem!_pos ((l.take j).filter (fun x => !p x) ++ [l[j]!]) a (by rw [List.length_append, h.len]; simp), List.getElem_append_right (by rw [h.len]; exact Nat.le_refl _)]
        simp [h.len]
      rw [el] at hu
      have hc' : c < (enc l[j]!).length := (List.getElem?_eq_some_iff.1 hu).1
      rw [setRow_in _ _ _ _ hc' (by rw [hk0, hs]; exact hik)]
      exact hu
    · have ha' : a < i := by omega
      have el : ((l.take j).filter (fun x => !p x) ++ [l[j]!])[a]! = ((l.take j).filter (fun x => !p x))[a]! := by
        rw [getElem!_pos ((l.take j).filter (fun x => !p x) ++ [l[j]!]) a (by rw [List.length_append, h.len]; omega), getElem!_pos ((l.take j).filter (fun x => !p x)) a (by rw [h.len]; exact ha'), List.getElem_append_left (by rw [h.len]; exact ha')]
      rw [el] at hu
      have hc' : c < k := by rw [← hk0 ((l.take j).filter (fun x => !p x))[a]!]; exact (List.getElem?_eq_some_iff.1 hu).1
      rw [setRow_out _ _ _ _ (Or.inl (by have : (a + 1) * k ≤ i * k := Nat.mul_le_mul_right k ha'; rw [Nat.succ_mul] at this; omega))]
      exact h1 a (by rw [h.len]; exact ha') c u hu
  · intro a ha hal c u hu
    rw [setRow_out _ _ _ _ (Or.inr (by rw [hk0]; have : (i + 1) * k ≤ a * k := Nat.mul_le_mul_right k (by omega); rw [Nat.succ_mul] at this; omega))]
    exact h2 a (by omega) hal c u hu
end

end Bk
end Go.Proofs.Ytihapeagjikiaaa
