/- Own Copy TextA. -/
import Derived.Test.YtopgllmjeliklaaGreatDoorKiSlicesJ
import Derived.Laws.AppendOwn
import Derived.Lib.Walk
import Derived.Lib.SliceRun
import Derived.Lib.LaidTab
import Derived.Deep.LoopGhost
import Derived.Laws.MakeOwn
set_option maxRecDepth 100000
set_option linter.unusedSimpArgs false
set_option linter.unusedVariables false
namespace Go.Proofs.YtopgllmjeliklaaGreatDoor
open Go.Shelf Go.Lib Go.ChangeShapes Go.WideShapes Go.ChangeAt Go.RowKit
namespace Bk
section
variable {α : Type} [Inhabited α]
def InRows (cur : Array Value) (k : Nat) (enc : α → List Value) (l : List α) : Prop := ∀ j, j < l.length → ∀ i u, (enc l[j]!)[i]? = some u → cur[j * k + i]? = some u
def OwnAt (w : World) (base : Nat) (T : TypeId) (k : Nat) (enc : α → List Value) (v : Value) (l : List α) : Prop :=
 (v = .slice none 0 0 ∧ l = []) ∨ ∃ g cap cur, v = .slice (some ⟨g, 0, none⟩) l.length cap ∧ base ≤ g ∧ Blk w g cur T ∧ l.length ≤ cap ∧ cap ≤ maxLen ∧ cur.size = cap * k ∧ InRows cur k enc l
theorem OwnAt.below {w w' : World} {base : Nat} {T : TypeId} {k : Nat} {enc : α → List Value} {v : Value} {l : List α} (h : OwnAt w base T k enc v l) (hb : Below w.heap.size w w') : OwnAt w' base T k enc v l := by
 rcases h with h | ⟨g, cap, cur, hv, hg, hk, r⟩
 ·exact Or.inl h
 ·exact Or.inr ⟨g, cap, cur, hv, hg, hk.below hb, r⟩
theorem OwnAt.grown {w w' : World} {base : Nat} {T : TypeId} {k : Nat} {enc : α → List Value} {v : Value} {l : List α} {row : Option Nat} (h : OwnAt w base T k enc v l) (hb : w.grownBy w' row) (hne : ∀ g, v.ownBlock = some g → row ≠ some g) : OwnAt w' base T k enc v l := by
 rcases h with h | ⟨g, cap, cur, rfl, hg, hk, r⟩
 ·exact Or.inl h
 ·exact Or.inr ⟨g, cap, cur, rfl, hg, (hb.block g hk.lt (fun e => hne g rfl e.symm)).trans hk, r⟩
theorem OwnAt.rows {w : World} {base : Nat} {T : TypeId} {k : Nat} {enc : α → List Value} {v : Value} {l : List α} (h : OwnAt w base T k enc v l) : ∃ a cap, v = .slice a l.length cap ∧ RowsAt w a cap k enc l := by
 rcases h with ⟨rfl, rfl⟩ | ⟨g, cap, cur, rfl, hg, hk, hl, hm, hs, hr⟩
 ·exact ⟨none, 0, rfl, Nat.le_refl _, Nat.zero_le _, fun h => absurd h (Nat.lt_irrefl _)⟩
 ·refine ⟨_, cap, rfl, hl, hm, fun _ => ⟨g, 0, rfl, hk.lt, fun j hj i u hu => ?_⟩⟩
  rw [hk.cell, Nat.zero_add]; exact hr j hj i u hu
omit [Inhabited α] in
theorem flat_len (enc : α → List Value) (k : Nat) (hk : ∀ x, (enc x).length = k) : ∀ l : List α, (l.flatMap enc).length = l.length * k
 | [] => by simp
 | x :: l => by rw [List.flatMap_cons, List.length_append, hk, flat_len enc k hk l, List.length_cons, Nat.succ_mul]; omega
theorem flat_get (enc : α → List Value) (k : Nat) (hk : ∀ x, (enc x).length = k) : ∀ (l : List α) (j i : Nat), j < l.length → i < k → (l.flatMap enc)[j * k + i]? = (enc l[j]!)[i]?
 | [], j, i, h, _ => absurd h (Nat.not_lt_zero _)
 | x :: l, 0, i, _, hi => by
   rw [List.flatMap_cons, Nat.zero_mul, Nat.zero_add, List.getElem?_append_left (by rw [hk]; exact hi)]
   rfl
 | x :: l, j + 1, i, h, hi => by
   rw [List.flatMap_cons, List.getElem?_append_right (by rw [hk, Nat.succ_mul]; omega), hk, show (j + 1) * k + i - k = j * k + i from by rw [Nat.succ_mul]; omega, flat_get enc k hk l j i (by simpa using h) hi]
   rfl
theorem OwnAt.of_owns {w : World} {base : Nat} {T : TypeId} {k : Nat} {enc : α → List Value} {v : Value} {l : List α} (hk : ∀ x, (enc x).length = k) (h : w.ownsRow base T k v l.length (l.flatMap enc)) : OwnAt w base T k enc v l := by
 obtain ⟨_, ⟨rfl, h0⟩ | ⟨g, cap, cur, rfl, hg, hb, hn, hm, hs, ht⟩⟩ := h
 ·exact Or.inl ⟨rfl, List.length_eq_zero_iff.1 h0⟩
 ·refine Or.inr ⟨g, cap, cur, rfl, hg, hb, hn, hm, hs, fun j hj i u hu => ?_⟩
  have hi : i < k := by rw [← hk l[j]!]; exact (List.getElem?_eq_some_iff.1 hu).1
  have h1 := flat_get enc k hk l j i hj hi; rw [← ht, hu] at h1
  have hlt : j * k + i < l.length * k := by
   have : (j + 1) * k ≤ l.length * k := Nat.mul_le_mul_right k hj; rw [Nat.succ_mul] at this
   omega
  rw [List.getElem?_take_of_lt hlt] at h1
  simpa using h1
theorem OwnAt.to_owns {w : World} {base : Nat} {T : TypeId} {k : Nat} {enc : α → List Value} {v : Value} {l : List α} (hk : ∀ x, (enc x).length = k) (h : OwnAt w base T k enc v l) : w.ownsRow base T k v l.length (l.flatMap enc) := by
 refine ⟨flat_len enc k hk l, ?_⟩
 rcases h with ⟨rfl, rfl⟩ | ⟨g, cap, cur, rfl, hg, hb, hl, hm, hs, hr⟩
 ·exact Or.inl ⟨rfl, rfl⟩
 ·refine Or.inr ⟨g, cap, cur, rfl, hg, hb, hl, hm, hs, ?_⟩
  apply List.ext_getElem?
  intro x
  by_cases hx : x < l.length * k
  ·have k0 : 0 < k := by rcases Nat.eq_zero_or_pos k with h | h; (· subst h; omega); exact h
   rw [List.getElem?_take_of_lt hx]; have hq : x / k < l.length := Nat.div_lt_of_lt_mul (by rw [Nat.mul_comm]; exact hx); have hr2 : x % k < k := Nat.mod_lt _ k0; have e : x = x / k * k + x % k := by rw [Nat.mul_comm]; exact (Nat.div_add_mod x k).symm
   have h1 := flat_get enc k hk l (x / k) (x % k) hq hr2; rw [← e] at h1; rw [h1]; have hv : ∃ u, (enc l[x / k]!)[x % k]? = some u := ⟨_, List.getElem?_eq_getElem (by rw [hk]; exact hr2)⟩
   obtain ⟨u, hu⟩ := hv; have := hr _ hq _ u hu; rw [← e] at this; rw [hu]
   simpa using this
  ·rw [List.getElem?_eq_none (by simp; omega), List.getElem?_eq_none (by rw [flat_len enc k hk]; omega)]
end
theorem stay_len (x : Stay) : x.enc.length = 8 := rfl
theorem job_len (x : Job) : x.enc.length = 2 := rfl
theorem stay_one : ∀ (l : List Stay), ∀ u ∈ l.flatMap Stay.enc, u.oneCell' = true
 | [], u, h => by simp at h
 | x :: l, u, h => by
   rw [List.flatMap_cons, List.mem_append] at h
   rcases h with h | h
   ·simp only [Stay.enc, List.mem_cons, List.not_mem_nil, or_false] at h
    rcases h with rfl | rfl | rfl | rfl | rfl | rfl | rfl | rfl <;> rfl
   ·exact stay_one l u h
theorem job_one : ∀ (l : List Job), ∀ u ∈ l.flatMap Job.enc, u.oneCell' = true
 | [], u, h => by simp at h
 | x :: l, u, h => by
   rw [List.flatMap_cons, List.mem_append] at h
   rcases h with h | h
   ·simp only [Job.enc, List.mem_cons, List.not_mem_nil, or_false] at h
    rcases h with rfl | rfl <;> rfl
   ·exact job_one l u h
theorem RowsAt.flat {α : Type} [Inhabited α] {W : World} {ad : Addr} {cap k : Nat} {enc : α → List Value} {zs : List α} (hk : ∀ x, (enc x).length = k) (h : RowsAt W (some ad) cap k enc zs) : ∀ j u, (zs.flatMap enc)[j]? = some u → W.cell? (ad.add j) = some u := by
 intro x u hu
 have hx : x < zs.length * k := by rw [← flat_len enc k hk]; exact (List.getElem?_eq_some_iff.1 hu).1
 have k0 : 0 < k := by rcases Nat.eq_zero_or_pos k with h | h; (· subst h; omega); exact h
 have hq : x / k < zs.length := Nat.div_lt_of_lt_mul (by rw [Nat.mul_comm]; exact hx); have hr2 : x % k < k := Nat.mod_lt _ k0; have e : x = x / k * k + x % k := by rw [Nat.mul_comm]; exact (Nat.div_add_mod x k).symm
 obtain ⟨b, off, ha, _, hcell⟩ := h.2.2 (Nat.lt_of_le_of_lt (Nat.zero_le _) hq)
 cases ha
 rw [add_none]; rw [e, flat_get enc k hk zs _ _ hq hr2] at hu; have := hcell _ hq _ u hu; rw [Nat.add_assoc, ← e] at this; exact this
theorem Tryz.infoJob : ∃ i0 : TypeInfo, Tryz.prog.info? 88 = some i0 ∧ i0.zero = some (.agg #[.int .i64 0, .bool false]) ∧ i0.size = 2 ∧ i0.bytes = 16 := ⟨_, rfl, by kernel_rfl, by kernel_rfl, by kernel_rfl⟩
theorem Tryz.infoStay : ∃ i0 : TypeInfo, Tryz.prog.info? 67 = some i0 ∧ i0.zero = some (.agg #[.int .i64 0, .int .i64 0, .int .i64 0, .int .i64 0, .int .i64 0, .int .i64 0, .int .i64 0, .int .i64 0]) ∧ i0.size = 8 ∧ i0.bytes = 64 := ⟨_, rfl, by kernel_rfl, by kernel_rfl, by kernel_rfl⟩
set_option maxHeartbeats 1000000 in
theorem cloneJ_any (a : Option Addr) (cap : Nat) (l : List Job) (w : World) (h : RowsAt w a cap 2 Job.enc l) (hl : l.length ≤ 1000) :
  Calls Tryz.prog 113 #[.slice a l.length cap] w fun e w' => ∃ v, e = .returned v ∧ OwnAt w' w.heap.size 88 2 Job.enc v l ∧ Below w.heap.size w w' := by
 obtain ⟨i0, hi, hz0, hz1, hz2⟩ := Tryz.infoJob; have q22 : ∀ (w : World) (a : Option Addr) (n c n' c' : Nat), (binOp .eql 37 (.slice a n c) (.slice none n' c')).run Tryz.prog w = .ok (.bool a.isNone) w := fun w a n c n' c' => Lib.run_eql_slice_nil w _ _ a n c n' c' Tryz.underlying37
 cases a with
 | none =>
   have h0 : l = [] := by
    rcases l with _ | ⟨x, l⟩
    ·rfl
    ·obtain ⟨b, off, e, _⟩ := h.2.2 (by simp)
     cases e
   subst h0; clear h hi hz0 hz1 hz2
   go_enter Tryz.func113, Tryz.ntmps113
   go_wp2; go_returns; exact ⟨_, rfl, Or.inl ⟨rfl, rfl⟩, Below.refl _ _⟩
 | some ad =>
   have HA : Hid (∀ j u, (l.flatMap Job.enc)[j]? = some u → w.cell? (ad.add j) = some u) := h.flat job_len
   have HL : Hid ((l.flatMap Job.enc).length = l.length * 2) := flat_len Job.enc 2 job_len l; have H1 : Hid (∀ u ∈ l.flatMap Job.enc, u.oneCell' = true) := job_one l
   clear h
   go_enter Tryz.func113, Tryz.ntmps113
   go_wp2_with (at_builtin; refine wpList_append_own _ rfl _ _ 37 rfl w.heap.size 88 i0 _ 2 16 Tryz.underlying37 hi hz0 hz1 hz2 rfl (by omega) _ _ _ rfl (World.ownsRow_made w #[] 0 (Nat.le_refl _) (Nat.zero_le _) (by simp)) ad l.length cap (l.flatMap Job.enc) rfl ?qc1 ?qc2 ?qc3 ?qc4 ?qc5 ?qc6 ?_)
   case qc1 => exact HL.out
   case qc2 => intro j u hj; exact Lib.cell?_alloc_some _ (HA.out j u hj)
   case qc3 => exact H1.out
   case qc4 => unfold maxLen; omega
   case qc5 => omega
   case qc6 => simp
   intro v' w1 hown hgrow hnil
   have o1 : w1.ownsRow w.heap.size 88 2 v' l.length (l.flatMap Job.enc) := by simpa using hown
   have O1 : Hid (w1.ownsRow w.heap.size 88 2 v' l.length (l.flatMap Job.enc)) := o1; clear o1; have G1 : Hid (Below w.heap.size w w1) := ((Below.refl _ w).alloc (Nat.le_refl _) _).grown hgrow (by simp) (by intro k hk; simp [Value.ownBlock] at hk; omega); clear hown hgrow hnil; go_wp2; go_returns; exact ⟨v', rfl, OwnAt.of_owns job_len O1.out, G1.out⟩
set_option maxHeartbeats 1000000 in
theorem cloneS_any (a : Option Addr) (cap : Nat) (l : List Stay) (w : World) (h : RowsAt w a cap 8 Stay.enc l) (hl : l.length ≤ 1000) :
  Calls Tryz.prog 112 #[.slice a l.length cap] w fun e w' => ∃ v, e = .returned v ∧ OwnAt w' w.heap.size 67 8 Stay.enc v l ∧ Below w.heap.size w w' := by
 obtain ⟨i0, hi, hz0, hz1, hz2⟩ := Tryz.infoStay; have q22 : ∀ (w : World) (a : Option Addr) (n c n' c' : Nat), (binOp .eql 36 (.slice a n c) (.slice none n' c')).run Tryz.prog w = .ok (.bool a.isNone) w := fun w a n c n' c' => Lib.run_eql_slice_nil w _ _ a n c n' c' Tryz.underlying36
 cases a with
 | none =>
   have h0 : l = [] := by
    rcases l with _ | ⟨x, l⟩
    ·rfl
    ·obtain ⟨b, off, e, _⟩ := h.2.2 (by simp)
     cases e
   subst h0; clear h hi hz0 hz1 hz2
   go_enter Tryz.func112, Tryz.ntmps112
   go_wp2; go_returns; exact ⟨_, rfl, Or.inl ⟨rfl, rfl⟩, Below.refl _ _⟩
 | some ad =>
   have HA : Hid (∀ j u, (l.flatMap Stay.enc)[j]? = some u → w.cell? (ad.add j) = some u) := h.flat stay_len
   have HL : Hid ((l.flatMap Stay.enc).length = l.length * 8) := flat_len Stay.enc 8 stay_len l; have H1 : Hid (∀ u ∈ l.flatMap Stay.enc, u.oneCell' = true) := stay_one l
   clear h
   go_enter Tryz.func112, Tryz.ntmps112
   go_wp2_with (at_builtin; refine wpList_append_own _ rfl _ _ 36 rfl w.heap.size 67 i0 _ 8 64 Tryz.underlying36 hi hz0 hz1 hz2 rfl (by omega) _ _ _ rfl (World.ownsRow_made w #[] 0 (Nat.le_refl _) (Nat.zero_le _) (by simp)) ad l.length cap (l.flatMap Stay.enc) rfl ?qc1 ?qc2 ?qc3 ?qc4 ?qc5 ?qc6 ?_)
   case qc1 => exact HL.out
   case qc2 => intro j u hj; exact Lib.cell?_alloc_some _ (HA.out j u hj)
   case qc3 => exact H1.out
   case qc4 => unfold maxLen; omega
   case qc5 => omega
   case qc6 => simp
   intro v' w1 hown hgrow hnil
   have o1 : w1.ownsRow w.heap.size 67 8 v' l.length (l.flatMap Stay.enc) := by simpa using hown
   have O1 : Hid (w1.ownsRow w.heap.size 67 8 v' l.length (l.flatMap Stay.enc)) := o1; clear o1; have G1 : Hid (Below w.heap.size w w1) := ((Below.refl _ w).alloc (Nat.le_refl _) _).grown hgrow (by simp) (by intro k hk; simp [Value.ownBlock] at hk; omega); clear hown hgrow hnil; go_wp2; go_returns; exact ⟨v', rfl, OwnAt.of_owns stay_len O1.out, G1.out⟩
end Bk
namespace Bk
structure OwnBook (w : World) (base : Nat) (vs vj : Value) (stays : List Stay) (jobs : List Job) : Prop where
 s : OwnAt w base 67 8 Stay.enc vs stays
 j : OwnAt w base 88 2 Job.enc vj jobs
 ne : ∀ g, vs.ownBlock = some g → vj.ownBlock ≠ some g
theorem OwnBook.below {w w' : World} {base : Nat} {vs vj : Value} {stays : List Stay} {jobs : List Job} (h : OwnBook w base vs vj stays jobs) (hb : Below w.heap.size w w') : OwnBook w' base vs vj stays jobs := ⟨h.s.below hb, h.j.below hb, h.ne⟩
theorem OwnAt.base {α : Type} [Inhabited α] {w : World} {b b' : Nat} {T : TypeId} {k : Nat} {enc : α → List Value} {v : Value} {l : List α} (h : OwnAt w b T k enc v l) (hb : b' ≤ b) : OwnAt w b' T k enc v l := by
 rcases h with h | ⟨g, cap, cur, hv, hg, r⟩
 ·exact Or.inl h
 ·exact Or.inr ⟨g, cap, cur, hv, Nat.le_trans hb hg, r⟩
theorem OwnAt.block {α : Type} [Inhabited α] {w : World} {b : Nat} {T : TypeId} {k : Nat} {enc : α → List Value} {v : Value} {l : List α} (h : OwnAt w b T k enc v l) (g : Nat) (hg : v.ownBlock = some g) : b ≤ g ∧ g < w.heap.size := by
 rcases h with ⟨rfl, _⟩ | ⟨g', cap, cur, rfl, hg', hk, _⟩
 ·simp [Value.ownBlock] at hg
 ·simp [Value.ownBlock] at hg
  subst hg; exact ⟨hg', hk.lt⟩
set_option maxHeartbeats 2000000 in
theorem copy_any (b : Book) (w : World) (h : b.At w) (hs : b.stays.length ≤ 1000) (hj : b.jobs.length ≤ 1000) :
  Calls Tryz.prog 77 #[b.val] w fun e w' => ∃ vs vj, e = .returned (.agg #[.int .i64 b.last, vs, vj]) ∧ OwnBook w' w.heap.size vs vj b.stays b.jobs ∧ Below w.heap.size w w' := by
 obtain ⟨last, sa, sc, ja, jc, stays, jobs⟩ := b; obtain ⟨h1, h2⟩ := h; simp only [Book.val] at *; have HCS : Hid (∀ wx, Below w.heap.size w wx → Calls Tryz.prog 112 #[.slice sa stays.length sc] wx fun e w' => ∃ v, e = .returned v ∧ OwnAt w' wx.heap.size 67 8 Stay.enc v stays ∧ Below wx.heap.size wx w') := fun wx hb => cloneS_any sa sc stays wx (h1.below hb) hs
 have HCJ : Hid (∀ wx, Below w.heap.size w wx → Calls Tryz.prog 113 #[.slice ja jobs.length jc] wx fun e w' => ∃ v, e = .returned v ∧ OwnAt w' wx.heap.size 88 2 Job.enc v jobs ∧ Below wx.heap.size wx w') := fun wx hb => cloneJ_any ja jc jobs wx (h2.below hb) hj
 obtain ⟨w0, hw0⟩ : ∃ w0, (w.alloc (.cells #[.int .i64 last, .slice sa stays.length sc, .slice ja jobs.length jc] 39)).alloc (.cells #[.int .i64 0, .slice none 0 0, .slice none 0 0] 39) = w0 := ⟨_, rfl⟩
 have N0 : Hid (Below w.heap.size w w0 ∧ Blk w0 w.heap.size #[.int .i64 last, .slice sa stays.length sc, .slice ja jobs.length jc] 39 ∧ Blk w0 (w.heap.size + 1) #[.int .i64 0, .slice none 0 0, .slice none 0 0] 39) := by
  show _ ∧ _ ∧ _
  rw [← hw0]; exact ⟨(B.new1 _ _).alloc (by simp) _, (Blk.new _ _ _).old _, Blk.new1 (by simp) _ _⟩
 have r0 := N0.out.2.1.cell 1; clear h1 h2
 go_enter Tryz.func77, Tryz.ntmps77
 go_wp2_with fail; refine (HCS.out _ N0.out.1).mono ?_; rintro e w1 ⟨vs, rfl, o1, b1⟩; obtain ⟨sa1, sc1, hvs, _⟩ := o1.rows; subst hvs; have N1 : Hid (Below w.heap.size w w1 ∧ Blk w1 w.heap.size #[.int .i64 last, .slice sa stays.length sc, .slice ja jobs.length jc] 39 ∧ Blk w1 (w.heap.size + 1) #[.int .i64 0, .slice none 0 0, .slice none 0 0] 39) := ⟨B.next N0.out.1 b1 N0.out.1.size, N0.out.2.1.below b1, N0.out.2.2.below b1⟩; have O1 : Hid (OwnAt w1 w0.heap.size 67 8 Stay.enc (.slice sa1 stays.length sc1) stays) := o1; have z0 : Hid (w.heap.size + 1 < w0.heap.size) := N0.out.2.2.lt; clear o1 b1 N0 r0 hw0; have r1 := N1.out.2.1.cell; have f1 := N1.out.2.1.free; obtain ⟨w2, hw2⟩ : ∃ w2, w1.setCell ⟨w.heap.size, 1, none⟩ (.slice sa1 stays.length sc1) = w2 := ⟨_, rfl⟩
 have N2 : Hid (Below w.heap.size w w2 ∧ Blk w2 w.heap.size #[.int .i64 last, (.slice sa1 stays.length sc1), .slice ja jobs.length jc] 39 ∧ Blk w2 (w.heap.size + 1) #[.int .i64 0, .slice none 0 0, .slice none 0 0] 39 ∧ OwnAt w2 w0.heap.size 67 8 Stay.enc (.slice sa1 stays.length sc1) stays) := by
  show _ ∧ _ ∧ _ ∧ _
  rw [← hw2]; refine ⟨N1.out.1.setCell (p := ⟨w.heap.size, 1, none⟩) (Nat.le_refl _) _, N1.out.2.1.set 1 _, N1.out.2.2.other (by omega) _ _, ?_⟩
  rcases O1.out with h | ⟨g, cap, cur, hv, hg, hk, r⟩
  ·exact Or.inl h
  ·exact Or.inr ⟨g, cap, cur, hv, hg, hk.other (by have := z0.out; omega) _ _, r⟩
 have HV : Hid (∀ g, (Value.slice sa1 stays.length sc1).ownBlock = some g → g < w2.heap.size) := fun g hg => by rw [← hw2, size_setCell]; exact (O1.out.block g hg).2
 have r2 := N2.out.2.1.cell; clear O1 N1; go_wp2_with fail; clear r1 f1 hw2; refine (HCJ.out _ N2.out.1).mono ?_; rintro e w3 ⟨vj, rfl, o3, b3⟩; obtain ⟨ja1, jc1, hvj, _⟩ := o3.rows; subst hvj; have N3 : Hid (Below w.heap.size w w3 ∧ Blk w3 w.heap.size #[.int .i64 last, (.slice sa1 stays.length sc1), .slice ja jobs.length jc] 39 ∧ Blk w3 (w.heap.size + 1) #[.int .i64 0, .slice none 0 0, .slice none 0 0] 39) := ⟨B.next N2.out.1 b3 N2.out.1.size, N2.out.2.1.below b3, N2.out.2.2.1.below b3⟩; have z2 : w.heap.size + 1 < w2.heap.size := N2.out.2.2.1.lt; have OB : Hid (OwnBook w3 (w.heap.size + 2) (.slice sa1 stays.length sc1) (.slice ja1 jobs.length jc1) stays jobs) := ⟨(N2.out.2.2.2.below b3).base (by have := z0.out; omega), o3.base (by omega), fun g hg hg' => by have := HV.out g hg; have := (o3.block g hg').1; omega⟩
 clear o3 b3 N2 r2 HV; have r3 := N3.out.2.1.cell; have f3 := N3.out.2.1.free; obtain ⟨w4, hw4⟩ : ∃ w4, w3.setCell ⟨w.heap.size, 2, none⟩ (.slice ja1 jobs.length jc1) = w4 := ⟨_, rfl⟩
 have N4 : Hid (Below w.heap.size w w4 ∧ Blk w4 w.heap.size #[.int .i64 last, (.slice sa1 stays.length sc1), (.slice ja1 jobs.length jc1)] 39 ∧ Blk w4 (w.heap.size + 1) #[.int .i64 0, .slice none 0 0, .slice none 0 0] 39) := by
  show _ ∧ _ ∧ _
  rw [← hw4]; exact ⟨N3.out.1.setCell (p := ⟨w.heap.size, 2, none⟩) (Nat.le_refl _) _, N3.out.2.1.set 2 _, N3.out.2.2.other (by omega) _ _⟩
 have HO : Hid (∀ a b c, OwnBook (((w4.setCell ⟨w.heap.size + 1, 0, none⟩ a).setCell ⟨w.heap.size + 1, 1, none⟩ b).setCell ⟨w.heap.size + 1, 2, none⟩ c) w.heap.size (.slice sa1 stays.length sc1) (.slice ja1 jobs.length jc1) stays jobs) := fun a b c => by
  rw [← hw4]; refine ⟨?_, ?_, OB.out.ne⟩
  ·rcases OB.out.s with h | ⟨g, cap, cur, hv, hg, hk, r⟩
   ·exact Or.inl h
   ·exact Or.inr ⟨g, cap, cur, hv, by omega, (((hk.other (by omega) _ _).other (by omega) _ _).other (by omega) _ _).other (by omega) _ _, r⟩
  ·rcases OB.out.j with h | ⟨g, cap, cur, hv, hg, hk, r⟩
   ·exact Or.inl h
   ·exact Or.inr ⟨g, cap, cur, hv, by omega, (((hk.other (by omega) _ _).other (by omega) _ _).other (by omega) _ _).other (by omega) _ _, r⟩
 have r4 := N4.out.2.1.cell; have gg := N4.out.2.2.cell; have ff := N4.out.2.2.free; clear N3 OB; go_wp2
 (try simp only [Exit.inBlock, Exit.then])
 refine bodyPost_ret (v := .agg #[.int .i64 last, (.slice sa1 stays.length sc1), (.slice ja1 jobs.length jc1)]) (by simp [results, Tryz.results77, go_sem, set3_0 gg, set3_1 gg, set3_2 gg]; try rfl) rfl ?_; exact ⟨(.slice sa1 stays.length sc1), (.slice ja1 jobs.length jc1), rfl, HO.out _ _ _, ((N4.out.1.setCell (p := ⟨w.heap.size + 1, 0, none⟩) (Nat.le_succ _) _).setCell (p := ⟨w.heap.size + 1, 1, none⟩) (Nat.le_succ _) _).setCell (p := ⟨w.heap.size + 1, 2, none⟩) (Nat.le_succ _) _⟩
end Bk
end Go.Proofs.YtopgllmjeliklaaGreatDoor
namespace Go.Proofs.YtopgllmjeliklaaGreatDoor
open Go.Shelf Go.ChangeShapes Go.WideShapes Go.ChangeAt Go.RowKit
theorem Tryz.xJoin : Builder.Extra Tryz.prog Tryz.lJoin_ren where
 sizeBuilder := by kernel_rfl
 liesBuilder := by kernel_rfl
 t5 := Tryz.underlying5
 a5 := Tryz.isAgg5
 z5 := Tryz.sizeOf5
 v5 := Tryz.zeroValue5
 infoByte := by kernel_rfl
 cellsByte := by kernel_rfl
 sizeByte := by kernel_rfl
 neB5 := by decide
namespace Tx
open Bk
structure Glob (w : World) : Prop where
 hn : Tryz.prog.globals.size ≤ w.heap.size
 tab : Lib.TabIs Tryz.prog w "internal/strconv.uint64pow10" .u64 Lib.pow10Tab
 len : ∃ m, w.cell? ⟨Tryz.lSplitN_ren.g 1, 0, none⟩ = some (.int .i64 m)
 syn : ∃ ev, w.cell? ⟨Tryz.lAtoi_ren.g 15, 0, none⟩ = some ev ∧ (ev = .nilIface ∨ ∃ te pe, ev = .iface te pe)
 rng : ∃ ev, w.cell? ⟨Tryz.lAtoi_ren.g 16, 0, none⟩ = some ev ∧ (ev = .nilIface ∨ ∃ te pe, ev = .iface te pe)
theorem g1_lt : Tryz.lSplitN_ren.g 1 < Tryz.prog.globals.size := of_decide_eq_true (by kernel_rfl)
theorem g15_lt : Tryz.lAtoi_ren.g 15 < Tryz.prog.globals.size := of_decide_eq_true (by kernel_rfl)
theorem g16_lt : Tryz.lAtoi_ren.g 16 < Tryz.prog.globals.size := of_decide_eq_true (by kernel_rfl)
theorem pow_named : ∃ g, Tryz.prog.globalNamed "internal/strconv.uint64pow10" = some g ∧ g < Tryz.prog.globals.size := by
 have h : ((Tryz.prog.globalNamed "internal/strconv.uint64pow10").map fun g => decide (g < Tryz.prog.globals.size)) = some true := by kernel_rfl
 cases hg : Tryz.prog.globalNamed "internal/strconv.uint64pow10" with
 | none => rw [hg] at h; cases h
 | some g =>
   rw [hg] at h; simp only [Option.map_some, Option.some.injEq, decide_eq_true_eq] at h; exact ⟨g, rfl, h⟩
theorem Glob.same {w w' : World} (h : Glob w) (hs : w.heap.size ≤ w'.heap.size) (hb : ∀ k, k < Tryz.prog.globals.size → w'.heap[k]? = w.heap[k]?) : Glob w' := by
 have hc : ∀ g o, g < Tryz.prog.globals.size → w'.cell? ⟨g, o, none⟩ = w.cell? ⟨g, o, none⟩ := fun g o hg => World.cell?_of_block (hb g hg)
 refine ⟨Nat.le_trans h.hn hs, ?_, ?_, ?_, ?_⟩
 ·obtain ⟨g, hg, hl⟩ := pow_named
  have := h.tab; unfold Lib.TabIs World.var? at this ⊢; rw [hg] at this ⊢; simp only [Option.bind_some] at this ⊢; rw [hb g hl]; exact this
 ·rw [hc _ _ g1_lt]; exact h.len
 ·rw [hc _ _ g15_lt]; exact h.syn
 ·rw [hc _ _ g16_lt]; exact h.rng
theorem Glob.below {w w' : World} {B : Nat} (h : Glob w) (hb : Below B w w') (hB : Tryz.prog.globals.size ≤ B) : Glob w' := h.same hb.size fun k hk => hb.block k (by omega)
theorem Glob.new {w w' : World} (h : Glob w) (hb : Below w.heap.size w w') : Glob w' := h.below hb h.hn
theorem itoa_any (n : Int) (w : World) (h0 : -9223372036854775808 ≤ n) (h1 : n ≤ 9223372036854775807) (G : Glob w) :
  Calls Tryz.prog 129 #[.int .i64 n] w fun e w' => e = .returned (.string ⟨(Lib.itoa n).toArray⟩) ∧ Below w.heap.size w w' := by
 refine (show Calls Tryz.prog 129 #[.int .i64 n] w _ from Any.strconv_Itoa Tryz.lItoa n h0 h1 w G.tab).mono fun e w' h => ?_
 obtain ⟨rfl, k, os, rfl⟩ := h; refine ⟨rfl, rfl, rfl, rfl, by simp [Sort.grow], fun j hj => ?_⟩
 simp only [Sort.grow, World.heap_drewN]; rw [Array.getElem?_append_left hj]
theorem join_any (bk c : Nat) (xs : List ByteArray) (w : World) (hcells : ∀ (j : Nat) x, xs[j]? = some x → w.cell? ⟨bk, j, none⟩ = some (.string x)) (hbk : bk < w.heap.size) (hN : xs.length ≤ 100000) (hcap : xs.length ≤ c)
  (hlen : (Lib.join (xs.map (·.data.toList)) [32]).length ≤ 100000000) :
  Calls Tryz.prog 130 #[.slice (some ⟨bk, 0, none⟩) xs.length c, .string ⟨#[32]⟩] w fun e w' => e = .returned (.string ⟨(Lib.join (xs.map (·.data.toList)) [32]).toArray⟩) ∧ Below w.heap.size w w' :=
 Any.strings_Join Tryz.lJoin Tryz.xJoin bk 0 c xs ⟨#[32]⟩ w (fun j x hx => by rw [Nat.zero_add]; exact hcells j x hx) hbk (by omega) hcap (by show (Lib.join _ [32]).length ≤ _; omega)
end Tx
end Go.Proofs.YtopgllmjeliklaaGreatDoor
