/- Chapter 8: the program's disk and the document's, side by side (pure). -/
import Derived.Test.YtmojjjikaaclpaaRDiskC
namespace Go.Proofs.Ytmojjjikaaclpaa
open Go.Shelf Go.Lib Go.ChangeShapes Go.WideShapes Go.ChangeAt Go.RowKit
set_option maxRecDepth 100000
set_option linter.unusedSimpArgs false
set_option linter.unusedVariables false

namespace Dk
open Bk
theorem keep_allQ : ∀ b : Fin 64, keepB 18446744073709551615 (b.val : Int) = true := by decide +kernel
theorem keep_fullQ {b : Int} (h0 : 0 ≤ b) (h1 : b < 64) : keepB 18446744073709551615 b = true := by
  have := keep_allQ ⟨b.toNat, by omega⟩
  rwa [show ((⟨b.toNat, by omega⟩ : Fin 64).val : Int) = b from by show (b.toNat : Int) = b; omega] at this
theorem settle_filter (K : Int) (c : Nat → Int) (b : Int) (hb : keepB K b = false) : ∀ l : List Wr, settleC K c (l.filter fun z => !(z.bit == b)) = settleC K c l := by
  intro l
  induction l generalizing c with
  | nil => rfl
  | cons y r ih =>
    unfold settleC at ih ⊢
    by_cases e : y.bit = b
    · rw [List.filter_cons, if_neg (by simp [e]), List.foldl_cons, ih, e, hb]
      rfl
    · rw [List.filter_cons, if_pos (by simp [e]), List.foldl_cons, List.foldl_cons, ih]
theorem settle_moreW (K : Int) (c : Nat → Int) (l : List Wr) (y : Wr) : settleC K c (moreW l y) = if keepB K y.bit = true then y.dat else settleC K c l := by
  unfold moreW
  rw [settleC_more]
  cases h : keepB K y.bit
  · simp only [Bool.false_eq_true, if_false]
    exact settle_filter K c y.bit h l
  · rfl
theorem settle_now (c : Nat → Int) (v : Value) (l : List Wr) (h : ∀ y ∈ l, 0 ≤ y.bit ∧ y.bit < 64) : settleC 18446744073709551615 c l = Sec.now ⟨c, v, l⟩ := by
  rcases List.eq_nil_or_concat l with rfl | ⟨r, y, rfl⟩
  · rfl
  · rw [List.concat_eq_append] at h ⊢
    have := h y (by simp)
    rw [settleC_more, keep_fullQ this.1 this.2]
    simp [Sec.now]
theorem now_moreW (c : Nat → Int) (v : Value) (l : List Wr) (y : Wr) : Sec.now ⟨c, v, moreW l y⟩ = y.dat := by
  simp [Sec.now, moreW]
theorem moreW_len (l : List Wr) (y : Wr) : (moreW l y).length ≤ l.length + 1 := by
  unfold moreW
  rw [List.length_append]
  have := List.length_filter_le (fun z : Wr => !(z.bit == y.bit)) l
  simp only [List.length_cons, List.length_nil]
  omega
theorem rsT_succ (K : Int) (wait : List Wt) (kept : List ByteArray) (j : Nat) : rsT K wait kept (j + 1) = if keepB K ((j % 64 : Nat) : Int) = true then (rsT K wait kept j).set wait[j]!.at_.toNat wait[j]!.s else rsT K wait kept j := rfl
theorem rsT_app (K : Int) (wait : List Wt) (x : Wt) (kept : List ByteArray) : ∀ j, j ≤ wait.length → rsT K (wait ++ [x]) kept j = rsT K wait kept j
  | 0, _ => rfl
  | j + 1, h => by
    have e : (wait ++ [x])[j]! = wait[j]! := by
      rw [getElem!_pos (wait ++ [x]) j (by simp; omega), getElem!_pos wait j (by omega), List.getElem_append_left (by omega)]
    unfold rsT
    rw [rsT_app K wait x kept j (by omega), e]
theorem rsT_more (K : Int) (wait : List Wt) (x : Wt) (kept : List ByteArray) : rsT K (wait ++ [x]) kept (wait ++ [x]).length = if keepB K ((wait.length % 64 : Nat) : Int) = true then (rsT K wait kept wait.length).set x.at_.toNat x.s else rsT K wait kept wait.length := by
  have e : (wait ++ [x])[wait.length]! = x := by
    rw [getElem!_pos (wait ++ [x]) wait.length (by simp), List.getElem_append_right (Nat.le_refl _)]
    simp
  rw [List.length_append]
  show rsT K (wait ++ [x]) kept (wait.length + 1) = _
  rw [rsT_succ, rsT_app K wait x kept wait.length (Nat.le_refl _), e]
theorem set_at (l : List ByteArray) (i j : Nat) (s : ByteArray) (hj : j < l.length) : (l.set i s)[j]! = if i = j then s else l[j]! := by
  rw [getElem!_pos (l.set i s) j (by simpa using hj), List.getElem_set]
  by_cases e : i = j
  · rw [if_pos e, if_pos e]
  · rw [if_neg e, if_neg e, getElem!_pos l j hj]
/-- Are the two disks one? -/
structure PR (secs : List Sec) (bit : Int) (armed : Bool) (left : Int) (down : Bool) (kept now : List ByteArray) (wait : List Wt) (fuse : Int) (m : Nat) : Prop where
  lenK : kept.length = secs.length
  lenN : now.length = secs.length
  few : secs.length ≤ 40
  wl : wait.length ≤ m
  bit : bit = ((wait.length % 64 : Nat) : Int)
  lo : 0 ≤ left ∨ armed = false
  hi : left ≤ 9223372036854775807
  fu : fuse ≤ 9223372036854775807
  arm : down = false → (armed = false ∧ fuse = -1) ∨ (armed = true ∧ left = fuse ∧ 0 ≤ fuse)
  k : ∀ i, i < secs.length → strOf secs[i]!.kept = kept[i]!
  n : ∀ i, i < secs.length → strOf secs[i]!.now = now[i]!
  wr : ∀ i, i < secs.length → secs[i]!.wr.length ≤ wait.length ∧ ∀ y ∈ secs[i]!.wr, 0 ≤ y.bit ∧ y.bit < 64
  at_ : ∀ x ∈ wait, 0 ≤ x.at_ ∧ x.at_ < (secs.length : Int)
  st : ∀ K i, i < secs.length → strOf (settleC K secs[i]!.kept secs[i]!.wr) = (rsT K wait kept wait.length)[i]!
theorem PR.more {secs : List Sec} {bit : Int} {armed : Bool} {left : Int} {down : Bool} {kept now : List ByteArray} {wait : List Wt} {fuse : Int} {m m' : Nat} (h : PR secs bit armed left down kept now wait fuse m) (hm : m ≤ m') : PR secs bit armed left down kept now wait fuse m' :=
  ⟨h.lenK, h.lenN, h.few, Nat.le_trans h.wl hm, h.bit, h.lo, h.hi, h.fu, h.arm, h.k, h.n, h.wr, h.at_, h.st⟩
theorem PR.new (n : Nat) (hn : n ≤ 40) : PR (List.replicate n secZ) 0 false 0 false (List.replicate n (strN 64)) (List.replicate n (strN 64)) [] (-1) 0 := by
  have e : ∀ i, i < (List.replicate n secZ).length → (List.replicate n secZ)[i]! = secZ := fun i hi => by
    rw [getElem!_pos _ i hi, List.getElem_replicate]
  have e2 : ∀ i, i < (List.replicate n secZ).length → (List.replicate n (strN 64))[i]! = strN 64 := fun i hi => by
    rw [getElem!_pos _ i (by simpa using hi), List.getElem_replicate]
  refine ⟨by simp, by simp, by simpa using hn, Nat.le_refl _, rfl, Or.inr rfl, by decide, by decide, fun _ => Or.inl ⟨rfl, rfl⟩, fun i hi => ?_, fun i hi => ?_, fun i hi => ?_, fun x hx => by simp at hx, fun K i hi => ?_⟩
  · rw [e i hi, e2 i hi]; exact strZ.symm
  · rw [e i hi, e2 i hi]; exact strZ.symm
  · rw [e i hi]; exact ⟨Nat.le_refl _, fun y hy => by simp [secZ] at hy⟩
  · rw [e i hi]
    show _ = (List.replicate n (strN 64))[i]!
    rw [e2 i hi]; exact strZ.symm
theorem PR.step {secs : List Sec} {bit : Int} {armed : Bool} {left : Int} {down : Bool} {kept now : List ByteArray} {wait : List Wt} {fuse : Int} {m : Nat} (h : PR secs bit armed left down kept now wait fuse m) :
    downB armed left down = rdown fuse down ∧ PR secs bit armed (leftN armed left down) (rdown fuse down) kept now wait (rfuse fuse down) m := by
  have key : downB armed left down = rdown fuse down ∧ (0 ≤ leftN armed left down ∨ armed = false) ∧ leftN armed left down ≤ 9223372036854775807 ∧ rfuse fuse down ≤ 9223372036854775807 ∧ (rdown fuse down = false → (armed = false ∧ rfuse fuse down = -1) ∨ (armed = true ∧ leftN armed left down = rfuse fuse down ∧ 0 ≤ rfuse fuse down)) := by
    have h1 := h.lo; have h2 := h.hi; have h3 := h.fu; have h4 := h.arm
    cases down
    · rcases h4 rfl with ⟨rfl, rfl⟩ | ⟨rfl, rfl, h0⟩
      · refine ⟨by simp [downB, rdown], Or.inr rfl, by simpa [leftN] using h2, by simp [rfuse], fun _ => Or.inl ⟨rfl, by simp [rfuse]⟩⟩
      · by_cases e : left = 0
        · subst e
          refine ⟨by simp [downB, rdown], Or.inl (by simp [leftN, downB]), by simp [leftN, downB], by simp [rfuse], fun hq => by simp [rdown] at hq⟩
        · have e1 : leftN true left false = left - 1 := by simp [leftN, downB, e]
          have e2 : rfuse left false = left - 1 := by unfold rfuse; rw [if_neg (by decide), if_neg e, if_pos (by omega)]
          rw [e1, e2]
          refine ⟨by simp [downB, rdown], Or.inl (by omega), by omega, by omega, fun _ => Or.inr ⟨rfl, rfl, by omega⟩⟩
    · have e1 : leftN armed left true = left := by simp [leftN, downB]
      have e2 : rfuse fuse true = fuse := by simp [rfuse]
      rw [e1, e2]
      exact ⟨by simp [downB, rdown], h1, h2, h3, fun hq => by simp [rdown] at hq⟩
  exact ⟨key.1, h.lenK, h.lenN, h.few, h.wl, h.bit, key.2.1, key.2.2.1, key.2.2.2.1, key.2.2.2.2, h.k, h.n, h.wr, h.at_, h.st⟩
theorem PR.write {secs : List Sec} {bit : Int} {armed : Bool} {left : Int} {kept now : List ByteArray} {wait : List Wt} {fuse : Int} {m : Nat} (h : PR secs bit armed left false kept now wait fuse m) (i : Nat) (hi : i < secs.length) (S : ByteArray) (hS : S.size ≤ 64) (v' : Value) :
    PR (secs.set i ⟨secs[i]!.kept, v', moreW secs[i]!.wr ⟨bit, padF S⟩⟩) ((bit + 1) % 64) armed left false kept (now.set i (padS S)) (wait ++ [⟨(i : Int), padS S⟩]) fuse (m + 1) := by
  have hps : strOf (padF S) = padS S := (pad_str S hS).symm
  have hb := h.bit
  refine ⟨by rw [List.length_set]; exact h.lenK, by rw [List.length_set, List.length_set]; exact h.lenN, by rw [List.length_set]; exact h.few, by have := h.wl; rw [List.length_append]; simp only [List.length_cons, List.length_nil]; omega, by rw [List.length_append]; simp only [List.length_cons, List.length_nil]; omega, h.lo, h.hi, h.fu, h.arm, fun j hj => ?_, fun j hj => ?_, fun j hj => ?_, fun x hx => ?_, fun K j hj => ?_⟩
  all_goals rw [List.length_set] at *
  · rw [set_get secs i j _ hi hj]
    by_cases e : i = j
    · subst e; rw [if_pos rfl]; exact h.k i hi
    · rw [if_neg e]; exact h.k j hj
  · rw [set_get secs i j _ hi hj, set_at now i j _ (by rw [h.lenN]; exact hj)]
    by_cases e : i = j
    · subst e; rw [if_pos rfl, if_pos rfl, now_moreW]; exact hps
    · rw [if_neg e, if_neg e]; exact h.n j hj
  · rw [set_get secs i j _ hi hj]
    have hl : (wait ++ [(⟨(i : Int), padS S⟩ : Wt)]).length = wait.length + 1 := by simp
    rw [hl]
    by_cases e : i = j
    · subst e
      rw [if_pos rfl]
      have h1 := h.wr i hi
      refine ⟨Nat.le_trans (moreW_len _ _) (by omega), fun y hy => ?_⟩
      rcases List.mem_append.1 hy with hy | hy
      · exact h1.2 y (List.mem_filter.1 hy).1
      · simp only [List.mem_singleton] at hy
        subst hy
        simp only
        omega
    · rw [if_neg e]
      exact ⟨by have := (h.wr j hj).1; omega, (h.wr j hj).2⟩
  · rcases List.mem_append.1 hx with hx | hx
    · exact h.at_ x hx
    · simp only [List.mem_singleton] at hx
      subst hx
      simp only
      omega
  · rw [set_get secs i j _ hi hj, rsT_more]
    simp only [Int.toNat_natCast]
    have hst := h.st K j hj
    rw [← hb]
    by_cases e : i = j
    · subst e
      rw [if_pos rfl]
      show strOf (settleC K secs[i]!.kept (moreW secs[i]!.wr ⟨bit, padF S⟩)) = _
      rw [settle_moreW]
      simp only
      cases hq : keepB K bit
      · simp only [Bool.false_eq_true, if_false]
        exact hst
      · simp only [if_true]
        rw [set_at _ i i _ (by rw [rsT_len, h.lenK]; exact hj), if_pos rfl]
        exact hps
    · rw [if_neg e]
      cases hq : keepB K bit
      · simp only [Bool.false_eq_true, if_false]
        exact hst
      · simp only [if_true]
        rw [set_at _ i j _ (by rw [rsT_len, h.lenK]; exact hj), if_neg e]
        exact hst
theorem PR.settled {secs : List Sec} {bit : Int} {armed : Bool} {left : Int} {down : Bool} {kept now : List ByteArray} {wait : List Wt} {fuse : Int} {m : Nat} (h : PR secs bit armed left down kept now wait fuse m) (K : Int) (T : List ByteArray) (hl : T.length = secs.length) (hT : ∀ i, i < secs.length → strOf (settleC K secs[i]!.kept secs[i]!.wr) = T[i]!) {armed' : Bool} {left' : Int} {down' : Bool} {fuse' : Int}
    (lo : 0 ≤ left' ∨ armed' = false) (hi : left' ≤ 9223372036854775807) (fu : fuse' ≤ 9223372036854775807) (arm : down' = false → (armed' = false ∧ fuse' = -1) ∨ (armed' = true ∧ left' = fuse' ∧ 0 ≤ fuse')) :
    PR (stl K secs secs.length) 0 armed' left' down' T T [] fuse' 0 := by
  have e : ∀ i, i < secs.length → (stl K secs secs.length)[i]! = setSec K secs[i]! := fun i hi => by
    rw [stl_get K secs i hi secs.length (Nat.le_refl _), if_pos hi]
  have el : (stl K secs secs.length).length = secs.length := stl_len _ _ _
  refine ⟨by rw [el]; exact hl, by rw [el]; exact hl, by rw [el]; exact h.few, Nat.le_refl _, rfl, lo, hi, fu, arm, fun i hi => ?_, fun i hi => ?_, fun i hi => ?_, fun x hx => by simp at hx, fun K2 i hi => ?_⟩
  all_goals rw [el] at hi; rw [e i hi]
  · exact hT i hi
  · exact hT i hi
  · exact ⟨Nat.le_refl _, fun y hy => by simp [setSec] at hy⟩
  · exact hT i hi
theorem PR.flush {secs : List Sec} {bit : Int} {armed : Bool} {left : Int} {kept now : List ByteArray} {wait : List Wt} {fuse : Int} {m : Nat} (h : PR secs bit armed left false kept now wait fuse m) : PR (stl 18446744073709551615 secs secs.length) 0 armed left false now now [] fuse m :=
  (h.settled 18446744073709551615 now h.lenN (fun i hi => by
    rw [settle_now _ secs[i]!.v _ (h.wr i hi).2]
    exact h.n i hi) h.lo h.hi h.fu h.arm).more (Nat.zero_le _)
theorem PR.restart {secs : List Sec} {bit : Int} {armed : Bool} {left : Int} {down : Bool} {kept now : List ByteArray} {wait : List Wt} {fuse : Int} {m : Nat} (h : PR secs bit armed left down kept now wait fuse m) (K : Int) : PR (stl K secs secs.length) 0 false left false (rsT K wait kept wait.length) (rsT K wait kept wait.length) [] (-1) m :=
  (h.settled K (rsT K wait kept wait.length) (by rw [rsT_len]; exact h.lenK) (h.st K) (Or.inr rfl) h.hi (by decide) (fun _ => Or.inl ⟨rfl, rfl⟩)).more (Nat.zero_le _)
theorem PR.armed {secs : List Sec} {bit : Int} {armed : Bool} {left : Int} {down : Bool} {kept now : List ByteArray} {wait : List Wt} {fuse : Int} {m : Nat} (h : PR secs bit armed left down kept now wait fuse m) (n : Int) (hn : n ≤ 9223372036854775807) : PR secs bit (decide (0 ≤ n)) n down kept now wait (max n (-1)) m := by
  refine ⟨h.lenK, h.lenN, h.few, h.wl, h.bit, ?_, hn, by omega, fun _ => ?_, h.k, h.n, h.wr, h.at_, h.st⟩
  · by_cases e : 0 ≤ n
    · exact Or.inl e
    · exact Or.inr (decide_eq_false e)
  · by_cases e : 0 ≤ n
    · exact Or.inr ⟨decide_eq_true e, by omega, by omega⟩
    · exact Or.inl ⟨decide_eq_false e, by omega⟩
theorem PR.read {secs : List Sec} {bit : Int} {armed : Bool} {left : Int} {down : Bool} {kept now : List ByteArray} {wait : List Wt} {fuse : Int} {m : Nat} (h : PR secs bit armed left down kept now wait fuse m) (x : Int) : readS secs down x = rreadS now down x ∧ readN secs.length down x = rreadN now.length down x := by
  unfold readS rreadS readN rreadN
  rw [h.lenN]
  refine ⟨?_, rfl⟩
  split
  · rfl
  · split
    · rename_i hx
      have hlt : x.toNat < secs.length := by simp [hasN] at hx; omega
      exact h.n _ hlt
    · rfl
end Dk
end Go.Proofs.Ytmojjjikaaclpaa
