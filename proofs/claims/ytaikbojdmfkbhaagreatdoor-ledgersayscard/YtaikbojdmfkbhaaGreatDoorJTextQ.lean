/- The text of a right book: its length, and what it is read as (pure). -/
import Derived.Test.YtaikbojdmfkbhaaGreatDoorCopy
import Derived.Test.YtaikbojdmfkbhaaGreatDoorJLedgerA
import Derived.Test.YtaikbojdmfkbhaaGreatDoorJStoreC
import Derived.Test.YtaikbojdmfkbhaaGreatDoorBookCheckB
import Derived.Test.YtaikbojdmfkbhaaGreatDoorJParse
import Derived.Test.YtaikbojdmfkbhaaGreatDoorTopPickA
import Derived.Test.YtaikbojdmfkbhaaGreatDoorJActs
import Derived.Test.YtaikbojdmfkbhaaGreatDoorTopOverA
import Derived.Deep.RegionHeld3
namespace Go.Proofs.YtaikbojdmfkbhaaGreatDoor
open Go.Shelf Go.ChangeShapes Go.WideShapes Go.ChangeAt Go.RowKit
set_option maxRecDepth 100000
set_option linter.unusedSimpArgs false
set_option linter.unusedVariables false

namespace Tx
open Bk
def tot (l : List Int) : Nat := (l.map fun n => (Lib.itoa n).length + 1).sum
theorem tot_append (a b : List Int) : tot (a ++ b) = tot a + tot b := by unfold tot; rw [List.map_append, List.sum_append_nat]
theorem tot_cons (a : Int) (b : List Int) : tot (a :: b) = (Lib.itoa a).length + 1 + tot b := by unfold tot; rw [List.map_cons, List.sum_cons]
theorem tot_nil : tot [] = 0 := rfl
theorem join_tot : ∀ l : List Int, (Lib.join (l.map Lib.itoa) [32]).length ≤ tot l
  | [] => by simp [Lib.join_nil]
  | [a] => by rw [List.map_cons, List.map_nil, Lib.join_one, tot_cons]; omega
  | a :: b :: r => by
    have ih := join_tot (b :: r)
    rw [List.map_cons, List.map_cons, join_two, List.length_append, List.length_cons, tot_cons]
    rw [List.map_cons] at ih
    omega
theorem len_le {n : Int} (k : Nat) (h0 : 0 ≤ n) (h1 : n < ((10 ^ (k + 1) : Nat) : Int)) : (Lib.itoa n).length ≤ k + 1 := itoa_len k h0 h1
theorem tot_stays {last : Int} {n : Nat} (hl : last ≤ 999999) (hn : n ≤ 4) : ∀ l : List Stay, (∀ s ∈ l, okS last n s) → tot (l.flatMap stayNs) ≤ 26 * l.length
  | [], _ => by simp [tot]
  | s :: l, h => by
    have ih := tot_stays hl hn l (fun x hx => h x (by simp [hx]))
    have h0 := h s (by simp)
    have h1 := car_bounds h0.1
    have h2 := place_bounds hn h0.2.1
    have h3 : 1 ≤ s.t ∧ s.t ≤ last := by simpa using h0.2.2.1
    rw [List.flatMap_cons, tot_append, List.length_cons]
    have e : tot (stayNs s) ≤ 26 := by
      unfold stayNs
      simp only [tot_cons, tot_nil]
      have a1 := len_le 5 (n := s.t) (by omega) (by omega)
      have a2 := len_le 2 (n := s.id) (by omega) (by omega)
      have a3 := len_le 1 (n := s.a) (by omega) (by omega)
      have a4 := len_le 1 (n := s.b) (by omega) (by omega)
      have a5 := len_le 1 (n := s.c) (by omega) (by omega)
      have a6 := len_le 0 (n := s.x) (by omega) (by omega)
      have a7 := len_le 0 (n := s.y) (by omega) (by omega)
      have a8 := len_le 0 (n := s.z) (by omega) (by omega)
      omega
    omega
theorem tot_jobs : ∀ l : List Job, (∀ j ∈ l, 0 ≤ j.t ∧ j.t ≤ 999999) → tot (l.flatMap jobNs) ≤ 9 * l.length
  | [], _ => by simp [tot]
  | j :: l, h => by
    have ih := tot_jobs l (fun x hx => h x (by simp [hx]))
    have h0 := h j (by simp)
    rw [List.flatMap_cons, tot_append, List.length_cons]
    have e : tot (jobNs j) ≤ 9 := by
      unfold jobNs
      simp only [tot_cons, tot_nil]
      have a1 := len_le 5 (n := j.t) (by omega) (by omega)
      have a2 := len_le 0 (n := if j.f = true then 1 else 0) (by split <;> omega) (by split <;> omega)
      omega
    omega
theorem text_500 {last : Int} {n : Nat} {stays : List Stay} {jobs : List Job} (hn : n ≤ 4) (h : BookOK last n stays jobs) : (textL last stays jobs).length ≤ 500 := by
  have h1 := join_tot (numsOf last stays jobs)
  have h2 := tot_stays h.lim.2 hn stays h.s.each
  have h3 := tot_jobs jobs (fun j hj => by
    obtain ⟨s, hs, e⟩ := h.j.each j hj
    have := (h.s.each s hs).2.2.1
    have h4 : 1 ≤ s.t ∧ s.t ≤ last := by simpa using this
    have := h.lim
    omega)
  have h4 := h.fewS
  have h5 := h.fewJ
  have h6 := h.lim
  have a1 := len_le 5 (n := last) (by omega) (by omega)
  have a2 := len_le 1 (n := (stays.length : Int)) (by omega) (by omega)
  have a3 := len_le 0 (n := (jobs.length : Int)) (by omega) (by omega)
  unfold numsOf at h1
  rw [tot_append, tot_append] at h1
  simp only [tot_cons, tot_nil] at h1
  unfold textL numsOf
  omega
theorem text_300 : (textL 3 [] []) = [51, 32, 48, 32, 48] := by
  have e3 : Lib.itoa 3 = [51] := by rw [itoa_pos (by decide)]; exact Lib.decDigits_one (by decide)
  have e0 : Lib.itoa 0 = [48] := by rw [itoa_pos (by decide)]; exact Lib.decDigits_one (by decide)
  show Lib.join ([3, ((0 : Nat) : Int), ((0 : Nat) : Int)].map Lib.itoa) [32] = _
  simp only [List.map_cons, List.map_nil, Int.natCast_zero, e3, e0]
  rw [join_two, join_two, Lib.join_one]
  rfl
theorem parse_text {last : Int} {n : Nat} {stays : List Stay} {jobs : List Job} (hn : n ≤ 4) (h : BookOK last n stays jobs) : parseP ⟨(textL last stays jobs).toArray⟩ n = some ⟨last, stays, jobs⟩ := by
  have h1 : numsP ⟨(textL last stays jobs).toArray⟩ = some (numsOf last stays jobs) := by
    refine numsP_text _ ?_ ?_ (ok_nums hn h)
    · intro e
      have := nums_len last stays jobs
      rw [e] at this
      simp at this
      omega
    · have := nums_len last stays jobs
      have := h.fewS
      have := h.fewJ
      omega
  unfold parseP
  rw [h1]
  show (fromP (numsOf last stays jobs)).bind _ = _
  rw [fromP_nums last stays jobs h.fewS h.fewJ]
  show (if bookN (PB.book ⟨last, stays, jobs⟩) n = 0 ∧ PB.text ⟨last, stays, jobs⟩ = _ then _ else _) = _
  rw [if_pos ⟨(bookN_zero _ _).2 h, by simp [PB.text]⟩]

end Tx
end Go.Proofs.YtaikbojdmfkbhaaGreatDoor

namespace Go.Proofs.YtaikbojdmfkbhaaGreatDoor
open Go.Shelf Go.Lib Go.ChangeShapes Go.WideShapes Go.ChangeAt Go.RowKit
set_option maxRecDepth 100000
set_option linter.unusedSimpArgs false
set_option linter.unusedVariables false

namespace Lg
open Bk Dk Tx
theorem strOf_list (c : Nat → Int) : (Dk.strOf c).data.toList = (List.range 64).map fun i => UInt8.ofNat (c i).toNat := by
  have h : ∀ (l : List Int) (r : ByteArray), (l.foldl (fun r n => r.push (UInt8.ofNat n.toNat)) r).data.toList = r.data.toList ++ l.map fun n => UInt8.ofNat n.toNat := by
    intro l
    induction l with
    | nil => intro r; simp
    | cons x l ih =>
      intro r
      rw [List.foldl_cons, ih, List.map_cons]
      show (r.data.push _).toList ++ _ = _
      rw [Array.toList_push, List.append_assoc]
      rfl
  unfold Dk.strOf
  rw [h, List.map_map]
  rfl
theorem strOf_pad (S : ByteArray) (hs : S.size ≤ 64) : (Dk.strOf (padF S)).data.toList = S.data.toList ++ List.replicate (64 - S.size) 0 := by
  rw [strOf_list]
  have hl : S.data.toList.length = S.size := by rw [Array.length_toList]; rfl
  apply List.ext_getElem
  · simp only [List.length_map, List.length_range, List.length_append, List.length_replicate, hl]
    omega
  · intro i h1 h2
    rw [List.getElem_map, List.getElem_range]
    unfold padF
    by_cases h : i < S.size
    · rw [if_pos h, List.getElem_append_left (by omega)]
      have h' : i < S.data.size := h
      rw [getElem!_pos S.data i h', Array.getElem_toList]
      simp
    · rw [if_neg h, List.getElem_append_right (by omega), List.getElem_replicate]
      rfl
theorem rest_list (t : ByteArray) : ∀ k, (restT t k).data.toList = t.data.toList.drop (64 * k)
  | 0 => by simp [restT]
  | k + 1 => by
    have ih := rest_list t k
    have hl : (restT t k).data.toList.length = (restT t k).size := by rw [Array.length_toList]; rfl
    show ((restT t k).extract (min (restT t k).size 64) (restT t k).size).data.toList = _
    rw [ByteArray.data_extract, Array.toList_extract, List.extract_eq_take_drop]
    rw [show 64 * (k + 1) = 64 * k + 64 from by omega, ← List.drop_drop, ← ih]
    generalize restT t k = R at *
    rw [List.take_of_length_le (by rw [List.length_drop, hl]; omega)]
    by_cases h : R.size ≤ 64
    · rw [Nat.min_eq_left h, List.drop_of_length_le (by omega), List.drop_of_length_le (by omega)]
    · rw [Nat.min_eq_right (by omega)]
theorem piece_list (t : ByteArray) (k : Nat) : (pieceT t k).data.toList = (t.data.toList.drop (64 * k)).take 64 := by
  have h := rest_list t k
  have hl : (restT t k).data.toList.length = (restT t k).size := by rw [Array.length_toList]; rfl
  unfold pieceT
  rw [ByteArray.data_extract, Array.toList_extract, List.extract_eq_take_drop, ← h]
  generalize restT t k = R at *
  rw [Nat.sub_zero, List.drop_zero]
  by_cases h : R.size ≤ 64
  · rw [Nat.min_eq_left h, List.take_of_length_le (by omega), List.take_of_length_le (by omega)]
  · rw [Nat.min_eq_right (by omega)]
theorem pad_take (l : List UInt8) (k : Nat) : (l.drop (64 * k)).take 64 ++ List.replicate (64 - ((l.drop (64 * k)).take 64).length) 0 = ((l ++ List.replicate (64 * (k + 1) - l.length) 0).drop (64 * k)).take 64 := by
  by_cases h : 64 * (k + 1) ≤ l.length
  · rw [show 64 * (k + 1) - l.length = 0 from by omega, List.replicate_zero, List.append_nil]
    have : ((l.drop (64 * k)).take 64).length = 64 := by rw [List.length_take, List.length_drop]; omega
    rw [this]
    simp
  · by_cases h2 : 64 * k ≤ l.length
    · rw [List.drop_append_of_le_length h2, List.take_of_length_le (l := l.drop (64 * k)) (by rw [List.length_drop]; omega), List.take_of_length_le (by rw [List.length_append, List.length_drop, List.length_replicate]; omega), List.length_drop]
      congr 2
      omega
    · rw [List.drop_of_length_le (l := l) (by omega), List.take_nil, List.nil_append, List.drop_append, List.drop_of_length_le (l := l) (by omega), List.nil_append, List.drop_replicate, List.take_replicate]
      congr 1
      simp
      omega
theorem cat_pieces (secs : List Sec) (st : Nat) (t : ByteArray) : ∀ k, (∀ j, j < k → secs[st + j]!.now = padF (pieceT t j)) → catP secs st k = (t.data.toList ++ List.replicate (64 * k - t.data.toList.length) 0).take (64 * k)
  | 0, _ => by simp [catP]
  | k + 1, h => by
    have ih := cat_pieces secs st t k (fun j hj => h j (by omega))
    rw [catP, ih, h k (by omega), strOf_pad _ (pieceT_le t k)]
    have hl : (pieceT t k).size = (pieceT t k).data.toList.length := by rw [Array.length_toList]; rfl
    rw [hl, piece_list, pad_take]
    generalize t.data.toList = l
    have e : ∀ m, 64 * k - l.length ≤ m → (l ++ List.replicate (64 * k - l.length) (0 : UInt8)).take (64 * k) = (l ++ List.replicate m 0).take (64 * k) := by
      intro m hm
      rw [List.take_append, List.take_append, List.take_replicate, List.take_replicate]
      congr 2
      omega
    rw [e (64 * (k + 1) - l.length) (by omega)]
    rw [show 64 * (k + 1) = 64 * k + 64 from by omega, List.take_add]
theorem trim_pad (l : List UInt8) (h : ∀ x ∈ l, x ≠ 0) (m : Nat) : Lib.trimRightB (l ++ List.replicate m 0) 0 = l := by
  unfold Lib.trimRightB
  rw [List.reverse_append, List.reverse_replicate]
  have h1 : ∀ (m : Nat) (r : List UInt8), (List.replicate m 0 ++ r).dropWhile (· == 0) = r.dropWhile (· == 0) := by
    intro m r
    induction m with
    | zero => rfl
    | succ m ih => rw [List.replicate_succ, List.cons_append, List.dropWhile_cons_of_pos (by rfl), ih]
  rw [h1]
  have h2 : l.reverse.dropWhile (· == 0) = l.reverse := by
    cases hr : l.reverse with
    | nil => rfl
    | cons a r =>
      have : a ∈ l := by rw [← List.mem_reverse, hr]; simp
      rw [List.dropWhile_cons_of_neg (by simpa using h a this)]
  rw [h2, List.reverse_reverse]
theorem bare_cat (secs : List Sec) (st : Nat) (t : ByteArray) (h : ∀ j, j < 10 → secs[st + j]!.now = padF (pieceT t j)) (ht : t.size ≤ 640) (hz : ∀ x ∈ t.data.toList, x ≠ 0) : bareB ⟨(catP secs st 10).toArray⟩ = t := by
  have hl : t.data.toList.length = t.size := by rw [Array.length_toList]; rfl
  rw [cat_pieces secs st t 10 h, List.take_of_length_le (by rw [List.length_append, List.length_replicate]; omega)]
  unfold bareB
  show ByteArray.mk (Lib.trimRightB (t.data.toList ++ _) 0).toArray = t
  rw [trim_pad _ hz]
theorem name_list (k : Nat) (h : k ≤ 9) : (nameB k).data.toList = preB.data.toList ++ [UInt8.ofNat (48 + k)] := by
  have h1 : Lib.itoa (k : Int) = [UInt8.ofNat (48 + k)] := by
    unfold Lib.itoa
    rw [if_neg (by omega), Lib.decDigits_one (by omega)]
    rfl
  unfold nameB
  rw [ByteArray.data_append, Array.toList_append, h1]
theorem name_no0 (k : Nat) (h : k ≤ 1) : ∀ x ∈ (nameB k).data.toList, x ≠ 0 := by
  rw [name_list k (by omega)]
  have : k = 0 ∨ k = 1 := by omega
  rcases this with rfl | rfl <;> decide
theorem bare_name (k : Nat) (h : k ≤ 1) : bareB (Dk.strOf (padF (nameB k))) = nameB k := by
  unfold bareB
  rw [strOf_pad _ (nameB_size k h), trim_pad _ (name_no0 k h)]
theorem nameIs_name (k j : Nat) (hk : k ≤ 1) (hj : j ≤ 1) : nameIs (padF (nameB k)) j = decide (k = j) := by
  unfold nameIs
  rw [bare_name k hk]
  by_cases e : k = j
  · subst e; simp
  · rw [decide_eq_false e]
    have hne : nameB k ≠ nameB j := fun he => by
      have h1 := name_list k (by omega)
      rw [he, name_list j (by omega)] at h1
      have h2 := List.append_cancel_left h1
      have : k = 0 ∧ j = 1 ∨ k = 1 ∧ j = 0 := by omega
      rcases this with ⟨rfl, rfl⟩ | ⟨rfl, rfl⟩ <;> revert h2 <;> decide
    rw [beq_eq_false_iff_ne]
    intro hl
    rw [ByteArray.toList_eq, ByteArray.toList_eq] at hl
    exact hne (bytes_inj hl)
theorem slot_name (k : Nat) (hk : k ≤ 1) : slotP (padF (nameB k)) = k := by
  unfold slotP
  have h0 := nameIs_name k 0 hk (by omega)
  have h1 := nameIs_name k 1 hk (by omega)
  rw [show (0 : Int) = ((0 : Nat) : Int) from rfl, show (1 : Int) = ((1 : Nat) : Int) from rfl, h0, h1]
  have : k = 0 ∨ k = 1 := by omega
  rcases this with rfl | rfl <;> rfl
theorem slot_range (c : Nat → Int) : slotP c = -1 ∨ slotP c = 0 ∨ slotP c = 1 := by
  unfold slotP
  split
  · exact Or.inr (Or.inl rfl)
  · split
    · exact Or.inr (Or.inr rfl)
    · exact Or.inl rfl
/-- What Open finds on a disk. -/
def openP (secs : List Sec) (n : Nat) : Option PB := if slotP secs[0]!.now = -1 ∨ secs.length < 22 then none else parseP (bareB ⟨(catP secs (1 + 10 * (slotP secs[0]!.now).toNat) 10).toArray⟩) n
theorem nx_le (secs : List Sec) : nxN secs ≤ 1 := by unfold nxN; split <;> omega
theorem open_of {secs : List Sec} {nx : Nat} {t : ByteArray} (hx : nx ≤ 1) (h22 : 22 ≤ secs.length) (h0 : secs[0]!.now = padF (nameB nx)) (hp : ∀ j, j < 10 → secs[1 + 10 * nx + j]!.now = padF (pieceT t j)) (ht : t.size ≤ 640) (hz : ∀ x ∈ t.data.toList, x ≠ 0) (n : Nat) : openP secs n = parseP t n := by
  unfold openP
  rw [h0, slot_name nx hx, if_neg (by omega), show ((nx : Int)).toNat = nx from rfl, bare_cat secs _ t hp ht hz]
theorem open_stored {secs secs' : List Sec} {nx : Nat} {t : ByteArray} (h : Stored secs secs' nx t) (hx : nx ≤ 1) (h22 : 22 ≤ secs.length) (ht : t.size ≤ 640) (hz : ∀ x ∈ t.data.toList, x ≠ 0) (n : Nat) : openP secs' n = parseP t n := by
  have hnow : ∀ j, j < secs.length → secs'[j]!.now = storeC secs nx t j := fun j hj => by
    unfold Sec.now
    rw [h.wr j hj]
    exact h.kept j hj
  refine open_of hx (by rw [h.len]; omega) ?_ (fun j hj => ?_) ht hz n
  · rw [hnow 0 (by omega)]; rfl
  · rw [hnow _ (by omega)]
    unfold storeC
    rw [if_neg (by omega), if_pos (by omega)]
    congr 2
    omega
theorem open_same {secs secs' : List Sec} (hl : secs'.length = secs.length) (h22 : 22 ≤ secs.length) (h : ∀ j, j < secs.length → ¬ (1 + 10 * nxN secs ≤ j ∧ j < 11 + 10 * nxN secs) → secs'[j]!.now = secs[j]!.now) (n : Nat) : openP secs' n = openP secs n := by
  have hn := nx_le secs
  have h0 := h 0 (by omega) (by omega)
  unfold openP
  rw [h0, hl]
  rcases slot_range secs[0]!.now with e | e | e
  · rw [e]; simp
  · have hnx : nxN secs = 1 := by unfold nxN; rw [if_pos e]
    rw [e]
    have hc : ∀ k, k ≤ 10 → catP secs' (1 + 10 * (0 : Int).toNat) k = catP secs (1 + 10 * (0 : Int).toNat) k := by
      intro k
      induction k with
      | zero => intro _; rfl
      | succ k ih =>
        intro hk
        rw [catP, catP, ih (by omega), h _ (by show 1 + 10 * 0 + k < _; omega) (by rw [hnx]; show ¬ (_ ≤ 1 + 10 * 0 + k ∧ _); omega)]
    rw [hc 10 (Nat.le_refl _)]
  · have hnx : nxN secs = 0 := by unfold nxN; rw [if_neg (by omega)]
    rw [e]
    have hc : ∀ k, k ≤ 10 → catP secs' (1 + 10 * (1 : Int).toNat) k = catP secs (1 + 10 * (1 : Int).toNat) k := by
      intro k
      induction k with
      | zero => intro _; rfl
      | succ k ih =>
        intro hk
        rw [catP, catP, ih (by omega), h _ (by show 1 + 10 * 1 + k < _; omega) (by rw [hnx]; show ¬ (_ ∧ 1 + 10 * 1 + k < _); omega)]
    rw [hc 10 (Nat.le_refl _)]
/-- Behind a fall and a restart: the old book or the new one. -/
theorem open_fell {secs secs' secs'' : List Sec} {t : ByteArray} {K : Int} (hw : ∀ j, j < secs.length → secs[j]!.wr = []) (h : Fell secs secs' (nxN secs) t) (h22 : 22 ≤ secs.length) (hl : secs''.length = secs.length) (hs : ∀ j, j < secs.length → secs''[j]!.now = settleC K secs'[j]!.kept secs'[j]!.wr) (ht : t.size ≤ 640) (hz : ∀ x ∈ t.data.toList, x ≠ 0) (n : Nat) : openP secs'' n = openP secs n ∨ openP secs'' n = parseP t n := by
  have hn := nx_le secs
  rcases h.alt K with a | a
  · refine Or.inl (open_same hl h22 (fun j hj hn => ?_) n)
    rw [hs j hj, a j hj hn]
    unfold Sec.now
    rw [hw j hj]
    rfl
  · refine Or.inr (open_of (nx_le secs) (by omega) ?_ (fun j hj => ?_) ht hz n)
    · rw [hs 0 (by omega), a 0 (by omega)]; rfl
    · rw [hs _ (by omega), a _ (by omega)]
      unfold storeC
      rw [if_neg (by omega), if_pos (by omega)]
      congr 2
      omega
theorem join_no0 : ∀ (ns : List Int), (∀ n ∈ ns, 0 ≤ n) → ∀ x ∈ Lib.join (ns.map Lib.itoa) [32], x ≠ 0
  | [], _ => by simp [Lib.join_nil]
  | [a], h => by
    rw [List.map_cons, List.map_nil, Lib.join_one]
    intro x hx e
    have := itoa_mem (h a (by simp)) x hx
    rw [e] at this
    exact absurd this.1 (by decide)
  | a :: b :: r, h => by
    rw [List.map_cons, List.map_cons, join_two]
    have ih := join_no0 (b :: r) (fun n hn => h n (List.mem_cons_of_mem _ hn))
    rw [List.map_cons] at ih
    intro x hx e
    rw [List.mem_append, List.mem_cons] at hx
    rcases hx with hx | hx | hx
    · have := itoa_mem (h a (by simp)) x hx
      rw [e] at this
      exact absurd this.1 (by decide)
    · rw [e] at hx; exact absurd hx (by decide)
    · exact ih x hx e
theorem text_no0 {last : Int} {n : Nat} {stays : List Stay} {jobs : List Job} (hn : n ≤ 4) (h : BookOK last n stays jobs) : ∀ x ∈ textL last stays jobs, x ≠ 0 :=
  join_no0 _ (fun m hm => (ok_nums hn h m hm).1)
end Lg
end Go.Proofs.YtaikbojdmfkbhaaGreatDoor

namespace Go.Proofs.YtaikbojdmfkbhaaGreatDoor
open Go.Shelf Go.Lib Go.ChangeShapes Go.WideShapes Go.ChangeAt Go.RowKit
set_option maxRecDepth 100000
set_option linter.unusedSimpArgs false
set_option linter.unusedVariables false

namespace Lg
open Bk Dk Tx
/-- What Open answers. -/
def OpenPost (db : Nat) (secs : List Sec) (n : Nat) (w : World) (e : Ending) (w' : World) : Prop := Below w.heap.size w w' ∧
  ((openP secs n = none ∧ e = .returned (.tuple #[.pointer none, errV 4])) ∨
   ∃ b vs vj L, openP secs n = some b ∧ e = .returned (.tuple #[.pointer (some ⟨L, 0, none⟩), .nilIface]) ∧ w.heap.size ≤ L ∧ Blk w' L #[.pointer (some ⟨db, 0, none⟩), .int .i64 n, .int .i64 b.last, vs, vj] 106 ∧ OwnBook w' w.heap.size vs vj b.stays b.jobs)
theorem trim_le (l : List UInt8) (c : UInt8) : (Lib.trimRightB l c).length ≤ l.length := by
  unfold Lib.trimRightB
  rw [List.length_reverse]
  have := (List.dropWhile_suffix (· == c) (l := l.reverse)).length_le
  rw [List.length_reverse] at this
  exact this
theorem bare_le (secs : List Sec) (st : Nat) : (bareB ⟨(catP secs st 10).toArray⟩).size ≤ 640 := by
  have h1 := catP_len secs st 10
  have h2 := trim_le (catP secs st 10) 0
  show (Lib.trimRightB (catP secs st 10) 0).toArray.size ≤ 640
  rw [List.size_toArray]
  omega

set_option maxHeartbeats 4000000 in
theorem open_any (base db sb : Nat) (secs : List Sec) (bit : Int) (armed : Bool) (left : Int) (n : Nat) (w : World) (h : DiskAt w base db sb secs bit armed left false) (hl : ∀ i, i < secs.length → secs[i]!.wr.length ≤ 1000) (hn : secs.length ≤ 1000) (h0 : 0 < secs.length) (n1 : 1 ≤ n) (n4 : n ≤ 4) (G : Glob w) :
    Calls Tryz.prog 19 #[.pointer (some ⟨db, 0, none⟩), .int .i64 n] w (OpenPost db secs n w) := by
  have HOP : Hid (openP secs n = if slotP secs[0]!.now = -1 ∨ secs.length < 22 then none else parseP (bareB ⟨(catP secs (1 + 10 * (slotP secs[0]!.now).toNat) 10).toArray⟩) n) := rfl
  have HNO : Hid (openP secs n = none → ∀ w', Below w.heap.size w w' → OpenPost db secs n w (.returned (.tuple #[.pointer none, .iface 94 (.int .i64 4)])) w') := fun h w' hb => ⟨hb, Or.inl ⟨h, rfl⟩⟩
  have HYES : Hid (∀ b vs vj L w', openP secs n = some b → w.heap.size ≤ L → Blk w' L #[.pointer (some ⟨db, 0, none⟩), .int .i64 n, .int .i64 b.last, vs, vj] 106 → OwnBook w' w.heap.size vs vj b.stays b.jobs → Below w.heap.size w w' → OpenPost db secs n w (.returned (.tuple #[.pointer (some ⟨L, 0, none⟩), .nilIface])) w') := fun b vs vj L w' h hL hB ho hb => ⟨hb, Or.inr ⟨b, vs, vj, L, h, rfl, hL, hB, ho⟩⟩
  generalize OpenPost db secs n w = PP at *
  have HG : Hid (∀ W, Below w.heap.size w W → Glob W) := fun W hb => G.new hb
  have HD : Hid (∀ W, Below w.heap.size w W → DiskAt W base db sb secs bit armed left false) := fun W hb => h.below hb
  have HNM : Hid (Calls Tryz.prog 53 #[.pointer (some ⟨db, 0, none⟩)] w fun e w' => e = .returned (.tuple #[.int .i64 (slotP secs[0]!.now), .nilIface]) ∧ Below w.heap.size w w') :=
    named_any base db sb secs bit armed left false w h hl hn h0 G
  have HSR := slot_range secs[0]!.now
  have HLD : Hid (∀ sl : Nat, slotP secs[0]!.now = sl → 22 ≤ secs.length → ∀ W, Below w.heap.size w W → Calls Tryz.prog 55 #[.pointer (some ⟨db, 0, none⟩), .int .i64 (slotP secs[0]!.now)] W fun e w' => e = .returned (.tuple #[.string (bareB ⟨(catP secs (1 + 10 * (slotP secs[0]!.now).toNat) 10).toArray⟩), .nilIface]) ∧ Below W.heap.size W w') := fun sl hs h22 W hb => by
    have hsr := slot_range secs[0]!.now
    rw [hs] at hsr ⊢
    exact load_any base db sb secs bit armed left sl W (h.below hb) hl hn h22 (by omega)
  have HPS : Hid (∀ W, Below w.heap.size w W → Calls Tryz.prog 56 #[.string (bareB ⟨(catP secs (1 + 10 * (slotP secs[0]!.now).toNat) 10).toArray⟩), .int .i64 n] W (ParsePost (bareB ⟨(catP secs (1 + 10 * (slotP secs[0]!.now).toNat) 10).toArray⟩) n W)) := fun W hb => parse_any _ n W (by have := bare_le secs (1 + 10 * (slotP secs[0]!.now).toNat); omega) n1 n4 (G.new hb)
  have HS : Hid (∀ W, Below w.heap.size w W → Calls Tryz.prog 54 #[.pointer (some ⟨db, 0, none⟩)] W fun e w' => e = .returned (.int .i64 secs.length) ∧ w' = W) := fun W hb => sectors_any base db sb secs bit armed left false W (h.below hb)
  generalize (bareB ⟨(catP secs (1 + 10 * (slotP secs[0]!.now).toNat) 10).toArray⟩) = T at *
  generalize slotP secs[0]!.now = sl at *
  have hz1 : ¬ (n : Int) < 1 := by omega
  have hz4 : ¬ 4 < (n : Int) := by omega
  clear h hl
  go_enter Tryz.func19, Tryz.ntmps19
  go_wp2_with fail
  refine HNM.out.mono ?_
  rintro e w1 ⟨rfl, b1⟩
  have N1 : Hid (Below w.heap.size w w1) := b1
  have HS1 : Hid (Calls Tryz.prog 54 #[.pointer (some ⟨db, 0, none⟩)] w1 fun e w' => e = .returned (.int .i64 secs.length) ∧ w' = w1) := HS.out _ b1
  clear b1 HNM
  by_cases hm : sl = -1
  · subst hm
    have HF : Hid (PP (.returned (.tuple #[.pointer none, .iface 94 (.int .i64 4)])) w1) := HNO.out (by rw [HOP.out, if_pos (Or.inl rfl)]) _ N1.out
    clear HNO HYES HLD HPS HS HSR HOP
    go_wp2
    exact HF.out
  have hmb : (sl == -1) = false := by simpa using hm
  go_wp2_with fail
  refine HS1.out.mono ?_
  rintro e w1' ⟨rfl, hw1⟩
  subst hw1
  by_cases h22 : secs.length < 22
  · have HF : Hid (PP (.returned (.tuple #[.pointer none, .iface 94 (.int .i64 4)])) w1') := HNO.out (by rw [HOP.out, if_pos (Or.inr h22)]) _ N1.out
    have h22z : (secs.length : Int) < 22 := by omega
    clear HNO HYES HLD HPS HS HSR HOP
    go_wp2
    exact HF.out
  have h22z : ¬ (secs.length : Int) < 22 := by omega
  have HPT : Hid (openP secs n = parseP T n) := by
    show _ = _
    rw [HOP.out, if_neg (by omega)]
  have HL : Hid (Calls Tryz.prog 55 #[.pointer (some ⟨db, 0, none⟩), .int .i64 sl] w1' fun e w' => e = .returned (.tuple #[.string T, .nilIface]) ∧ Below w1'.heap.size w1' w') := HLD.out sl.toNat (by omega) (by omega) _ N1.out
  clear HLD HS HS1 HOP
  go_wp2_with fail
  refine HL.out.mono ?_
  rintro e w2 ⟨rfl, b2⟩
  have N2 : Hid (Below w.heap.size w w2) := B.next N1.out b2 N1.out.size
  have HP2 : Hid (Calls Tryz.prog 56 #[.string T, .int .i64 n] w2 (ParsePost T n w2)) := HPS.out _ N2.out
  clear N1 b2 HL HPS
  go_wp2_with fail
  refine HP2.out.mono ?_
  rintro e w3 ⟨b3, hres⟩
  have N3 : Hid (Below w.heap.size w w3) := B.next N2.out b3 N2.out.size
  have hs3 : Hid (w.heap.size ≤ w2.heap.size ∧ w2.heap.size ≤ w3.heap.size) := ⟨N2.out.size, b3.size⟩
  clear b3 HP2
  rcases hres with ⟨hno, rfl⟩ | ⟨b, vs, vj, hyes, rfl, hown⟩
  · have HF : Hid (PP (.returned (.tuple #[.pointer none, .iface 94 (.int .i64 4)])) (w3.alloc (.cells #[.int .i64 0, .slice none 0 0, .slice none 0 0] 38))) := HNO.out (by rw [HPT.out, hno]) _ (N3.out.alloc N3.out.size _)
    clear HNO HYES N3 N2 HPT hs3
    rw [errV_ne (by decide)]
    go_wp2
    exact HF.out
  · obtain ⟨sa, sc, hvs, _⟩ := hown.s.rows
    obtain ⟨ja, jc, hvj, _⟩ := hown.j.rows
    have HF : Hid (PP (.returned (.tuple #[.pointer (some ⟨w3.heap.size + 1, 0, none⟩), .nilIface])) ((w3.alloc (.cells #[.int .i64 b.last, vs, vj] 38)).alloc (.cells #[.pointer (some ⟨db, 0, none⟩), .int .i64 n, .int .i64 b.last, vs, vj] 106))) := by
      have B3 : Below w3.heap.size w3 ((w3.alloc (.cells #[.int .i64 b.last, vs, vj] 38)).alloc (.cells #[.pointer (some ⟨db, 0, none⟩), .int .i64 n, .int .i64 b.last, vs, vj] 106)) := (B.new1 _ _).alloc (by simp) _
      refine HYES.out b vs vj (w3.heap.size + 1) _ (by rw [HPT.out, hyes]) (by have := hs3.out; omega) (Blk.new1 (by simp) _ _) ((OwnBook.below (bookDown hown hs3.out.1) B3)) (B.next N3.out B3 N3.out.size)
    subst hvs hvj
    clear HNO HYES N3 N2 HPT hs3 hown hyes
    go_wp2
    exact HF.out

set_option maxHeartbeats 1000000 in
theorem book_any (db L n : Nat) (last : Int) (sa : Option Addr) (sc : Nat) (ja : Option Addr) (jc : Nat) (stays : List Stay) (jobs : List Job) (w : World) (hL : Blk w L #[.pointer (some ⟨db, 0, none⟩), .int .i64 n, .int .i64 last, .slice sa stays.length sc, .slice ja jobs.length jc] 106) (h : Book.At ⟨last, sa, sc, ja, jc, stays, jobs⟩ w) (hs : stays.length ≤ 1000) (hj : jobs.length ≤ 1000) :
    Calls Tryz.prog 24 #[.pointer (some ⟨L, 0, none⟩)] w fun e w' => ∃ vs vj, e = .returned (.agg #[.int .i64 last, vs, vj]) ∧ OwnBook w' w.heap.size vs vj stays jobs ∧ Below w.heap.size w w' := by
  obtain ⟨w0, hw0⟩ : ∃ w0, w.alloc (.cells #[.int .i64 0, .slice none 0 0, .slice none 0 0] 38) = w0 := ⟨_, rfl⟩
  have N0 : Hid (Below w.heap.size w w0 ∧ Blk w0 w.heap.size #[.int .i64 0, .slice none 0 0, .slice none 0 0] 38 ∧ Blk w0 L #[.pointer (some ⟨db, 0, none⟩), .int .i64 n, .int .i64 last, .slice sa stays.length sc, .slice ja jobs.length jc] 106) := by
    show _ ∧ _ ∧ _
    rw [← hw0]
    exact ⟨B.new1 _ _, Blk.new _ _ _, hL.old _⟩
  have HC : Hid (Calls Tryz.prog 62 #[.agg #[.int .i64 last, .slice sa stays.length sc, .slice ja jobs.length jc]] w0 fun e w' => ∃ vs vj, e = .returned (.agg #[.int .i64 last, vs, vj]) ∧ OwnBook w' w0.heap.size vs vj stays jobs ∧ Below w0.heap.size w0 w') := copy_any ⟨last, sa, sc, ja, jc, stays, jobs⟩ w0 (h.below N0.out.1) hs hj
  have c0 := N0.out.2.2.cell
  generalize hPP : (fun (e : Ending) (w' : World) => ∃ vs vj, e = .returned (.agg #[.int .i64 last, vs, vj]) ∧ OwnBook w' w.heap.size vs vj stays jobs ∧ Below w.heap.size w w') = PP
  have HP : Hid (∀ vs vj w', OwnBook w' w.heap.size vs vj stays jobs → Below w.heap.size w w' → PP (.returned (.agg #[.int .i64 last, vs, vj])) w') := fun vs vj w' ho hb => by rw [← hPP]; exact ⟨vs, vj, rfl, ho, hb⟩
  clear hPP h hL
  go_enter Tryz.func24, Tryz.ntmps24
  go_wp2_with fail
  clear hw0
  refine HC.out.mono ?_
  rintro e w1 ⟨vs, vj, rfl, ho, b1⟩
  have N1 : Hid (Below w.heap.size w w1 ∧ Blk w1 w.heap.size #[.int .i64 0, .slice none 0 0, .slice none 0 0] 38) := ⟨B.next N0.out.1 b1 N0.out.1.size, N0.out.2.1.below b1⟩
  have r1 := N1.out.2.cell
  have f1 := N1.out.2.free
  have HF : Hid (PP (.returned (.agg #[.int .i64 last, vs, vj])) (((w1.setCell ⟨w.heap.size, 0, none⟩ (.int .i64 last)).setCell ⟨w.heap.size, 1, none⟩ vs).setCell ⟨w.heap.size, 2, none⟩ vj)) := by
    have hlt : w.heap.size < w0.heap.size := N0.out.2.1.lt
    exact HP.out vs vj _ (bookDown (bookSet (bookSet (bookSet ho _ hlt) _ hlt) _ hlt) (Nat.le_of_lt hlt)) (((N1.out.1.setCell (p := ⟨w.heap.size, 0, none⟩) (Nat.le_refl _) _).setCell (p := ⟨w.heap.size, 1, none⟩) (Nat.le_refl _) _).setCell (p := ⟨w.heap.size, 2, none⟩) (Nat.le_refl _) _)
  obtain ⟨sx, cx, hvs, _⟩ := ho.s.rows
  obtain ⟨jx, dx, hvj, _⟩ := ho.j.rows
  subst hvs hvj
  clear N0 N1 b1 ho HP HC c0
  go_wp2
  (try simp only [Exit.inBlock, Exit.then])
  refine bodyPost_ret (v := .agg #[.int .i64 last, .slice sx stays.length cx, .slice jx jobs.length dx]) (by simp [results, Tryz.results24, go_sem, set3_0 r1, set3_1 r1, set3_2 r1]; try rfl) rfl ?_
  exact HF.out
end Lg
end Go.Proofs.YtaikbojdmfkbhaaGreatDoor

namespace Go.Proofs.YtaikbojdmfkbhaaGreatDoor
open Go.Shelf Go.Lib Go.ChangeShapes Go.WideShapes Go.ChangeAt Go.RowKit
set_option maxRecDepth 100000
set_option linter.unusedSimpArgs false
set_option linter.unusedVariables false

namespace Lg
open Bk Dk Tx
theorem hidd {p : Prop} (h : p) : Hid p := h
/-- What an operation on a ledger leaves alone. -/
structure LFr (base : Nat) (w w' : World) : Prop where
  b : Below base w w'
  far : ∀ k arr T, T ≠ 97 → T ≠ 174 → T ≠ 193 → T ≠ 106 → Blk w k arr T → Blk w' k arr T
  oth : KeepsOthers w w'
theorem LFr.refl (base : Nat) (w : World) : LFr base w w := ⟨Below.refl _ _, fun _ _ _ _ _ _ _ h => h, KeepsOthers.refl _⟩
theorem LFr.trans {base : Nat} {a b c : World} (h : LFr base a b) (k : LFr base b c) : LFr base a c := ⟨⟨k.b.os.trans h.b.os, k.b.tape.trans h.b.tape, k.b.output.trans h.b.output, Nat.le_trans h.b.size k.b.size, fun q hq => (k.b.block q hq).trans (h.b.block q hq)⟩, fun q arr T h1 h2 h3 h5 h4 => k.far q arr T h1 h2 h3 h5 (h.far q arr T h1 h2 h3 h5 h4), h.oth.trans k.oth⟩
theorem LFr.of_dfr {base : Nat} {w w' : World} (h : DFr base w w') : LFr base w w' := ⟨h.b, fun k arr T h1 h2 h3 _ hk => h.far k arr T h1 h2 h3 hk, h.oth⟩
theorem LFr.of_set {base : Nat} {w : World} {L : Nat} {A : Array Value} (hL : Blk w L A 106) (hb : base ≤ L) (o : Nat) (v : Value) : LFr base w (w.setCell ⟨L, o, none⟩ v) :=
  ⟨(Below.refl _ _).setCell (p := ⟨L, o, none⟩) hb v, fun k arr T _ _ _ h4 hk => hk.other (fun e => h4 (blk_typeD hk (e ▸ hL))) o v, KeepsOthers.setCell _ _ _⟩
theorem OwnAt.far {α : Type} [Inhabited α] {w w' : World} {base : Nat} {T : TypeId} {k : Nat} {enc : α → List Value} {v : Value} {l : List α} (h : OwnAt w base T k enc v l) (hf : ∀ g arr, Blk w g arr T → Blk w' g arr T) : OwnAt w' base T k enc v l := by
  rcases h with h | ⟨g, cap, cur, hv, hg, hk, r⟩
  · exact Or.inl h
  · exact Or.inr ⟨g, cap, cur, hv, hg, hf g cur hk, r⟩
theorem bookFar {w w' : World} {base : Nat} {vs vj : Value} {stays : List Stay} {jobs : List Job} (h : OwnBook w base vs vj stays jobs) (hf : LFr base w w') : OwnBook w' base vs vj stays jobs :=
  ⟨OwnAt.far h.s (fun g arr hk => hf.far g arr _ (by decide) (by decide) (by decide) (by decide) hk), OwnAt.far h.j (fun g arr hk => hf.far g arr _ (by decide) (by decide) (by decide) (by decide) hk), h.ne⟩
theorem own_size {α : Type} [Inhabited α] {w : World} {base : Nat} {T : TypeId} {k : Nat} {enc : α → List Value} {v : Value} {l : List α} (h : OwnAt w base T k enc v l) {g : Nat} (e : v.ownBlock = some g) : g < w.heap.size := (OwnAt.block h g e).2

theorem text_000 : (textL 0 [] []) = [48, 32, 48, 32, 48] := by
  have e0 : Lib.itoa 0 = [48] := by rw [itoa_pos (by decide)]; exact Lib.decDigits_one (by decide)
  show Lib.join ([0, ((0 : Nat) : Int), ((0 : Nat) : Int)].map Lib.itoa) [32] = _
  simp only [List.map_cons, List.map_nil, Int.natCast_zero, e0]
  rw [join_two, join_two, Lib.join_one]
  rfl
/-- What Format answers. -/
def FormatPost (base db sb : Nat) (secs : List Sec) (armed : Bool) (w : World) (e : Ending) (w' : World) : Prop :=
  (secs.length < 22 ∧ e = .returned (errV 8) ∧ w' = w) ∨ (22 ≤ secs.length ∧ StorePost base db sb secs armed ⟨#[48, 32, 48, 32, 48]⟩ w e w')

theorem StorePost.front {base db sb : Nat} {secs : List Sec} {armed : Bool} {t : ByteArray} {w w1 : World} {e : Ending} {w' : World} (h : StorePost base db sb secs armed t w1 e w') (hf : DFr base w w1) (hb : base ≤ w.heap.size) : StorePost base db sb secs armed t w e w' := ⟨hf.trans h.1 hb, h.2⟩

set_option maxHeartbeats 4000000 in
theorem format_any (base db sb : Nat) (secs : List Sec) (armed : Bool) (left : Int) (w : World) (h : DiskAt w base db sb secs 0 armed left false) (hbase : base ≤ w.heap.size) (hlo : LeftOk armed left) (hw : ∀ j, j < secs.length → secs[j]!.wr = []) (hn : secs.length ≤ 1000) (G : Glob w) (hbg : Tryz.prog.globals.size ≤ base) :
    Calls Tryz.prog 20 #[.pointer (some ⟨db, 0, none⟩)] w (FormatPost base db sb secs armed w) := by
  have HS : Hid (Calls Tryz.prog 54 #[.pointer (some ⟨db, 0, none⟩)] w fun e w' => e = .returned (.int .i64 secs.length) ∧ w' = w) := sectors_any base db sb secs 0 armed left false w h
  have HT : Hid (Calls Tryz.prog 58 #[.agg #[.int .i64 0, .slice none 0 0, .slice none 0 0]] w fun e w' => e = .returned (.string ⟨#[48, 32, 48, 32, 48]⟩) ∧ Below w.heap.size w w') := by
    have := text_any ⟨0, none, 0, none, 0, [], []⟩ w ⟨⟨Nat.le_refl _, Nat.zero_le _, fun h => absurd h (Nat.lt_irrefl _)⟩, ⟨Nat.le_refl _, Nat.zero_le _, fun h => absurd h (Nat.lt_irrefl _)⟩⟩ G (by simp) (by simp) (by intro n hn; simp [numsOf] at hn; omega) (by rw [text_000]; simp)
    rw [text_000] at this
    exact this
  have HST : Hid (22 ≤ secs.length → ∀ W, Below w.heap.size w W → Calls Tryz.prog 57 #[.pointer (some ⟨db, 0, none⟩), .string ⟨#[48, 32, 48, 32, 48]⟩] W (StorePost base db sb secs armed ⟨#[48, 32, 48, 32, 48]⟩ W)) := fun h22 W hb => store_any base db sb secs armed left _ W (h.below hb) (Nat.le_trans hbase hb.size) hlo hw h22 hn (by decide) (G.new hb) hbg
  have HNO : Hid (secs.length < 22 → FormatPost base db sb secs armed w (.returned (.iface 94 (.int .i64 8))) w) := fun h => Or.inl ⟨h, rfl, rfl⟩
  have HYES : Hid (22 ≤ secs.length → ∀ W, Below w.heap.size w W → ∀ e w', StorePost base db sb secs armed ⟨#[48, 32, 48, 32, 48]⟩ W e w' → FormatPost base db sb secs armed w e w') := fun h22 W hb e w' hp => Or.inr ⟨h22, hp.front (DFr.of_below hb hbase) hbase⟩
  have HV : Hid (∀ W e w', StorePost base db sb secs armed ⟨#[48, 32, 48, 32, 48]⟩ W e w' → e = .returned .nilIface ∨ e = .returned (.iface 94 (.int .i64 9))) := fun W e w' hp => hp.2.imp (fun h => h.1) (fun h => h.2.1)
  generalize (⟨#[48, 32, 48, 32, 48]⟩ : ByteArray) = T at *
  generalize FormatPost base db sb secs armed w = PP at *
  clear h hlo hw G
  go_enter Tryz.func20, Tryz.ntmps20
  go_wp2_with fail
  refine HS.out.mono ?_
  rintro e w1 ⟨rfl, hw1⟩
  subst hw1
  by_cases h22 : secs.length < 22
  · have h22z : (secs.length : Int) < 22 := by omega
    have HF := HNO.out h22
    clear HT HST HYES HV
    go_wp2
    exact HF
  have h22z : ¬ (secs.length : Int) < 22 := by omega
  go_wp2_with fail
  refine HT.out.mono ?_
  rintro e w2 ⟨rfl, b2⟩
  have HS2 : Hid (Calls Tryz.prog 57 #[.pointer (some ⟨db, 0, none⟩), .string T] w2 (StorePost base db sb secs armed T w2)) := HST.out (by omega) _ b2
  have HY2 : Hid (∀ e w', StorePost base db sb secs armed T w2 e w' → PP e w') := HYES.out (by omega) _ b2
  have HV2 : Hid (∀ e w', StorePost base db sb secs armed T w2 e w' → e = .returned .nilIface ∨ e = .returned (.iface 94 (.int .i64 9))) := HV.out w2
  clear b2 HT HST HYES HV HNO HS
  generalize StorePost base db sb secs armed T w2 = SP at *
  go_wp2_with fail
  refine HS2.out.mono ?_
  rintro e w3 hp
  have HF : Hid (PP e w3) := HY2.out _ _ hp
  rcases HV2.out _ _ hp with rfl | rfl
  · clear hp HY2 HV2 HS2
    go_wp2
    exact HF.out
  · clear hp HY2 HV2 HS2
    go_wp2
    exact HF.out

theorem StorePost.value {base db sb : Nat} {secs : List Sec} {armed : Bool} {t : ByteArray} {w : World} {e : Ending} {w' : World} (h : StorePost base db sb secs armed t w e w') : ∃ v, e = .returned v ∧ Hid ((v = .nilIface ∧ ∃ secs' left', LeftOk armed left' ∧ DiskAt w' base db sb secs' 0 armed left' false ∧ Stored secs secs' (nxN secs) t) ∨
   (v = .iface 94 (.int .i64 9) ∧ armed = true ∧ ∃ secs' bit' left', LeftOk armed left' ∧ DiskAt w' base db sb secs' bit' armed left' true ∧ Fell secs secs' (nxN secs) t)) := by
  rcases h.2 with ⟨h1, h2⟩ | ⟨h0, h1, h2⟩
  · exact ⟨_, h1, Or.inl ⟨rfl, h2⟩⟩
  · exact ⟨_, h1, Or.inr ⟨rfl, h0, h2⟩⟩

/-- What Keep answers. -/
def KeepPost (base db sb : Nat) (secs : List Sec) (armed : Bool) (L n : Nat) (b : Book) (w : World) (e : Ending) (w' : World) : Prop := 
  (bookN b n ≠ 0 ∧ e = .returned (errV (bookN b n)) ∧ Below w.heap.size w w') ∨
  (bookN b n = 0 ∧ e = .returned .nilIface ∧ LFr base w w' ∧ ∃ secs' left' vs vj, LeftOk armed left' ∧ DiskAt w' base db sb secs' 0 armed left' false ∧ Stored secs secs' (nxN secs) ⟨(textL b.last b.stays b.jobs).toArray⟩ ∧
    Blk w' L #[.pointer (some ⟨db, 0, none⟩), .int .i64 n, .int .i64 b.last, vs, vj] 106 ∧ OwnBook w' w.heap.size vs vj b.stays b.jobs) ∨
  (bookN b n = 0 ∧ armed = true ∧ e = .returned (errV 9) ∧ DFr base w w' ∧ ∃ secs' bit' left', LeftOk armed left' ∧ DiskAt w' base db sb secs' bit' armed left' true ∧ Fell secs secs' (nxN secs) ⟨(textL b.last b.stays b.jobs).toArray⟩)

set_option maxHeartbeats 8000000 in
theorem keep_any (base db sb : Nat) (secs : List Sec) (armed : Bool) (left : Int) (L n : Nat) (ol : Int) (ov oj : Value) (b : Book) (w : World) (h : DiskAt w base db sb secs 0 armed left false) (hbase : base ≤ w.heap.size) (hlo : LeftOk armed left) (hw : ∀ j, j < secs.length → secs[j]!.wr = []) (h22 : 22 ≤ secs.length) (hn : secs.length ≤ 1000) (G : Glob w) (hbg : Tryz.prog.globals.size ≤ base)
    (hL : Blk w L #[.pointer (some ⟨db, 0, none⟩), .int .i64 n, .int .i64 ol, ov, oj] 106) (hLb : base ≤ L) (hb : b.At w) (hbl : ∀ W, DFr base w W → b.At W) (n1 : 1 ≤ n) (n4 : n ≤ 4) (hov : ∃ p m c, ov = .slice p m c) (hoj : ∃ p m c, oj = .slice p m c) :
    Calls Tryz.prog 22 #[.pointer (some ⟨L, 0, none⟩), b.val] w (KeepPost base db sb secs armed L n b w) := by
  obtain ⟨last, sa, sc, ja, jc, stays, jobs⟩ := b
  have HBAD : Hid (∀ w', bookN ⟨last, sa, sc, ja, jc, stays, jobs⟩ n ≠ 0 → Below w.heap.size w w' → KeepPost base db sb secs armed L n ⟨last, sa, sc, ja, jc, stays, jobs⟩ w (.returned (errV (bookN ⟨last, sa, sc, ja, jc, stays, jobs⟩ n))) w') := fun w' h1 h2 => Or.inl ⟨h1, rfl, h2⟩
  have HOK : Hid (bookN ⟨last, sa, sc, ja, jc, stays, jobs⟩ n = 0 → ∀ w', LFr base w w' → ∀ secs' left' vs vj, LeftOk armed left' → DiskAt w' base db sb secs' 0 armed left' false → Stored secs secs' (nxN secs) ⟨(textL last stays jobs).toArray⟩ →
    Blk w' L #[.pointer (some ⟨db, 0, none⟩), .int .i64 n, .int .i64 last, vs, vj] 106 → OwnBook w' w.heap.size vs vj stays jobs → KeepPost base db sb secs armed L n ⟨last, sa, sc, ja, jc, stays, jobs⟩ w (.returned .nilIface) w') := fun h0 w' h1 s' l' vs vj h2 h3 h4 h5 h6 => Or.inr (Or.inl ⟨h0, rfl, h1, s', l', vs, vj, h2, h3, h4, h5, h6⟩)
  have HNO : Hid (bookN ⟨last, sa, sc, ja, jc, stays, jobs⟩ n = 0 → armed = true → ∀ w', DFr base w w' → ∀ secs' bit' left', LeftOk armed left' → DiskAt w' base db sb secs' bit' armed left' true → Fell secs secs' (nxN secs) ⟨(textL last stays jobs).toArray⟩ → KeepPost base db sb secs armed L n ⟨last, sa, sc, ja, jc, stays, jobs⟩ w (.returned (.iface 94 (.int .i64 9))) w') := fun h0 ha w' h1 s' b' l' h2 h3 h4 => Or.inr (Or.inr ⟨h0, ha, rfl, h1, s', b', l', h2, h3, h4⟩)
  generalize KeepPost base db sb secs armed L n ⟨last, sa, sc, ja, jc, stays, jobs⟩ w = PP at *
  have HCK : Hid (∀ W, Below w.heap.size w W → Calls Tryz.prog 27 #[.agg #[.int .i64 last, .slice sa stays.length sc, .slice ja jobs.length jc], .int .i64 n] W fun e w' => e = .returned (errV (bookN ⟨last, sa, sc, ja, jc, stays, jobs⟩ n)) ∧ Below W.heap.size W w') := fun W hx => bookCheck_any ⟨last, sa, sc, ja, jc, stays, jobs⟩ n W (hb.below hx) n1 n4
  have HOKB : bookN ⟨last, sa, sc, ja, jc, stays, jobs⟩ n = 0 → BookOK last n stays jobs := fun h0 => (bookN_zero _ _).1 h0
  have HTX : Hid (bookN ⟨last, sa, sc, ja, jc, stays, jobs⟩ n = 0 → ∀ W, Below w.heap.size w W → Calls Tryz.prog 58 #[.agg #[.int .i64 last, .slice sa stays.length sc, .slice ja jobs.length jc]] W fun e w' => e = .returned (.string ⟨(textL last stays jobs).toArray⟩) ∧ Below W.heap.size W w') := fun h0 W hx =>
    text_any ⟨last, sa, sc, ja, jc, stays, jobs⟩ W (hb.below hx) (G.new hx) (by have := (HOKB h0).fewS; show stays.length ≤ 1000; omega) (by have := (HOKB h0).fewJ; show jobs.length ≤ 1000; omega) (ok_nums n4 (HOKB h0)) (by have := text_500 n4 (HOKB h0); show (textL last stays jobs).length ≤ _; omega)
  have HST : Hid (bookN ⟨last, sa, sc, ja, jc, stays, jobs⟩ n = 0 → ∀ W, Below w.heap.size w W → Calls Tryz.prog 57 #[.pointer (some ⟨db, 0, none⟩), .string ⟨(textL last stays jobs).toArray⟩] W (StorePost base db sb secs armed ⟨(textL last stays jobs).toArray⟩ W)) := fun h0 W hx => store_any base db sb secs armed left _ W (h.below hx) (Nat.le_trans hbase hx.size) hlo hw h22 hn (by show (textL last stays jobs).toArray.size ≤ _; rw [List.size_toArray]; have := text_500 n4 (HOKB h0); omega) (G.new hx) hbg
  have HCP : Hid (bookN ⟨last, sa, sc, ja, jc, stays, jobs⟩ n = 0 → ∀ W, DFr base w W → Calls Tryz.prog 62 #[.agg #[.int .i64 last, .slice sa stays.length sc, .slice ja jobs.length jc]] W fun e w' => ∃ vs vj, e = .returned (.agg #[.int .i64 last, vs, vj]) ∧ OwnBook w' W.heap.size vs vj stays jobs ∧ Below W.heap.size W w') := fun h0 W hx => by
    have hbW : Book.At ⟨last, sa, sc, ja, jc, stays, jobs⟩ W := hbl W hx
    exact copy_any ⟨last, sa, sc, ja, jc, stays, jobs⟩ W hbW (by have := (HOKB h0).fewS; show stays.length ≤ 1000; omega) (by have := (HOKB h0).fewJ; show jobs.length ≤ 1000; omega)
  clear HOKB
  obtain ⟨w0, hw0⟩ : ∃ w0, w.alloc (.cells #[.int .i64 last, .slice sa stays.length sc, .slice ja jobs.length jc] 38) = w0 := ⟨_, rfl⟩
  have N0 : Hid (Below w.heap.size w w0 ∧ Blk w0 w.heap.size #[.int .i64 last, .slice sa stays.length sc, .slice ja jobs.length jc] 38 ∧ Blk w0 L #[.pointer (some ⟨db, 0, none⟩), .int .i64 n, .int .i64 ol, ov, oj] 106) := by
    show _ ∧ _ ∧ _
    rw [← hw0]
    exact ⟨B.new1 _ _, Blk.new _ _ _, hL.old _⟩
  have HBW : Hid (∀ W, Below w0.heap.size w0 W → Below w.heap.size w W) := fun W hx => B.next N0.out.1 hx N0.out.1.size
  have HS1 : Hid (∀ W, Below w0.heap.size w0 W → W.cell? ⟨L, 1, none⟩ = some (.int .i64 n) ∧ W.cell? ⟨w.heap.size, 0, none⟩ = some (.int .i64 last) ∧ W.cell? ⟨w.heap.size, 1, none⟩ = some (.slice sa stays.length sc) ∧ W.cell? ⟨w.heap.size, 2, none⟩ = some (.slice ja jobs.length jc)) := fun W hx => ⟨(N0.out.2.2.below hx).cell 1, (N0.out.2.1.below hx).cell 0, (N0.out.2.1.below hx).cell 1, (N0.out.2.1.below hx).cell 2⟩
  have D0 : Hid (Below w0.heap.size w0 w0.drew) := (Below.refl _ _).drew
  have HDK : Hid (∀ W, Below w.heap.size w W → DiskAt W base db sb secs 0 armed left false) := fun W hx => h.below hx
  have hsL : Hid (L < w.heap.size) := hL.lt
  clear h hlo hw G hL hb hbl
  generalize bookN ⟨last, sa, sc, ja, jc, stays, jobs⟩ n = bn at *
  unfold Book.val
  simp only
  go_enter Tryz.func22, Tryz.ntmps22
  go_upto_region 1 with fail
  (try simp only [hw0])
  clear hw0
  go_region_held3 (fun W => W.cell? ⟨L, 1, none⟩ = some (.int .i64 n) ∧ W.cell? ⟨w.heap.size, 0, none⟩ = some (.int .i64 last) ∧ W.cell? ⟨w.heap.size, 1, none⟩ = some (.slice sa stays.length sc) ∧ W.cell? ⟨w.heap.size, 2, none⟩ = some (.slice ja jobs.length jc)) (first | with_reducible exact HS1.out _ D0.out | with_reducible exact HS1.out _ B1.out | go_keep)
    (first | (go_at_call 27; refine (HCK.out w0.drew (HBW.out _ D0.out)).mono ?_; rintro e w1 ⟨rfl, b1⟩; have B1 : Hid (Below w0.heap.size w0 w1) := B.next D0.out b1 D0.out.size; clear b1))
  have X1 : Hid (Below w.heap.size w w1) := HBW.out _ B1.out
  by_cases hbn : bn = 0
  case neg =>
    rw [errV_ne hbn]
    have HF : Hid (PP (.returned (.iface 94 (.int .i64 bn))) w1) := by have := HBAD.out w1 hbn X1.out; rwa [errV_ne hbn] at this
    clear HOK HNO HBAD HCK HTX HST HCP HS1 HDK
    go_wp2
    exact HF.out
  rw [hbn, errV0]
  have HOK := HOK.out hbn
  have HNO := HNO.out hbn
  have HTX := HTX.out hbn
  have HST := HST.out hbn
  have HCP := HCP.out hbn
  have HOK2 : Hid _ := hidd HOK
  have HNO2 : Hid _ := hidd HNO
  have HTX2 : Hid _ := hidd HTX
  have HST2 : Hid _ := hidd HST
  have HCP2 : Hid _ := hidd HCP
  clear HBAD HCK HOK HNO HTX HST HCP hbn
  have HL1 : Hid (Blk w1 L #[.pointer (some ⟨db, 0, none⟩), .int .i64 n, .int .i64 ol, ov, oj] 106 ∧ Blk w1 w.heap.size #[.int .i64 last, .slice sa stays.length sc, .slice ja jobs.length jc] 38) := ⟨N0.out.2.2.below B1.out, N0.out.2.1.below B1.out⟩
  have HS4 : Hid (∀ W, Blk W L #[.pointer (some ⟨db, 0, none⟩), .int .i64 n, .int .i64 ol, ov, oj] 106 ∧ Blk W w.heap.size #[.int .i64 last, .slice sa stays.length sc, .slice ja jobs.length jc] 38 → W.cell? ⟨L, 0, none⟩ = some (.pointer (some ⟨db, 0, none⟩)) ∧ W.cell? ⟨w.heap.size, 0, none⟩ = some (.int .i64 last) ∧ W.cell? ⟨w.heap.size, 1, none⟩ = some (.slice sa stays.length sc) ∧ W.cell? ⟨w.heap.size, 2, none⟩ = some (.slice ja jobs.length jc)) := fun W hx => ⟨hx.1.cell 0, hx.2.cell 0, hx.2.cell 1, hx.2.cell 2⟩
  have D1 : Hid (Below w1.heap.size w1 w1.drew) := (Below.refl _ _).drew
  have X1d : Hid (Below w.heap.size w w1.drew) := B.next X1.out D1.out X1.out.size
  have HL1d : Hid (Blk w1.drew L #[.pointer (some ⟨db, 0, none⟩), .int .i64 n, .int .i64 ol, ov, oj] 106 ∧ Blk w1.drew w.heap.size #[.int .i64 last, .slice sa stays.length sc, .slice ja jobs.length jc] 38) := ⟨HL1.out.1.below D1.out, HL1.out.2.below D1.out⟩
  clear HS1 D0 N0 HBW B1 HL1
  go_upto_region 4 with fail
  have HTX3 : Hid (Calls Tryz.prog 58 #[.agg #[.int .i64 last, .slice sa stays.length sc, .slice ja jobs.length jc]] w1.drew fun e w' => e = .returned (.string ⟨(textL last stays jobs).toArray⟩) ∧ Below w1.drew.heap.size w1.drew w') := HTX2.out _ X1d.out
  generalize hT : (⟨(textL last stays jobs).toArray⟩ : ByteArray) = T at *
  go_region_held3 (fun W => W.cell? ⟨L, 0, none⟩ = some (.pointer (some ⟨db, 0, none⟩)) ∧ W.cell? ⟨w.heap.size, 0, none⟩ = some (.int .i64 last) ∧ W.cell? ⟨w.heap.size, 1, none⟩ = some (.slice sa stays.length sc) ∧ W.cell? ⟨w.heap.size, 2, none⟩ = some (.slice ja jobs.length jc)) (first | with_reducible exact HS4.out _ HL1d.out | with_reducible exact HS4.out _ HL2.out | with_reducible exact HS4.out _ HL3.out | go_keep)
    (first
      | (go_at_call 58; refine HTX3.out.mono ?_; rintro e w2 ⟨rfl, b2⟩; have HL2 : Hid (Blk w2 L #[.pointer (some ⟨db, 0, none⟩), .int .i64 n, .int .i64 ol, ov, oj] 106 ∧ Blk w2 w.heap.size #[.int .i64 last, .slice sa stays.length sc, .slice ja jobs.length jc] 38) := ⟨HL1d.out.1.below b2, HL1d.out.2.below b2⟩; have X2 : Hid (Below w.heap.size w w2) := B.next X1d.out b2 X1d.out.size; clear b2)
      | (go_at_call 57; refine (HST2.out w2 X2.out).mono ?_; rintro e w3 hsp; have HSP : Hid (StorePost base db sb secs armed T w2 e w3) := hsp; have HL3 : Hid (Blk w3 L #[.pointer (some ⟨db, 0, none⟩), .int .i64 n, .int .i64 ol, ov, oj] 106 ∧ Blk w3 w.heap.size #[.int .i64 last, .slice sa stays.length sc, .slice ja jobs.length jc] 38) := ⟨hsp.1.far _ _ _ (by decide) (by decide) (by decide) HL2.out.1, hsp.1.far _ _ _ (by decide) (by decide) (by decide) HL2.out.2⟩; clear hsp; obtain ⟨v, rfl, HV⟩ := HSP.out.value))
  have HF3 : Hid (DFr base w w3) := (DFr.of_below X2.out hbase).trans HSP.out.1 hbase
  have hL3 : Hid (L < w3.heap.size) := HL3.out.1.lt
  clear HTX2 HTX3 HST2 D1 X1d HL1d X1 HS4 HSP HL2 X2
  rcases HV.out with ⟨rfl, s', l', k1, k2, k3⟩ | ⟨rfl, har, s', b', l', k1, k2, k3⟩
  · have HCP3 : Hid (Calls Tryz.prog 62 #[.agg #[.int .i64 last, .slice sa stays.length sc, .slice ja jobs.length jc]] w3 fun e w' => ∃ vs vj, e = .returned (.agg #[.int .i64 last, vs, vj]) ∧ OwnBook w' w3.heap.size vs vj stays jobs ∧ Below w3.heap.size w3 w') := HCP2.out _ HF3.out
    have K : Hid (LeftOk armed l' ∧ DiskAt w3 base db sb s' 0 armed l' false ∧ Stored secs s' (nxN secs) T) := ⟨k1, k2, k3⟩
    have r3 := HL3.out.2.cell
    clear k1 k2 k3 HCP2 HV HNO2
    go_wp2_with fail
    refine HCP3.out.mono ?_
    rintro e w4 ⟨vs, vj, rfl, ho, b4⟩
    obtain ⟨sx, cx, hvs, _⟩ := ho.s.rows
    obtain ⟨jx, dx, hvj, _⟩ := ho.j.rows
    have HB4 : Hid (Blk w4 L #[.pointer (some ⟨db, 0, none⟩), .int .i64 n, .int .i64 ol, ov, oj] 106) := HL3.out.1.below b4
    obtain ⟨w5, hw5⟩ : ∃ w5, ((w4.setCell ⟨L, 2, none⟩ (.int .i64 last)).setCell ⟨L, 3, none⟩ vs).setCell ⟨L, 4, none⟩ vj = w5 := ⟨_, rfl⟩
    have HF : Hid (PP (.returned .nilIface) w5) := by
      show PP (.returned .nilIface) w5
      rw [← hw5]
      have hs3 : w.heap.size ≤ w3.heap.size := HF3.out.b.size
      have B1 : Blk (w4.setCell ⟨L, 2, none⟩ (.int .i64 last)) L #[.pointer (some ⟨db, 0, none⟩), .int .i64 n, .int .i64 last, ov, oj] 106 := HB4.out.set 2 _
      have B2 : Blk ((w4.setCell ⟨L, 2, none⟩ (.int .i64 last)).setCell ⟨L, 3, none⟩ vs) L #[.pointer (some ⟨db, 0, none⟩), .int .i64 n, .int .i64 last, vs, oj] 106 := B1.set 3 _
      have B3 : Blk (((w4.setCell ⟨L, 2, none⟩ (.int .i64 last)).setCell ⟨L, 3, none⟩ vs).setCell ⟨L, 4, none⟩ vj) L #[.pointer (some ⟨db, 0, none⟩), .int .i64 n, .int .i64 last, vs, vj] 106 := B2.set 4 _
      have F4 : DFr base w w4 := HF3.out.trans (DFr.of_below b4 (Nat.le_trans hbase hs3)) hbase
      have D1 := diskFar (K.out.2.1.below b4) HB4.out (by decide) (by decide) (by decide) 2 (.int .i64 last)
      have D2 := diskFar D1 B1 (by decide) (by decide) (by decide) 3 vs
      have D3 := diskFar D2 B2 (by decide) (by decide) (by decide) 4 vj
      exact HOK2.out _ ((((LFr.of_dfr F4).trans (LFr.of_set HB4.out hLb 2 _)).trans (LFr.of_set B1 hLb 3 _)).trans (LFr.of_set B2 hLb 4 _)) s' l' vs vj K.out.1 D3 K.out.2.2 B3 (bookDown (bookSet (bookSet (bookSet ho _ hL3.out) _ hL3.out) _ hL3.out) hs3)
    subst hvs hvj
    obtain ⟨p1, m1, c1, rfl⟩ := hov
    obtain ⟨p2, m2, c2, rfl⟩ := hoj
    have r4 := HB4.out.cell
    have f4 := HB4.out.free
    clear HOK2 HCP3 ho b4 K HL3 HF3 HB4 r3
    go_wp2
    (try simp only [hw5])
    exact HF.out
  · have HF : Hid (PP (.returned (.iface 94 (.int .i64 9))) w3) := HNO2.out har _ HF3.out s' b' l' k1 k2 k3
    clear HOK2 HNO2 HCP2 k1 k2 k3 HV
    go_wp2
    exact HF.out
end Lg
end Go.Proofs.YtaikbojdmfkbhaaGreatDoor

namespace Go.Proofs.YtaikbojdmfkbhaaGreatDoor
open Go.Shelf Go.Lib Go.ChangeShapes Go.WideShapes Go.ChangeAt Go.RowKit
set_option maxRecDepth 100000
set_option linter.unusedSimpArgs false
set_option linter.unusedVariables false

namespace Lg
open Bk Dk Tx
/-- A ledger and its disk. -/
structure LedS (w : World) (base db sb : Nat) (secs : List Sec) (armed : Bool) (left : Int) (L n : Nat) (b : PB) : Prop where
  d : DiskAt w base db sb secs 0 armed left false
  len : 22 ≤ secs.length
  few : secs.length ≤ 1000
  wr : ∀ j, j < secs.length → secs[j]!.wr = []
  lo : LeftOk armed left
  l : ∃ vs vj, Blk w L #[.pointer (some ⟨db, 0, none⟩), .int .i64 n, .int .i64 b.last, vs, vj] 106 ∧ OwnBook w base vs vj b.stays b.jobs
  hL : base ≤ L
  op : openP secs n = some b
theorem Stored.wr2 {secs secs' : List Sec} {nx : Nat} {t : ByteArray} (h : Stored secs secs' nx t) : ∀ j, j < secs'.length → secs'[j]!.wr = [] := fun j hj => h.wr j (by rw [← h.len]; exact hj)
theorem text_list (l : List UInt8) : (⟨l.toArray⟩ : ByteArray).data.toList = l := rfl
/-- What Keep does to a ledger. -/
def KeepS (base db sb : Nat) (secs : List Sec) (armed : Bool) (L n : Nat) (b : Book) (w : World) (e : Ending) (w' : World) : Prop :=
  (bookN b n ≠ 0 ∧ e = .returned (errV (bookN b n)) ∧ Below w.heap.size w w') ∨
  (bookN b n = 0 ∧ e = .returned .nilIface ∧ LFr base w w' ∧ ∃ secs' left', LedS w' base db sb secs' armed left' L n ⟨b.last, b.stays, b.jobs⟩ ∧ secs'.length = secs.length) ∨
  (bookN b n = 0 ∧ armed = true ∧ e = .returned (errV 9) ∧ DFr base w w' ∧ ∃ secs' bit' left', LeftOk armed left' ∧ DiskAt w' base db sb secs' bit' armed left' true ∧ Fell secs secs' (nxN secs) ⟨(textL b.last b.stays b.jobs).toArray⟩)
theorem keepS (base db sb : Nat) (secs : List Sec) (armed : Bool) (left : Int) (L n : Nat) (ob : PB) (b : Book) (w : World) (h : LedS w base db sb secs armed left L n ob) (hbase : base ≤ w.heap.size) (G : Glob w) (hbg : Tryz.prog.globals.size ≤ base) (hb : b.At w) (hbl : ∀ W, DFr base w W → b.At W) (n1 : 1 ≤ n) (n4 : n ≤ 4) :
    Calls Tryz.prog 22 #[.pointer (some ⟨L, 0, none⟩), b.val] w (KeepS base db sb secs armed L n b w) := by
  obtain ⟨vs, vj, hL, ho⟩ := h.l
  obtain ⟨sa, sc, hvs, _⟩ := ho.s.rows
  obtain ⟨ja, jc, hvj, _⟩ := ho.j.rows
  refine (keep_any base db sb secs armed left L n ob.last vs vj b w h.d hbase h.lo h.wr h.len h.few G hbg hL h.hL hb hbl n1 n4 ⟨_, _, _, hvs⟩ ⟨_, _, _, hvj⟩).mono ?_
  rintro e w' (⟨h1, h2, h3⟩ | ⟨h1, h2, h3, s', l', vs', vj', k1, k2, k3, k4, k5⟩ | ⟨h1, h2, h3, h4, s', b', l', k1, k2, k3⟩)
  · exact Or.inl ⟨h1, h2, h3⟩
  · refine Or.inr (Or.inl ⟨h1, h2, h3, s', l', ⟨k2, by rw [k3.len]; exact h.len, by rw [k3.len]; exact h.few, k3.wr2, k1, ⟨vs', vj', k4, bookDown k5 hbase⟩, h.hL, ?_⟩, k3.len⟩)
    have hok := (bookN_zero b n).1 h1
    have h5 := text_500 n4 hok
    rw [open_stored k3 (nx_le _) h.len (by show (textL b.last b.stays b.jobs).toArray.size ≤ _; rw [List.size_toArray]; omega) (text_no0 n4 hok) n]
    exact parse_text n4 hok
  · exact Or.inr (Or.inr ⟨h1, h2, h3, h4, s', b', l', k1, k2, k3⟩)
theorem LedS.below {w w' : World} {base db sb : Nat} {secs : List Sec} {armed : Bool} {left : Int} {L n : Nat} {b : PB} (h : LedS w base db sb secs armed left L n b) (hb : Below w.heap.size w w') : LedS w' base db sb secs armed left L n b := by
  obtain ⟨vs, vj, h1, h2⟩ := h.l
  exact ⟨h.d.below hb, h.len, h.few, h.wr, h.lo, ⟨vs, vj, h1.below hb, h2.below hb⟩, h.hL, h.op⟩
/-- What Open does. -/
def OpenS (base db sb : Nat) (secs : List Sec) (armed : Bool) (left : Int) (n : Nat) (b : PB) (w : World) (e : Ending) (w' : World) : Prop :=
  Below w.heap.size w w' ∧ ∃ L, e = .returned (.tuple #[.pointer (some ⟨L, 0, none⟩), .nilIface]) ∧ LedS w' base db sb secs armed left L n b
theorem openS (base db sb : Nat) (secs : List Sec) (armed : Bool) (left : Int) (n : Nat) (b : PB) (w : World) (h : DiskAt w base db sb secs 0 armed left false) (hbase : base ≤ w.heap.size) (h22 : 22 ≤ secs.length) (hn : secs.length ≤ 1000) (hw : ∀ j, j < secs.length → secs[j]!.wr = []) (hlo : LeftOk armed left) (hop : openP secs n = some b) (G : Glob w) (n1 : 1 ≤ n) (n4 : n ≤ 4) :
    Calls Tryz.prog 19 #[.pointer (some ⟨db, 0, none⟩), .int .i64 n] w (OpenS base db sb secs armed left n b w) := by
  refine (open_any base db sb secs 0 armed left n w h (fun i hi => by rw [hw i hi]; simp) hn (by omega) n1 n4 G).mono ?_
  rintro e w' ⟨hb, ⟨hno, _⟩ | ⟨b', vs, vj, L, hyes, rfl, hL, hB, ho⟩⟩
  · rw [hop] at hno; cases hno
  · rw [hop] at hyes
    cases hyes
    exact ⟨hb, L, rfl, h.below hb, h22, hn, hw, hlo, ⟨vs, vj, hB, bookDown ho hbase⟩, Nat.le_trans hbase hL, hop⟩
theorem book_zero (n : Nat) (k : Int) (h0 : 0 ≤ k) (h1 : k ≤ 999999) : bookN ⟨k, none, 0, none, 0, [], []⟩ n = 0 := by
  unfold bookN
  rw [if_neg (by simp; omega), if_neg (by simp)]
  rfl
theorem parse_zero (n : Nat) (n4 : n ≤ 4) : parseP ⟨#[48, 32, 48, 32, 48]⟩ n = some ⟨0, [], []⟩ := by
  have h := parse_text n4 ((bookN_zero _ _).1 (book_zero n 0 (by decide) (by decide)))
  rw [text_000] at h
  exact h
theorem bookS (base db sb : Nat) (secs : List Sec) (armed : Bool) (left : Int) (L n : Nat) (b : PB) (w : World) (h : LedS w base db sb secs armed left L n b) (hs : b.stays.length ≤ 1000) (hj : b.jobs.length ≤ 1000) :
    Calls Tryz.prog 24 #[.pointer (some ⟨L, 0, none⟩)] w fun e w' => ∃ vs vj, e = .returned (.agg #[.int .i64 b.last, vs, vj]) ∧ OwnBook w' w.heap.size vs vj b.stays b.jobs ∧ Below w.heap.size w w' := by
  obtain ⟨vs, vj, hL, ho⟩ := h.l
  obtain ⟨sa, sc, hvs, hrs⟩ := ho.s.rows
  obtain ⟨ja, jc, hvj, hrj⟩ := ho.j.rows
  subst hvs hvj
  exact book_any db L n b.last sa sc ja jc b.stays b.jobs w hL ⟨hrs, hrj⟩ hs hj

set_option maxHeartbeats 4000000 in
theorem kept_any (n : Nat) (w : World) (G : Glob w) (hbg : Tryz.prog.globals.size ≤ w.heap.size) (n1 : 1 ≤ n) (n4 : n ≤ 4) :
    Calls Tryz.prog 25 #[.int .i64 n] w fun e w' => ∃ db sb L secs left, e = .returned (.tuple #[.pointer (some ⟨db, 0, none⟩), .pointer (some ⟨L, 0, none⟩), .bool true]) ∧ LedS w' w.heap.size db sb secs false left L n ⟨0, [], []⟩ ∧ Below w.heap.size w w' := by
  generalize hPP : (fun (e : Ending) (w' : World) => ∃ db sb L secs left, e = .returned (.tuple #[.pointer (some ⟨db, 0, none⟩), .pointer (some ⟨L, 0, none⟩), .bool true]) ∧ LedS w' w.heap.size db sb secs false left L n ⟨0, [], []⟩ ∧ Below w.heap.size w w') = PP
  have HP : Hid (∀ db sb L secs left w', LedS w' w.heap.size db sb secs false left L n ⟨0, [], []⟩ → Below w.heap.size w w' → PP (.returned (.tuple #[.pointer (some ⟨db, 0, none⟩), .pointer (some ⟨L, 0, none⟩), .bool true])) w') := fun db sb L secs left w' h1 h2 => by rw [← hPP]; exact ⟨db, sb, L, secs, left, rfl, h1, h2⟩
  clear hPP
  have HDN : Hid (Calls Tryz.prog 17 #[.int .i64 22] w fun e w' => e = .returned (.tuple #[.pointer (some ⟨w.heap.size + 1, 0, none⟩), .nilIface]) ∧ DiskAt w' w.heap.size (w.heap.size + 1) w.heap.size (List.replicate 22 secZ) 0 false 0 false ∧ Below w.heap.size w w') := diskNew_any 22 w (by decide) (by decide)
  have HW : Hid (∀ j, j < (List.replicate 22 secZ).length → (List.replicate 22 secZ)[j]!.wr = []) := fun j hj => by rw [getElem!_pos _ j hj, List.getElem_replicate]; rfl
  have hlen : (List.replicate 22 secZ).length = 22 := List.length_replicate
  have HFM : Hid (∀ W, Below w.heap.size w W → DiskAt W w.heap.size (w.heap.size + 1) w.heap.size (List.replicate 22 secZ) 0 false 0 false → Calls Tryz.prog 20 #[.pointer (some ⟨w.heap.size + 1, 0, none⟩)] W (FormatPost w.heap.size (w.heap.size + 1) w.heap.size (List.replicate 22 secZ) false W)) := fun W hb hd => format_any _ _ _ _ _ _ W hd hb.size ⟨Or.inr rfl, by decide⟩ HW.out (by rw [hlen]; decide) (G.new hb) hbg
  generalize List.replicate 22 secZ = secs0 at *
  generalize hdb : w.heap.size + 1 = db at *
  go_enter Tryz.func25, Tryz.ntmps25
  go_wp2_with fail
  refine HDN.out.mono ?_
  rintro e w1 ⟨rfl, d1, b1⟩
  have HF1 : Hid (Calls Tryz.prog 20 #[.pointer (some ⟨db, 0, none⟩)] w1 (FormatPost w.heap.size db w.heap.size secs0 false w1)) := HFM.out w1 b1 d1
  have X1 : Hid (Below w.heap.size w w1) := b1
  clear d1 b1 HFM HDN
  go_wp2_with fail
  refine HF1.out.mono ?_
  rintro e w2 hf
  have HF2 : Hid (e = .returned .nilIface ∧ ∃ secs' left', DiskAt w2 w.heap.size db w.heap.size secs' 0 false left' false ∧ Stored secs0 secs' (nxN secs0) ⟨#[48, 32, 48, 32, 48]⟩ ∧ DFr w.heap.size w1 w2 ∧ LeftOk false left') := by
    rcases hf with ⟨h1, _⟩ | ⟨_, hD, ⟨h1, s', l', h2, h3, h4⟩ | ⟨h1, _⟩⟩
    · omega
    · exact ⟨h1, s', l', h3, h4, hD, h2⟩
    · cases h1
  obtain ⟨rfl, s', l', k1, k2, k3, k4⟩ := HF2.out
  have K : Hid (DiskAt w2 w.heap.size db w.heap.size s' 0 false l' false ∧ Stored secs0 s' (nxN secs0) ⟨#[48, 32, 48, 32, 48]⟩ ∧ Below w.heap.size w w2) := ⟨k1, k2, ⟨k3.b.os.trans X1.out.os, k3.b.tape.trans X1.out.tape, k3.b.output.trans X1.out.output, Nat.le_trans X1.out.size k3.b.size, fun q hq => (k3.b.block q hq).trans (X1.out.block q hq)⟩⟩
  have HOP : Hid (openP s' n = some ⟨0, [], []⟩) := by
    show _ = _
    rw [open_stored k2 (nx_le _) (by omega) (by decide) (by decide) n]
    exact parse_zero n n4
  have HOS : Hid (Calls Tryz.prog 19 #[.pointer (some ⟨db, 0, none⟩), .int .i64 n] w2 (OpenS w.heap.size db w.heap.size s' false l' n ⟨0, [], []⟩ w2)) :=
    openS _ _ _ _ _ _ n _ w2 k1 K.out.2.2.size (by have := k2.len; omega) (by have := k2.len; omega) k2.wr2 k4 HOP.out (G.new K.out.2.2) n1 n4
  clear hf HF2 k1 k2 k3 HF1 X1 HOP HW
  go_wp2_with fail
  refine HOS.out.mono ?_
  rintro e w3 ⟨b3, L, rfl, hl⟩
  have HF : Hid (PP (.returned (.tuple #[.pointer (some ⟨db, 0, none⟩), .pointer (some ⟨L, 0, none⟩), .bool true])) w3) := HP.out db _ L s' l' w3 hl (B.next K.out.2.2 b3 K.out.2.2.size)
  clear b3 hl HOS K HP
  go_wp2
  exact HF.out
end Lg
end Go.Proofs.YtaikbojdmfkbhaaGreatDoor

namespace Go.Proofs.YtaikbojdmfkbhaaGreatDoor
open Go.Shelf Go.Lib Go.ChangeShapes Go.WideShapes Go.ChangeAt Go.RowKit
set_option maxRecDepth 100000
set_option linter.unusedSimpArgs false
set_option linter.unusedVariables false

namespace Bk
set_option maxHeartbeats 4000000 in
theorem sameBook_any (last : Int) (stays : List Stay) (jobs : List Job) (sa ja sx jx : Option Addr) (sc jc cx dx : Nat) (w : World) (h1 : Book.At ⟨last, sa, sc, ja, jc, stays, jobs⟩ w) (h2 : Book.At ⟨last, sx, cx, jx, dx, stays, jobs⟩ w) :
    Calls Tryz.prog 23 #[.agg #[.int .i64 last, .slice sa stays.length sc, .slice ja jobs.length jc], .agg #[.int .i64 last, .slice sx stays.length cx, .slice jx jobs.length dx]] w fun e w' => e = .returned (.bool true) ∧ Below w.heap.size w w' := by
  have H1 : Hid (∀ wx, Below w.heap.size w wx → RowsAt wx sa sc 8 Stay.enc stays) := fun wx h => h1.1.below h
  have H2 : Hid (∀ wx, Below w.heap.size w wx → RowsAt wx sx cx 8 Stay.enc stays) := fun wx h => h2.1.below h
  have H3 : Hid (∀ wx, Below w.heap.size w wx → RowsAt wx ja jc 2 Job.enc jobs) := fun wx h => h1.2.below h
  have H4 : Hid (∀ wx, Below w.heap.size w wx → RowsAt wx jx dx 2 Job.enc jobs) := fun wx h => h2.2.below h
  have hm1 : sc ≤ maxLen := h1.1.2.1
  have hm2 : cx ≤ maxLen := h2.1.2.1
  have hm3 : jc ≤ maxLen := h1.2.2.1
  have hm4 : dx ≤ maxLen := h2.2.2.1
  have hn1 : stays.length ≤ sc := h1.1.1
  have hn2 : stays.length ≤ cx := h2.1.1
  have hn3 : jobs.length ≤ jc := h1.2.1
  have hn4 : jobs.length ≤ dx := h2.2.1
  unfold maxLen at hm1 hm2 hm3 hm4
  obtain ⟨w0, hw0⟩ : ∃ w0, (w.alloc (.cells #[.int .i64 last, .slice sa stays.length sc, .slice ja jobs.length jc] 38)).alloc (.cells #[.int .i64 last, .slice sx stays.length cx, .slice jx jobs.length dx] 38) = w0 := ⟨_, rfl⟩
  have N0 : Hid (Below w.heap.size w w0 ∧ Blk w0 w.heap.size #[.int .i64 last, .slice sa stays.length sc, .slice ja jobs.length jc] 38 ∧ Blk w0 (w.heap.size + 1) #[.int .i64 last, .slice sx stays.length cx, .slice jx jobs.length dx] 38) := by
    show _ ∧ _ ∧ _
    rw [← hw0]
    exact ⟨(B.new1 _ _).alloc (by simp) _, (Blk.new _ _ _).old _, Blk.new1 (by simp) _ _⟩
  have ra := N0.out.2.1.cell
  have rb := N0.out.2.2.cell
  clear h1 h2
  go_enter Tryz.func23, Tryz.ntmps23
  go_wp2_with fail
  clear ra rb hw0
  go_loopg [5] stays.length (fun gg s5 wr => ∃ i : Nat, i ≤ stays.length ∧ stays.length - i ≤ gg ∧ s5 = .int .i64 i ∧ Hid (Below w.heap.size w wr ∧ Blk wr w.heap.size #[.int .i64 last, .slice sa stays.length sc, .slice ja jobs.length jc] 38 ∧ Blk wr (w.heap.size + 1) #[.int .i64 last, .slice sx stays.length cx, .slice jx jobs.length dx] 38))
  case atStart => exact ⟨0, Nat.zero_le _, by omega, rfl, N0⟩
  case round =>
    clear N0
    obtain ⟨i, hi, hg, rfl, M⟩ := hrel
    have ra := M.out.2.1.cell
    by_cases hlt : i < stays.length
    · have hltz : (i : Int) < (stays.length : Int) := by omega
      obtain ⟨sb, soff, rfl⟩ := rows_some (H1.out _ M.out.1) (by omega)
      obtain ⟨xb, xoff, rfl⟩ := rows_some (H2.out _ M.out.1) (by omega)
      have b1 := fun p : BelowW wr => (M.out.2.1.below p.hb).cell 1
      have b2 := fun p : BelowW wr => (M.out.2.2.below p.hb).cell 1
      have s0 := fun p : BelowW wr => rows_cell (H1.out p.wd (B.next M.out.1 p.hb M.out.1.size)) i hlt 0 _ rfl
      have q0 := fun p : BelowW wr => rows_cell (H2.out p.wd (B.next M.out.1 p.hb M.out.1.size)) i hlt 0 _ rfl
      have s1 := fun p : BelowW wr => rows_cell (H1.out p.wd (B.next M.out.1 p.hb M.out.1.size)) i hlt 1 _ rfl
      have q1 := fun p : BelowW wr => rows_cell (H2.out p.wd (B.next M.out.1 p.hb M.out.1.size)) i hlt 1 _ rfl
      have s2 := fun p : BelowW wr => rows_cell (H1.out p.wd (B.next M.out.1 p.hb M.out.1.size)) i hlt 2 _ rfl
      have q2 := fun p : BelowW wr => rows_cell (H2.out p.wd (B.next M.out.1 p.hb M.out.1.size)) i hlt 2 _ rfl
      have s3 := fun p : BelowW wr => rows_cell (H1.out p.wd (B.next M.out.1 p.hb M.out.1.size)) i hlt 3 _ rfl
      have q3 := fun p : BelowW wr => rows_cell (H2.out p.wd (B.next M.out.1 p.hb M.out.1.size)) i hlt 3 _ rfl
      have s4 := fun p : BelowW wr => rows_cell (H1.out p.wd (B.next M.out.1 p.hb M.out.1.size)) i hlt 4 _ rfl
      have q4 := fun p : BelowW wr => rows_cell (H2.out p.wd (B.next M.out.1 p.hb M.out.1.size)) i hlt 4 _ rfl
      have s5 := fun p : BelowW wr => rows_cell (H1.out p.wd (B.next M.out.1 p.hb M.out.1.size)) i hlt 5 _ rfl
      have q5 := fun p : BelowW wr => rows_cell (H2.out p.wd (B.next M.out.1 p.hb M.out.1.size)) i hlt 5 _ rfl
      have s6 := fun p : BelowW wr => rows_cell (H1.out p.wd (B.next M.out.1 p.hb M.out.1.size)) i hlt 6 _ rfl
      have q6 := fun p : BelowW wr => rows_cell (H2.out p.wd (B.next M.out.1 p.hb M.out.1.size)) i hlt 6 _ rfl
      have s7 := fun p : BelowW wr => rows_cell (H1.out p.wd (B.next M.out.1 p.hb M.out.1.size)) i hlt 7 _ rfl
      have q7 := fun p : BelowW wr => rows_cell (H2.out p.wd (B.next M.out.1 p.hb M.out.1.size)) i hlt 7 _ rfl
      simp only [Nat.add_zero] at s0 q0
      have eS := neqStay_run stays[i]!
      have gS := guardStay_run
      generalize stays[i]! = sv at *
      go_wp2_with fail
      clear ra
      refine wp_region_below (by kernel_rfl) (by kernel_rfl) ?_
      repeat (go_big_quiet_step (fail))
      refine wpQuiet_nil ?_
      rintro wq ⟨⟨_, NQ⟩, rfl⟩
      have MQ : Hid (Below w.heap.size w wq ∧ Blk wq w.heap.size #[.int .i64 last, .slice (some ⟨sb, soff, none⟩) stays.length sc, .slice ja jobs.length jc] 38 ∧ Blk wq (w.heap.size + 1) #[.int .i64 last, .slice (some ⟨xb, xoff, none⟩) stays.length cx, .slice jx jobs.length dx] 38) := ⟨B.next M.out.1 NQ M.out.1.size, M.out.2.1.below NQ, M.out.2.2.below NQ⟩
      clear s0 q0 s1 q1 s2 q2 s3 q3 s4 q4 s5 q5 s6 q6 s7 q7 b1 b2 eS gS NQ M
      go_wp2
      go_roundg (stays.length - (i + 1))
      case measure => omega
      case rel => exact ⟨i + 1, by omega, by omega, by go_num, MQ⟩
    · have hltz : ¬ (i : Int) < (stays.length : Int) := by omega
      go_wp2_with fail
      clear ra hltz hlt hg hi
      go_loopg [6] jobs.length (fun gg s6 wr => ∃ i : Nat, i ≤ jobs.length ∧ jobs.length - i ≤ gg ∧ s6 = .int .i64 i ∧ Hid (Below w.heap.size w wr ∧ Blk wr w.heap.size #[.int .i64 last, .slice sa stays.length sc, .slice ja jobs.length jc] 38 ∧ Blk wr (w.heap.size + 1) #[.int .i64 last, .slice sx stays.length cx, .slice jx jobs.length dx] 38))
      case atStart => exact ⟨0, Nat.zero_le _, by omega, rfl, M⟩
      case round =>
        clear M
        obtain ⟨i, hi, hg, rfl, M⟩ := hrel
        have ra := M.out.2.1.cell
        by_cases hlt : i < jobs.length
        · have hltz : (i : Int) < (jobs.length : Int) := by omega
          obtain ⟨sb, soff, rfl⟩ := rows_some (H3.out _ M.out.1) (by omega)
          obtain ⟨xb, xoff, rfl⟩ := rows_some (H4.out _ M.out.1) (by omega)
          have b1 := fun p : BelowW wr => (M.out.2.1.below p.hb).cell 2
          have b2 := fun p : BelowW wr => (M.out.2.2.below p.hb).cell 2
          have s0 := fun p : BelowW wr => rows_cell (H3.out p.wd (B.next M.out.1 p.hb M.out.1.size)) i hlt 0 _ rfl
          have s1 := fun p : BelowW wr => rows_cell (H3.out p.wd (B.next M.out.1 p.hb M.out.1.size)) i hlt 1 _ rfl
          have q0 := fun p : BelowW wr => rows_cell (H4.out p.wd (B.next M.out.1 p.hb M.out.1.size)) i hlt 0 _ rfl
          have q1 := fun p : BelowW wr => rows_cell (H4.out p.wd (B.next M.out.1 p.hb M.out.1.size)) i hlt 1 _ rfl
          simp only [Nat.add_zero] at s0 q0
          have eS := neqJJ_run jobs[i]!.t jobs[i]!.t jobs[i]!.f jobs[i]!.f
          have gS := eqJ_guard jobs[i]!.t jobs[i]!.t jobs[i]!.f jobs[i]!.f
          generalize jobs[i]! = jv at *
          rw [show (!(jv.t == jv.t && jv.f == jv.f)) = false from by simp] at eS
          go_wp2_with fail
          clear ra
          refine wp_region_below (by kernel_rfl) (by kernel_rfl) ?_
          repeat (go_big_quiet_step (fail))
          refine wpQuiet_nil ?_
          rintro wq ⟨⟨_, NQ⟩, rfl⟩
          have MQ : Hid (Below w.heap.size w wq ∧ Blk wq w.heap.size #[.int .i64 last, .slice sa stays.length sc, .slice (some ⟨sb, soff, none⟩) jobs.length jc] 38 ∧ Blk wq (w.heap.size + 1) #[.int .i64 last, .slice sx stays.length cx, .slice (some ⟨xb, xoff, none⟩) jobs.length dx] 38) := ⟨B.next M.out.1 NQ M.out.1.size, M.out.2.1.below NQ, M.out.2.2.below NQ⟩
          clear s0 s1 q0 q1 b1 b2 eS gS NQ M
          go_wp2
          go_roundg (jobs.length - (i + 1))
          case measure => omega
          case rel => exact ⟨i + 1, by omega, by omega, by go_num, MQ⟩
        · have hltz : ¬ (i : Int) < (jobs.length : Int) := by omega
          go_wp2
          go_returns
          exact ⟨rfl, M.out.1⟩

end Bk
end Go.Proofs.YtaikbojdmfkbhaaGreatDoor

namespace Go.Proofs.YtaikbojdmfkbhaaGreatDoor
open Go.Shelf Go.Lib Go.ChangeShapes Go.WideShapes Go.ChangeAt Go.RowKit
set_option maxRecDepth 100000
set_option linter.unusedSimpArgs false
set_option linter.unusedVariables false

namespace Lg
open Bk Dk Tx Ac
set_option maxHeartbeats 1000000 in
theorem diskNo_any (s : Int) (w : World) (h : s < 1 ∨ 40 < s) : Calls Tryz.prog 17 #[.int .i64 s] w fun e w' => e = .returned (.tuple #[.pointer none, errV 1]) ∧ w' = w := by
  rw [errV_ne (by decide)]
  rcases h with h | h
  · go_enter Tryz.func17, Tryz.ntmps17
    go_wp2
    go_returns
    exact ⟨rfl, rfl⟩
  · have h1 : ¬ s < 1 := by omega
    go_enter Tryz.func17, Tryz.ntmps17
    go_wp2
    go_returns
    exact ⟨rfl, rfl⟩
set_option maxHeartbeats 1000000 in
theorem openNo_any (d : Value) (s : Int) (w : World) (h : s < 1 ∨ 4 < s) : Calls Tryz.prog 19 #[d, .int .i64 s] w fun e w' => e = .returned (.tuple #[.pointer none, errV 1]) ∧ w' = w := by
  rw [errV_ne (by decide)]
  rcases h with h | h
  · go_enter Tryz.func19, Tryz.ntmps19
    go_wp2
    go_returns
    exact ⟨rfl, rfl⟩
  · have h1 : ¬ s < 1 := by omega
    go_enter Tryz.func19, Tryz.ntmps19
    go_wp2
    go_returns
    exact ⟨rfl, rfl⟩
theorem slot_zero : slotP (fun _ => 0) = -1 := by
  have h : ∀ k : Nat, k ≤ 1 → nameIs (fun _ => 0) k = false := fun k hk => by
    unfold nameIs
    rw [beq_eq_false_iff_ne]
    intro hl
    rw [ByteArray.toList_eq, ByteArray.toList_eq, name_list k (by omega)] at hl
    have h2 : (bareB (Dk.strOf fun _ => 0)).data.toList = [] := by
      have h3 : (Dk.strOf fun _ => 0).data.toList = List.replicate 64 0 := by rw [strOf_list]; rfl
      unfold bareB
      rw [h3]
      have := trim_pad [] (by simp) 64
      rw [List.nil_append] at this
      rw [this]
    rw [h2] at hl
    cases hl
  unfold slotP
  have h0 : nameIs (fun _ => 0) 0 = false := h 0 (by decide)
  have h1 : nameIs (fun _ => 0) 1 = false := h 1 (by decide)
  rw [h0, h1]
  rfl
theorem open_zero (k n : Nat) (hk : 1 ≤ k) : openP (List.replicate k secZ) n = none := by
  have h : (List.replicate k secZ)[0]!.now = fun _ => 0 := by
    rw [getElem!_pos _ 0 (by rw [List.length_replicate]; omega), List.getElem_replicate]
    rfl
  unfold openP
  rw [h, slot_zero, if_pos (Or.inl rfl)]

set_option maxHeartbeats 4000000 in
theorem ledgers_any (w : World) (G : Glob w) : Calls Tryz.prog 15 #[] w fun e w' => e = .returned (.bool true) ∧ Below w.heap.size w w' := by
  have HP : Hid (∀ w', Below w.heap.size w w' → (fun (e : Ending) (w' : World) => e = .returned (.bool true) ∧ Below w.heap.size w w') (.returned (.bool true)) w') := fun w' hb => ⟨rfl, hb⟩
  generalize (fun (e : Ending) (w' : World) => e = .returned (.bool true) ∧ Below w.heap.size w w') = PP at *
  have HG : Hid (∀ W, Below w.heap.size w W → Glob W) := fun W hb => G.new hb
  have hbg := G.hn
  have HK1 : Hid (Calls Tryz.prog 25 #[.int .i64 1] w fun e w' => ∃ db sb L secs left, e = .returned (.tuple #[.pointer (some ⟨db, 0, none⟩), .pointer (some ⟨L, 0, none⟩), .bool true]) ∧ LedS w' w.heap.size db sb secs false left L 1 ⟨0, [], []⟩ ∧ Below w.heap.size w w') := kept_any 1 w G hbg (by decide) (by decide)
  clear G
  obtain ⟨B2, hB2⟩ : ∃ B2, w.heap.size = B2 := ⟨_, rfl⟩
  go_enter Tryz.func15, Tryz.ntmps15
  go_wp2_with fail
  refine HK1.out.mono ?_
  rintro e w1 ⟨db, sb, L, secs, left, rfl, k1, b1⟩
  have HKP : Hid (Calls Tryz.prog 22 #[.pointer (some ⟨L, 0, none⟩), .agg #[.int .i64 5, .slice none 0 0, .slice none 0 0]] w1 (KeepS w.heap.size db sb secs false L 1 ⟨5, none, 0, none, 0, [], []⟩ w1)) :=
    keepS w.heap.size db sb secs false left L 1 ⟨0, [], []⟩ ⟨5, none, 0, none, 0, [], []⟩ w1 k1 b1.size (HG.out _ b1) hbg ⟨⟨Nat.le_refl _, Nat.zero_le _, fun h => absurd h (Nat.lt_irrefl _)⟩, ⟨Nat.le_refl _, Nat.zero_le _, fun h => absurd h (Nat.lt_irrefl _)⟩⟩ (fun W _ => ⟨⟨Nat.le_refl _, Nat.zero_le _, fun h => absurd h (Nat.lt_irrefl _)⟩, ⟨Nat.le_refl _, Nat.zero_le _, fun h => absurd h (Nat.lt_irrefl _)⟩⟩) (by decide) (by decide)
  have X1 : Hid (Below w.heap.size w w1) := b1
  clear k1 b1 HK1
  go_wp2_with fail
  refine HKP.out.mono ?_
  rintro e w2 hk
  have X2 : Hid (e = .returned .nilIface ∧ ∃ s2 l2, Below w.heap.size w w2 ∧ LedS w2 w.heap.size db sb s2 false l2 L 1 ⟨5, [], []⟩) := by
    rcases hk with ⟨h1, _⟩ | ⟨_, h1, h2, s2, l2, h3, _⟩ | ⟨_, h1, _⟩
    · exact absurd (book_zero 1 5 (by decide) (by decide)) h1
    · exact ⟨h1, s2, l2, ⟨h2.b.os.trans X1.out.os, h2.b.tape.trans X1.out.tape, h2.b.output.trans X1.out.output, Nat.le_trans X1.out.size h2.b.size, fun q hq => (h2.b.block q hq).trans (X1.out.block q hq)⟩, h3⟩
    · cases h1
  obtain ⟨rfl, s2, l2, b2, m3⟩ := X2.out
  have HO3 : Hid (Calls Tryz.prog 19 #[.pointer (some ⟨db, 0, none⟩), .int .i64 1] w2 (OpenS w.heap.size db sb s2 false l2 1 ⟨5, [], []⟩ w2)) :=
    openS w.heap.size db sb s2 false l2 1 _ w2 m3.d b2.size m3.len m3.few m3.wr m3.lo m3.op (HG.out _ b2) (by decide) (by decide)
  have Y2 : Hid (Below w.heap.size w w2) := b2
  clear hk X2 b2 m3 HKP X1
  go_wp2_with fail
  refine HO3.out.mono ?_
  rintro e w3 ⟨b3, L3, rfl, hl3⟩
  have Y3 : Hid (Below w.heap.size w w3) := B.next Y2.out b3 Y2.out.size
  have HB3 : Hid (Calls Tryz.prog 24 #[.pointer (some ⟨L3, 0, none⟩)] w3 fun e w' => ∃ vs vj, e = .returned (.agg #[.int .i64 5, vs, vj]) ∧ OwnBook w' w3.heap.size vs vj [] [] ∧ Below w3.heap.size w3 w') := bookS w.heap.size db sb s2 false l2 L3 1 ⟨5, [], []⟩ w3 hl3 (by decide) (by decide)
  clear b3 hl3 Y2 HO3
  go_wp2_with fail
  refine HB3.out.mono ?_
  rintro e w4 ⟨vs, vj, rfl, ho, b4⟩
  obtain ⟨sy, cy, hvs, _⟩ := ho.s.rows
  obtain ⟨jy, dy, hvj, _⟩ := ho.j.rows
  subst hvs hvj
  have HF : Hid (∀ o, PP (.returned (.bool true)) (w4.alloc o)) := fun o => HP.out _ ((B.next Y3.out b4 Y3.out.size).alloc (B.next Y3.out b4 Y3.out.size).size _)
  clear ho b4 Y3 HB3 HG HP
  go_wp2
  exact HF.out _
end Lg
end Go.Proofs.YtaikbojdmfkbhaaGreatDoor

namespace Go.Proofs.YtaikbojdmfkbhaaGreatDoor
open Go.Shelf Go.Lib Go.ChangeShapes Go.WideShapes Go.ChangeAt Go.RowKit
set_option maxRecDepth 100000
set_option linter.unusedSimpArgs false
set_option linter.unusedVariables false

namespace Lg
open Bk Dk Tx Ac
theorem bThen {k m : Nat} {a b c : World} (h : Below k a b) (h2 : Below m b c) (hm : k ≤ m) : Below k a c := ⟨h2.os.trans h.os, h2.tape.trans h.tape, h2.output.trans h.output, Nat.le_trans h.size h2.size, fun q hq => (h2.block q (by omega)).trans (h.block q hq)⟩
/-- A book's cells. -/
def bCells (b : Book) : Array Value := #[.int .i64 b.last, .slice b.sa b.stays.length b.sc, .slice b.ja b.jobs.length b.jc]
theorem LedS.set {W : World} {base db sb : Nat} {secs : List Sec} {armed : Bool} {left : Int} {L n : Nat} {b : PB} {X : Nat} {arr : Array Value} (h : LedS W base db sb secs armed left L n b) (hX : Blk W X arr 38) (o : Nat) (v : Value) : LedS (W.setCell ⟨X, o, none⟩ v) base db sb secs armed left L n b := by
  obtain ⟨vs, vj, h1, h2⟩ := h.l
  have hne : ∀ {k : Nat} {a : Array Value} {T : TypeId}, Blk W k a T → T ≠ 38 → X ≠ k := fun hk hT e => by subst e; exact hT (blk_typeD hk hX)
  exact ⟨diskFar h.d hX (by decide) (by decide) (by decide) o v, h.len, h.few, h.wr, h.lo, ⟨vs, vj, h1.other (hne h1 (by decide)) o v, ⟨OwnAt.far h2.s (fun g a hk => hk.other (hne hk (by decide)) o v), OwnAt.far h2.j (fun g a hk => hk.other (hne hk (by decide)) o v), h2.ne⟩⟩, h.hL, h.op⟩
theorem book_cells {w : World} {v : Value} {len : Nat} {f : Nat → ActC} {g : Nat → Book} (h : ActsAt w v len f) (hg : ∀ i, i < len → BookIs w (f i) (g i)) (h0 : 0 < len) : ∃ b off cap, v = .slice (some ⟨b, off, none⟩) len cap ∧ len ≤ cap ∧ cap ≤ maxLen ∧
    ∀ W, Below w.heap.size w W → ∀ k, k < len → W.cell? ⟨b, off + k * 12 + 9, none⟩ = some (.int .i64 (g k).last) ∧ W.cell? ⟨b, off + k * 12 + 10, none⟩ = some (.slice (g k).sa (g k).stays.length (g k).sc) ∧ W.cell? ⟨b, off + k * 12 + 11, none⟩ = some (.slice (g k).ja (g k).jobs.length (g k).jc) := by
  obtain ⟨a, cap, rfl, hl, hm, _, hc⟩ := h
  obtain ⟨b, off, rfl, hlt, hcell⟩ := hc h0
  refine ⟨b, off, cap, rfl, hl, hm, fun W hb k hk => ?_⟩
  obtain ⟨e1, e2, e3, e4, e5, e6, e7, _⟩ := hg k hk
  have c9 := (hb.cell (p := ⟨b, off + k * 12 + 9, none⟩) hlt).trans (hcell k hk 9 (by decide))
  have c10 := (hb.cell (p := ⟨b, off + k * 12 + 10, none⟩) hlt).trans (hcell k hk 10 (by decide))
  have c11 := (hb.cell (p := ⟨b, off + k * 12 + 11, none⟩) hlt).trans (hcell k hk 11 (by decide))
  simp only [ActC.vals, List.getElem?_toArray, List.getElem?_cons_zero, List.getElem?_cons_succ] at c9 c10 c11
  rw [e1] at c9
  rw [e2, e3, e4] at c10
  rw [e5, e6, e7] at c11
  exact ⟨c9, c10, c11⟩
def noBook : Book := ⟨0, none, 0, none, 0, [], []⟩
theorem empty_at (k : Int) (W : World) : Book.At ⟨k, none, 0, none, 0, [], []⟩ W := ⟨⟨Nat.le_refl _, Nat.zero_le _, fun h => absurd h (Nat.lt_irrefl _)⟩, ⟨Nat.le_refl _, Nat.zero_le _, fun h => absurd h (Nat.lt_irrefl _)⟩⟩

end Lg
end Go.Proofs.YtaikbojdmfkbhaaGreatDoor

namespace Go.Proofs.YtaikbojdmfkbhaaGreatDoor
open Go.Shelf Go.Lib Go.ChangeShapes Go.WideShapes Go.ChangeAt Go.RowKit
set_option maxRecDepth 100000
set_option linter.unusedSimpArgs false
set_option linter.unusedVariables false

namespace Lg
open Bk Dk Tx Ac
theorem stayN_nn (last : Int) (n : Nat) (l : List Stay) (s : Stay) : 0 ≤ stayN last n l s := by
  unfold stayN
  repeat' split
  all_goals decide
theorem staysF_nn (last : Int) (n : Nat) (l : List Stay) : ∀ m i, 0 ≤ staysF last n l m i
  | 0, _ => Int.le_refl _
  | m + 1, i => by
    unfold staysF
    split
    · exact staysF_nn last n l m (i + 1)
    · exact stayN_nn _ _ _ _
theorem jobsF_nn (b : Book) : ∀ m i, 0 ≤ jobsF b m i
  | 0, _ => Int.le_refl _
  | m + 1, i => by
    unfold jobsF
    split
    · decide
    · exact jobsF_nn b m (i + 1)
theorem bookN_nn (b : Book) (n : Nat) : 0 ≤ bookN b n := by
  unfold bookN
  repeat' split
  · decide
  · decide
  · exact staysF_nn _ _ _ _ _
  · exact jobsF_nn _ _ _
theorem kind_cell {w : World} {v : Value} {len : Nat} {f : Nat → ActC} (h : ActsAt w v len f) {b off cap : Nat} (hv : v = .slice (some ⟨b, off, none⟩) len cap) (k : Nat) (hk : k < len) : ∀ W, Below w.heap.size w W → W.cell? ⟨b, off + k * 12, none⟩ = some (.string (f k).kind) := fun W hb => by
  obtain ⟨a, cap', hv', hl, hm, _, hc⟩ := h
  obtain ⟨b', off', ha, hlt, hcell⟩ := hc (by omega)
  subst ha
  rw [hv] at hv'
  cases hv'
  have c0 := (hb.cell (p := ⟨b, off + k * 12 + 0, none⟩) hlt).trans (hcell k hk 0 (by decide))
  simp only [ActC.vals, List.getElem?_toArray, List.getElem?_cons_zero] at c0
  exact c0

set_option maxHeartbeats 8000000 in
theorem ledgerSays_any (HBF0 : ∀ (b : Book) (n : Nat) (W : World), b.At W → 1 ≤ n → n ≤ 4 → Calls Tryz.prog 21 #[b.val, .int .i64 n] W fun e w' => e = .returned (.int .i64 (bookN b n)) ∧ Below W.heap.size W w')
    (sn lv : Int) (v : Value) (len : Nat) (f : Nat → ActC) (g : Nat → Book) (w : World) (hs : ActsAt w v len f) (hg : ∀ i, i < len → BookIs w (f i) (g i)) (G : Glob w) :
    Calls Tryz.prog 3 #[.int .i64 sn, .int .i64 lv, v] w fun e w' => e = .returned (.bool true) ∧ Below w.heap.size w w' := by
  have HBF : Hid (∀ (b : Book) (n : Nat) (W : World), b.At W → 1 ≤ n → n ≤ 4 → Calls Tryz.prog 21 #[b.val, .int .i64 n] W fun e w' => e = .returned (.int .i64 (bookN b n)) ∧ Below W.heap.size W w') := HBF0
  clear HBF0
  have HP : Hid (∀ w', Below w.heap.size w w' → (fun (e : Ending) (w' : World) => e = .returned (.bool true) ∧ Below w.heap.size w w') (.returned (.bool true)) w') := fun w' hb => ⟨rfl, hb⟩
  generalize (fun (e : Ending) (w' : World) => e = .returned (.bool true) ∧ Below w.heap.size w w') = PP at *
  have HG : Hid (∀ W, Below w.heap.size w W → Glob W) := fun W hb => G.new hb
  have hbg := G.hn
  have HSA : Hid (∀ W, Below w.heap.size w W → ActsAt W v len f) := fun W hb => hs.below hb
  have HBI : Hid (∀ W, Below w.heap.size w W → ∀ i, i < len → BookIs W (f i) (g i)) := fun W hb i hi => by
    obtain ⟨h1, h2, h3, h4, h5, h6, h7, h8⟩ := hg i hi
    exact ⟨h1, h2, h3, h4, h5, h6, h7, h8.below hb⟩
  have HLG : Hid (Calls Tryz.prog 15 #[] w fun e w' => e = .returned (.bool true) ∧ Below w.heap.size w w') := ledgers_any w G
  obtain ⟨a0, cap0, rfl⟩ : ∃ a0 cap0, v = .slice a0 len cap0 := by
    obtain ⟨a, c, h, _⟩ := hs
    exact ⟨a, c, h⟩
  clear hs hg G
  go_enter Tryz.func3, Tryz.ntmps3
  go_wp2_with fail
  refine HLG.out.mono ?_
  rintro e w1 ⟨rfl, b1⟩
  have Y1 : Hid (Below w.heap.size w w1) := b1
  have HF1 : Hid (PP (.returned (.bool true)) w1) := HP.out _ b1
  have HLA : Hid (Calls Tryz.prog 16 #[.slice a0 len cap0, .int .i64 20] w1 (LightPost len f 20 w1)) := light_any _ len f 20 w1 (HSA.out _ b1)
  clear b1 HLG
  go_wp2_with fail
  refine HLA.out.mono ?_
  rintro e w2 ⟨q, rfl, hq, hw2⟩
  subst hw2
  cases q
  · clear HLA HSA HBI HG HBF
    go_wp2
    exact HF1.out
  have HL20 : Hid (Light len f 20) := hq rfl
  clear HLA hq
  by_cases hsn : sn < 1 ∨ 40 < sn
  · have HDN : Hid (Calls Tryz.prog 17 #[.int .i64 sn] w2 fun e w' => e = .returned (.tuple #[.pointer none, errV 1]) ∧ w' = w2) := diskNo_any sn w2 hsn
    have HSM : Hid (Calls Tryz.prog 18 #[.iface 94 (.int .i64 1), .int .i64 1] w2 fun e w' => e = .returned (.bool true) ∧ w' = w2) := same_any 1 w2 (by decide)
    clear HSA HBI HG HBF
    go_wp2_with fail
    refine HDN.out.mono ?_
    rintro e w3 ⟨rfl, hw3⟩
    subst hw3
    rw [errV_ne (by decide)]
    rcases hsn with h | h
    · go_wp2_with fail
      refine HSM.out.mono ?_
      rintro e w4 ⟨rfl, hw4⟩
      subst hw4
      go_wp2
      exact HF1.out
    · have h' : ¬ sn < 1 := by omega
      go_wp2_with fail
      refine HSM.out.mono ?_
      rintro e w4 ⟨rfl, hw4⟩
      subst hw4
      go_wp2
      exact HF1.out
  obtain ⟨k, rfl⟩ : ∃ k : Nat, sn = (k : Int) := ⟨sn.toNat, by omega⟩
  have k1 : 1 ≤ k := by omega
  have k40 : k ≤ 40 := by omega
  have hk1 : ¬ (k : Int) < 1 := by omega
  have hk40 : ¬ 40 < (k : Int) := by omega
  obtain ⟨B2, hB2⟩ : ∃ B2, w2.heap.size = B2 := ⟨_, rfl⟩
  have HB2 : Hid (w.heap.size ≤ B2) := by show _ ≤ _; rw [← hB2]; exact Y1.out.size
  have HDN : Hid (Calls Tryz.prog 17 #[.int .i64 k] w2 fun e w' => e = .returned (.tuple #[.pointer (some ⟨B2 + 1, 0, none⟩), .nilIface]) ∧ DiskAt w' B2 (B2 + 1) B2 (List.replicate k secZ) 0 false 0 false ∧ Below B2 w2 w') := by rw [← hB2]; exact diskNew_any k w2 k1 k40
  have HBz : Hid (B2 ≤ w2.heap.size) := by show _ ≤ _; omega
  have HOPZ : Hid (∀ n, openP (List.replicate k secZ) n = none) := fun n => open_zero k n k1
  have HWZ : Hid (∀ j, j < (List.replicate k secZ).length → (List.replicate k secZ)[j]!.wr = []) := fun j hj => by rw [getElem!_pos _ j hj, List.getElem_replicate]; rfl
  have hlen : (List.replicate k secZ).length = k := List.length_replicate
  generalize List.replicate k secZ = secs0 at *
  generalize B2 + 1 = db at *
  obtain ⟨sb, hsb⟩ : ∃ sb, sb = B2 := ⟨_, rfl⟩
  clear hB2 hsn
  go_wp2_with fail
  refine HDN.out.mono ?_
  rintro e w3 ⟨rfl, d3, b3⟩
  rw [← hsb] at d3
  have d3 : DiskAt w3 B2 db sb secs0 0 false 0 false := by rw [hsb] at d3 ⊢; exact d3
  have Y3 : Hid (DiskAt w3 B2 db sb secs0 0 false 0 false ∧ Below w.heap.size w w3 ∧ B2 ≤ w3.heap.size) := ⟨d3, bThen Y1.out b3 HB2.out, Nat.le_trans HBz.out b3.size⟩
  have HF3 : Hid (PP (.returned (.bool true)) w3) := HP.out _ Y3.out.2.1
  clear d3 b3 HDN hsb HF1 Y1 HBz
  by_cases hlv : lv < 1 ∨ 4 < lv
  · have HON : Hid (Calls Tryz.prog 19 #[.pointer (some ⟨db, 0, none⟩), .int .i64 lv] w3 fun e w' => e = .returned (.tuple #[.pointer none, errV 1]) ∧ w' = w3) := openNo_any _ lv w3 hlv
    have HSM : Hid (Calls Tryz.prog 18 #[.iface 94 (.int .i64 1), .int .i64 1] w3 fun e w' => e = .returned (.bool true) ∧ w' = w3) := same_any 1 w3 (by decide)
    clear HSA HBI HG HBF
    rw [errV_ne (by decide)] at HON
    rcases hlv with h | h
    · go_wp2_with fail
      refine HON.out.mono ?_
      rintro e w4 ⟨rfl, hw4⟩
      subst hw4
      go_wp2_with fail
      refine HSM.out.mono ?_
      rintro e w5 ⟨rfl, hw5⟩
      subst hw5
      go_wp2
      exact HF3.out
    · have h' : ¬ lv < 1 := by omega
      go_wp2_with fail
      refine HON.out.mono ?_
      rintro e w4 ⟨rfl, hw4⟩
      subst hw4
      go_wp2_with fail
      refine HSM.out.mono ?_
      rintro e w5 ⟨rfl, hw5⟩
      subst hw5
      go_wp2
      exact HF3.out
  obtain ⟨n, rfl⟩ : ∃ n : Nat, lv = (n : Int) := ⟨lv.toNat, by omega⟩
  have n1 : 1 ≤ n := by omega
  have n4 : n ≤ 4 := by omega
  have hn1 : ¬ (n : Int) < 1 := by omega
  have hn4 : ¬ 4 < (n : Int) := by omega
  clear hlv HF3
  have HOP : Hid (Calls Tryz.prog 19 #[.pointer (some ⟨db, 0, none⟩), .int .i64 n] w3 (OpenPost db secs0 n w3)) := open_any B2 db sb secs0 0 false 0 n w3 Y3.out.1 (fun i hi => by rw [HWZ.out i hi]; simp) (by omega) (by omega) n1 n4 (HG.out _ Y3.out.2.1)
  go_wp2_with fail
  refine HOP.out.mono ?_
  rintro e w4 ⟨b4, hres⟩
  rcases hres with ⟨_, rfl⟩ | ⟨b, _, _, _, hyes, _⟩
  case inr => rw [HOPZ.out] at hyes; cases hyes
  have Y4 : Hid (DiskAt w4 B2 db sb secs0 0 false 0 false ∧ Below w.heap.size w w4 ∧ B2 ≤ w4.heap.size) := ⟨Y3.out.1.below b4, B.next Y3.out.2.1 b4 Y3.out.2.1.size, Nat.le_trans Y3.out.2.2 b4.size⟩
  have HSM : Hid (Calls Tryz.prog 18 #[.iface 94 (.int .i64 4), .int .i64 4] w4 fun e w' => e = .returned (.bool true) ∧ w' = w4) := same_any 4 w4 (by decide)
  rw [errV_ne (by decide)]
  clear b4 HOP Y3 HOPZ
  go_wp2_with fail
  refine HSM.out.mono ?_
  rintro e w5 ⟨rfl, hw5⟩
  subst hw5
  have HFM : Hid (Calls Tryz.prog 20 #[.pointer (some ⟨db, 0, none⟩)] w5 (FormatPost B2 db sb secs0 false w5)) := format_any B2 db sb secs0 false 0 w5 Y4.out.1 Y4.out.2.2 ⟨Or.inr rfl, by decide⟩ HWZ.out (by omega) (HG.out _ Y4.out.2.1) (Nat.le_trans hbg HB2.out)
  clear HSM
  go_wp2_with fail
  refine HFM.out.mono ?_
  rintro e w6 hf
  by_cases h22 : k < 22
  · have HF2 : Hid (e = .returned (.iface 94 (.int .i64 8)) ∧ w6 = w5) := by
      rcases hf with ⟨_, h1, h2⟩ | ⟨h1, _⟩
      · exact ⟨h1, h2⟩
      · omega
    obtain ⟨rfl, hw6⟩ := HF2.out
    subst hw6
    have HSM : Hid (Calls Tryz.prog 18 #[.iface 94 (.int .i64 8), .int .i64 8] w6 fun e w' => e = .returned (.bool true) ∧ w' = w6) := same_any 8 w6 (by decide)
    have HF3 : Hid (PP (.returned (.bool true)) w6) := HP.out _ Y4.out.2.1
    have h22z : (k : Int) < 22 := by omega
    clear hf HF2 HFM HSA HBI HG HBF Y4
    go_wp2_with fail
    refine HSM.out.mono ?_
    rintro e w7 ⟨rfl, hw7⟩
    subst hw7
    go_wp2
    exact HF3.out
  have h22z : ¬ (k : Int) < 22 := by omega
  have HF2 : Hid (e = .returned .nilIface ∧ ∃ s6 l6, DiskAt w6 B2 db sb s6 0 false l6 false ∧ Stored secs0 s6 (nxN secs0) ⟨#[48, 32, 48, 32, 48]⟩ ∧ DFr B2 w5 w6 ∧ LeftOk false l6) := by
    rcases hf with ⟨h1, _⟩ | ⟨_, hD, ⟨h1, s', l', h2, h3, h4⟩ | ⟨h1, _⟩⟩
    · omega
    · exact ⟨h1, s', l', h3, h4, hD, h2⟩
    · cases h1
  obtain ⟨rfl, s6, l6, g1, g2, g3, g4⟩ := HF2.out
  have HOPS : openP s6 n = some ⟨0, [], []⟩ := by
    rw [open_stored g2 (nx_le _) (by omega) (by decide) (by decide) n]
    exact parse_zero n n4
  have Y6 : Hid (Below w.heap.size w w6 ∧ B2 ≤ w6.heap.size) := ⟨bThen Y4.out.2.1 g3.b HB2.out, Nat.le_trans Y4.out.2.2 g3.b.size⟩
  have HOS : Hid (Calls Tryz.prog 19 #[.pointer (some ⟨db, 0, none⟩), .int .i64 n] w6 (OpenS B2 db sb s6 false l6 n ⟨0, [], []⟩ w6)) :=
    openS B2 db sb s6 false l6 n _ w6 g1 Y6.out.2 (by have := g2.len; omega) (by have := g2.len; omega) g2.wr2 g4 HOPS (HG.out _ Y6.out.1) n1 n4
  clear hf HF2 g1 g2 g3 g4 HOPS HFM Y4 HWZ
  go_wp2_with fail
  refine HOS.out.mono ?_
  rintro e w7 ⟨b7, L, rfl, hl⟩
  obtain ⟨X1, hX1⟩ : ∃ X1, w7.heap.size = X1 := ⟨_, rfl⟩
  obtain ⟨w8, hw8⟩ : ∃ w8, w7.alloc (.cells #[.int .i64 0, .slice none 0 0, .slice none 0 0] 38) = w8 := ⟨_, rfl⟩
  have Y8 : Hid (Below w.heap.size w w8 ∧ B2 ≤ w8.heap.size ∧ Blk w8 X1 (bCells noBook) 38 ∧ ∃ secs left, LedS w8 B2 db sb secs false left L n ⟨noBook.last, noBook.stays, noBook.jobs⟩) := by
    show _ ∧ _ ∧ _ ∧ _
    have hb : Below w7.heap.size w7 w8 := by rw [← hw8]; exact B.new1 _ _
    have hx : Below w.heap.size w w7 := B.next Y6.out.1 b7 Y6.out.1.size
    refine ⟨B.next hx hb hx.size, Nat.le_trans (Nat.le_trans Y6.out.2 b7.size) hb.size, ?_, s6, l6, hl.below hb⟩
    rw [← hw8, ← hX1]; exact Blk.new _ _ _
  have HX1 : Hid (w.heap.size ≤ X1) := by show _ ≤ _; rw [← hX1]; exact Nat.le_trans Y6.out.1.size b7.size
  have HXE : Hid (w7.heap.size = X1) := hX1
  have HW8 : Hid (w7.alloc (.cells #[.int .i64 0, .slice none 0 0, .slice none 0 0] 38) = w8) := hw8
  have HNB : Hid (bookN noBook n = 0 ∧ ∀ W, Below w.heap.size w W → Book.At noBook W) := ⟨book_zero n 0 (by decide) (by decide), fun W _ => empty_at 0 W⟩
  clear hX1 hw8 b7 hl HOS Y6
  go_wp2_with fail
  simp only [HW8.out, HXE.out]
  clear HW8 HXE
  go_loopg [13, 16] len (fun gg s13 s16 wr => ∃ (i : Nat) (b : Book) (L : Nat), i ≤ len ∧ len - i ≤ gg ∧ s13 = .pointer (some ⟨L, 0, none⟩) ∧ s16 = .int .i64 i ∧ Hid (bookN b n = 0 ∧ ∀ W, Below w.heap.size w W → Book.At b W) ∧ Hid (Below w.heap.size w wr ∧ B2 ≤ wr.heap.size ∧ Blk wr X1 (bCells b) 38 ∧ ∃ secs left, LedS wr B2 db sb secs false left L n ⟨b.last, b.stays, b.jobs⟩))
  case atStart => exact ⟨0, noBook, L, Nat.zero_le _, by omega, rfl, rfl, HNB, Y8⟩
  case round =>
    clear Y8 HNB
    obtain ⟨i, b, L, hi, hgg, rfl, rfl, HA, M⟩ := hrel
    have hl20 : len ≤ 20 := by have := HL20.out.1; omega
    by_cases hlt : i < len
    case neg =>
      have hltz : ¬ (i : Int) < (len : Int) := by omega
      have HF : Hid (PP (.returned (.bool true)) wr) := HP.out _ M.out.1
      clear HSA HBI HG HBF M
      go_wp2
      exact HF.out
    have hltz : (i : Int) < (len : Int) := by omega
    obtain ⟨ab, off, cap', ev, hlc, hcm, hcl⟩ := book_cells (HSA.out w (Below.refl _ _)) (HBI.out w (Below.refl _ _)) (by omega)
    have hkc := kind_cell (HSA.out w (Below.refl _ _)) ev i hlt
    unfold maxLen at hcm
    cases ev
    have HCL : Hid (∀ W, Below w.heap.size w W → W.cell? ⟨ab, off + i * 12 + 9, none⟩ = some (.int .i64 (g i).last) ∧ W.cell? ⟨ab, off + i * 12 + 10, none⟩ = some (.slice (g i).sa (g i).stays.length (g i).sc) ∧ W.cell? ⟨ab, off + i * 12 + 11, none⟩ = some (.slice (g i).ja (g i).jobs.length (g i).jc)) := fun W hb => hcl W hb i hlt
    have HA2' : Hid (∀ W, Below w.heap.size w W → Book.At (g i) W) := fun W hb => (HBI.out W hb i hlt).2.2.2.2.2.2.2
    have c0 := hkc wr M.out.1
    generalize (f i).kind = kind at *
    generalize g i = b2 at *
    clear hcl hkc
    cases hq : (kind.toList == [107, 101, 101, 112])
    · obtain ⟨s', l', hl⟩ := M.out.2.2.2
      have HOS : Hid (Calls Tryz.prog 19 #[.pointer (some ⟨db, 0, none⟩), .int .i64 n] wr (OpenS B2 db sb s' false l' n ⟨b.last, b.stays, b.jobs⟩ wr)) :=
        openS B2 db sb s' false l' n _ wr hl.d M.out.2.1 hl.len hl.few hl.wr hl.lo hl.op (HG.out _ M.out.1) n1 n4
      clear hl HCL HA2'
      go_wp2_with fail
      refine HOS.out.mono ?_
      rintro e wz ⟨bz, Lz, rfl, hlz⟩
      have MZ : Hid (Below w.heap.size w wz ∧ B2 ≤ wz.heap.size ∧ Blk wz X1 (bCells b) 38 ∧ ∃ secs left, LedS wz B2 db sb secs false left Lz n ⟨b.last, b.stays, b.jobs⟩) := ⟨B.next M.out.1 bz M.out.1.size, Nat.le_trans M.out.2.1 bz.size, M.out.2.2.1.below bz, s', l', hlz⟩
      clear bz hlz HOS M c0 hq
      have HLB : Hid (∀ W, Below wz.heap.size wz W → W.cell? ⟨X1, 0, none⟩ = some (.int .i64 b.last) ∧ W.cell? ⟨X1, 1, none⟩ = some (.slice b.sa b.stays.length b.sc) ∧ W.cell? ⟨X1, 2, none⟩ = some (.slice b.ja b.jobs.length b.jc)) := fun W hW => ⟨(MZ.out.2.2.1.below hW).cell 0, (MZ.out.2.2.1.below hW).cell 1, (MZ.out.2.2.1.below hW).cell 2⟩
      have D0 : Hid (Below wz.heap.size wz wz.drew) := (Below.refl _ _).drew
      have HCS : Hid (b.stays.length ≤ 1000 ∧ b.jobs.length ≤ 1000) := by
        have h := (bookN_zero b n).1 HA.out.1
        have h1 := h.fewS
        have h2 := h.fewJ
        exact ⟨by omega, by omega⟩
      have HBK : Hid (Calls Tryz.prog 24 #[.pointer (some ⟨Lz, 0, none⟩)] wz.drew fun e w' => ∃ vs vj, e = .returned (.agg #[.int .i64 b.last, vs, vj]) ∧ OwnBook w' wz.drew.heap.size vs vj b.stays b.jobs ∧ Below wz.drew.heap.size wz.drew w') := by
        obtain ⟨s', l', hl⟩ := MZ.out.2.2.2
        exact bookS B2 db sb s' false l' Lz n ⟨b.last, b.stays, b.jobs⟩ wz.drew (hl.below D0.out) HCS.out.1 HCS.out.2
      go_upto_region 35 with fail
      go_region_held3 (fun W => W.cell? ⟨X1, 0, none⟩ = some (.int .i64 b.last) ∧ W.cell? ⟨X1, 1, none⟩ = some (.slice b.sa b.stays.length b.sc) ∧ W.cell? ⟨X1, 2, none⟩ = some (.slice b.ja b.jobs.length b.jc)) (first | with_reducible exact HLB.out _ D0.out | with_reducible exact HLB.out _ DQ.out | with_reducible exact HLB.out _ DR.out | go_keep)
        (first
          | (go_at_call 24; refine HBK.out.mono ?_; rintro e wq ⟨vs, vj, rfl, ho, bq⟩; obtain ⟨sx, cx, hvs, hrs⟩ := ho.s.rows; obtain ⟨jx, dx, hvj, hrj⟩ := ho.j.rows; subst hvs hvj; have DQ : Hid (Below wz.heap.size wz wq) := B.next D0.out bq D0.out.size; have GQ : Hid (Book.At ⟨b.last, sx, cx, jx, dx, b.stays, b.jobs⟩ wq) := ⟨hrs, hrj⟩; clear ho bq hrs hrj)
          | (go_at_call 23; refine (sameBook_any b.last b.stays b.jobs sx jx b.sa b.ja cx dx b.sc b.jc wq GQ.out (HA.out.2 _ (B.next MZ.out.1 DQ.out MZ.out.1.size))).mono ?_; rintro e wr' ⟨rfl, br⟩; have DR : Hid (Below wz.heap.size wz wr') := B.next DQ.out br DQ.out.size; clear br))
      have MR : Hid (Below w.heap.size w wr' ∧ B2 ≤ wr'.heap.size ∧ Blk wr' X1 (bCells b) 38 ∧ ∃ secs left, LedS wr' B2 db sb secs false left Lz n ⟨b.last, b.stays, b.jobs⟩) := by
        obtain ⟨s', l', hl⟩ := MZ.out.2.2.2
        exact ⟨B.next MZ.out.1 DR.out MZ.out.1.size, Nat.le_trans MZ.out.2.1 DR.out.size, MZ.out.2.2.1.below DR.out, s', l', hl.below DR.out⟩
      clear HLB D0 HBK DQ GQ DR MZ
      go_wp2
      go_roundg (len - (i + 1))
      case measure => omega
      case rel => exact ⟨i + 1, b, Lz, by omega, by omega, rfl, by go_num, HA, MR⟩
    · obtain ⟨c9, c10, c11⟩ := HCL.out wr M.out.1
      have HBC : Hid (Calls Tryz.prog 21 #[.agg #[.int .i64 b2.last, .slice b2.sa b2.stays.length b2.sc, .slice b2.ja b2.jobs.length b2.jc], .int .i64 n] wr fun e w' => e = .returned (.int .i64 (bookN b2 n)) ∧ Below wr.heap.size wr w') := HBF.out b2 n wr (HA2'.out _ M.out.1) n1 n4
      go_wp2_with fail
      refine HBC.out.mono ?_
      rintro e wk ⟨rfl, bk⟩
      have MK : Hid (Below w.heap.size w wk ∧ B2 ≤ wk.heap.size ∧ Blk wk X1 (bCells b) 38 ∧ ∃ secs left, LedS wk B2 db sb secs false left L n ⟨b.last, b.stays, b.jobs⟩) := by
        obtain ⟨s', l', hl⟩ := M.out.2.2.2
        exact ⟨B.next M.out.1 bk M.out.1.size, Nat.le_trans M.out.2.1 bk.size, M.out.2.2.1.below bk, s', l', hl.below bk⟩
      clear M bk HBC c9 c10 c11 c0 hq
      obtain ⟨s', l', hl⟩ := MK.out.2.2.2
      have HKP : Hid (Calls Tryz.prog 22 #[.pointer (some ⟨L, 0, none⟩), .agg #[.int .i64 b2.last, .slice b2.sa b2.stays.length b2.sc, .slice b2.ja b2.jobs.length b2.jc]] wk (KeepS B2 db sb s' false L n b2 wk)) :=
        keepS B2 db sb s' false l' L n _ b2 wk hl MK.out.2.1 (HG.out _ MK.out.1) (Nat.le_trans hbg HB2.out) (HA2'.out _ MK.out.1) (fun W hW => HA2'.out _ (bThen MK.out.1 hW.b HB2.out)) n1 n4
      obtain ⟨c9, c10, c11⟩ := HCL.out wk MK.out.1
      have hnn := bookN_nn b2 n
      by_cases hbn : bookN b2 n = 0
      · have HA2 : Hid (bookN b2 n = 0 ∧ ∀ W, Below w.heap.size w W → Book.At b2 W) := ⟨hbn, HA2'.out⟩
        rw [hbn]
        clear hl hnn
        go_wp2_with fail
        refine HKP.out.mono ?_
        rintro e wm hkp
        have HKR : Hid (e = .returned .nilIface ∧ Below w.heap.size w wm ∧ B2 ≤ wm.heap.size ∧ Blk wm X1 (bCells b) 38 ∧ ∃ secs left, LedS wm B2 db sb secs false left L n ⟨b2.last, b2.stays, b2.jobs⟩) := by
          rcases hkp with ⟨h1, _⟩ | ⟨_, h1, hf, s2, l2, hl2, _⟩ | ⟨_, h1, _⟩
          · exact absurd hbn h1
          · exact ⟨h1, bThen MK.out.1 hf.b HB2.out, Nat.le_trans MK.out.2.1 hf.b.size, hf.far _ _ _ (by decide) (by decide) (by decide) (by decide) MK.out.2.2.1, s2, l2, hl2⟩
          · cases h1
        obtain ⟨rfl, MM⟩ := HKR.out
        have MM : Hid (Below w.heap.size w wm ∧ B2 ≤ wm.heap.size ∧ Blk wm X1 (bCells b) 38 ∧ ∃ secs left, LedS wm B2 db sb secs false left L n ⟨b2.last, b2.stays, b2.jobs⟩) := MM
        clear hkp HKR HKP MK c9 c10 c11 hbn
        have HSM : Hid (Calls Tryz.prog 18 #[.nilIface, .int .i64 0] wm fun e w' => e = .returned (.bool true) ∧ w' = wm) := same_any 0 wm (by decide)
        go_wp2_with fail
        refine HSM.out.mono ?_
        rintro e wm' ⟨rfl, hwm⟩
        subst hwm
        obtain ⟨c9, c10, c11⟩ := HCL.out _ MM.out.1
        have q1 := MM.out.2.2.1.cell
        have fq1 := MM.out.2.2.1.free
        unfold bCells at q1
        obtain ⟨wz, hwz⟩ : ∃ wz, (((wm'.setCell ⟨X1, 0, none⟩ (.int .i64 b2.last)).setCell ⟨X1, 1, none⟩ (.slice b2.sa b2.stays.length b2.sc)).setCell ⟨X1, 2, none⟩ (.slice b2.ja b2.jobs.length b2.jc)) = wz := ⟨_, rfl⟩
        have MZ : Hid (Below w.heap.size w wz ∧ B2 ≤ wz.heap.size ∧ Blk wz X1 (bCells b2) 38 ∧ ∃ secs left, LedS wz B2 db sb secs false left L n ⟨b2.last, b2.stays, b2.jobs⟩) := by
          show _ ∧ _ ∧ _ ∧ _
          rw [← hwz]
          obtain ⟨s', l', hl⟩ := MM.out.2.2.2
          have k1 := MM.out.2.2.1
          have k2 := k1.set 0 (.int .i64 b2.last)
          have k3 := k2.set 1 (.slice b2.sa b2.stays.length b2.sc)
          have k4 := k3.set 2 (.slice b2.ja b2.jobs.length b2.jc)
          have hx : w.heap.size ≤ X1 := HX1.out
          exact ⟨((MM.out.1.setCell (p := ⟨X1, 0, none⟩) hx _).setCell (p := ⟨X1, 1, none⟩) hx _).setCell (p := ⟨X1, 2, none⟩) hx _, by simpa only [size_setCell] using MM.out.2.1, k4, s', l', ((hl.set k1 0 _).set k2 1 _).set k3 2 _⟩
        have HWZ : Hid ((((wm'.setCell ⟨X1, 0, none⟩ (.int .i64 b2.last)).setCell ⟨X1, 1, none⟩ (.slice b2.sa b2.stays.length b2.sc)).setCell ⟨X1, 2, none⟩ (.slice b2.ja b2.jobs.length b2.jc)) = wz) := hwz
        clear hwz MM HSM HCL HA2'
        go_upto_region 35 with fail
        simp only [HWZ.out]
        clear HWZ c9 c10 c11 q1 fq1
        have HLB : Hid (∀ W, Below wz.heap.size wz W → W.cell? ⟨X1, 0, none⟩ = some (.int .i64 b2.last) ∧ W.cell? ⟨X1, 1, none⟩ = some (.slice b2.sa b2.stays.length b2.sc) ∧ W.cell? ⟨X1, 2, none⟩ = some (.slice b2.ja b2.jobs.length b2.jc)) := fun W hW => ⟨(MZ.out.2.2.1.below hW).cell 0, (MZ.out.2.2.1.below hW).cell 1, (MZ.out.2.2.1.below hW).cell 2⟩
        have D0 : Hid (Below wz.heap.size wz wz.drew) := (Below.refl _ _).drew
        have HCS : Hid (b2.stays.length ≤ 1000 ∧ b2.jobs.length ≤ 1000) := by
          have h := (bookN_zero b2 n).1 HA2.out.1
          have h1 := h.fewS
          have h2 := h.fewJ
          exact ⟨by omega, by omega⟩
        have HBK : Hid (Calls Tryz.prog 24 #[.pointer (some ⟨L, 0, none⟩)] wz.drew fun e w' => ∃ vs vj, e = .returned (.agg #[.int .i64 b2.last, vs, vj]) ∧ OwnBook w' wz.drew.heap.size vs vj b2.stays b2.jobs ∧ Below wz.drew.heap.size wz.drew w') := by
          obtain ⟨s', l', hl⟩ := MZ.out.2.2.2
          exact bookS B2 db sb s' false l' L n ⟨b2.last, b2.stays, b2.jobs⟩ wz.drew (hl.below D0.out) HCS.out.1 HCS.out.2
        go_region_held3 (fun W => W.cell? ⟨X1, 0, none⟩ = some (.int .i64 b2.last) ∧ W.cell? ⟨X1, 1, none⟩ = some (.slice b2.sa b2.stays.length b2.sc) ∧ W.cell? ⟨X1, 2, none⟩ = some (.slice b2.ja b2.jobs.length b2.jc)) (first | with_reducible exact HLB.out _ D0.out | with_reducible exact HLB.out _ DQ.out | with_reducible exact HLB.out _ DR.out | go_keep)
          (first
            | (go_at_call 24; refine HBK.out.mono ?_; rintro e wq ⟨vs, vj, rfl, ho, bq⟩; obtain ⟨sx, cx, hvs, hrs⟩ := ho.s.rows; obtain ⟨jx, dx, hvj, hrj⟩ := ho.j.rows; subst hvs hvj; have DQ : Hid (Below wz.heap.size wz wq) := B.next D0.out bq D0.out.size; have GQ : Hid (Book.At ⟨b2.last, sx, cx, jx, dx, b2.stays, b2.jobs⟩ wq) := ⟨hrs, hrj⟩; clear ho bq hrs hrj)
            | (go_at_call 23; refine (sameBook_any b2.last b2.stays b2.jobs sx jx b2.sa b2.ja cx dx b2.sc b2.jc wq GQ.out (HA2.out.2 _ (B.next MZ.out.1 DQ.out MZ.out.1.size))).mono ?_; rintro e wr' ⟨rfl, br⟩; have DR : Hid (Below wz.heap.size wz wr') := B.next DQ.out br DQ.out.size; clear br))
        have MR : Hid (Below w.heap.size w wr' ∧ B2 ≤ wr'.heap.size ∧ Blk wr' X1 (bCells b2) 38 ∧ ∃ secs left, LedS wr' B2 db sb secs false left L n ⟨b2.last, b2.stays, b2.jobs⟩) := by
          obtain ⟨s', l', hl⟩ := MZ.out.2.2.2
          exact ⟨B.next MZ.out.1 DR.out MZ.out.1.size, Nat.le_trans MZ.out.2.1 DR.out.size, MZ.out.2.2.1.below DR.out, s', l', hl.below DR.out⟩
        clear HLB D0 HBK DQ GQ DR MZ
        go_wp2
        go_roundg (len - (i + 1))
        case measure => omega
        case rel => exact ⟨i + 1, b2, L, by omega, by omega, rfl, by go_num, HA2, MR⟩
      · clear hl
        go_wp2_with fail
        refine HKP.out.mono ?_
        rintro e wz hkp
        have HKR : Hid (e = .returned (.iface 94 (.int .i64 (bookN b2 n))) ∧ Below wk.heap.size wk wz) := by
          rcases hkp with ⟨_, h1, h2⟩ | ⟨h1, _⟩ | ⟨h1, _⟩
          · rw [errV_ne hbn] at h1; exact ⟨h1, h2⟩
          · exact absurd h1 hbn
          · exact absurd h1 hbn
        obtain ⟨rfl, bz⟩ := HKR.out
        have MZ : Hid (Below w.heap.size w wz ∧ B2 ≤ wz.heap.size ∧ Blk wz X1 (bCells b) 38 ∧ ∃ secs left, LedS wz B2 db sb secs false left L n ⟨b.last, b.stays, b.jobs⟩) := by
          obtain ⟨s', l', hl⟩ := MK.out.2.2.2
          exact ⟨B.next MK.out.1 bz MK.out.1.size, Nat.le_trans MK.out.2.1 bz.size, MK.out.2.2.1.below bz, s', l', hl.below bz⟩
        have HSM : Hid (Calls Tryz.prog 18 #[.iface 94 (.int .i64 (bookN b2 n)), .int .i64 (bookN b2 n)] wz fun e w' => e = .returned (.bool true) ∧ w' = wz) := by
          have := same_any (bookN b2 n) wz hnn
          rw [errV_ne hbn] at this
          exact this
        have hbnb : (bookN b2 n == 0) = false := by simpa using hbn
        generalize bookN b2 n = bn at *
        clear hkp HKR HKP MK c9 c10 c11 bz HCL HA2'
        go_wp2_with fail
        refine HSM.out.mono ?_
        rintro e wz' ⟨rfl, hwm⟩
        subst hwm
        clear HSM
        have HLB : Hid (∀ W, Below wz'.heap.size wz' W → W.cell? ⟨X1, 0, none⟩ = some (.int .i64 b.last) ∧ W.cell? ⟨X1, 1, none⟩ = some (.slice b.sa b.stays.length b.sc) ∧ W.cell? ⟨X1, 2, none⟩ = some (.slice b.ja b.jobs.length b.jc)) := fun W hW => ⟨(MZ.out.2.2.1.below hW).cell 0, (MZ.out.2.2.1.below hW).cell 1, (MZ.out.2.2.1.below hW).cell 2⟩
        have D0 : Hid (Below wz'.heap.size wz' wz'.drew) := (Below.refl _ _).drew
        have HCS : Hid (b.stays.length ≤ 1000 ∧ b.jobs.length ≤ 1000) := by
          have h := (bookN_zero b n).1 HA.out.1
          have h1 := h.fewS
          have h2 := h.fewJ
          exact ⟨by omega, by omega⟩
        have HBK : Hid (Calls Tryz.prog 24 #[.pointer (some ⟨L, 0, none⟩)] wz'.drew fun e w' => ∃ vs vj, e = .returned (.agg #[.int .i64 b.last, vs, vj]) ∧ OwnBook w' wz'.drew.heap.size vs vj b.stays b.jobs ∧ Below wz'.drew.heap.size wz'.drew w') := by
          obtain ⟨s', l', hl⟩ := MZ.out.2.2.2
          exact bookS B2 db sb s' false l' L n ⟨b.last, b.stays, b.jobs⟩ wz'.drew (hl.below D0.out) HCS.out.1 HCS.out.2
        go_upto_region 35 with fail
        go_region_held3 (fun W => W.cell? ⟨X1, 0, none⟩ = some (.int .i64 b.last) ∧ W.cell? ⟨X1, 1, none⟩ = some (.slice b.sa b.stays.length b.sc) ∧ W.cell? ⟨X1, 2, none⟩ = some (.slice b.ja b.jobs.length b.jc)) (first | with_reducible exact HLB.out _ D0.out | with_reducible exact HLB.out _ DQ.out | with_reducible exact HLB.out _ DR.out | go_keep)
          (first
            | (go_at_call 24; refine HBK.out.mono ?_; rintro e wq ⟨vs, vj, rfl, ho, bq⟩; obtain ⟨sx, cx, hvs, hrs⟩ := ho.s.rows; obtain ⟨jx, dx, hvj, hrj⟩ := ho.j.rows; subst hvs hvj; have DQ : Hid (Below wz'.heap.size wz' wq) := B.next D0.out bq D0.out.size; have GQ : Hid (Book.At ⟨b.last, sx, cx, jx, dx, b.stays, b.jobs⟩ wq) := ⟨hrs, hrj⟩; clear ho bq hrs hrj)
            | (go_at_call 23; refine (sameBook_any b.last b.stays b.jobs sx jx b.sa b.ja cx dx b.sc b.jc wq GQ.out (HA.out.2 _ (B.next MZ.out.1 DQ.out MZ.out.1.size))).mono ?_; rintro e wr' ⟨rfl, br⟩; have DR : Hid (Below wz'.heap.size wz' wr') := B.next DQ.out br DQ.out.size; clear br))
        have MR : Hid (Below w.heap.size w wr' ∧ B2 ≤ wr'.heap.size ∧ Blk wr' X1 (bCells b) 38 ∧ ∃ secs left, LedS wr' B2 db sb secs false left L n ⟨b.last, b.stays, b.jobs⟩) := by
          obtain ⟨s', l', hl⟩ := MZ.out.2.2.2
          exact ⟨B.next MZ.out.1 DR.out MZ.out.1.size, Nat.le_trans MZ.out.2.1 DR.out.size, MZ.out.2.2.1.below DR.out, s', l', hl.below DR.out⟩
        clear HLB D0 HBK DQ GQ DR MZ
        go_wp2
        go_roundg (len - (i + 1))
        case measure => omega
        case rel => exact ⟨i + 1, b, L, by omega, by omega, rfl, by go_num, HA, MR⟩

end Lg
end Go.Proofs.YtaikbojdmfkbhaaGreatDoor
