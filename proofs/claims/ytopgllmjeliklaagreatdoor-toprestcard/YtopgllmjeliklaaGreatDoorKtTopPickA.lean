/- TopPickA TextQ StoreP Ledg. -/
import Derived.Test.YtopgllmjeliklaaGreatDoorKtParse
import Derived.Test.YtopgllmjeliklaaGreatDoorKtStoreC
set_option maxRecDepth 100000
set_option linter.unusedSimpArgs false
set_option linter.unusedVariables false
namespace Go.Proofs.YtopgllmjeliklaaGreatDoor
open Go.Shelf Go.Lib Go.ChangeShapes Go.WideShapes Go.ChangeAt Go.RowKit
namespace Bk
set_option maxHeartbeats 1000000 in
theorem one_any (w : World) : Calls Tryz.prog 44 #[] w fun e w' => ∃ v, e = .returned v ∧ SizesAt w' v 1 (fun _ => (99, 99, 99)) ∧ Below w.heap.size w w' := by
 go_enter Tryz.func44, Tryz.ntmps44
 go_wp2; go_returns; refine ⟨_, rfl, ⟨_, _, rfl, by decide, by decide, fun _ => ⟨w.heap.size, 0, rfl, by simp, fun i hi => ?_⟩⟩, by go_grown⟩
 obtain rfl : i = 0 := by omega
 simp
def lightB (b : Book) : Bool := decide (b.stays.length ≤ 20) && decide (b.jobs.length ≤ 12)
-- left out: this seat has not what it speaks of
end Bk
end Go.Proofs.YtopgllmjeliklaaGreatDoor
namespace Go.Proofs.YtopgllmjeliklaaGreatDoor
open Go.Shelf Go.ChangeShapes Go.WideShapes Go.ChangeAt Go.RowKit
namespace Tx
open Bk
def tot (l : List Int) : Nat := (l.map fun n => (Lib.itoa n).length + 1).sum
theorem tot_append (a b : List Int) : tot (a ++ b) = tot a + tot b := by unfold tot; rw [List.map_append, List.sum_append_nat]
theorem tot_cons (a : Int) (b : List Int) : tot (a :: b) = (Lib.itoa a).length + 1 + tot b := by unfold tot; rw [List.map_cons, List.sum_cons]
theorem tot_nil : tot [] = 0 := rfl
theorem join_tot : ∀ l : List Int, (Lib.join (l.map Lib.itoa) [32]).length ≤ tot l
 | [] => by simp [Lib.join_nil]
 | [a] => by rw [List.map_cons, List.map_nil, Lib.join_one, tot_cons]; omega
 | a :: b :: r => by
   have ih := join_tot (b :: r); rw [List.map_cons, List.map_cons, join_two, List.length_append, List.length_cons, tot_cons]; rw [List.map_cons] at ih
   omega
theorem len_le {n : Int} (k : Nat) (h0 : 0 ≤ n) (h1 : n < ((10 ^ (k + 1) : Nat) : Int)) : (Lib.itoa n).length ≤ k + 1 := itoa_len k h0 h1
theorem tot_stays {last : Int} {n : Nat} (hl : last ≤ 999999) (hn : n ≤ 4) : ∀ l : List Stay, (∀ s ∈ l, okS last n s) → tot (l.flatMap stayNs) ≤ 26 * l.length
 | [], _ => by simp [tot]
 | s :: l, h => by
   have ih := tot_stays hl hn l (fun x hx => h x (by simp [hx]))
   have h0 := h s (by simp); have h1 := car_bounds h0.1; have h2 := place_bounds hn h0.2.1; have h3 : 1 ≤ s.t ∧ s.t ≤ last := by simpa using h0.2.2.1
   rw [List.flatMap_cons, tot_append, List.length_cons]
   have e : tot (stayNs s) ≤ 26 := by
    unfold stayNs; simp only [tot_cons, tot_nil]; have a1 := len_le 5 (n := s.t) (by omega) (by omega); have a2 := len_le 2 (n := s.id) (by omega) (by omega); have a3 := len_le 1 (n := s.a) (by omega) (by omega); have a4 := len_le 1 (n := s.b) (by omega) (by omega); have a5 := len_le 1 (n := s.c) (by omega) (by omega); have a6 := len_le 0 (n := s.x) (by omega) (by omega); have a7 := len_le 0 (n := s.y) (by omega) (by omega); have a8 := len_le 0 (n := s.z) (by omega) (by omega)
    omega
   omega
theorem tot_jobs : ∀ l : List Job, (∀ j ∈ l, 0 ≤ j.t ∧ j.t ≤ 999999) → tot (l.flatMap jobNs) ≤ 9 * l.length
 | [], _ => by simp [tot]
 | j :: l, h => by
   have ih := tot_jobs l (fun x hx => h x (by simp [hx]))
   have h0 := h j (by simp); rw [List.flatMap_cons, tot_append, List.length_cons]
   have e : tot (jobNs j) ≤ 9 := by
    unfold jobNs; simp only [tot_cons, tot_nil]; have a1 := len_le 5 (n := j.t) (by omega) (by omega); have a2 := len_le 0 (n := if j.f = true then 1 else 0) (by split <;> omega) (by split <;> omega)
    omega
   omega
theorem text_500 {last : Int} {n : Nat} {stays : List Stay} {jobs : List Job} (hn : n ≤ 4) (h : BookOK last n stays jobs) : (textL last stays jobs).length ≤ 500 := by
 have h1 := join_tot (numsOf last stays jobs); have h2 := tot_stays h.lim.2 hn stays h.s.each
 have h3 := tot_jobs jobs (fun j hj => by
  obtain ⟨s, hs, e⟩ := h.j.each j hj; have := (h.s.each s hs).2.2.1; have h4 : 1 ≤ s.t ∧ s.t ≤ last := by simpa using this
  have := h.lim
  omega)
 have h4 := h.fewS; have h5 := h.fewJ; have h6 := h.lim; have a1 := len_le 5 (n := last) (by omega) (by omega); have a2 := len_le 1 (n := (stays.length : Int)) (by omega) (by omega); have a3 := len_le 0 (n := (jobs.length : Int)) (by omega) (by omega); unfold numsOf at h1; rw [tot_append, tot_append] at h1; simp only [tot_cons, tot_nil] at h1; unfold textL numsOf
 omega
theorem parse_text {last : Int} {n : Nat} {stays : List Stay} {jobs : List Job} (hn : n ≤ 4) (h : BookOK last n stays jobs) : parseP ⟨(textL last stays jobs).toArray⟩ n = some ⟨last, stays, jobs⟩ := by
 have h1 : numsP ⟨(textL last stays jobs).toArray⟩ = some (numsOf last stays jobs) := by
  refine numsP_text _ ?_ ?_ (ok_nums hn h)
  ·intro e
   have := nums_len last stays jobs; rw [e] at this
   simp at this
   omega
  ·have := nums_len last stays jobs
   have := h.fewS; have := h.fewJ
   omega
 unfold parseP; rw [h1]
 show (fromP (numsOf last stays jobs)).bind _ = _
 rw [fromP_nums last stays jobs h.fewS h.fewJ]
 show (if bookN (PB.book ⟨last, stays, jobs⟩) n = 0 ∧ PB.text ⟨last, stays, jobs⟩ = _ then _ else _) = _
 rw [if_pos ⟨(bookN_zero _ _).2 h, by simp [PB.text]⟩]
end Tx
end Go.Proofs.YtopgllmjeliklaaGreatDoor
namespace Go.Proofs.YtopgllmjeliklaaGreatDoor
open Go.Shelf Go.Lib Go.ChangeShapes Go.WideShapes Go.ChangeAt Go.RowKit
namespace Lg
open Bk Dk Tx
theorem strOf_list (c : Nat → Int) : (Dk.strOf c).data.toList = (List.range 64).map fun i => UInt8.ofNat (c i).toNat := by
 have h : ∀ (l : List Int) (r : ByteArray), (l.foldl (fun r n => r.push (UInt8.ofNat n.toNat)) r).data.toList = r.data.toList ++ l.map fun n => UInt8.ofNat n.toNat := by
  intro l
  induction l with
  | nil => intro r; simp
  | cons x l ih =>
    intro r
    rw [List.foldl_cons, ih, List.map_cons]
    show (r.data.push _).toList ++ _ = _
    rw [Array.toList_push, List.append_assoc]
    rfl
 unfold Dk.strOf; rw [h, List.map_map]
 rfl
theorem strOf_pad (S : ByteArray) (hs : S.size ≤ 64) : (Dk.strOf (padF S)).data.toList = S.data.toList ++ List.replicate (64 - S.size) 0 := by
 rw [strOf_list]; have hl : S.data.toList.length = S.size := by rw [Array.length_toList]; rfl
 apply List.ext_getElem
 ·simp only [List.length_map, List.length_range, List.length_append, List.length_replicate, hl]
  omega
 ·intro i h1 h2
  rw [List.getElem_map, List.getElem_range]; unfold padF
  by_cases h : i < S.size
  ·rw [if_pos h, List.getElem_append_left (by omega)]
   have h' : i < S.data.size := h; rw [getElem!_pos S.data i h', Array.getElem_toList]
   simp
  ·rw [if_neg h, List.getElem_append_right (by omega), List.getElem_replicate]
   rfl
theorem rest_list (t : ByteArray) : ∀ k, (restT t k).data.toList = t.data.toList.drop (64 * k)
 | 0 => by simp [restT]
 | k + 1 => by
   have ih := rest_list t k; have hl : (restT t k).data.toList.length = (restT t k).size := by rw [Array.length_toList]; rfl
   show ((restT t k).extract (min (restT t k).size 64) (restT t k).size).data.toList = _
   rw [ByteArray.data_extract, Array.toList_extract, List.extract_eq_take_drop]; rw [show 64 * (k + 1) = 64 * k + 64 from by omega, ← List.drop_drop, ← ih]
   generalize restT t k = R at *; rw [List.take_of_length_le (by rw [List.length_drop, hl]; omega)]
   by_cases h : R.size ≤ 64
   ·rw [Nat.min_eq_left h, List.drop_of_length_le (by omega), List.drop_of_length_le (by omega)]
   ·rw [Nat.min_eq_right (by omega)]
theorem piece_list (t : ByteArray) (k : Nat) : (pieceT t k).data.toList = (t.data.toList.drop (64 * k)).take 64 := by
 have h := rest_list t k; have hl : (restT t k).data.toList.length = (restT t k).size := by rw [Array.length_toList]; rfl
 unfold pieceT; rw [ByteArray.data_extract, Array.toList_extract, List.extract_eq_take_drop, ← h]; generalize restT t k = R at *; rw [Nat.sub_zero, List.drop_zero]
 by_cases h : R.size ≤ 64
 ·rw [Nat.min_eq_left h, List.take_of_length_le (by omega), List.take_of_length_le (by omega)]
 ·rw [Nat.min_eq_right (by omega)]
theorem pad_take (l : List UInt8) (k : Nat) : (l.drop (64 * k)).take 64 ++ List.replicate (64 - ((l.drop (64 * k)).take 64).length) 0 = ((l ++ List.replicate (64 * (k + 1) - l.length) 0).drop (64 * k)).take 64 := by
 by_cases h : 64 * (k + 1) ≤ l.length
 ·rw [show 64 * (k + 1) - l.length = 0 from by omega, List.replicate_zero, List.append_nil]
  have : ((l.drop (64 * k)).take 64).length = 64 := by rw [List.length_take, List.length_drop]; omega
  rw [this]
  simp
 ·by_cases h2 : 64 * k ≤ l.length
  ·rw [List.drop_append_of_le_length h2, List.take_of_length_le (l := l.drop (64 * k)) (by rw [List.length_drop]; omega), List.take_of_length_le (by rw [List.length_append, List.length_drop, List.length_replicate]; omega), List.length_drop]
   congr 2
   omega
  ·rw [List.drop_of_length_le (l := l) (by omega), List.take_nil, List.nil_append, List.drop_append, List.drop_of_length_le (l := l) (by omega), List.nil_append, List.drop_replicate, List.take_replicate]
   congr 1
   simp
   omega
theorem cat_pieces (secs : List Sec) (st : Nat) (t : ByteArray) : ∀ k, (∀ j, j < k → secs[st + j]!.now = padF (pieceT t j)) → catP secs st k = (t.data.toList ++ List.replicate (64 * k - t.data.toList.length) 0).take (64 * k)
 | 0, _ => by simp [catP]
 | k + 1, h => by
   have ih := cat_pieces secs st t k (fun j hj => h j (by omega))
   rw [catP, ih, h k (by omega), strOf_pad _ (pieceT_le t k)]; have hl : (pieceT t k).size = (pieceT t k).data.toList.length := by rw [Array.length_toList]; rfl
   rw [hl, piece_list, pad_take]; generalize t.data.toList = l
   have e : ∀ m, 64 * k - l.length ≤ m → (l ++ List.replicate (64 * k - l.length) (0 : UInt8)).take (64 * k) = (l ++ List.replicate m 0).take (64 * k) := by
    intro m hm
    rw [List.take_append, List.take_append, List.take_replicate, List.take_replicate]
    congr 2
    omega
   rw [e (64 * (k + 1) - l.length) (by omega)]; rw [show 64 * (k + 1) = 64 * k + 64 from by omega, List.take_add]
theorem trim_pad (l : List UInt8) (h : ∀ x ∈ l, x ≠ 0) (m : Nat) : Lib.trimRightB (l ++ List.replicate m 0) 0 = l := by
 unfold Lib.trimRightB; rw [List.reverse_append, List.reverse_replicate]
 have h1 : ∀ (m : Nat) (r : List UInt8), (List.replicate m 0 ++ r).dropWhile (· == 0) = r.dropWhile (· == 0) := by
  intro m r
  induction m with
  | zero => rfl
  | succ m ih => rw [List.replicate_succ, List.cons_append, List.dropWhile_cons_of_pos (by rfl), ih]
 rw [h1]
 have h2 : l.reverse.dropWhile (· == 0) = l.reverse := by
  cases hr : l.reverse with
  | nil => rfl
  | cons a r =>
    have : a ∈ l := by rw [← List.mem_reverse, hr]; simp
    rw [List.dropWhile_cons_of_neg (by simpa using h a this)]
 rw [h2, List.reverse_reverse]
theorem bare_cat (secs : List Sec) (st : Nat) (t : ByteArray) (h : ∀ j, j < 10 → secs[st + j]!.now = padF (pieceT t j)) (ht : t.size ≤ 640) (hz : ∀ x ∈ t.data.toList, x ≠ 0) : bareB ⟨(catP secs st 10).toArray⟩ = t := by
 have hl : t.data.toList.length = t.size := by rw [Array.length_toList]; rfl
 rw [cat_pieces secs st t 10 h, List.take_of_length_le (by rw [List.length_append, List.length_replicate]; omega)]; unfold bareB
 show ByteArray.mk (Lib.trimRightB (t.data.toList ++ _) 0).toArray = t
 rw [trim_pad _ hz]
theorem name_list (k : Nat) (h : k ≤ 9) : (nameB k).data.toList = preB.data.toList ++ [UInt8.ofNat (48 + k)] := by
 have h1 : Lib.itoa (k : Int) = [UInt8.ofNat (48 + k)] := by
  unfold Lib.itoa; rw [if_neg (by omega), Lib.decDigits_one (by omega)]
  rfl
 unfold nameB; rw [ByteArray.data_append, Array.toList_append, h1]
theorem name_no0 (k : Nat) (h : k ≤ 1) : ∀ x ∈ (nameB k).data.toList, x ≠ 0 := by
 rw [name_list k (by omega)]; have : k = 0 ∨ k = 1 := by omega
 rcases this with rfl | rfl <;> decide
theorem bare_name (k : Nat) (h : k ≤ 1) : bareB (Dk.strOf (padF (nameB k))) = nameB k := by
 unfold bareB; rw [strOf_pad _ (nameB_size k h), trim_pad _ (name_no0 k h)]
theorem nameIs_name (k j : Nat) (hk : k ≤ 1) (hj : j ≤ 1) : nameIs (padF (nameB k)) j = decide (k = j) := by
 unfold nameIs; rw [bare_name k hk]
 by_cases e : k = j
 ·subst e; simp
 ·rw [decide_eq_false e]
  have hne : nameB k ≠ nameB j := fun he => by
   have h1 := name_list k (by omega); rw [he, name_list j (by omega)] at h1; have h2 := List.append_cancel_left h1; have : k = 0 ∧ j = 1 ∨ k = 1 ∧ j = 0 := by omega
   rcases this with ⟨rfl, rfl⟩ | ⟨rfl, rfl⟩ <;> revert h2 <;> decide
  rw [beq_eq_false_iff_ne]
  intro hl
  rw [ByteArray.toList_eq, ByteArray.toList_eq] at hl; exact hne (bytes_inj hl)
theorem slot_name (k : Nat) (hk : k ≤ 1) : slotP (padF (nameB k)) = k := by
 unfold slotP; have h0 := nameIs_name k 0 hk (by omega); have h1 := nameIs_name k 1 hk (by omega); rw [show (0 : Int) = ((0 : Nat) : Int) from rfl, show (1 : Int) = ((1 : Nat) : Int) from rfl, h0, h1]
 have : k = 0 ∨ k = 1 := by omega
 rcases this with rfl | rfl <;> rfl
theorem slot_range (c : Nat → Int) : slotP c = -1 ∨ slotP c = 0 ∨ slotP c = 1 := by
 unfold slotP
 split
 ·exact Or.inr (Or.inl rfl)
 ·split
  ·exact Or.inr (Or.inr rfl)
  ·exact Or.inl rfl
def openP (secs : List Sec) (n : Nat) : Option PB := if slotP secs[0]!.now = -1 ∨ secs.length < 22 then none else parseP (bareB ⟨(catP secs (1 + 10 * (slotP secs[0]!.now).toNat) 10).toArray⟩) n
theorem nx_le (secs : List Sec) : nxN secs ≤ 1 := by unfold nxN; split <;> omega
theorem open_of {secs : List Sec} {nx : Nat} {t : ByteArray} (hx : nx ≤ 1) (h22 : 22 ≤ secs.length) (h0 : secs[0]!.now = padF (nameB nx)) (hp : ∀ j, j < 10 → secs[1 + 10 * nx + j]!.now = padF (pieceT t j)) (ht : t.size ≤ 640) (hz : ∀ x ∈ t.data.toList, x ≠ 0) (n : Nat) : openP secs n = parseP t n := by
 unfold openP; rw [h0, slot_name nx hx, if_neg (by omega), show ((nx : Int)).toNat = nx from rfl, bare_cat secs _ t hp ht hz]
theorem open_stored {secs secs' : List Sec} {nx : Nat} {t : ByteArray} (h : Stored secs secs' nx t) (hx : nx ≤ 1) (h22 : 22 ≤ secs.length) (ht : t.size ≤ 640) (hz : ∀ x ∈ t.data.toList, x ≠ 0) (n : Nat) : openP secs' n = parseP t n := by
 have hnow : ∀ j, j < secs.length → secs'[j]!.now = storeC secs nx t j := fun j hj => by
  unfold Sec.now; rw [h.wr j hj]; exact h.kept j hj
 refine open_of hx (by rw [h.len]; omega) ?_ (fun j hj => ?_) ht hz n
 ·rw [hnow 0 (by omega)]; rfl
 ·rw [hnow _ (by omega)]
  unfold storeC; rw [if_neg (by omega), if_pos (by omega)]
  congr 2
  omega
theorem join_no0 : ∀ (ns : List Int), (∀ n ∈ ns, 0 ≤ n) → ∀ x ∈ Lib.join (ns.map Lib.itoa) [32], x ≠ 0
 | [], _ => by simp [Lib.join_nil]
 | [a], h => by
   rw [List.map_cons, List.map_nil, Lib.join_one]
   intro x hx e
   have := itoa_mem (h a (by simp)) x hx; rw [e] at this; exact absurd this.1 (by decide)
 | a :: b :: r, h => by
   rw [List.map_cons, List.map_cons, join_two]; have ih := join_no0 (b :: r) (fun n hn => h n (List.mem_cons_of_mem _ hn))
   rw [List.map_cons] at ih
   intro x hx e
   rw [List.mem_append, List.mem_cons] at hx
   rcases hx with hx | hx | hx
   ·have := itoa_mem (h a (by simp)) x hx
    rw [e] at this; exact absurd this.1 (by decide)
   ·rw [e] at hx; exact absurd hx (by decide)
   ·exact ih x hx e
theorem text_no0 {last : Int} {n : Nat} {stays : List Stay} {jobs : List Job} (hn : n ≤ 4) (h : BookOK last n stays jobs) : ∀ x ∈ textL last stays jobs, x ≠ 0 :=
 join_no0 _ (fun m hm => (ok_nums hn h m hm).1)
end Lg
namespace Lg
open Bk Dk Tx
def OpenPost (db : Nat) (secs : List Sec) (n : Nat) (w : World) (e : Ending) (w' : World) : Prop := Below w.heap.size w w' ∧
 ((openP secs n = none ∧ e = .returned (.tuple #[.pointer none, errV 4])) ∨
  ∃ b vs vj L, openP secs n = some b ∧ e = .returned (.tuple #[.pointer (some ⟨L, 0, none⟩), .nilIface]) ∧ w.heap.size ≤ L ∧ Blk w' L #[.pointer (some ⟨db, 0, none⟩), .int .i64 n, .int .i64 b.last, vs, vj] 133 ∧ OwnBook w' w.heap.size vs vj b.stays b.jobs)
theorem trim_le (l : List UInt8) (c : UInt8) : (Lib.trimRightB l c).length ≤ l.length := by
 unfold Lib.trimRightB; rw [List.length_reverse]; have := (List.dropWhile_suffix (· == c) (l := l.reverse)).length_le
 rw [List.length_reverse] at this; exact this
theorem bare_le (secs : List Sec) (st : Nat) : (bareB ⟨(catP secs st 10).toArray⟩).size ≤ 640 := by
 have h1 := catP_len secs st 10; have h2 := trim_le (catP secs st 10) 0
 show (Lib.trimRightB (catP secs st 10) 0).toArray.size ≤ 640
 rw [List.size_toArray]
 omega
set_option maxHeartbeats 4000000 in
theorem open_any (base db sb : Nat) (secs : List Sec) (bit : Int) (armed : Bool) (left : Int) (n : Nat) (w : World) (h : DiskAt w base db sb secs bit armed left false) (hl : ∀ i, i < secs.length → secs[i]!.wr.length ≤ 1000) (hn : secs.length ≤ 1000) (h0 : 0 < secs.length) (n1 : 1 ≤ n) (n4 : n ≤ 4) (G : Glob w) :
  Calls Tryz.prog 68 #[.pointer (some ⟨db, 0, none⟩), .int .i64 n] w (OpenPost db secs n w) := by
 have HOP : Hid (openP secs n = if slotP secs[0]!.now = -1 ∨ secs.length < 22 then none else parseP (bareB ⟨(catP secs (1 + 10 * (slotP secs[0]!.now).toNat) 10).toArray⟩) n) := rfl
 have HNO : Hid (openP secs n = none → ∀ w', Below w.heap.size w w' → OpenPost db secs n w (.returned (.tuple #[.pointer none, .iface 103 (.int .i64 4)])) w') := fun h w' hb => ⟨hb, Or.inl ⟨h, rfl⟩⟩
 have HYES : Hid (∀ b vs vj L w', openP secs n = some b → w.heap.size ≤ L → Blk w' L #[.pointer (some ⟨db, 0, none⟩), .int .i64 n, .int .i64 b.last, vs, vj] 133 → OwnBook w' w.heap.size vs vj b.stays b.jobs → Below w.heap.size w w' → OpenPost db secs n w (.returned (.tuple #[.pointer (some ⟨L, 0, none⟩), .nilIface])) w') := fun b vs vj L w' h hL hB ho hb => ⟨hb, Or.inr ⟨b, vs, vj, L, h, rfl, hL, hB, ho⟩⟩
 generalize OpenPost db secs n w = PP at *; have HG : Hid (∀ W, Below w.heap.size w W → Glob W) := fun W hb => G.new hb
 have HD : Hid (∀ W, Below w.heap.size w W → DiskAt W base db sb secs bit armed left false) := fun W hb => h.below hb
 have HNM : Hid (Calls Tryz.prog 99 #[.pointer (some ⟨db, 0, none⟩)] w fun e w' => e = .returned (.tuple #[.int .i64 (slotP secs[0]!.now), .nilIface]) ∧ Below w.heap.size w w') :=
  named_any base db sb secs bit armed left false w h hl hn h0 G
 have HSR := slot_range secs[0]!.now
 have HLD : Hid (∀ sl : Nat, slotP secs[0]!.now = sl → 22 ≤ secs.length → ∀ W, Below w.heap.size w W → Calls Tryz.prog 101 #[.pointer (some ⟨db, 0, none⟩), .int .i64 (slotP secs[0]!.now)] W fun e w' => e = .returned (.tuple #[.string (bareB ⟨(catP secs (1 + 10 * (slotP secs[0]!.now).toNat) 10).toArray⟩), .nilIface]) ∧ Below W.heap.size W w') := fun sl hs h22 W hb => by
  have hsr := slot_range secs[0]!.now; rw [hs] at hsr ⊢; exact load_any base db sb secs bit armed left sl W (h.below hb) hl hn h22 (by omega)
 have HPS : Hid (∀ W, Below w.heap.size w W → Calls Tryz.prog 102 #[.string (bareB ⟨(catP secs (1 + 10 * (slotP secs[0]!.now).toNat) 10).toArray⟩), .int .i64 n] W (ParsePost (bareB ⟨(catP secs (1 + 10 * (slotP secs[0]!.now).toNat) 10).toArray⟩) n W)) := fun W hb => parse_any _ n W (by have := bare_le secs (1 + 10 * (slotP secs[0]!.now).toNat); omega) n1 n4 (G.new hb)
 have HS : Hid (∀ W, Below w.heap.size w W → Calls Tryz.prog 100 #[.pointer (some ⟨db, 0, none⟩)] W fun e w' => e = .returned (.int .i64 secs.length) ∧ w' = W) := fun W hb => sectors_any base db sb secs bit armed left false W (h.below hb)
 generalize (bareB ⟨(catP secs (1 + 10 * (slotP secs[0]!.now).toNat) 10).toArray⟩) = T at *; generalize slotP secs[0]!.now = sl at *; have hz1 : ¬ (n : Int) < 1 := by omega
 have hz4 : ¬ 4 < (n : Int) := by omega
 clear h hl
 go_enter Tryz.func68, Tryz.ntmps68
 go_wp2_with fail; refine HNM.out.mono ?_; rintro e w1 ⟨rfl, b1⟩; have N1 : Hid (Below w.heap.size w w1) := b1; have HS1 : Hid (Calls Tryz.prog 100 #[.pointer (some ⟨db, 0, none⟩)] w1 fun e w' => e = .returned (.int .i64 secs.length) ∧ w' = w1) := HS.out _ b1
 clear b1 HNM
 by_cases hm : sl = -1
 ·subst hm
  have HF : Hid (PP (.returned (.tuple #[.pointer none, .iface 103 (.int .i64 4)])) w1) := HNO.out (by rw [HOP.out, if_pos (Or.inl rfl)]) _ N1.out; clear HNO HYES HLD HPS HS HSR HOP; go_wp2; exact HF.out
 have hmb : (sl == -1) = false := by simpa using hm
 go_wp2_with fail; refine HS1.out.mono ?_; rintro e w1' ⟨rfl, hw1⟩; subst hw1
 by_cases h22 : secs.length < 22
 ·have HF : Hid (PP (.returned (.tuple #[.pointer none, .iface 103 (.int .i64 4)])) w1') := HNO.out (by rw [HOP.out, if_pos (Or.inr h22)]) _ N1.out
  have h22z : (secs.length : Int) < 22 := by omega
  clear HNO HYES HLD HPS HS HSR HOP; go_wp2; exact HF.out
 have h22z : ¬ (secs.length : Int) < 22 := by omega
 have HPT : Hid (openP secs n = parseP T n) := by
  show _ = _
  rw [HOP.out, if_neg (by omega)]
 have HL : Hid (Calls Tryz.prog 101 #[.pointer (some ⟨db, 0, none⟩), .int .i64 sl] w1' fun e w' => e = .returned (.tuple #[.string T, .nilIface]) ∧ Below w1'.heap.size w1' w') := HLD.out sl.toNat (by omega) (by omega) _ N1.out
 clear HLD HS HS1 HOP; go_wp2_with fail; refine HL.out.mono ?_; rintro e w2 ⟨rfl, b2⟩; have N2 : Hid (Below w.heap.size w w2) := B.next N1.out b2 N1.out.size; have HP2 : Hid (Calls Tryz.prog 102 #[.string T, .int .i64 n] w2 (ParsePost T n w2)) := HPS.out _ N2.out; clear N1 b2 HL HPS; go_wp2_with fail; refine HP2.out.mono ?_; rintro e w3 ⟨b3, hres⟩; have N3 : Hid (Below w.heap.size w w3) := B.next N2.out b3 N2.out.size; have hs3 : Hid (w.heap.size ≤ w2.heap.size ∧ w2.heap.size ≤ w3.heap.size) := ⟨N2.out.size, b3.size⟩; clear b3 HP2
 rcases hres with ⟨hno, rfl⟩ | ⟨b, vs, vj, hyes, rfl, hown⟩
 ·have HF : Hid (PP (.returned (.tuple #[.pointer none, .iface 103 (.int .i64 4)])) (w3.alloc (.cells #[.int .i64 0, .slice none 0 0, .slice none 0 0] 39))) := HNO.out (by rw [HPT.out, hno]) _ (N3.out.alloc N3.out.size _)
  clear HNO HYES N3 N2 HPT hs3; rw [errV_ne (by decide)]; go_wp2; exact HF.out
 ·obtain ⟨sa, sc, hvs, _⟩ := hown.s.rows
  obtain ⟨ja, jc, hvj, _⟩ := hown.j.rows
  have HF : Hid (PP (.returned (.tuple #[.pointer (some ⟨w3.heap.size + 1, 0, none⟩), .nilIface])) ((w3.alloc (.cells #[.int .i64 b.last, vs, vj] 39)).alloc (.cells #[.pointer (some ⟨db, 0, none⟩), .int .i64 n, .int .i64 b.last, vs, vj] 133))) := by
   have B3 : Below w3.heap.size w3 ((w3.alloc (.cells #[.int .i64 b.last, vs, vj] 39)).alloc (.cells #[.pointer (some ⟨db, 0, none⟩), .int .i64 n, .int .i64 b.last, vs, vj] 133)) := (B.new1 _ _).alloc (by simp) _; refine HYES.out b vs vj (w3.heap.size + 1) _ (by rw [HPT.out, hyes]) (by have := hs3.out; omega) (Blk.new1 (by simp) _ _) ((OwnBook.below (bookDown hown hs3.out.1) B3)) (B.next N3.out B3 N3.out.size)
  subst hvs hvj; clear HNO HYES N3 N2 HPT hs3 hown hyes; go_wp2; exact HF.out
set_option maxHeartbeats 1000000 in
theorem book_any (db L n : Nat) (last : Int) (sa : Option Addr) (sc : Nat) (ja : Option Addr) (jc : Nat) (stays : List Stay) (jobs : List Job) (w : World) (hL : Blk w L #[.pointer (some ⟨db, 0, none⟩), .int .i64 n, .int .i64 last, .slice sa stays.length sc, .slice ja jobs.length jc] 133) (h : Book.At ⟨last, sa, sc, ja, jc, stays, jobs⟩ w) (hs : stays.length ≤ 1000) (hj : jobs.length ≤ 1000) :
  Calls Tryz.prog 51 #[.pointer (some ⟨L, 0, none⟩)] w fun e w' => ∃ vs vj, e = .returned (.agg #[.int .i64 last, vs, vj]) ∧ OwnBook w' w.heap.size vs vj stays jobs ∧ Below w.heap.size w w' := by
 obtain ⟨w0, hw0⟩ : ∃ w0, w.alloc (.cells #[.int .i64 0, .slice none 0 0, .slice none 0 0] 39) = w0 := ⟨_, rfl⟩
 have N0 : Hid (Below w.heap.size w w0 ∧ Blk w0 w.heap.size #[.int .i64 0, .slice none 0 0, .slice none 0 0] 39 ∧ Blk w0 L #[.pointer (some ⟨db, 0, none⟩), .int .i64 n, .int .i64 last, .slice sa stays.length sc, .slice ja jobs.length jc] 133) := by
  show _ ∧ _ ∧ _
  rw [← hw0]; exact ⟨B.new1 _ _, Blk.new _ _ _, hL.old _⟩
 have HC : Hid (Calls Tryz.prog 77 #[.agg #[.int .i64 last, .slice sa stays.length sc, .slice ja jobs.length jc]] w0 fun e w' => ∃ vs vj, e = .returned (.agg #[.int .i64 last, vs, vj]) ∧ OwnBook w' w0.heap.size vs vj stays jobs ∧ Below w0.heap.size w0 w') := copy_any ⟨last, sa, sc, ja, jc, stays, jobs⟩ w0 (h.below N0.out.1) hs hj
 have c0 := N0.out.2.2.cell; generalize hPP : (fun (e : Ending) (w' : World) => ∃ vs vj, e = .returned (.agg #[.int .i64 last, vs, vj]) ∧ OwnBook w' w.heap.size vs vj stays jobs ∧ Below w.heap.size w w') = PP
 have HP : Hid (∀ vs vj w', OwnBook w' w.heap.size vs vj stays jobs → Below w.heap.size w w' → PP (.returned (.agg #[.int .i64 last, vs, vj])) w') := fun vs vj w' ho hb => by rw [← hPP]; exact ⟨vs, vj, rfl, ho, hb⟩
 clear hPP h hL
 go_enter Tryz.func51, Tryz.ntmps51
 go_wp2_with fail; clear hw0; refine HC.out.mono ?_; rintro e w1 ⟨vs, vj, rfl, ho, b1⟩; have N1 : Hid (Below w.heap.size w w1 ∧ Blk w1 w.heap.size #[.int .i64 0, .slice none 0 0, .slice none 0 0] 39) := ⟨B.next N0.out.1 b1 N0.out.1.size, N0.out.2.1.below b1⟩; have r1 := N1.out.2.cell; have f1 := N1.out.2.free
 have HF : Hid (PP (.returned (.agg #[.int .i64 last, vs, vj])) (((w1.setCell ⟨w.heap.size, 0, none⟩ (.int .i64 last)).setCell ⟨w.heap.size, 1, none⟩ vs).setCell ⟨w.heap.size, 2, none⟩ vj)) := by
  have hlt : w.heap.size < w0.heap.size := N0.out.2.1.lt; exact HP.out vs vj _ (bookDown (bookSet (bookSet (bookSet ho _ hlt) _ hlt) _ hlt) (Nat.le_of_lt hlt)) (((N1.out.1.setCell (p := ⟨w.heap.size, 0, none⟩) (Nat.le_refl _) _).setCell (p := ⟨w.heap.size, 1, none⟩) (Nat.le_refl _) _).setCell (p := ⟨w.heap.size, 2, none⟩) (Nat.le_refl _) _)
 obtain ⟨sx, cx, hvs, _⟩ := ho.s.rows; obtain ⟨jx, dx, hvj, _⟩ := ho.j.rows; subst hvs hvj; clear N0 N1 b1 ho HP HC c0; go_wp2
 (try simp only [Exit.inBlock, Exit.then])
 refine bodyPost_ret (v := .agg #[.int .i64 last, .slice sx stays.length cx, .slice jx jobs.length dx]) (by simp [results, Tryz.results51, go_sem, set3_0 r1, set3_1 r1, set3_2 r1]; try rfl) rfl ?_; exact HF.out
end Lg
end Go.Proofs.YtopgllmjeliklaaGreatDoor
