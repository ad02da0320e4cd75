/- Chapter 9: the ledger: what is stored is loaded again (pure); for the laws of stages 3 and 4. -/
import Derived.Test.YtaikbojdmfkbhaaGreatDoorCopy
import Derived.Test.YtaikbojdmfkbhaaGreatDoorJLedgerA
import Derived.Test.YtaikbojdmfkbhaaGreatDoorJStoreC
import Derived.Test.YtaikbojdmfkbhaaGreatDoorBookCheckB
import Derived.Test.YtaikbojdmfkbhaaGreatDoorJParse
import Derived.Test.YtaikbojdmfkbhaaGreatDoorJTextQ
import Derived.Deep.RegionHeld3
namespace Go.Proofs.YtaikbojdmfkbhaaGreatDoor
open Go.Shelf Go.Lib Go.ChangeShapes Go.WideShapes Go.ChangeAt Go.RowKit
set_option maxRecDepth 100000
set_option linter.unusedSimpArgs false
set_option linter.unusedVariables false

namespace Lg
open Bk Dk Tx
theorem strOf_list (c : Nat → Int) : (Dk.strOf c).data.toList = (List.range 64).map fun i => UInt8.ofNat (c i).toNat := by
  have h : ∀ (l : List Int) (r : ByteArray), (l.foldl (fun r n => r.push (UInt8.ofNat n.toNat)) r).data.toList = r.data.toList ++ l.map fun n => UInt8.ofNat n.toNat := by
    intro l
    induction l with
    | nil => intro r; simp
    | cons x l ih =>
      intro r
      rw [List.foldl_cons, ih, List.map_cons]
      show (r.data.push _).toList ++ _ = _
      rw [Array.toList_push, List.append_assoc]
      rfl
  unfold Dk.strOf
  rw [h, List.map_map]
  rfl
theorem strOf_pad (S : ByteArray) (hs : S.size ≤ 64) : (Dk.strOf (padF S)).data.toList = S.data.toList ++ List.replicate (64 - S.size) 0 := by
  rw [strOf_list]
  have hl : S.data.toList.length = S.size := by rw [Array.length_toList]; rfl
  apply List.ext_getElem
  · simp only [List.length_map, List.length_range, List.length_append, List.length_replicate, hl]
    omega
  · intro i h1 h2
    rw [List.getElem_map, List.getElem_range]
    unfold padF
    by_cases h : i < S.size
    · rw [if_pos h, List.getElem_append_left (by omega)]
      have h' : i < S.data.size := h
      rw [getElem!_pos S.data i h', Array.getElem_toList]
      simp
    · rw [if_neg h, List.getElem_append_right (by omega), List.getElem_replicate]
      rfl
theorem rest_list (t : ByteArray) : ∀ k, (restT t k).data.toList = t.data.toList.drop (64 * k)
  | 0 => by simp [restT]
  | k + 1 => by
    have ih := rest_list t k
    have hl : (restT t k).data.toList.length = (restT t k).size := by rw [Array.length_toList]; rfl
    show ((restT t k).extract (min (restT t k).size 64) (restT t k).size).data.toList = _
    rw [ByteArray.data_extract, Array.toList_extract, List.extract_eq_take_drop]
    rw [show 64 * (k + 1) = 64 * k + 64 from by omega, ← List.drop_drop, ← ih]
    generalize restT t k = R at *
    rw [List.take_of_length_le (by rw [List.length_drop, hl]; omega)]
    by_cases h : R.size ≤ 64
    · rw [Nat.min_eq_left h, List.drop_of_length_le (by omega), List.drop_of_length_le (by omega)]
    · rw [Nat.min_eq_right (by omega)]
theorem piece_list (t : ByteArray) (k : Nat) : (pieceT t k).data.toList = (t.data.toList.drop (64 * k)).take 64 := by
  have h := rest_list t k
  have hl : (restT t k).data.toList.length = (restT t k).size := by rw [Array.length_toList]; rfl
  unfold pieceT
  rw [ByteArray.data_extract, Array.toList_extract, List.extract_eq_take_drop, ← h]
  generalize restT t k = R at *
  rw [Nat.sub_zero, List.drop_zero]
  by_cases h : R.size ≤ 64
  · rw [Nat.min_eq_left h, List.take_of_length_le (by omega), List.take_of_length_le (by omega)]
  · rw [Nat.min_eq_right (by omega)]
theorem pad_take (l : List UInt8) (k : Nat) : (l.drop (64 * k)).take 64 ++ List.replicate (64 - ((l.drop (64 * k)).take 64).length) 0 = ((l ++ List.replicate (64 * (k + 1) - l.length) 0).drop (64 * k)).take 64 := by
  by_cases h : 64 * (k + 1) ≤ l.length
  · rw [show 64 * (k + 1) - l.length = 0 from by omega, List.replicate_zero, List.append_nil]
    have : ((l.drop (64 * k)).take 64).length = 64 := by rw [List.length_take, List.length_drop]; omega
    rw [this]
    simp
  · by_cases h2 : 64 * k ≤ l.length
    · rw [List.drop_append_of_le_length h2, List.take_of_length_le (l := l.drop (64 * k)) (by rw [List.length_drop]; omega), List.take_of_length_le (by rw [List.length_append, List.length_drop, List.length_replicate]; omega), List.length_drop]
      congr 2
      omega
    · rw [List.drop_of_length_le (l := l) (by omega), List.take_nil, List.nil_append, List.drop_append, List.drop_of_length_le (l := l) (by omega), List.nil_append, List.drop_replicate, List.take_replicate]
      congr 1
      simp
      omega
theorem cat_pieces (secs : List Sec) (st : Nat) (t : ByteArray) : ∀ k, (∀ j, j < k → secs[st + j]!.now = padF (pieceT t j)) → catP secs st k = (t.data.toList ++ List.replicate (64 * k - t.data.toList.length) 0).take (64 * k)
  | 0, _ => by simp [catP]
  | k + 1, h => by
    have ih := cat_pieces secs st t k (fun j hj => h j (by omega))
    rw [catP, ih, h k (by omega), strOf_pad _ (pieceT_le t k)]
    have hl : (pieceT t k).size = (pieceT t k).data.toList.length := by rw [Array.length_toList]; rfl
    rw [hl, piece_list, pad_take]
    generalize t.data.toList = l
    have e : ∀ m, 64 * k - l.length ≤ m → (l ++ List.replicate (64 * k - l.length) (0 : UInt8)).take (64 * k) = (l ++ List.replicate m 0).take (64 * k) := by
      intro m hm
      rw [List.take_append, List.take_append, List.take_replicate, List.take_replicate]
      congr 2
      omega
    rw [e (64 * (k + 1) - l.length) (by omega)]
    rw [show 64 * (k + 1) = 64 * k + 64 from by omega, List.take_add]
theorem trim_pad (l : List UInt8) (h : ∀ x ∈ l, x ≠ 0) (m : Nat) : Lib.trimRightB (l ++ List.replicate m 0) 0 = l := by
  unfold Lib.trimRightB
  rw [List.reverse_append, List.reverse_replicate]
  have h1 : ∀ (m : Nat) (r : List UInt8), (List.replicate m 0 ++ r).dropWhile (· == 0) = r.dropWhile (· == 0) := by
    intro m r
    induction m with
    | zero => rfl
    | succ m ih => rw [List.replicate_succ, List.cons_append, List.dropWhile_cons_of_pos (by rfl), ih]
  rw [h1]
  have h2 : l.reverse.dropWhile (· == 0) = l.reverse := by
    cases hr : l.reverse with
    | nil => rfl
    | cons a r =>
      have : a ∈ l := by rw [← List.mem_reverse, hr]; simp
      rw [List.dropWhile_cons_of_neg (by simpa using h a this)]
  rw [h2, List.reverse_reverse]
theorem bare_cat (secs : List Sec) (st : Nat) (t : ByteArray) (h : ∀ j, j < 10 → secs[st + j]!.now = padF (pieceT t j)) (ht : t.size ≤ 640) (hz : ∀ x ∈ t.data.toList, x ≠ 0) : bareB ⟨(catP secs st 10).toArray⟩ = t := by
  have hl : t.data.toList.length = t.size := by rw [Array.length_toList]; rfl
  rw [cat_pieces secs st t 10 h, List.take_of_length_le (by rw [List.length_append, List.length_replicate]; omega)]
  unfold bareB
  show ByteArray.mk (Lib.trimRightB (t.data.toList ++ _) 0).toArray = t
  rw [trim_pad _ hz]
theorem name_list (k : Nat) (h : k ≤ 9) : (nameB k).data.toList = preB.data.toList ++ [UInt8.ofNat (48 + k)] := by
  have h1 : Lib.itoa (k : Int) = [UInt8.ofNat (48 + k)] := by
    unfold Lib.itoa
    rw [if_neg (by omega), Lib.decDigits_one (by omega)]
    rfl
  unfold nameB
  rw [ByteArray.data_append, Array.toList_append, h1]
theorem name_no0 (k : Nat) (h : k ≤ 1) : ∀ x ∈ (nameB k).data.toList, x ≠ 0 := by
  rw [name_list k (by omega)]
  have : k = 0 ∨ k = 1 := by omega
  rcases this with rfl | rfl <;> decide
theorem bare_name (k : Nat) (h : k ≤ 1) : bareB (Dk.strOf (padF (nameB k))) = nameB k := by
  unfold bareB
  rw [strOf_pad _ (nameB_size k h), trim_pad _ (name_no0 k h)]
theorem nameIs_name (k j : Nat) (hk : k ≤ 1) (hj : j ≤ 1) : nameIs (padF (nameB k)) j = decide (k = j) := by
  unfold nameIs
  rw [bare_name k hk]
  by_cases e : k = j
  · subst e; simp
  · rw [decide_eq_false e]
    have hne : nameB k ≠ nameB j := fun he => by
      have h1 := name_list k (by omega)
      rw [he, name_list j (by omega)] at h1
      have h2 := List.append_cancel_left h1
      have : k = 0 ∧ j = 1 ∨ k = 1 ∧ j = 0 := by omega
      rcases this with ⟨rfl, rfl⟩ | ⟨rfl, rfl⟩ <;> revert h2 <;> decide
    rw [beq_eq_false_iff_ne]
    intro hl
    rw [ByteArray.toList_eq, ByteArray.toList_eq] at hl
    exact hne (bytes_inj hl)
theorem slot_name (k : Nat) (hk : k ≤ 1) : slotP (padF (nameB k)) = k := by
  unfold slotP
  have h0 := nameIs_name k 0 hk (by omega)
  have h1 := nameIs_name k 1 hk (by omega)
  rw [show (0 : Int) = ((0 : Nat) : Int) from rfl, show (1 : Int) = ((1 : Nat) : Int) from rfl, h0, h1]
  have : k = 0 ∨ k = 1 := by omega
  rcases this with rfl | rfl <;> rfl
theorem slot_range (c : Nat → Int) : slotP c = -1 ∨ slotP c = 0 ∨ slotP c = 1 := by
  unfold slotP
  split
  · exact Or.inr (Or.inl rfl)
  · split
    · exact Or.inr (Or.inr rfl)
    · exact Or.inl rfl
/-- What Open finds on a disk. -/
def openP (secs : List Sec) (n : Nat) : Option PB := if slotP secs[0]!.now = -1 ∨ secs.length < 22 then none else parseP (bareB ⟨(catP secs (1 + 10 * (slotP secs[0]!.now).toNat) 10).toArray⟩) n
theorem nx_le (secs : List Sec) : nxN secs ≤ 1 := by unfold nxN; split <;> omega
theorem open_of {secs : List Sec} {nx : Nat} {t : ByteArray} (hx : nx ≤ 1) (h22 : 22 ≤ secs.length) (h0 : secs[0]!.now = padF (nameB nx)) (hp : ∀ j, j < 10 → secs[1 + 10 * nx + j]!.now = padF (pieceT t j)) (ht : t.size ≤ 640) (hz : ∀ x ∈ t.data.toList, x ≠ 0) (n : Nat) : openP secs n = parseP t n := by
  unfold openP
  rw [h0, slot_name nx hx, if_neg (by omega), show ((nx : Int)).toNat = nx from rfl, bare_cat secs _ t hp ht hz]
theorem open_stored {secs secs' : List Sec} {nx : Nat} {t : ByteArray} (h : Stored secs secs' nx t) (hx : nx ≤ 1) (h22 : 22 ≤ secs.length) (ht : t.size ≤ 640) (hz : ∀ x ∈ t.data.toList, x ≠ 0) (n : Nat) : openP secs' n = parseP t n := by
  have hnow : ∀ j, j < secs.length → secs'[j]!.now = storeC secs nx t j := fun j hj => by
    unfold Sec.now
    rw [h.wr j hj]
    exact h.kept j hj
  refine open_of hx (by rw [h.len]; omega) ?_ (fun j hj => ?_) ht hz n
  · rw [hnow 0 (by omega)]; rfl
  · rw [hnow _ (by omega)]
    unfold storeC
    rw [if_neg (by omega), if_pos (by omega)]
    congr 2
    omega
theorem open_same {secs secs' : List Sec} (hl : secs'.length = secs.length) (h22 : 22 ≤ secs.length) (h : ∀ j, j < secs.length → ¬ (1 + 10 * nxN secs ≤ j ∧ j < 11 + 10 * nxN secs) → secs'[j]!.now = secs[j]!.now) (n : Nat) : openP secs' n = openP secs n := by
  have hn := nx_le secs
  have h0 := h 0 (by omega) (by omega)
  unfold openP
  rw [h0, hl]
  rcases slot_range secs[0]!.now with e | e | e
  · rw [e]; simp
  · have hnx : nxN secs = 1 := by unfold nxN; rw [if_pos e]
    rw [e]
    have hc : ∀ k, k ≤ 10 → catP secs' (1 + 10 * (0 : Int).toNat) k = catP secs (1 + 10 * (0 : Int).toNat) k := by
      intro k
      induction k with
      | zero => intro _; rfl
      | succ k ih =>
        intro hk
        rw [catP, catP, ih (by omega), h _ (by show 1 + 10 * 0 + k < _; omega) (by rw [hnx]; show ¬ (_ ≤ 1 + 10 * 0 + k ∧ _); omega)]
    rw [hc 10 (Nat.le_refl _)]
  · have hnx : nxN secs = 0 := by unfold nxN; rw [if_neg (by omega)]
    rw [e]
    have hc : ∀ k, k ≤ 10 → catP secs' (1 + 10 * (1 : Int).toNat) k = catP secs (1 + 10 * (1 : Int).toNat) k := by
      intro k
      induction k with
      | zero => intro _; rfl
      | succ k ih =>
        intro hk
        rw [catP, catP, ih (by omega), h _ (by show 1 + 10 * 1 + k < _; omega) (by rw [hnx]; show ¬ (_ ∧ 1 + 10 * 1 + k < _); omega)]
    rw [hc 10 (Nat.le_refl _)]
/-- Behind a fall and a restart: the old book or the new one. -/
theorem open_fell {secs secs' secs'' : List Sec} {t : ByteArray} {K : Int} (hw : ∀ j, j < secs.length → secs[j]!.wr = []) (h : Fell secs secs' (nxN secs) t) (h22 : 22 ≤ secs.length) (hl : secs''.length = secs.length) (hs : ∀ j, j < secs.length → secs''[j]!.now = settleC K secs'[j]!.kept secs'[j]!.wr) (ht : t.size ≤ 640) (hz : ∀ x ∈ t.data.toList, x ≠ 0) (n : Nat) : openP secs'' n = openP secs n ∨ openP secs'' n = parseP t n := by
  have hn := nx_le secs
  rcases h.alt K with a | a
  · refine Or.inl (open_same hl h22 (fun j hj hn => ?_) n)
    rw [hs j hj, a j hj hn]
    unfold Sec.now
    rw [hw j hj]
    rfl
  · refine Or.inr (open_of (nx_le secs) (by omega) ?_ (fun j hj => ?_) ht hz n)
    · rw [hs 0 (by omega), a 0 (by omega)]; rfl
    · rw [hs _ (by omega), a _ (by omega)]
      unfold storeC
      rw [if_neg (by omega), if_pos (by omega)]
      congr 2
      omega
theorem join_no0 : ∀ (ns : List Int), (∀ n ∈ ns, 0 ≤ n) → ∀ x ∈ Lib.join (ns.map Lib.itoa) [32], x ≠ 0
  | [], _ => by simp [Lib.join_nil]
  | [a], h => by
    rw [List.map_cons, List.map_nil, Lib.join_one]
    intro x hx e
    have := itoa_mem (h a (by simp)) x hx
    rw [e] at this
    exact absurd this.1 (by decide)
  | a :: b :: r, h => by
    rw [List.map_cons, List.map_cons, join_two]
    have ih := join_no0 (b :: r) (fun n hn => h n (List.mem_cons_of_mem _ hn))
    rw [List.map_cons] at ih
    intro x hx e
    rw [List.mem_append, List.mem_cons] at hx
    rcases hx with hx | hx | hx
    · have := itoa_mem (h a (by simp)) x hx
      rw [e] at this
      exact absurd this.1 (by decide)
    · rw [e] at hx; exact absurd hx (by decide)
    · exact ih x hx e
theorem text_no0 {last : Int} {n : Nat} {stays : List Stay} {jobs : List Job} (hn : n ≤ 4) (h : BookOK last n stays jobs) : ∀ x ∈ textL last stays jobs, x ≠ 0 :=
  join_no0 _ (fun m hm => (ok_nums hn h m hm).1)
end Lg
end Go.Proofs.YtaikbojdmfkbhaaGreatDoor

namespace Go.Proofs.YtaikbojdmfkbhaaGreatDoor
open Go.Shelf Go.Lib Go.ChangeShapes Go.WideShapes Go.ChangeAt Go.RowKit
set_option maxRecDepth 100000
set_option linter.unusedSimpArgs false
set_option linter.unusedVariables false

namespace Lg
open Bk Dk Tx
/-- What Open answers. -/
def OpenPost (db : Nat) (secs : List Sec) (n : Nat) (w : World) (e : Ending) (w' : World) : Prop := Below w.heap.size w w' ∧
  ((openP secs n = none ∧ e = .returned (.tuple #[.pointer none, errV 4])) ∨
   ∃ b vs vj L, openP secs n = some b ∧ e = .returned (.tuple #[.pointer (some ⟨L, 0, none⟩), .nilIface]) ∧ w.heap.size ≤ L ∧ Blk w' L #[.pointer (some ⟨db, 0, none⟩), .int .i64 n, .int .i64 b.last, vs, vj] 106 ∧ OwnBook w' w.heap.size vs vj b.stays b.jobs)
theorem trim_le (l : List UInt8) (c : UInt8) : (Lib.trimRightB l c).length ≤ l.length := by
  unfold Lib.trimRightB
  rw [List.length_reverse]
  have := (List.dropWhile_suffix (· == c) (l := l.reverse)).length_le
  rw [List.length_reverse] at this
  exact this
theorem bare_le (secs : List Sec) (st : Nat) : (bareB ⟨(catP secs st 10).toArray⟩).size ≤ 640 := by
  have h1 := catP_len secs st 10
  have h2 := trim_le (catP secs st 10) 0
  show (Lib.trimRightB (catP secs st 10) 0).toArray.size ≤ 640
  rw [List.size_toArray]
  omega

set_option maxHeartbeats 4000000 in
theorem open_any (base db sb : Nat) (secs : List Sec) (bit : Int) (armed : Bool) (left : Int) (n : Nat) (w : World) (h : DiskAt w base db sb secs bit armed left false) (hl : ∀ i, i < secs.length → secs[i]!.wr.length ≤ 1000) (hn : secs.length ≤ 1000) (h0 : 0 < secs.length) (n1 : 1 ≤ n) (n4 : n ≤ 4) (G : Glob w) :
    Calls Tryz.prog 19 #[.pointer (some ⟨db, 0, none⟩), .int .i64 n] w (OpenPost db secs n w) := by
  have HOP : Hid (openP secs n = if slotP secs[0]!.now = -1 ∨ secs.length < 22 then none else parseP (bareB ⟨(catP secs (1 + 10 * (slotP secs[0]!.now).toNat) 10).toArray⟩) n) := rfl
  have HNO : Hid (openP secs n = none → ∀ w', Below w.heap.size w w' → OpenPost db secs n w (.returned (.tuple #[.pointer none, .iface 94 (.int .i64 4)])) w') := fun h w' hb => ⟨hb, Or.inl ⟨h, rfl⟩⟩
  have HYES : Hid (∀ b vs vj L w', openP secs n = some b → w.heap.size ≤ L → Blk w' L #[.pointer (some ⟨db, 0, none⟩), .int .i64 n, .int .i64 b.last, vs, vj] 106 → OwnBook w' w.heap.size vs vj b.stays b.jobs → Below w.heap.size w w' → OpenPost db secs n w (.returned (.tuple #[.pointer (some ⟨L, 0, none⟩), .nilIface])) w') := fun b vs vj L w' h hL hB ho hb => ⟨hb, Or.inr ⟨b, vs, vj, L, h, rfl, hL, hB, ho⟩⟩
  generalize OpenPost db secs n w = PP at *
  have HG : Hid (∀ W, Below w.heap.size w W → Glob W) := fun W hb => G.new hb
  have HD : Hid (∀ W, Below w.heap.size w W → DiskAt W base db sb secs bit armed left false) := fun W hb => h.below hb
  have HNM : Hid (Calls Tryz.prog 53 #[.pointer (some ⟨db, 0, none⟩)] w fun e w' => e = .returned (.tuple #[.int .i64 (slotP secs[0]!.now), .nilIface]) ∧ Below w.heap.size w w') :=
    named_any base db sb secs bit armed left false w h hl hn h0 G
  have HSR := slot_range secs[0]!.now
  have HLD : Hid (∀ sl : Nat, slotP secs[0]!.now = sl → 22 ≤ secs.length → ∀ W, Below w.heap.size w W → Calls Tryz.prog 55 #[.pointer (some ⟨db, 0, none⟩), .int .i64 (slotP secs[0]!.now)] W fun e w' => e = .returned (.tuple #[.string (bareB ⟨(catP secs (1 + 10 * (slotP secs[0]!.now).toNat) 10).toArray⟩), .nilIface]) ∧ Below W.heap.size W w') := fun sl hs h22 W hb => by
    have hsr := slot_range secs[0]!.now
    rw [hs] at hsr ⊢
    exact load_any base db sb secs bit armed left sl W (h.below hb) hl hn h22 (by omega)
  have HPS : Hid (∀ W, Below w.heap.size w W → Calls Tryz.prog 56 #[.string (bareB ⟨(catP secs (1 + 10 * (slotP secs[0]!.now).toNat) 10).toArray⟩), .int .i64 n] W (ParsePost (bareB ⟨(catP secs (1 + 10 * (slotP secs[0]!.now).toNat) 10).toArray⟩) n W)) := fun W hb => parse_any _ n W (by have := bare_le secs (1 + 10 * (slotP secs[0]!.now).toNat); omega) n1 n4 (G.new hb)
  have HS : Hid (∀ W, Below w.heap.size w W → Calls Tryz.prog 54 #[.pointer (some ⟨db, 0, none⟩)] W fun e w' => e = .returned (.int .i64 secs.length) ∧ w' = W) := fun W hb => sectors_any base db sb secs bit armed left false W (h.below hb)
  generalize (bareB ⟨(catP secs (1 + 10 * (slotP secs[0]!.now).toNat) 10).toArray⟩) = T at *
  generalize slotP secs[0]!.now = sl at *
  have hz1 : ¬ (n : Int) < 1 := by omega
  have hz4 : ¬ 4 < (n : Int) := by omega
  clear h hl
  go_enter Tryz.func19, Tryz.ntmps19
  go_wp2_with fail
  refine HNM.out.mono ?_
  rintro e w1 ⟨rfl, b1⟩
  have N1 : Hid (Below w.heap.size w w1) := b1
  have HS1 : Hid (Calls Tryz.prog 54 #[.pointer (some ⟨db, 0, none⟩)] w1 fun e w' => e = .returned (.int .i64 secs.length) ∧ w' = w1) := HS.out _ b1
  clear b1 HNM
  by_cases hm : sl = -1
  · subst hm
    have HF : Hid (PP (.returned (.tuple #[.pointer none, .iface 94 (.int .i64 4)])) w1) := HNO.out (by rw [HOP.out, if_pos (Or.inl rfl)]) _ N1.out
    clear HNO HYES HLD HPS HS HSR HOP
    go_wp2
    exact HF.out
  have hmb : (sl == -1) = false := by simpa using hm
  go_wp2_with fail
  refine HS1.out.mono ?_
  rintro e w1' ⟨rfl, hw1⟩
  subst hw1
  by_cases h22 : secs.length < 22
  · have HF : Hid (PP (.returned (.tuple #[.pointer none, .iface 94 (.int .i64 4)])) w1') := HNO.out (by rw [HOP.out, if_pos (Or.inr h22)]) _ N1.out
    have h22z : (secs.length : Int) < 22 := by omega
    clear HNO HYES HLD HPS HS HSR HOP
    go_wp2
    exact HF.out
  have h22z : ¬ (secs.length : Int) < 22 := by omega
  have HPT : Hid (openP secs n = parseP T n) := by
    show _ = _
    rw [HOP.out, if_neg (by omega)]
  have HL : Hid (Calls Tryz.prog 55 #[.pointer (some ⟨db, 0, none⟩), .int .i64 sl] w1' fun e w' => e = .returned (.tuple #[.string T, .nilIface]) ∧ Below w1'.heap.size w1' w') := HLD.out sl.toNat (by omega) (by omega) _ N1.out
  clear HLD HS HS1 HOP
  go_wp2_with fail
  refine HL.out.mono ?_
  rintro e w2 ⟨rfl, b2⟩
  have N2 : Hid (Below w.heap.size w w2) := B.next N1.out b2 N1.out.size
  have HP2 : Hid (Calls Tryz.prog 56 #[.string T, .int .i64 n] w2 (ParsePost T n w2)) := HPS.out _ N2.out
  clear N1 b2 HL HPS
  go_wp2_with fail
  refine HP2.out.mono ?_
  rintro e w3 ⟨b3, hres⟩
  have N3 : Hid (Below w.heap.size w w3) := B.next N2.out b3 N2.out.size
  have hs3 : Hid (w.heap.size ≤ w2.heap.size ∧ w2.heap.size ≤ w3.heap.size) := ⟨N2.out.size, b3.size⟩
  clear b3 HP2
  rcases hres with ⟨hno, rfl⟩ | ⟨b, vs, vj, hyes, rfl, hown⟩
  · have HF : Hid (PP (.returned (.tuple #[.pointer none, .iface 94 (.int .i64 4)])) (w3.alloc (.cells #[.int .i64 0, .slice none 0 0, .slice none 0 0] 38))) := HNO.out (by rw [HPT.out, hno]) _ (N3.out.alloc N3.out.size _)
    clear HNO HYES N3 N2 HPT hs3
    rw [errV_ne (by decide)]
    go_wp2
    exact HF.out
  · obtain ⟨sa, sc, hvs, _⟩ := hown.s.rows
    obtain ⟨ja, jc, hvj, _⟩ := hown.j.rows
    have HF : Hid (PP (.returned (.tuple #[.pointer (some ⟨w3.heap.size + 1, 0, none⟩), .nilIface])) ((w3.alloc (.cells #[.int .i64 b.last, vs, vj] 38)).alloc (.cells #[.pointer (some ⟨db, 0, none⟩), .int .i64 n, .int .i64 b.last, vs, vj] 106))) := by
      have B3 : Below w3.heap.size w3 ((w3.alloc (.cells #[.int .i64 b.last, vs, vj] 38)).alloc (.cells #[.pointer (some ⟨db, 0, none⟩), .int .i64 n, .int .i64 b.last, vs, vj] 106)) := (B.new1 _ _).alloc (by simp) _
      refine HYES.out b vs vj (w3.heap.size + 1) _ (by rw [HPT.out, hyes]) (by have := hs3.out; omega) (Blk.new1 (by simp) _ _) ((OwnBook.below (bookDown hown hs3.out.1) B3)) (B.next N3.out B3 N3.out.size)
    subst hvs hvj
    clear HNO HYES N3 N2 HPT hs3 hown hyes
    go_wp2
    exact HF.out

set_option maxHeartbeats 1000000 in
theorem book_any (db L n : Nat) (last : Int) (sa : Option Addr) (sc : Nat) (ja : Option Addr) (jc : Nat) (stays : List Stay) (jobs : List Job) (w : World) (hL : Blk w L #[.pointer (some ⟨db, 0, none⟩), .int .i64 n, .int .i64 last, .slice sa stays.length sc, .slice ja jobs.length jc] 106) (h : Book.At ⟨last, sa, sc, ja, jc, stays, jobs⟩ w) (hs : stays.length ≤ 1000) (hj : jobs.length ≤ 1000) :
    Calls Tryz.prog 24 #[.pointer (some ⟨L, 0, none⟩)] w fun e w' => ∃ vs vj, e = .returned (.agg #[.int .i64 last, vs, vj]) ∧ OwnBook w' w.heap.size vs vj stays jobs ∧ Below w.heap.size w w' := by
  obtain ⟨w0, hw0⟩ : ∃ w0, w.alloc (.cells #[.int .i64 0, .slice none 0 0, .slice none 0 0] 38) = w0 := ⟨_, rfl⟩
  have N0 : Hid (Below w.heap.size w w0 ∧ Blk w0 w.heap.size #[.int .i64 0, .slice none 0 0, .slice none 0 0] 38 ∧ Blk w0 L #[.pointer (some ⟨db, 0, none⟩), .int .i64 n, .int .i64 last, .slice sa stays.length sc, .slice ja jobs.length jc] 106) := by
    show _ ∧ _ ∧ _
    rw [← hw0]
    exact ⟨B.new1 _ _, Blk.new _ _ _, hL.old _⟩
  have HC : Hid (Calls Tryz.prog 62 #[.agg #[.int .i64 last, .slice sa stays.length sc, .slice ja jobs.length jc]] w0 fun e w' => ∃ vs vj, e = .returned (.agg #[.int .i64 last, vs, vj]) ∧ OwnBook w' w0.heap.size vs vj stays jobs ∧ Below w0.heap.size w0 w') := copy_any ⟨last, sa, sc, ja, jc, stays, jobs⟩ w0 (h.below N0.out.1) hs hj
  have c0 := N0.out.2.2.cell
  generalize hPP : (fun (e : Ending) (w' : World) => ∃ vs vj, e = .returned (.agg #[.int .i64 last, vs, vj]) ∧ OwnBook w' w.heap.size vs vj stays jobs ∧ Below w.heap.size w w') = PP
  have HP : Hid (∀ vs vj w', OwnBook w' w.heap.size vs vj stays jobs → Below w.heap.size w w' → PP (.returned (.agg #[.int .i64 last, vs, vj])) w') := fun vs vj w' ho hb => by rw [← hPP]; exact ⟨vs, vj, rfl, ho, hb⟩
  clear hPP h hL
  go_enter Tryz.func24, Tryz.ntmps24
  go_wp2_with fail
  clear hw0
  refine HC.out.mono ?_
  rintro e w1 ⟨vs, vj, rfl, ho, b1⟩
  have N1 : Hid (Below w.heap.size w w1 ∧ Blk w1 w.heap.size #[.int .i64 0, .slice none 0 0, .slice none 0 0] 38) := ⟨B.next N0.out.1 b1 N0.out.1.size, N0.out.2.1.below b1⟩
  have r1 := N1.out.2.cell
  have f1 := N1.out.2.free
  have HF : Hid (PP (.returned (.agg #[.int .i64 last, vs, vj])) (((w1.setCell ⟨w.heap.size, 0, none⟩ (.int .i64 last)).setCell ⟨w.heap.size, 1, none⟩ vs).setCell ⟨w.heap.size, 2, none⟩ vj)) := by
    have hlt : w.heap.size < w0.heap.size := N0.out.2.1.lt
    exact HP.out vs vj _ (bookDown (bookSet (bookSet (bookSet ho _ hlt) _ hlt) _ hlt) (Nat.le_of_lt hlt)) (((N1.out.1.setCell (p := ⟨w.heap.size, 0, none⟩) (Nat.le_refl _) _).setCell (p := ⟨w.heap.size, 1, none⟩) (Nat.le_refl _) _).setCell (p := ⟨w.heap.size, 2, none⟩) (Nat.le_refl _) _)
  obtain ⟨sx, cx, hvs, _⟩ := ho.s.rows
  obtain ⟨jx, dx, hvj, _⟩ := ho.j.rows
  subst hvs hvj
  clear N0 N1 b1 ho HP HC c0
  go_wp2
  (try simp only [Exit.inBlock, Exit.then])
  refine bodyPost_ret (v := .agg #[.int .i64 last, .slice sx stays.length cx, .slice jx jobs.length dx]) (by simp [results, Tryz.results24, go_sem, set3_0 r1, set3_1 r1, set3_2 r1]; try rfl) rfl ?_
  exact HF.out
end Lg
end Go.Proofs.YtaikbojdmfkbhaaGreatDoor

namespace Go.Proofs.YtaikbojdmfkbhaaGreatDoor
open Go.Shelf Go.Lib Go.ChangeShapes Go.WideShapes Go.ChangeAt Go.RowKit
set_option maxRecDepth 100000
set_option linter.unusedSimpArgs false
set_option linter.unusedVariables false

namespace Lg
open Bk Dk Tx
theorem hidd {p : Prop} (h : p) : Hid p := h
/-- What an operation on a ledger leaves alone. -/
structure LFr (base : Nat) (w w' : World) : Prop where
  b : Below base w w'
  far : ∀ k arr T, T ≠ 97 → T ≠ 174 → T ≠ 193 → T ≠ 106 → Blk w k arr T → Blk w' k arr T
  oth : KeepsOthers w w'
theorem LFr.refl (base : Nat) (w : World) : LFr base w w := ⟨Below.refl _ _, fun _ _ _ _ _ _ _ h => h, KeepsOthers.refl _⟩
theorem LFr.trans {base : Nat} {a b c : World} (h : LFr base a b) (k : LFr base b c) : LFr base a c := ⟨⟨k.b.os.trans h.b.os, k.b.tape.trans h.b.tape, k.b.output.trans h.b.output, Nat.le_trans h.b.size k.b.size, fun q hq => (k.b.block q hq).trans (h.b.block q hq)⟩, fun q arr T h1 h2 h3 h5 h4 => k.far q arr T h1 h2 h3 h5 (h.far q arr T h1 h2 h3 h5 h4), h.oth.trans k.oth⟩
theorem LFr.of_dfr {base : Nat} {w w' : World} (h : DFr base w w') : LFr base w w' := ⟨h.b, fun k arr T h1 h2 h3 _ hk => h.far k arr T h1 h2 h3 hk, h.oth⟩
theorem LFr.of_set {base : Nat} {w : World} {L : Nat} {A : Array Value} (hL : Blk w L A 106) (hb : base ≤ L) (o : Nat) (v : Value) : LFr base w (w.setCell ⟨L, o, none⟩ v) :=
  ⟨(Below.refl _ _).setCell (p := ⟨L, o, none⟩) hb v, fun k arr T _ _ _ h4 hk => hk.other (fun e => h4 (blk_typeD hk (e ▸ hL))) o v, KeepsOthers.setCell _ _ _⟩
theorem OwnAt.far {α : Type} [Inhabited α] {w w' : World} {base : Nat} {T : TypeId} {k : Nat} {enc : α → List Value} {v : Value} {l : List α} (h : OwnAt w base T k enc v l) (hf : ∀ g arr, Blk w g arr T → Blk w' g arr T) : OwnAt w' base T k enc v l := by
  rcases h with h | ⟨g, cap, cur, hv, hg, hk, r⟩
  · exact Or.inl h
  · exact Or.inr ⟨g, cap, cur, hv, hg, hf g cur hk, r⟩
theorem bookFar {w w' : World} {base : Nat} {vs vj : Value} {stays : List Stay} {jobs : List Job} (h : OwnBook w base vs vj stays jobs) (hf : LFr base w w') : OwnBook w' base vs vj stays jobs :=
  ⟨OwnAt.far h.s (fun g arr hk => hf.far g arr _ (by decide) (by decide) (by decide) (by decide) hk), OwnAt.far h.j (fun g arr hk => hf.far g arr _ (by decide) (by decide) (by decide) (by decide) hk), h.ne⟩
theorem own_size {α : Type} [Inhabited α] {w : World} {base : Nat} {T : TypeId} {k : Nat} {enc : α → List Value} {v : Value} {l : List α} (h : OwnAt w base T k enc v l) {g : Nat} (e : v.ownBlock = some g) : g < w.heap.size := (OwnAt.block h g e).2

theorem text_000 : (textL 0 [] []) = [48, 32, 48, 32, 48] := by
  have e0 : Lib.itoa 0 = [48] := by rw [itoa_pos (by decide)]; exact Lib.decDigits_one (by decide)
  show Lib.join ([0, ((0 : Nat) : Int), ((0 : Nat) : Int)].map Lib.itoa) [32] = _
  simp only [List.map_cons, List.map_nil, Int.natCast_zero, e0]
  rw [join_two, join_two, Lib.join_one]
  rfl
/-- What Format answers. -/
def FormatPost (base db sb : Nat) (secs : List Sec) (armed : Bool) (w : World) (e : Ending) (w' : World) : Prop :=
  (secs.length < 22 ∧ e = .returned (errV 8) ∧ w' = w) ∨ (22 ≤ secs.length ∧ StorePost base db sb secs armed ⟨#[48, 32, 48, 32, 48]⟩ w e w')

theorem StorePost.front {base db sb : Nat} {secs : List Sec} {armed : Bool} {t : ByteArray} {w w1 : World} {e : Ending} {w' : World} (h : StorePost base db sb secs armed t w1 e w') (hf : DFr base w w1) (hb : base ≤ w.heap.size) : StorePost base db sb secs armed t w e w' := ⟨hf.trans h.1 hb, h.2⟩

set_option maxHeartbeats 4000000 in
theorem format_any (base db sb : Nat) (secs : List Sec) (armed : Bool) (left : Int) (w : World) (h : DiskAt w base db sb secs 0 armed left false) (hbase : base ≤ w.heap.size) (hlo : LeftOk armed left) (hw : ∀ j, j < secs.length → secs[j]!.wr = []) (hn : secs.length ≤ 1000) (G : Glob w) (hbg : Tryz.prog.globals.size ≤ base) :
    Calls Tryz.prog 20 #[.pointer (some ⟨db, 0, none⟩)] w (FormatPost base db sb secs armed w) := by
  have HS : Hid (Calls Tryz.prog 54 #[.pointer (some ⟨db, 0, none⟩)] w fun e w' => e = .returned (.int .i64 secs.length) ∧ w' = w) := sectors_any base db sb secs 0 armed left false w h
  have HT : Hid (Calls Tryz.prog 58 #[.agg #[.int .i64 0, .slice none 0 0, .slice none 0 0]] w fun e w' => e = .returned (.string ⟨#[48, 32, 48, 32, 48]⟩) ∧ Below w.heap.size w w') := by
    have := text_any ⟨0, none, 0, none, 0, [], []⟩ w ⟨⟨Nat.le_refl _, Nat.zero_le _, fun h => absurd h (Nat.lt_irrefl _)⟩, ⟨Nat.le_refl _, Nat.zero_le _, fun h => absurd h (Nat.lt_irrefl _)⟩⟩ G (by simp) (by simp) (by intro n hn; simp [numsOf] at hn; omega) (by rw [text_000]; simp)
    rw [text_000] at this
    exact this
  have HST : Hid (22 ≤ secs.length → ∀ W, Below w.heap.size w W → Calls Tryz.prog 57 #[.pointer (some ⟨db, 0, none⟩), .string ⟨#[48, 32, 48, 32, 48]⟩] W (StorePost base db sb secs armed ⟨#[48, 32, 48, 32, 48]⟩ W)) := fun h22 W hb => store_any base db sb secs armed left _ W (h.below hb) (Nat.le_trans hbase hb.size) hlo hw h22 hn (by decide) (G.new hb) hbg
  have HNO : Hid (secs.length < 22 → FormatPost base db sb secs armed w (.returned (.iface 94 (.int .i64 8))) w) := fun h => Or.inl ⟨h, rfl, rfl⟩
  have HYES : Hid (22 ≤ secs.length → ∀ W, Below w.heap.size w W → ∀ e w', StorePost base db sb secs armed ⟨#[48, 32, 48, 32, 48]⟩ W e w' → FormatPost base db sb secs armed w e w') := fun h22 W hb e w' hp => Or.inr ⟨h22, hp.front (DFr.of_below hb hbase) hbase⟩
  have HV : Hid (∀ W e w', StorePost base db sb secs armed ⟨#[48, 32, 48, 32, 48]⟩ W e w' → e = .returned .nilIface ∨ e = .returned (.iface 94 (.int .i64 9))) := fun W e w' hp => hp.2.imp (fun h => h.1) (fun h => h.2.1)
  generalize (⟨#[48, 32, 48, 32, 48]⟩ : ByteArray) = T at *
  generalize FormatPost base db sb secs armed w = PP at *
  clear h hlo hw G
  go_enter Tryz.func20, Tryz.ntmps20
  go_wp2_with fail
  refine HS.out.mono ?_
  rintro e w1 ⟨rfl, hw1⟩
  subst hw1
  by_cases h22 : secs.length < 22
  · have h22z : (secs.length : Int) < 22 := by omega
    have HF := HNO.out h22
    clear HT HST HYES HV
    go_wp2
    exact HF
  have h22z : ¬ (secs.length : Int) < 22 := by omega
  go_wp2_with fail
  refine HT.out.mono ?_
  rintro e w2 ⟨rfl, b2⟩
  have HS2 : Hid (Calls Tryz.prog 57 #[.pointer (some ⟨db, 0, none⟩), .string T] w2 (StorePost base db sb secs armed T w2)) := HST.out (by omega) _ b2
  have HY2 : Hid (∀ e w', StorePost base db sb secs armed T w2 e w' → PP e w') := HYES.out (by omega) _ b2
  have HV2 : Hid (∀ e w', StorePost base db sb secs armed T w2 e w' → e = .returned .nilIface ∨ e = .returned (.iface 94 (.int .i64 9))) := HV.out w2
  clear b2 HT HST HYES HV HNO HS
  generalize StorePost base db sb secs armed T w2 = SP at *
  go_wp2_with fail
  refine HS2.out.mono ?_
  rintro e w3 hp
  have HF : Hid (PP e w3) := HY2.out _ _ hp
  rcases HV2.out _ _ hp with rfl | rfl
  · clear hp HY2 HV2 HS2
    go_wp2
    exact HF.out
  · clear hp HY2 HV2 HS2
    go_wp2
    exact HF.out

theorem StorePost.value {base db sb : Nat} {secs : List Sec} {armed : Bool} {t : ByteArray} {w : World} {e : Ending} {w' : World} (h : StorePost base db sb secs armed t w e w') : ∃ v, e = .returned v ∧ Hid ((v = .nilIface ∧ ∃ secs' left', LeftOk armed left' ∧ DiskAt w' base db sb secs' 0 armed left' false ∧ Stored secs secs' (nxN secs) t) ∨
   (v = .iface 94 (.int .i64 9) ∧ armed = true ∧ ∃ secs' bit' left', LeftOk armed left' ∧ DiskAt w' base db sb secs' bit' armed left' true ∧ Fell secs secs' (nxN secs) t)) := by
  rcases h.2 with ⟨h1, h2⟩ | ⟨h0, h1, h2⟩
  · exact ⟨_, h1, Or.inl ⟨rfl, h2⟩⟩
  · exact ⟨_, h1, Or.inr ⟨rfl, h0, h2⟩⟩

/-- What Keep answers. -/
def KeepPost (base db sb : Nat) (secs : List Sec) (armed : Bool) (L n : Nat) (b : Book) (w : World) (e : Ending) (w' : World) : Prop := 
  (bookN b n ≠ 0 ∧ e = .returned (errV (bookN b n)) ∧ Below w.heap.size w w') ∨
  (bookN b n = 0 ∧ e = .returned .nilIface ∧ LFr base w w' ∧ ∃ secs' left' vs vj, LeftOk armed left' ∧ DiskAt w' base db sb secs' 0 armed left' false ∧ Stored secs secs' (nxN secs) ⟨(textL b.last b.stays b.jobs).toArray⟩ ∧
    Blk w' L #[.pointer (some ⟨db, 0, none⟩), .int .i64 n, .int .i64 b.last, vs, vj] 106 ∧ OwnBook w' w.heap.size vs vj b.stays b.jobs) ∨
  (bookN b n = 0 ∧ armed = true ∧ e = .returned (errV 9) ∧ DFr base w w' ∧ ∃ secs' bit' left', LeftOk armed left' ∧ DiskAt w' base db sb secs' bit' armed left' true ∧ Fell secs secs' (nxN secs) ⟨(textL b.last b.stays b.jobs).toArray⟩)

set_option maxHeartbeats 8000000 in
theorem keep_any (base db sb : Nat) (secs : List Sec) (armed : Bool) (left : Int) (L n : Nat) (ol : Int) (ov oj : Value) (b : Book) (w : World) (h : DiskAt w base db sb secs 0 armed left false) (hbase : base ≤ w.heap.size) (hlo : LeftOk armed left) (hw : ∀ j, j < secs.length → secs[j]!.wr = []) (h22 : 22 ≤ secs.length) (hn : secs.length ≤ 1000) (G : Glob w) (hbg : Tryz.prog.globals.size ≤ base)
    (hL : Blk w L #[.pointer (some ⟨db, 0, none⟩), .int .i64 n, .int .i64 ol, ov, oj] 106) (hLb : base ≤ L) (hb : b.At w) (hbl : ∀ W, DFr base w W → b.At W) (n1 : 1 ≤ n) (n4 : n ≤ 4) (hov : ∃ p m c, ov = .slice p m c) (hoj : ∃ p m c, oj = .slice p m c) :
    Calls Tryz.prog 22 #[.pointer (some ⟨L, 0, none⟩), b.val] w (KeepPost base db sb secs armed L n b w) := by
  obtain ⟨last, sa, sc, ja, jc, stays, jobs⟩ := b
  have HBAD : Hid (∀ w', bookN ⟨last, sa, sc, ja, jc, stays, jobs⟩ n ≠ 0 → Below w.heap.size w w' → KeepPost base db sb secs armed L n ⟨last, sa, sc, ja, jc, stays, jobs⟩ w (.returned (errV (bookN ⟨last, sa, sc, ja, jc, stays, jobs⟩ n))) w') := fun w' h1 h2 => Or.inl ⟨h1, rfl, h2⟩
  have HOK : Hid (bookN ⟨last, sa, sc, ja, jc, stays, jobs⟩ n = 0 → ∀ w', LFr base w w' → ∀ secs' left' vs vj, LeftOk armed left' → DiskAt w' base db sb secs' 0 armed left' false → Stored secs secs' (nxN secs) ⟨(textL last stays jobs).toArray⟩ →
    Blk w' L #[.pointer (some ⟨db, 0, none⟩), .int .i64 n, .int .i64 last, vs, vj] 106 → OwnBook w' w.heap.size vs vj stays jobs → KeepPost base db sb secs armed L n ⟨last, sa, sc, ja, jc, stays, jobs⟩ w (.returned .nilIface) w') := fun h0 w' h1 s' l' vs vj h2 h3 h4 h5 h6 => Or.inr (Or.inl ⟨h0, rfl, h1, s', l', vs, vj, h2, h3, h4, h5, h6⟩)
  have HNO : Hid (bookN ⟨last, sa, sc, ja, jc, stays, jobs⟩ n = 0 → armed = true → ∀ w', DFr base w w' → ∀ secs' bit' left', LeftOk armed left' → DiskAt w' base db sb secs' bit' armed left' true → Fell secs secs' (nxN secs) ⟨(textL last stays jobs).toArray⟩ → KeepPost base db sb secs armed L n ⟨last, sa, sc, ja, jc, stays, jobs⟩ w (.returned (.iface 94 (.int .i64 9))) w') := fun h0 ha w' h1 s' b' l' h2 h3 h4 => Or.inr (Or.inr ⟨h0, ha, rfl, h1, s', b', l', h2, h3, h4⟩)
  generalize KeepPost base db sb secs armed L n ⟨last, sa, sc, ja, jc, stays, jobs⟩ w = PP at *
  have HCK : Hid (∀ W, Below w.heap.size w W → Calls Tryz.prog 27 #[.agg #[.int .i64 last, .slice sa stays.length sc, .slice ja jobs.length jc], .int .i64 n] W fun e w' => e = .returned (errV (bookN ⟨last, sa, sc, ja, jc, stays, jobs⟩ n)) ∧ Below W.heap.size W w') := fun W hx => bookCheck_any ⟨last, sa, sc, ja, jc, stays, jobs⟩ n W (hb.below hx) n1 n4
  have HOKB : bookN ⟨last, sa, sc, ja, jc, stays, jobs⟩ n = 0 → BookOK last n stays jobs := fun h0 => (bookN_zero _ _).1 h0
  have HTX : Hid (bookN ⟨last, sa, sc, ja, jc, stays, jobs⟩ n = 0 → ∀ W, Below w.heap.size w W → Calls Tryz.prog 58 #[.agg #[.int .i64 last, .slice sa stays.length sc, .slice ja jobs.length jc]] W fun e w' => e = .returned (.string ⟨(textL last stays jobs).toArray⟩) ∧ Below W.heap.size W w') := fun h0 W hx =>
    text_any ⟨last, sa, sc, ja, jc, stays, jobs⟩ W (hb.below hx) (G.new hx) (by have := (HOKB h0).fewS; show stays.length ≤ 1000; omega) (by have := (HOKB h0).fewJ; show jobs.length ≤ 1000; omega) (ok_nums n4 (HOKB h0)) (by have := text_500 n4 (HOKB h0); show (textL last stays jobs).length ≤ _; omega)
  have HST : Hid (bookN ⟨last, sa, sc, ja, jc, stays, jobs⟩ n = 0 → ∀ W, Below w.heap.size w W → Calls Tryz.prog 57 #[.pointer (some ⟨db, 0, none⟩), .string ⟨(textL last stays jobs).toArray⟩] W (StorePost base db sb secs armed ⟨(textL last stays jobs).toArray⟩ W)) := fun h0 W hx => store_any base db sb secs armed left _ W (h.below hx) (Nat.le_trans hbase hx.size) hlo hw h22 hn (by show (textL last stays jobs).toArray.size ≤ _; rw [List.size_toArray]; have := text_500 n4 (HOKB h0); omega) (G.new hx) hbg
  have HCP : Hid (bookN ⟨last, sa, sc, ja, jc, stays, jobs⟩ n = 0 → ∀ W, DFr base w W → Calls Tryz.prog 62 #[.agg #[.int .i64 last, .slice sa stays.length sc, .slice ja jobs.length jc]] W fun e w' => ∃ vs vj, e = .returned (.agg #[.int .i64 last, vs, vj]) ∧ OwnBook w' W.heap.size vs vj stays jobs ∧ Below W.heap.size W w') := fun h0 W hx => by
    have hbW : Book.At ⟨last, sa, sc, ja, jc, stays, jobs⟩ W := hbl W hx
    exact copy_any ⟨last, sa, sc, ja, jc, stays, jobs⟩ W hbW (by have := (HOKB h0).fewS; show stays.length ≤ 1000; omega) (by have := (HOKB h0).fewJ; show jobs.length ≤ 1000; omega)
  clear HOKB
  obtain ⟨w0, hw0⟩ : ∃ w0, w.alloc (.cells #[.int .i64 last, .slice sa stays.length sc, .slice ja jobs.length jc] 38) = w0 := ⟨_, rfl⟩
  have N0 : Hid (Below w.heap.size w w0 ∧ Blk w0 w.heap.size #[.int .i64 last, .slice sa stays.length sc, .slice ja jobs.length jc] 38 ∧ Blk w0 L #[.pointer (some ⟨db, 0, none⟩), .int .i64 n, .int .i64 ol, ov, oj] 106) := by
    show _ ∧ _ ∧ _
    rw [← hw0]
    exact ⟨B.new1 _ _, Blk.new _ _ _, hL.old _⟩
  have HBW : Hid (∀ W, Below w0.heap.size w0 W → Below w.heap.size w W) := fun W hx => B.next N0.out.1 hx N0.out.1.size
  have HS1 : Hid (∀ W, Below w0.heap.size w0 W → W.cell? ⟨L, 1, none⟩ = some (.int .i64 n) ∧ W.cell? ⟨w.heap.size, 0, none⟩ = some (.int .i64 last) ∧ W.cell? ⟨w.heap.size, 1, none⟩ = some (.slice sa stays.length sc) ∧ W.cell? ⟨w.heap.size, 2, none⟩ = some (.slice ja jobs.length jc)) := fun W hx => ⟨(N0.out.2.2.below hx).cell 1, (N0.out.2.1.below hx).cell 0, (N0.out.2.1.below hx).cell 1, (N0.out.2.1.below hx).cell 2⟩
  have D0 : Hid (Below w0.heap.size w0 w0.drew) := (Below.refl _ _).drew
  have HDK : Hid (∀ W, Below w.heap.size w W → DiskAt W base db sb secs 0 armed left false) := fun W hx => h.below hx
  have hsL : Hid (L < w.heap.size) := hL.lt
  clear h hlo hw G hL hb hbl
  generalize bookN ⟨last, sa, sc, ja, jc, stays, jobs⟩ n = bn at *
  unfold Book.val
  simp only
  go_enter Tryz.func22, Tryz.ntmps22
  go_upto_region 1 with fail
  (try simp only [hw0])
  clear hw0
  go_region_held3 (fun W => W.cell? ⟨L, 1, none⟩ = some (.int .i64 n) ∧ W.cell? ⟨w.heap.size, 0, none⟩ = some (.int .i64 last) ∧ W.cell? ⟨w.heap.size, 1, none⟩ = some (.slice sa stays.length sc) ∧ W.cell? ⟨w.heap.size, 2, none⟩ = some (.slice ja jobs.length jc)) (first | with_reducible exact HS1.out _ D0.out | with_reducible exact HS1.out _ B1.out | go_keep)
    (first | (go_at_call 27; refine (HCK.out w0.drew (HBW.out _ D0.out)).mono ?_; rintro e w1 ⟨rfl, b1⟩; have B1 : Hid (Below w0.heap.size w0 w1) := B.next D0.out b1 D0.out.size; clear b1))
  have X1 : Hid (Below w.heap.size w w1) := HBW.out _ B1.out
  by_cases hbn : bn = 0
  case neg =>
    rw [errV_ne hbn]
    have HF : Hid (PP (.returned (.iface 94 (.int .i64 bn))) w1) := by have := HBAD.out w1 hbn X1.out; rwa [errV_ne hbn] at this
    clear HOK HNO HBAD HCK HTX HST HCP HS1 HDK
    go_wp2
    exact HF.out
  rw [hbn, errV0]
  have HOK := HOK.out hbn
  have HNO := HNO.out hbn
  have HTX := HTX.out hbn
  have HST := HST.out hbn
  have HCP := HCP.out hbn
  have HOK2 : Hid _ := hidd HOK
  have HNO2 : Hid _ := hidd HNO
  have HTX2 : Hid _ := hidd HTX
  have HST2 : Hid _ := hidd HST
  have HCP2 : Hid _ := hidd HCP
  clear HBAD HCK HOK HNO HTX HST HCP hbn
  have HL1 : Hid (Blk w1 L #[.pointer (some ⟨db, 0, none⟩), .int .i64 n, .int .i64 ol, ov, oj] 106 ∧ Blk w1 w.heap.size #[.int .i64 last, .slice sa stays.length sc, .slice ja jobs.length jc] 38) := ⟨N0.out.2.2.below B1.out, N0.out.2.1.below B1.out⟩
  have HS4 : Hid (∀ W, Blk W L #[.pointer (some ⟨db, 0, none⟩), .int .i64 n, .int .i64 ol, ov, oj] 106 ∧ Blk W w.heap.size #[.int .i64 last, .slice sa stays.length sc, .slice ja jobs.length jc] 38 → W.cell? ⟨L, 0, none⟩ = some (.pointer (some ⟨db, 0, none⟩)) ∧ W.cell? ⟨w.heap.size, 0, none⟩ = some (.int .i64 last) ∧ W.cell? ⟨w.heap.size, 1, none⟩ = some (.slice sa stays.length sc) ∧ W.cell? ⟨w.heap.size, 2, none⟩ = some (.slice ja jobs.length jc)) := fun W hx => ⟨hx.1.cell 0, hx.2.cell 0, hx.2.cell 1, hx.2.cell 2⟩
  have D1 : Hid (Below w1.heap.size w1 w1.drew) := (Below.refl _ _).drew
  have X1d : Hid (Below w.heap.size w w1.drew) := B.next X1.out D1.out X1.out.size
  have HL1d : Hid (Blk w1.drew L #[.pointer (some ⟨db, 0, none⟩), .int .i64 n, .int .i64 ol, ov, oj] 106 ∧ Blk w1.drew w.heap.size #[.int .i64 last, .slice sa stays.length sc, .slice ja jobs.length jc] 38) := ⟨HL1.out.1.below D1.out, HL1.out.2.below D1.out⟩
  clear HS1 D0 N0 HBW B1 HL1
  go_upto_region 4 with fail
  have HTX3 : Hid (Calls Tryz.prog 58 #[.agg #[.int .i64 last, .slice sa stays.length sc, .slice ja jobs.length jc]] w1.drew fun e w' => e = .returned (.string ⟨(textL last stays jobs).toArray⟩) ∧ Below w1.drew.heap.size w1.drew w') := HTX2.out _ X1d.out
  generalize hT : (⟨(textL last stays jobs).toArray⟩ : ByteArray) = T at *
  go_region_held3 (fun W => W.cell? ⟨L, 0, none⟩ = some (.pointer (some ⟨db, 0, none⟩)) ∧ W.cell? ⟨w.heap.size, 0, none⟩ = some (.int .i64 last) ∧ W.cell? ⟨w.heap.size, 1, none⟩ = some (.slice sa stays.length sc) ∧ W.cell? ⟨w.heap.size, 2, none⟩ = some (.slice ja jobs.length jc)) (first | with_reducible exact HS4.out _ HL1d.out | with_reducible exact HS4.out _ HL2.out | with_reducible exact HS4.out _ HL3.out | go_keep)
    (first
      | (go_at_call 58; refine HTX3.out.mono ?_; rintro e w2 ⟨rfl, b2⟩; have HL2 : Hid (Blk w2 L #[.pointer (some ⟨db, 0, none⟩), .int .i64 n, .int .i64 ol, ov, oj] 106 ∧ Blk w2 w.heap.size #[.int .i64 last, .slice sa stays.length sc, .slice ja jobs.length jc] 38) := ⟨HL1d.out.1.below b2, HL1d.out.2.below b2⟩; have X2 : Hid (Below w.heap.size w w2) := B.next X1d.out b2 X1d.out.size; clear b2)
      | (go_at_call 57; refine (HST2.out w2 X2.out).mono ?_; rintro e w3 hsp; have HSP : Hid (StorePost base db sb secs armed T w2 e w3) := hsp; have HL3 : Hid (Blk w3 L #[.pointer (some ⟨db, 0, none⟩), .int .i64 n, .int .i64 ol, ov, oj] 106 ∧ Blk w3 w.heap.size #[.int .i64 last, .slice sa stays.length sc, .slice ja jobs.length jc] 38) := ⟨hsp.1.far _ _ _ (by decide) (by decide) (by decide) HL2.out.1, hsp.1.far _ _ _ (by decide) (by decide) (by decide) HL2.out.2⟩; clear hsp; obtain ⟨v, rfl, HV⟩ := HSP.out.value))
  have HF3 : Hid (DFr base w w3) := (DFr.of_below X2.out hbase).trans HSP.out.1 hbase
  have hL3 : Hid (L < w3.heap.size) := HL3.out.1.lt
  clear HTX2 HTX3 HST2 D1 X1d HL1d X1 HS4 HSP HL2 X2
  rcases HV.out with ⟨rfl, s', l', k1, k2, k3⟩ | ⟨rfl, har, s', b', l', k1, k2, k3⟩
  · have HCP3 : Hid (Calls Tryz.prog 62 #[.agg #[.int .i64 last, .slice sa stays.length sc, .slice ja jobs.length jc]] w3 fun e w' => ∃ vs vj, e = .returned (.agg #[.int .i64 last, vs, vj]) ∧ OwnBook w' w3.heap.size vs vj stays jobs ∧ Below w3.heap.size w3 w') := HCP2.out _ HF3.out
    have K : Hid (LeftOk armed l' ∧ DiskAt w3 base db sb s' 0 armed l' false ∧ Stored secs s' (nxN secs) T) := ⟨k1, k2, k3⟩
    have r3 := HL3.out.2.cell
    clear k1 k2 k3 HCP2 HV HNO2
    go_wp2_with fail
    refine HCP3.out.mono ?_
    rintro e w4 ⟨vs, vj, rfl, ho, b4⟩
    obtain ⟨sx, cx, hvs, _⟩ := ho.s.rows
    obtain ⟨jx, dx, hvj, _⟩ := ho.j.rows
    have HB4 : Hid (Blk w4 L #[.pointer (some ⟨db, 0, none⟩), .int .i64 n, .int .i64 ol, ov, oj] 106) := HL3.out.1.below b4
    obtain ⟨w5, hw5⟩ : ∃ w5, ((w4.setCell ⟨L, 2, none⟩ (.int .i64 last)).setCell ⟨L, 3, none⟩ vs).setCell ⟨L, 4, none⟩ vj = w5 := ⟨_, rfl⟩
    have HF : Hid (PP (.returned .nilIface) w5) := by
      show PP (.returned .nilIface) w5
      rw [← hw5]
      have hs3 : w.heap.size ≤ w3.heap.size := HF3.out.b.size
      have B1 : Blk (w4.setCell ⟨L, 2, none⟩ (.int .i64 last)) L #[.pointer (some ⟨db, 0, none⟩), .int .i64 n, .int .i64 last, ov, oj] 106 := HB4.out.set 2 _
      have B2 : Blk ((w4.setCell ⟨L, 2, none⟩ (.int .i64 last)).setCell ⟨L, 3, none⟩ vs) L #[.pointer (some ⟨db, 0, none⟩), .int .i64 n, .int .i64 last, vs, oj] 106 := B1.set 3 _
      have B3 : Blk (((w4.setCell ⟨L, 2, none⟩ (.int .i64 last)).setCell ⟨L, 3, none⟩ vs).setCell ⟨L, 4, none⟩ vj) L #[.pointer (some ⟨db, 0, none⟩), .int .i64 n, .int .i64 last, vs, vj] 106 := B2.set 4 _
      have F4 : DFr base w w4 := HF3.out.trans (DFr.of_below b4 (Nat.le_trans hbase hs3)) hbase
      have D1 := diskFar (K.out.2.1.below b4) HB4.out (by decide) (by decide) (by decide) 2 (.int .i64 last)
      have D2 := diskFar D1 B1 (by decide) (by decide) (by decide) 3 vs
      have D3 := diskFar D2 B2 (by decide) (by decide) (by decide) 4 vj
      exact HOK2.out _ ((((LFr.of_dfr F4).trans (LFr.of_set HB4.out hLb 2 _)).trans (LFr.of_set B1 hLb 3 _)).trans (LFr.of_set B2 hLb 4 _)) s' l' vs vj K.out.1 D3 K.out.2.2 B3 (bookDown (bookSet (bookSet (bookSet ho _ hL3.out) _ hL3.out) _ hL3.out) hs3)
    subst hvs hvj
    obtain ⟨p1, m1, c1, rfl⟩ := hov
    obtain ⟨p2, m2, c2, rfl⟩ := hoj
    have r4 := HB4.out.cell
    have f4 := HB4.out.free
    clear HOK2 HCP3 ho b4 K HL3 HF3 HB4 r3
    go_wp2
    (try simp only [hw5])
    exact HF.out
  · have HF : Hid (PP (.returned (.iface 94 (.int .i64 9))) w3) := HNO2.out har _ HF3.out s' b' l' k1 k2 k3
    clear HOK2 HNO2 HCP2 k1 k2 k3 HV
    go_wp2
    exact HF.out
end Lg
end Go.Proofs.YtaikbojdmfkbhaaGreatDoor

namespace Go.Proofs.YtaikbojdmfkbhaaGreatDoor
open Go.Shelf Go.Lib Go.ChangeShapes Go.WideShapes Go.ChangeAt Go.RowKit
set_option maxRecDepth 100000
set_option linter.unusedSimpArgs false
set_option linter.unusedVariables false

namespace Lg
open Bk Dk Tx
/-- A ledger and its disk. -/
structure LedS (w : World) (base db sb : Nat) (secs : List Sec) (armed : Bool) (left : Int) (L n : Nat) (b : PB) : Prop where
  d : DiskAt w base db sb secs 0 armed left false
  len : 22 ≤ secs.length
  few : secs.length ≤ 1000
  wr : ∀ j, j < secs.length → secs[j]!.wr = []
  lo : LeftOk armed left
  l : ∃ vs vj, Blk w L #[.pointer (some ⟨db, 0, none⟩), .int .i64 n, .int .i64 b.last, vs, vj] 106 ∧ OwnBook w base vs vj b.stays b.jobs
  hL : base ≤ L
  op : openP secs n = some b
theorem Stored.wr2 {secs secs' : List Sec} {nx : Nat} {t : ByteArray} (h : Stored secs secs' nx t) : ∀ j, j < secs'.length → secs'[j]!.wr = [] := fun j hj => h.wr j (by rw [← h.len]; exact hj)
theorem text_list (l : List UInt8) : (⟨l.toArray⟩ : ByteArray).data.toList = l := rfl
/-- What Keep does to a ledger. -/
def KeepS (base db sb : Nat) (secs : List Sec) (armed : Bool) (L n : Nat) (b : Book) (w : World) (e : Ending) (w' : World) : Prop :=
  (bookN b n ≠ 0 ∧ e = .returned (errV (bookN b n)) ∧ Below w.heap.size w w') ∨
  (bookN b n = 0 ∧ e = .returned .nilIface ∧ LFr base w w' ∧ ∃ secs' left', LedS w' base db sb secs' armed left' L n ⟨b.last, b.stays, b.jobs⟩ ∧ secs'.length = secs.length) ∨
  (bookN b n = 0 ∧ armed = true ∧ e = .returned (errV 9) ∧ DFr base w w' ∧ ∃ secs' bit' left', LeftOk armed left' ∧ DiskAt w' base db sb secs' bit' armed left' true ∧ Fell secs secs' (nxN secs) ⟨(textL b.last b.stays b.jobs).toArray⟩)
theorem keepS (base db sb : Nat) (secs : List Sec) (armed : Bool) (left : Int) (L n : Nat) (ob : PB) (b : Book) (w : World) (h : LedS w base db sb secs armed left L n ob) (hbase : base ≤ w.heap.size) (G : Glob w) (hbg : Tryz.prog.globals.size ≤ base) (hb : b.At w) (hbl : ∀ W, DFr base w W → b.At W) (n1 : 1 ≤ n) (n4 : n ≤ 4) :
    Calls Tryz.prog 22 #[.pointer (some ⟨L, 0, none⟩), b.val] w (KeepS base db sb secs armed L n b w) := by
  obtain ⟨vs, vj, hL, ho⟩ := h.l
  obtain ⟨sa, sc, hvs, _⟩ := ho.s.rows
  obtain ⟨ja, jc, hvj, _⟩ := ho.j.rows
  refine (keep_any base db sb secs armed left L n ob.last vs vj b w h.d hbase h.lo h.wr h.len h.few G hbg hL h.hL hb hbl n1 n4 ⟨_, _, _, hvs⟩ ⟨_, _, _, hvj⟩).mono ?_
  rintro e w' (⟨h1, h2, h3⟩ | ⟨h1, h2, h3, s', l', vs', vj', k1, k2, k3, k4, k5⟩ | ⟨h1, h2, h3, h4, s', b', l', k1, k2, k3⟩)
  · exact Or.inl ⟨h1, h2, h3⟩
  · refine Or.inr (Or.inl ⟨h1, h2, h3, s', l', ⟨k2, by rw [k3.len]; exact h.len, by rw [k3.len]; exact h.few, k3.wr2, k1, ⟨vs', vj', k4, bookDown k5 hbase⟩, h.hL, ?_⟩, k3.len⟩)
    have hok := (bookN_zero b n).1 h1
    have h5 := text_500 n4 hok
    rw [open_stored k3 (nx_le _) h.len (by show (textL b.last b.stays b.jobs).toArray.size ≤ _; rw [List.size_toArray]; omega) (text_no0 n4 hok) n]
    exact parse_text n4 hok
  · exact Or.inr (Or.inr ⟨h1, h2, h3, h4, s', b', l', k1, k2, k3⟩)
theorem LedS.below {w w' : World} {base db sb : Nat} {secs : List Sec} {armed : Bool} {left : Int} {L n : Nat} {b : PB} (h : LedS w base db sb secs armed left L n b) (hb : Below w.heap.size w w') : LedS w' base db sb secs armed left L n b := by
  obtain ⟨vs, vj, h1, h2⟩ := h.l
  exact ⟨h.d.below hb, h.len, h.few, h.wr, h.lo, ⟨vs, vj, h1.below hb, h2.below hb⟩, h.hL, h.op⟩
/-- What Open does. -/
def OpenS (base db sb : Nat) (secs : List Sec) (armed : Bool) (left : Int) (n : Nat) (b : PB) (w : World) (e : Ending) (w' : World) : Prop :=
  Below w.heap.size w w' ∧ ∃ L, e = .returned (.tuple #[.pointer (some ⟨L, 0, none⟩), .nilIface]) ∧ LedS w' base db sb secs armed left L n b
theorem openS (base db sb : Nat) (secs : List Sec) (armed : Bool) (left : Int) (n : Nat) (b : PB) (w : World) (h : DiskAt w base db sb secs 0 armed left false) (hbase : base ≤ w.heap.size) (h22 : 22 ≤ secs.length) (hn : secs.length ≤ 1000) (hw : ∀ j, j < secs.length → secs[j]!.wr = []) (hlo : LeftOk armed left) (hop : openP secs n = some b) (G : Glob w) (n1 : 1 ≤ n) (n4 : n ≤ 4) :
    Calls Tryz.prog 19 #[.pointer (some ⟨db, 0, none⟩), .int .i64 n] w (OpenS base db sb secs armed left n b w) := by
  refine (open_any base db sb secs 0 armed left n w h (fun i hi => by rw [hw i hi]; simp) hn (by omega) n1 n4 G).mono ?_
  rintro e w' ⟨hb, ⟨hno, _⟩ | ⟨b', vs, vj, L, hyes, rfl, hL, hB, ho⟩⟩
  · rw [hop] at hno; cases hno
  · rw [hop] at hyes
    cases hyes
    exact ⟨hb, L, rfl, h.below hb, h22, hn, hw, hlo, ⟨vs, vj, hB, bookDown ho hbase⟩, Nat.le_trans hbase hL, hop⟩
theorem book_zero (n : Nat) (k : Int) (h0 : 0 ≤ k) (h1 : k ≤ 999999) : bookN ⟨k, none, 0, none, 0, [], []⟩ n = 0 := by
  unfold bookN
  rw [if_neg (by simp; omega), if_neg (by simp)]
  rfl
theorem parse_zero (n : Nat) (n4 : n ≤ 4) : parseP ⟨#[48, 32, 48, 32, 48]⟩ n = some ⟨0, [], []⟩ := by
  have h := parse_text n4 ((bookN_zero _ _).1 (book_zero n 0 (by decide) (by decide)))
  rw [text_000] at h
  exact h
theorem bookS (base db sb : Nat) (secs : List Sec) (armed : Bool) (left : Int) (L n : Nat) (b : PB) (w : World) (h : LedS w base db sb secs armed left L n b) (hs : b.stays.length ≤ 1000) (hj : b.jobs.length ≤ 1000) :
    Calls Tryz.prog 24 #[.pointer (some ⟨L, 0, none⟩)] w fun e w' => ∃ vs vj, e = .returned (.agg #[.int .i64 b.last, vs, vj]) ∧ OwnBook w' w.heap.size vs vj b.stays b.jobs ∧ Below w.heap.size w w' := by
  obtain ⟨vs, vj, hL, ho⟩ := h.l
  obtain ⟨sa, sc, hvs, hrs⟩ := ho.s.rows
  obtain ⟨ja, jc, hvj, hrj⟩ := ho.j.rows
  subst hvs hvj
  exact book_any db L n b.last sa sc ja jc b.stays b.jobs w hL ⟨hrs, hrj⟩ hs hj

set_option maxHeartbeats 4000000 in
theorem kept_any (n : Nat) (w : World) (G : Glob w) (hbg : Tryz.prog.globals.size ≤ w.heap.size) (n1 : 1 ≤ n) (n4 : n ≤ 4) :
    Calls Tryz.prog 25 #[.int .i64 n] w fun e w' => ∃ db sb L secs left, e = .returned (.tuple #[.pointer (some ⟨db, 0, none⟩), .pointer (some ⟨L, 0, none⟩), .bool true]) ∧ LedS w' w.heap.size db sb secs false left L n ⟨0, [], []⟩ ∧ Below w.heap.size w w' := by
  generalize hPP : (fun (e : Ending) (w' : World) => ∃ db sb L secs left, e = .returned (.tuple #[.pointer (some ⟨db, 0, none⟩), .pointer (some ⟨L, 0, none⟩), .bool true]) ∧ LedS w' w.heap.size db sb secs false left L n ⟨0, [], []⟩ ∧ Below w.heap.size w w') = PP
  have HP : Hid (∀ db sb L secs left w', LedS w' w.heap.size db sb secs false left L n ⟨0, [], []⟩ → Below w.heap.size w w' → PP (.returned (.tuple #[.pointer (some ⟨db, 0, none⟩), .pointer (some ⟨L, 0, none⟩), .bool true])) w') := fun db sb L secs left w' h1 h2 => by rw [← hPP]; exact ⟨db, sb, L, secs, left, rfl, h1, h2⟩
  clear hPP
  have HDN : Hid (Calls Tryz.prog 17 #[.int .i64 22] w fun e w' => e = .returned (.tuple #[.pointer (some ⟨w.heap.size + 1, 0, none⟩), .nilIface]) ∧ DiskAt w' w.heap.size (w.heap.size + 1) w.heap.size (List.replicate 22 secZ) 0 false 0 false ∧ Below w.heap.size w w') := diskNew_any 22 w (by decide) (by decide)
  have HW : Hid (∀ j, j < (List.replicate 22 secZ).length → (List.replicate 22 secZ)[j]!.wr = []) := fun j hj => by rw [getElem!_pos _ j hj, List.getElem_replicate]; rfl
  have hlen : (List.replicate 22 secZ).length = 22 := List.length_replicate
  have HFM : Hid (∀ W, Below w.heap.size w W → DiskAt W w.heap.size (w.heap.size + 1) w.heap.size (List.replicate 22 secZ) 0 false 0 false → Calls Tryz.prog 20 #[.pointer (some ⟨w.heap.size + 1, 0, none⟩)] W (FormatPost w.heap.size (w.heap.size + 1) w.heap.size (List.replicate 22 secZ) false W)) := fun W hb hd => format_any _ _ _ _ _ _ W hd hb.size ⟨Or.inr rfl, by decide⟩ HW.out (by rw [hlen]; decide) (G.new hb) hbg
  generalize List.replicate 22 secZ = secs0 at *
  generalize hdb : w.heap.size + 1 = db at *
  go_enter Tryz.func25, Tryz.ntmps25
  go_wp2_with fail
  refine HDN.out.mono ?_
  rintro e w1 ⟨rfl, d1, b1⟩
  have HF1 : Hid (Calls Tryz.prog 20 #[.pointer (some ⟨db, 0, none⟩)] w1 (FormatPost w.heap.size db w.heap.size secs0 false w1)) := HFM.out w1 b1 d1
  have X1 : Hid (Below w.heap.size w w1) := b1
  clear d1 b1 HFM HDN
  go_wp2_with fail
  refine HF1.out.mono ?_
  rintro e w2 hf
  have HF2 : Hid (e = .returned .nilIface ∧ ∃ secs' left', DiskAt w2 w.heap.size db w.heap.size secs' 0 false left' false ∧ Stored secs0 secs' (nxN secs0) ⟨#[48, 32, 48, 32, 48]⟩ ∧ DFr w.heap.size w1 w2 ∧ LeftOk false left') := by
    rcases hf with ⟨h1, _⟩ | ⟨_, hD, ⟨h1, s', l', h2, h3, h4⟩ | ⟨h1, _⟩⟩
    · omega
    · exact ⟨h1, s', l', h3, h4, hD, h2⟩
    · cases h1
  obtain ⟨rfl, s', l', k1, k2, k3, k4⟩ := HF2.out
  have K : Hid (DiskAt w2 w.heap.size db w.heap.size s' 0 false l' false ∧ Stored secs0 s' (nxN secs0) ⟨#[48, 32, 48, 32, 48]⟩ ∧ Below w.heap.size w w2) := ⟨k1, k2, ⟨k3.b.os.trans X1.out.os, k3.b.tape.trans X1.out.tape, k3.b.output.trans X1.out.output, Nat.le_trans X1.out.size k3.b.size, fun q hq => (k3.b.block q hq).trans (X1.out.block q hq)⟩⟩
  have HOP : Hid (openP s' n = some ⟨0, [], []⟩) := by
    show _ = _
    rw [open_stored k2 (nx_le _) (by omega) (by decide) (by decide) n]
    exact parse_zero n n4
  have HOS : Hid (Calls Tryz.prog 19 #[.pointer (some ⟨db, 0, none⟩), .int .i64 n] w2 (OpenS w.heap.size db w.heap.size s' false l' n ⟨0, [], []⟩ w2)) :=
    openS _ _ _ _ _ _ n _ w2 k1 K.out.2.2.size (by have := k2.len; omega) (by have := k2.len; omega) k2.wr2 k4 HOP.out (G.new K.out.2.2) n1 n4
  clear hf HF2 k1 k2 k3 HF1 X1 HOP HW
  go_wp2_with fail
  refine HOS.out.mono ?_
  rintro e w3 ⟨b3, L, rfl, hl⟩
  have HF : Hid (PP (.returned (.tuple #[.pointer (some ⟨db, 0, none⟩), .pointer (some ⟨L, 0, none⟩), .bool true])) w3) := HP.out db _ L s' l' w3 hl (B.next K.out.2.2 b3 K.out.2.2.size)
  clear b3 hl HOS K HP
  go_wp2
  exact HF.out
end Lg
end Go.Proofs.YtaikbojdmfkbhaaGreatDoor
