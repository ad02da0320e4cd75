/- Chapter 1: which places there are, the program's and the document's (A3); contracts for the laws. -/
import Derived.Test.YtkgicpialdhnhaaDoorVisit
import Derived.Test.YtkgicpialdhnhaaDoorSizes
import Derived.Deep.DeepCutAuto
import Derived.Deep.LoopGhost
namespace Go.Proofs.YtkgicpialdhnhaaDoor
open Go.ChangeShapes Go.WideShapes Go.ChangeAt Go.RowKit
set_option maxRecDepth 100000
set_option linter.unusedSimpArgs false
set_option linter.unusedVariables false

/-- Places, one behind the other, as they lie in memory. -/
def flatP : List (Int × Int × Int) → List Value
  | [] => []
  | p :: l => .int .i64 p.1 :: .int .i64 p.2.1 :: .int .i64 p.2.2 :: flatP l
theorem flatP_length : ∀ l, (flatP l).length = l.length * 3
  | [] => rfl
  | p :: l => by simp [flatP, flatP_length l]; omega
theorem flatP_append : ∀ l m, flatP (l ++ m) = flatP l ++ flatP m
  | [], m => rfl
  | p :: l, m => by simp [flatP, flatP_append l m]

/-- The places of the first k sides of n levels: all but those at the side 1 of the last level. -/
def placesTo (n : Nat) : Nat → List (Int × Int × Int)
  | 0 => []
  | k + 1 => if k + 1 = 2 * n then placesTo n k else placesTo n k ++ [(((k / 2 : Nat) : Int) + 1, ((k % 2 : Nat) : Int), 1), (((k / 2 : Nat) : Int) + 1, ((k % 2 : Nat) : Int), 0)]
theorem placesTo_le (n : Nat) : ∀ k, (placesTo n k).length ≤ 2 * k
  | 0 => by simp [placesTo]
  | k + 1 => by
    have := placesTo_le n k
    unfold placesTo
    split
    · omega
    · simp; omega
theorem placesTo_0 (n k : Nat) (h : k < n) : placesTo n (2 * k + 1) = placesTo n (2 * k) ++ [((k : Int) + 1, 0, 1), ((k : Int) + 1, 0, 0)] := by
  have e1 : (2 * k) / 2 = k := by omega
  have e2 : (2 * k) % 2 = 0 := by omega
  show (if 2 * k + 1 = 2 * n then _ else _) = _
  rw [if_neg (by omega), e1, e2]
  rfl
theorem placesTo_1 (n k : Nat) (h : k + 1 < n) : placesTo n (2 * k + 1 + 1) = placesTo n (2 * k + 1) ++ [((k : Int) + 1, 1, 1), ((k : Int) + 1, 1, 0)] := by
  have e1 : (2 * k + 1) / 2 = k := by omega
  have e2 : (2 * k + 1) % 2 = 1 := by omega
  show (if 2 * k + 1 + 1 = 2 * n then _ else _) = _
  rw [if_neg (by omega), e1, e2]
  rfl
theorem placesTo_l (n k : Nat) (h : k + 1 = n) : placesTo n (2 * k + 1 + 1) = placesTo n (2 * k + 1) := by
  show (if 2 * k + 1 + 1 = 2 * n then _ else _) = _
  rw [if_pos (by omega)]

def PlacesOwn (w w' : World) (v : Value) (l : List (Int × Int × Int)) : Prop := w'.ownsRow w.heap.size 45 3 v l.length (flatP l) ∧ Below w.heap.size w w'

theorem Tryd.infoPlace : (Tryd.prog.info? 45).map (fun i => (i.zero, i.size, i.bytes)) = some (some (.agg #[.int .i64 0, .int .i64 0, .int .i64 0]), 3, 24) := by kernel_rfl

set_option maxHeartbeats 400000 in
theorem places_none (n : Int) (w : World) (h : ¬ (1 ≤ n ∧ n ≤ 4)) : Calls Tryd.prog 39 #[.int .i64 n] w fun e w' => e = .returned (.slice none 0 0) ∧ w = w' := by
  have hd : decide ((1 : Int) ≤ n ∧ n ≤ 4) = false := by simpa using h
  clear h
  go_enter Tryd.func39, Tryd.ntmps39
  go_wp2_with (go_at_call 50; refine (within_any _ _ _ _).mono ?_; rw [hd]; rintro e w' ⟨rfl, rfl⟩)
  go_returns
  exact ⟨rfl, rfl⟩

/-- What the loops of Places hold: what has been gathered, and the spare place. -/
def PL (w wx : World) (N n : Nat) (v : Value) (l : List (Int × Int × Int)) : Prop :=
  wx.ownsRow (N + 1) 45 3 v l.length (flatP l) ∧ Below w.heap.size w wx ∧ w.heap.size ≤ N ∧ N + 1 ≤ wx.heap.size ∧ ∀ o, wx.cell? ⟨N, o, none⟩ = (#[.int .i64 n, .int .i64 1, .int .i64 0] : Array Value)[o]?
theorem owns_below {w W : World} {base : Nat} {e : TypeId} {size : Nat} {v : Value} {n : Nat} {xs : List Value} (h : w.ownsRow base e size v n xs) (hb : Below w.heap.size w W) : W.ownsRow base e size v n xs := by
  refine ⟨h.1, h.2.elim Or.inl (fun ⟨g, cap, cur, hv, hg, hh, r⟩ => Or.inr ⟨g, cap, cur, hv, hg, ?_, r⟩)⟩
  rw [hb.block g ?_]
  · exact hh
  · rcases Nat.lt_or_ge g w.heap.size with h' | h'
    · exact h'
    · rw [Array.getElem?_eq_none h'] at hh; cases hh
theorem PL.below {w wx W : World} {N n : Nat} {v : Value} {l : List (Int × Int × Int)} (h : PL w wx N n v l) (hb : Below wx.heap.size wx W) : PL w W N n v l := by
  obtain ⟨h0, h1, h2, h3, h4⟩ := h
  have hz := hb.size
  exact ⟨owns_below h0 hb, B.next h1 hb (by omega), h2, by omega, B.row hb h4 (by omega)⟩
theorem PL.grown {w W w3 : World} {N n : Nat} {v v' : Value} {l : List (Int × Int × Int)} {p q : Int × Int × Int} (h : PL w W N n v l)
    (ho : w3.ownsRow (N + 1) 45 3 v' (l.length + 2) (flatP l ++ [.int .i64 p.1, .int .i64 p.2.1, .int .i64 p.2.2, .int .i64 q.1, .int .i64 q.2.1, .int .i64 q.2.2])) (hg : W.grownBy w3 v.ownBlock) : PL w w3 N n v' (l ++ [p, q]) := by
  obtain ⟨h0, h1, h2, h3, h4⟩ := h
  have hz := hg.size
  refine ⟨?_, Below.grown h1 hg (by omega) (fun k hk => by have := (h0.lt k hk).1; omega), h2, by omega, fun o => ?_⟩
  · rw [flatP_append, List.length_append]
    exact ho
  · rw [← h4 o]
    exact World.cell?_of_block (w := W) (hg.block N (by omega) (fun e => by have := (h0.lt N e.symm).1; omega))

set_option maxHeartbeats 4000000 in
theorem places_any (n : Nat) (w : World) (h1 : 1 ≤ n) (h4 : n ≤ 4) : Calls Tryd.prog 39 #[.int .i64 n] w fun e w' => ∃ v, e = .returned v ∧ PlacesOwn w w' v (placesTo n (2 * n)) := by
  obtain ⟨i0, hi, hi0, hi1, hi2⟩ := info_parts Tryd.infoPlace
  have hd : decide ((1 : Int) ≤ (n : Int) ∧ (n : Int) ≤ 4) = true := by simp only [decide_eq_true_eq]; omega
  go_enter Tryd.func39, Tryd.ntmps39
  go_wp2_with (first
    | (go_at_call 50; refine (within_any' _ _ _ _).mono ?_; rw [hd]; rintro e wx ⟨rfl, hwx⟩; subst hwx)
    | (go_at_call 53; refine (spare_any _ _).mono ?_; rintro e w1 ⟨rfl, hb1⟩))
  have P0 : Hid (PL w (w1.alloc (.cells #[.int .i64 n, .int .i64 1, .int .i64 0] 45)) w1.heap.size n (.slice none 0 0) (placesTo n 0)) := ⟨World.ownsRow_nil _ _ _ _, hb1.alloc hb1.size _, hb1.size, by simp, B.row_new _ _ _⟩
  generalize w1.heap.size = N at *
  clear hb1 hd
  go_loopg [4, 15] n (fun q v i wr => ∃ k : Nat, k + q = n ∧ i = .int .i64 k ∧ Hid (PL w wr N n v (placesTo n (2 * k))))
  case atStart => exact ⟨0, by omega, rfl, P0⟩
  case round =>
    obtain ⟨k, hk, rfl, PR⟩ := hrel
    have HK : Hid (k + gk = n) := hk
    by_cases hlt : k < n
    · clear hk P0
      have i4 : (k : Int) < (n : Int) := by omega
      go_wp2_with fail
      go_loopg [4, 18] 2 (fun q v s wr => ∃ j : Nat, j + q = 2 ∧ s = .int .i64 j ∧ Hid (PL w wr N n v (placesTo n (2 * k + j))))
      case atStart => exact ⟨0, by omega, rfl, PR⟩
      case round =>
        obtain ⟨j, hj, rfl, PI⟩ := hrel
        have hJ : j = 0 ∨ j = 1 ∨ j = 2 := by omega
        rcases hJ with rfl | rfl | rfl
        · obtain ⟨_, _, _, hNs, hsp⟩ := PI.out
          have hs2 := B.row_old (.cells #[.int .i64 ((k : Int) + 1), .int .i64 0, .int .i64 0] 45) hsp (by omega)
          have PA : Hid (PL w (((wr.alloc (.cells #[.int .i64 ((k : Int) + 1), .int .i64 0, .int .i64 0] 45)).alloc (.cells #[.int .i64 ((k : Int) + 1), .int .i64 0, .int .i64 1] 45)).alloc (.cells #[.int .i64 ((k : Int) + 1), .int .i64 0, .int .i64 1, .int .i64 ((k : Int) + 1), .int .i64 0, .int .i64 0] 45)) N n u4 (placesTo n (2 * k + 0))) := PI.out.below (((B.new1 _ _).trans ((B.new1 _ _).mono (by simp))).trans ((B.new1 _ _).mono (by simp; omega)))
          have hll := placesTo_le n (2 * k + 0)
          generalize hLL : placesTo n (2 * k + 0) = L at *
          have HLL : Hid (placesTo n (2 * k + 0) = L) := hLL
          clear hLL hsp
          go_wp2_with (first
            | (at_builtin; refine wpList_append_own _ rfl _ _ 49 rfl (N + 1) 45 i0 (.agg #[.int .i64 0, .int .i64 0, .int .i64 0]) 3 24 Tryd.underlying49 hi hi0 hi1 hi2 rfl (by decide) _ L.length (flatP L) rfl PA.out.1 ⟨wr.heap.size + 1 + 1, 0, none⟩ 2 2 [.int .i64 ((k : Int) + 1), .int .i64 0, .int .i64 1, .int .i64 ((k : Int) + 1), .int .i64 0, .int .i64 0] rfl rfl (news_new _ _ _ _ (by simp)) (ints_one [(k : Int) + 1, 0, 1, (k : Int) + 1, 0, 0]) (by unfold maxLen; omega) (by omega) (by have := PA.out.2.2.2.1; omega) ?_
               intro v' w3 hown' hgrow3 hnil3
               have X : Hid (PL w w3 N n v' (L ++ [((k : Int) + 1, 0, 1), ((k : Int) + 1, 0, 0)])) := PA.out.grown hown' hgrow3
               clear hown' hgrow3 hnil3))
          go_roundg (gk - 1)
          case measure => omega
          case rel => exact ⟨0 + 1, by omega, by go_num, by show PL _ _ _ _ _ _; rw [show 2 * k + (0 + 1) = 2 * k + 0 + 1 from by omega, placesTo_0 n k hlt, show 2 * k = 2 * k + 0 from rfl, HLL.out]; exact X.out⟩
        · by_cases hlast : k + 1 = n
          · obtain ⟨_, _, _, hNs, hsp⟩ := PI.out
            have e1 : ((k : Int) + 1 == (n : Int)) = true := by simp; omega
            have hs2 := B.row_old (.cells #[.int .i64 ((k : Int) + 1), .int .i64 1, .int .i64 0] 45) hsp (by omega)
            have PA : Hid (PL w (wr.alloc (.cells #[.int .i64 ((k : Int) + 1), .int .i64 1, .int .i64 0] 45)) N n u4 (placesTo n (2 * k + 1))) := PI.out.below (B.new1 _ _)
            have HL : Hid (k + 1 = n) := hlast
            clear hlast hsp
            go_wp2_with fail
            go_roundg (gk - 1)
            case measure => omega
            case rel => exact ⟨1 + 1, by omega, by go_num, by show PL _ _ _ _ _ _; rw [show 2 * k + (1 + 1) = 2 * k + 1 + 1 from by omega, placesTo_l n k HL.out]; exact PA.out⟩
          have e1 : ((k : Int) + 1 == (n : Int)) = false := by simp; omega
          obtain ⟨_, _, _, hNs, hsp⟩ := PI.out
          have hs2 := B.row_old (.cells #[.int .i64 ((k : Int) + 1), .int .i64 1, .int .i64 0] 45) hsp (by omega)
          have PA : Hid (PL w (((wr.alloc (.cells #[.int .i64 ((k : Int) + 1), .int .i64 1, .int .i64 0] 45)).alloc (.cells #[.int .i64 ((k : Int) + 1), .int .i64 1, .int .i64 1] 45)).alloc (.cells #[.int .i64 ((k : Int) + 1), .int .i64 1, .int .i64 1, .int .i64 ((k : Int) + 1), .int .i64 1, .int .i64 0] 45)) N n u4 (placesTo n (2 * k + 1))) := PI.out.below (((B.new1 _ _).trans ((B.new1 _ _).mono (by simp))).trans ((B.new1 _ _).mono (by simp; omega)))
          have hll := placesTo_le n (2 * k + 1)
          generalize hLL : placesTo n (2 * k + 1) = L at *
          have HLL : Hid (placesTo n (2 * k + 1) = L) := hLL
          clear hLL hsp
          go_wp2_with (first
            | (at_builtin; refine wpList_append_own _ rfl _ _ 49 rfl (N + 1) 45 i0 (.agg #[.int .i64 0, .int .i64 0, .int .i64 0]) 3 24 Tryd.underlying49 hi hi0 hi1 hi2 rfl (by decide) _ L.length (flatP L) rfl PA.out.1 ⟨wr.heap.size + 1 + 1, 0, none⟩ 2 2 [.int .i64 ((k : Int) + 1), .int .i64 1, .int .i64 1, .int .i64 ((k : Int) + 1), .int .i64 1, .int .i64 0] rfl rfl (news_new _ _ _ _ (by simp)) (ints_one [(k : Int) + 1, 1, 1, (k : Int) + 1, 1, 0]) (by unfold maxLen; omega) (by omega) (by have := PA.out.2.2.2.1; omega) ?_
               intro v' w3 hown' hgrow3 hnil3
               have X : Hid (PL w w3 N n v' (L ++ [((k : Int) + 1, 1, 1), ((k : Int) + 1, 1, 0)])) := PA.out.grown hown' hgrow3
               clear hown' hgrow3 hnil3))
          go_roundg (gk - 1)
          case measure => omega
          case rel => exact ⟨1 + 1, by omega, by go_num, by show PL _ _ _ _ _ _; rw [show 2 * k + (1 + 1) = 2 * k + 1 + 1 from by omega, placesTo_1 n k (by omega), HLL.out]; exact X.out⟩
        · go_wp2
          go_roundg (n - (k + 1))
          case measure => have := HK.out; omega
          case rel => exact ⟨k + 1, by omega, by go_num, by show PL _ _ _ _ _ _; rw [show 2 * (k + 1) = 2 * k + 2 from by omega]; exact PI.out⟩
    · go_wp2
      go_returns
      have hkn : k = n := by omega
      subst hkn
      exact ⟨_, rfl, owns_le PR.out.1 (by have := PR.out.2.2.1; omega), PR.out.2.1⟩

end Go.Proofs.YtkgicpialdhnhaaDoor
