/- Chapter 1: which places there are, by the document (A3); a contract for the laws. -/
import Derived.Test.YtkgicpialdhnhaaDoorPlaces
namespace Go.Proofs.YtkgicpialdhnhaaDoor
open Go.ChangeShapes Go.WideShapes Go.ChangeAt Go.RowKit
set_option maxRecDepth 100000
set_option linter.unusedSimpArgs false
set_option linter.unusedVariables false

/-- What the loops of the document's Places hold. -/
def RL (w wx : World) (v : Value) (m : Nat) (xs : List Value) : Prop := wx.ownsRow w.heap.size 45 3 v m xs ∧ Below w.heap.size w wx
theorem RL.below {w wx W : World} {v : Value} {m : Nat} {xs : List Value} (h : RL w wx v m xs) (hb : Below wx.heap.size wx W) : RL w W v m xs :=
  ⟨owns_below h.1 hb, B.next h.2 hb h.2.size⟩
theorem RL.grown {w W w3 : World} {v v' : Value} {m m' : Nat} {xs ys : List Value} (h : RL w W v m xs) (ho : w3.ownsRow w.heap.size 45 3 v' m' ys) (hg : W.grownBy w3 v.ownBlock) : RL w w3 v' m' ys :=
  ⟨ho, Below.grown h.2 hg h.2.size (fun k hk => (h.1.lt k hk).1)⟩
theorem RL.two {w w3 : World} {v' : Value} {L : List (Int × Int × Int)} {p q : Int × Int × Int}
    (h : RL w w3 v' (L.length + 1 + 1) (flatP L ++ [.int .i64 p.1, .int .i64 p.2.1, .int .i64 p.2.2] ++ [.int .i64 q.1, .int .i64 q.2.1, .int .i64 q.2.2])) : RL w w3 v' (L ++ [p, q]).length (flatP (L ++ [p, q])) := by
  rw [flatP_append, List.length_append]
  simpa [flatP, RL] using h

set_option maxHeartbeats 4000000 in
theorem rplaces_any (n : Nat) (w : World) (h1 : 1 ≤ n) (h4 : n ≤ 4) : Calls Tryd.prog 17 #[.int .i64 n] w fun e w' => ∃ v, e = .returned v ∧ PlacesOwn w w' v (placesTo n (2 * n)) := by
  obtain ⟨i0, hi, hi0, hi1, hi2⟩ := info_parts Tryd.infoPlace
  go_enter Tryd.func17, Tryd.ntmps17
  go_wp2
  have P0 : Hid (RL w w (.slice none 0 0) (placesTo n 0).length (flatP (placesTo n 0))) := ⟨World.ownsRow_nil _ _ _ _, Below.refl _ _⟩
  go_loopg [3, 4] n (fun q v i wr => ∃ k : Nat, k + q = n ∧ i = .int .i64 ((k : Int) + 1) ∧ Hid (RL w wr v (placesTo n (2 * k)).length (flatP (placesTo n (2 * k)))))
  case atStart => exact ⟨0, by omega, rfl, P0⟩
  case round =>
    obtain ⟨k, hk, rfl, PR⟩ := hrel
    have HK : Hid (k + gk = n) := hk
    by_cases hlt : k < n
    · clear hk P0
      have i4 : (k : Int) + 1 ≤ (n : Int) := by omega
      go_wp2_with fail
      go_loopg [3, 5] 2 (fun q v s wr => ∃ j : Nat, j + q = 2 ∧ s = .int .i64 j ∧ Hid (RL w wr v (placesTo n (2 * k + j)).length (flatP (placesTo n (2 * k + j)))))
      case atStart => exact ⟨0, by omega, rfl, PR⟩
      case round =>
        obtain ⟨j, hj, rfl, PI⟩ := hrel
        have hJ : j = 0 ∨ j = 1 ∨ j = 2 := by omega
        rcases hJ with rfl | rfl | rfl
        · by_cases hll : k + 1 < n
          · have c1 : (k : Int) + 1 < (n : Int) := by omega
            have hln := placesTo_le n (2 * k + 0)
            have PA : Hid (RL w (wr.alloc (.cells #[.int .i64 ((k : Int) + 1), .int .i64 0, .int .i64 1] 45)) u3 (placesTo n (2 * k + 0)).length (flatP (placesTo n (2 * k + 0)))) := PI.out.below (B.new1 _ _)
            generalize hLL : placesTo n (2 * k + 0) = L at *
            have HLL : Hid (placesTo n (2 * k + 0) = L) := hLL
            clear hLL
            go_upto_region 9 with fail
            go_cut [3] (fun s3 wx => Hid (RL w wx s3 (L.length + 1) (flatP L ++ [.int .i64 ((k : Int) + 1), .int .i64 0, .int .i64 1])))
            case first =>
              go_wp2_with (first
                | (at_builtin; refine wpList_append_own _ rfl _ _ 49 rfl w.heap.size 45 i0 (.agg #[.int .i64 0, .int .i64 0, .int .i64 0]) 3 24 Tryd.underlying49 hi hi0 hi1 hi2 rfl (by decide) _ L.length (flatP L) rfl PA.out.1 ⟨wr.heap.size, 0, none⟩ 1 1 [.int .i64 ((k : Int) + 1), .int .i64 0, .int .i64 1] rfl rfl (news_new _ _ _ _ rfl) (ints_one [(k : Int) + 1, 0, 1]) (by unfold maxLen; omega) (by omega) (by exact PA.out.2.size) ?_
                   intro v' w3 hown' hgrow3 hnil3
                   have X : Hid (RL w w3 v' (L.length + 1) (flatP L ++ [.int .i64 ((k : Int) + 1), .int .i64 0, .int .i64 1])) := PA.out.grown hown' hgrow3
                   clear hown' hgrow3 hnil3))
              go_meet
              exact X
            case rest =>
            have PB : Hid (RL w (wc.alloc (.cells #[.int .i64 ((k : Int) + 1), .int .i64 0, .int .i64 0] 45)) u3 (L.length + 1) (flatP L ++ [.int .i64 ((k : Int) + 1), .int .i64 0, .int .i64 1])) := RL.below (Hid.out hcut) (B.new1 _ _)
            go_wp2_with (first
              | (at_builtin; refine wpList_append_own _ rfl _ _ 49 rfl w.heap.size 45 i0 (.agg #[.int .i64 0, .int .i64 0, .int .i64 0]) 3 24 Tryd.underlying49 hi hi0 hi1 hi2 rfl (by decide) _ (L.length + 1) _ rfl PB.out.1 ⟨wc.heap.size, 0, none⟩ 1 1 [.int .i64 ((k : Int) + 1), .int .i64 0, .int .i64 0] rfl rfl (news_new _ _ _ _ rfl) (ints_one [(k : Int) + 1, 0, 0]) (by unfold maxLen; omega) (by omega) (by exact PB.out.2.size) ?_
                 intro v' w3 hown' hgrow3 hnil3
                 have X : Hid (RL w w3 v' (L ++ [((k : Int) + 1, 0, 1), ((k : Int) + 1, 0, 0)]).length (flatP (L ++ [((k : Int) + 1, 0, 1), ((k : Int) + 1, 0, 0)]))) := RL.two (p := ((k : Int) + 1, 0, 1)) (q := ((k : Int) + 1, 0, 0)) (PB.out.grown hown' hgrow3)
                 clear hown' hgrow3 hnil3))
            go_roundg (gk - 1)
            case measure => omega
            case rel => exact ⟨0 + 1, by omega, by go_num, by show RL _ _ _ _ _; rw [show 2 * k + (0 + 1) = 2 * k + 0 + 1 from by omega, placesTo_0 n k hlt, show 2 * k = 2 * k + 0 from rfl, HLL.out]; exact X.out⟩
          · have c1 : ¬ (k : Int) + 1 < (n : Int) := by omega
            have hln := placesTo_le n (2 * k + 0)
            have PA : Hid (RL w (wr.alloc (.cells #[.int .i64 ((k : Int) + 1), .int .i64 0, .int .i64 1] 45)) u3 (placesTo n (2 * k + 0)).length (flatP (placesTo n (2 * k + 0)))) := PI.out.below (B.new1 _ _)
            generalize hLL : placesTo n (2 * k + 0) = L at *
            have HLL : Hid (placesTo n (2 * k + 0) = L) := hLL
            clear hLL
            go_upto_region 9 with fail
            go_cut [3] (fun s3 wx => Hid (RL w wx s3 (L.length + 1) (flatP L ++ [.int .i64 ((k : Int) + 1), .int .i64 0, .int .i64 1])))
            case first =>
              go_wp2_with (first
                | (at_builtin; refine wpList_append_own _ rfl _ _ 49 rfl w.heap.size 45 i0 (.agg #[.int .i64 0, .int .i64 0, .int .i64 0]) 3 24 Tryd.underlying49 hi hi0 hi1 hi2 rfl (by decide) _ L.length (flatP L) rfl PA.out.1 ⟨wr.heap.size, 0, none⟩ 1 1 [.int .i64 ((k : Int) + 1), .int .i64 0, .int .i64 1] rfl rfl (news_new _ _ _ _ rfl) (ints_one [(k : Int) + 1, 0, 1]) (by unfold maxLen; omega) (by omega) (by exact PA.out.2.size) ?_
                   intro v' w3 hown' hgrow3 hnil3
                   have X : Hid (RL w w3 v' (L.length + 1) (flatP L ++ [.int .i64 ((k : Int) + 1), .int .i64 0, .int .i64 1])) := PA.out.grown hown' hgrow3
                   clear hown' hgrow3 hnil3))
              go_meet
              exact X
            case rest =>
            have PB : Hid (RL w (wc.alloc (.cells #[.int .i64 ((k : Int) + 1), .int .i64 0, .int .i64 0] 45)) u3 (L.length + 1) (flatP L ++ [.int .i64 ((k : Int) + 1), .int .i64 0, .int .i64 1])) := RL.below (Hid.out hcut) (B.new1 _ _)
            go_wp2_with (first
              | (at_builtin; refine wpList_append_own _ rfl _ _ 49 rfl w.heap.size 45 i0 (.agg #[.int .i64 0, .int .i64 0, .int .i64 0]) 3 24 Tryd.underlying49 hi hi0 hi1 hi2 rfl (by decide) _ (L.length + 1) _ rfl PB.out.1 ⟨wc.heap.size, 0, none⟩ 1 1 [.int .i64 ((k : Int) + 1), .int .i64 0, .int .i64 0] rfl rfl (news_new _ _ _ _ rfl) (ints_one [(k : Int) + 1, 0, 0]) (by unfold maxLen; omega) (by omega) (by exact PB.out.2.size) ?_
                 intro v' w3 hown' hgrow3 hnil3
                 have X : Hid (RL w w3 v' (L ++ [((k : Int) + 1, 0, 1), ((k : Int) + 1, 0, 0)]).length (flatP (L ++ [((k : Int) + 1, 0, 1), ((k : Int) + 1, 0, 0)]))) := RL.two (p := ((k : Int) + 1, 0, 1)) (q := ((k : Int) + 1, 0, 0)) (PB.out.grown hown' hgrow3)
                 clear hown' hgrow3 hnil3))
            go_roundg (gk - 1)
            case measure => omega
            case rel => exact ⟨0 + 1, by omega, by go_num, by show RL _ _ _ _ _; rw [show 2 * k + (0 + 1) = 2 * k + 0 + 1 from by omega, placesTo_0 n k hlt, show 2 * k = 2 * k + 0 from rfl, HLL.out]; exact X.out⟩
        · by_cases hlast : k + 1 = n
          · have c1 : ¬ (k : Int) + 1 < (n : Int) := by omega
            have HL : Hid (k + 1 = n) := hlast
            clear hlast
            go_wp2
            go_roundg (gk - 1)
            case measure => omega
            case rel => exact ⟨1 + 1, by omega, by go_num, by show RL _ _ _ _ _; rw [show 2 * k + (1 + 1) = 2 * k + 1 + 1 from by omega, placesTo_l n k HL.out]; exact PI.out⟩
          · have c1 : (k : Int) + 1 < (n : Int) := by omega
            have hln := placesTo_le n (2 * k + 1)
            have PA : Hid (RL w (wr.alloc (.cells #[.int .i64 ((k : Int) + 1), .int .i64 1, .int .i64 1] 45)) u3 (placesTo n (2 * k + 1)).length (flatP (placesTo n (2 * k + 1)))) := PI.out.below (B.new1 _ _)
            generalize hLL : placesTo n (2 * k + 1) = L at *
            have HLL : Hid (placesTo n (2 * k + 1) = L) := hLL
            clear hLL
            go_upto_region 9 with fail
            go_cut [3] (fun s3 wx => Hid (RL w wx s3 (L.length + 1) (flatP L ++ [.int .i64 ((k : Int) + 1), .int .i64 1, .int .i64 1])))
            case first =>
              go_wp2_with (first
                | (at_builtin; refine wpList_append_own _ rfl _ _ 49 rfl w.heap.size 45 i0 (.agg #[.int .i64 0, .int .i64 0, .int .i64 0]) 3 24 Tryd.underlying49 hi hi0 hi1 hi2 rfl (by decide) _ L.length (flatP L) rfl PA.out.1 ⟨wr.heap.size, 0, none⟩ 1 1 [.int .i64 ((k : Int) + 1), .int .i64 1, .int .i64 1] rfl rfl (news_new _ _ _ _ rfl) (ints_one [(k : Int) + 1, 1, 1]) (by unfold maxLen; omega) (by omega) (by exact PA.out.2.size) ?_
                   intro v' w3 hown' hgrow3 hnil3
                   have X : Hid (RL w w3 v' (L.length + 1) (flatP L ++ [.int .i64 ((k : Int) + 1), .int .i64 1, .int .i64 1])) := PA.out.grown hown' hgrow3
                   clear hown' hgrow3 hnil3))
              go_meet
              exact X
            case rest =>
            have PB : Hid (RL w (wc.alloc (.cells #[.int .i64 ((k : Int) + 1), .int .i64 1, .int .i64 0] 45)) u3 (L.length + 1) (flatP L ++ [.int .i64 ((k : Int) + 1), .int .i64 1, .int .i64 1])) := RL.below (Hid.out hcut) (B.new1 _ _)
            go_wp2_with (first
              | (at_builtin; refine wpList_append_own _ rfl _ _ 49 rfl w.heap.size 45 i0 (.agg #[.int .i64 0, .int .i64 0, .int .i64 0]) 3 24 Tryd.underlying49 hi hi0 hi1 hi2 rfl (by decide) _ (L.length + 1) _ rfl PB.out.1 ⟨wc.heap.size, 0, none⟩ 1 1 [.int .i64 ((k : Int) + 1), .int .i64 1, .int .i64 0] rfl rfl (news_new _ _ _ _ rfl) (ints_one [(k : Int) + 1, 1, 0]) (by unfold maxLen; omega) (by omega) (by exact PB.out.2.size) ?_
                 intro v' w3 hown' hgrow3 hnil3
                 have X : Hid (RL w w3 v' (L ++ [((k : Int) + 1, 1, 1), ((k : Int) + 1, 1, 0)]).length (flatP (L ++ [((k : Int) + 1, 1, 1), ((k : Int) + 1, 1, 0)]))) := RL.two (p := ((k : Int) + 1, 1, 1)) (q := ((k : Int) + 1, 1, 0)) (PB.out.grown hown' hgrow3)
                 clear hown' hgrow3 hnil3))
            go_roundg (gk - 1)
            case measure => omega
            case rel => exact ⟨1 + 1, by omega, by go_num, by show RL _ _ _ _ _; rw [show 2 * k + (1 + 1) = 2 * k + 1 + 1 from by omega, placesTo_1 n k (by omega), HLL.out]; exact X.out⟩
        · go_wp2
          go_roundg (n - (k + 1))
          case measure => have := HK.out; omega
          case rel => exact ⟨k + 1, by omega, by go_num, by show RL _ _ _ _ _; rw [show 2 * (k + 1) = 2 * k + 2 from by omega]; exact PI.out⟩
    · have i4 : ¬ (k : Int) + 1 ≤ (n : Int) := by omega
      go_wp2
      go_returns
      have hkn : k = n := by omega
      subst hkn
      exact ⟨_, rfl, PR.out⟩

end Go.Proofs.YtkgicpialdhnhaaDoor
