/- Chapter 1: two lists of places that are the same; the closed fact of the law (A3); contracts for the statement 'TowerSays'. -/
import Derived.Test.YticjjnmmedmbiaaRPlaces
import Derived.Test.YticjjnmmedmbiaaTopPlaces
import Derived.Test.YticjjnmmedmbiaaLevels
namespace Go.Proofs.Yticjjnmmedmbiaa
open Go.ChangeShapes Go.WideShapes Go.ChangeAt Go.RowKit
set_option maxRecDepth 100000
set_option linter.unusedSimpArgs false
set_option linter.unusedVariables false

set_option maxHeartbeats 1000000 in
theorem samePlaces_core (g1 g2 cap1 cap2 n : Nat) (f : Nat → Int × Int × Int) (w : World) (hn : n ≤ 100) (h1 : PlacesAt w g1 n f) (h2 : PlacesAt w g2 n f) :
    Calls Try.prog 29 #[.slice (some ⟨g1, 0, none⟩) n cap1, .slice (some ⟨g2, 0, none⟩) n cap2] w fun e w' => e = .returned (.bool true) ∧ Below w.heap.size w w' := by
  have H1 : Hid (PlacesAt w g1 n f) := h1
  have H2 : Hid (PlacesAt w g2 n f) := h2
  clear h1 h2
  go_enter Try.func29, Try.ntmps29
  go_wp2
  go_loopg [5] n (fun q i wr => ∃ k : Nat, k + q = n ∧ i = .int .i64 k ∧ Below w.heap.size w wr)
  case atStart => exact ⟨0, by omega, rfl, Below.refl _ _⟩
  case round =>
    obtain ⟨k, hk, rfl, hB⟩ := hrel
    by_cases hlt : k < n
    · obtain ⟨hg1, hc1⟩ := H1.out
      obtain ⟨hg2, hc2⟩ := H2.out
      obtain ⟨a0, a1, a2⟩ := hc1 k hlt
      obtain ⟨b0, b1, b2⟩ := hc2 k hlt
      rw [← hB.cell (p := ⟨g1, _, none⟩) hg1] at a0 a1 a2
      rw [← hB.cell (p := ⟨g2, _, none⟩) hg2] at b0 b1 b2
      generalize f k = x at *
      have HK : Hid (k + gk = n) := hk
      clear hk hc1 hc2
      have i4 : (k : Int) < (n : Int) := by omega
      go_wp2_with fail
      go_quiet (fail)
      go_wp2
      go_roundg (gk - 1)
      case measure => have := HK.out; omega
      case rel => exact ⟨k + 1, by have := HK.out; omega, by go_num, hB.trans ⟨rfl, rfl, rfl, Nat.le_refl _, fun _ _ => rfl⟩⟩
    · go_wp2
      go_returns
      exact ⟨rfl, hB⟩

set_option maxHeartbeats 1000000 in
theorem towers_any (w : World) : Calls Try.prog 14 #[] w fun e w' => e = .returned (.bool true) ∧ Below w.heap.size w w' := by
  go_enter Try.func14, Try.ntmps14
  go_wp2_with fail
  refine (checkPlace_any _ _ _ _ _).mono ?_
  rw [show placeB 1 0 1 1 = true from by decide, faultN_t, errV0]
  rintro e w1 ⟨rfl, hb1⟩
  go_wp2_with fail
  refine (same_nil _ _).mono ?_
  rintro e wx ⟨rfl, hwx⟩
  obtain rfl : w1 = wx := hwx.symm
  go_wp2_with fail
  refine (ext_any _ _ _ _ (by omega) (by omega)).mono ?_
  rw [show extI 0 1 = -2 from by decide]
  rintro e w2 ⟨rfl, hb2⟩
  have B2 : Hid (Below w.heap.size w w2) := B.next hb1 hb2 hb1.size
  clear hb1 hb2
  go_wp2_with fail
  refine (places_any 1 _ (by omega) (by omega)).mono ?_
  rintro e w3 ⟨v, rfl, ho⟩
  have B3 : Hid (Below w.heap.size w w3) := B.next B2.out ho.2 B2.out.size
  obtain ⟨g, cap, hv, _⟩ := ho.at (by rw [places_one_len]; omega)
  rw [places_one_len] at hv
  rw [hv]
  clear ho hv B2
  go_wp2
  go_returns
  exact ⟨rfl, B3.out⟩

end Go.Proofs.Yticjjnmmedmbiaa
