/- Chapter 1, the statement 'TopPlaces': for every number of levels, places are as many as there are, less two, each once, none of them spare nor behind that, each behind ahead of the one in front of it (A3); no condition. -/
import Derived.Test.YticjjnmmedmbiaaPlaces
import Derived.Deep.RegionHeld3
import Derived.Deep.DeepCutAuto
import Derived.Deep.LoopGhost
namespace Go.Proofs.Yticjjnmmedmbiaa
open Go.ChangeShapes Go.WideShapes Go.ChangeAt Go.RowKit
set_option maxRecDepth 100000
set_option linter.unusedSimpArgs false
set_option linter.unusedVariables false

theorem flatP_0 : ∀ (l : List (Int × Int × Int)) (k : Nat) (h : k < l.length), (flatP l)[k * 3]? = some (.int .i64 l[k].1)
  | g :: l, 0, _ => rfl
  | g :: l, k + 1, h => by
    rw [show (k + 1) * 3 = k * 3 + 1 + 1 + 1 from by omega]
    simpa [flatP] using flatP_0 l k (by simpa using h)
theorem flatP_1 : ∀ (l : List (Int × Int × Int)) (k : Nat) (h : k < l.length), (flatP l)[k * 3 + 1]? = some (.int .i64 l[k].2.1)
  | g :: l, 0, _ => rfl
  | g :: l, k + 1, h => by
    rw [show (k + 1) * 3 + 1 = k * 3 + 1 + 1 + 1 + 1 from by omega]
    simpa [flatP] using flatP_1 l k (by simpa using h)
theorem flatP_2 : ∀ (l : List (Int × Int × Int)) (k : Nat) (h : k < l.length), (flatP l)[k * 3 + 2]? = some (.int .i64 l[k].2.2)
  | g :: l, 0, _ => rfl
  | g :: l, k + 1, h => by
    rw [show (k + 1) * 3 + 2 = k * 3 + 2 + 1 + 1 + 1 from by omega]
    simpa [flatP] using flatP_2 l k (by simpa using h)

/-- A list of places lies there, by its numbers. -/
def PlacesAt (w : World) (g m : Nat) (f : Nat → Int × Int × Int) : Prop :=
  g < w.heap.size ∧ ∀ k, k < m → w.cell? ⟨g, k * 3, none⟩ = some (.int .i64 (f k).1) ∧ w.cell? ⟨g, k * 3 + 1, none⟩ = some (.int .i64 (f k).2.1) ∧ w.cell? ⟨g, k * 3 + 2, none⟩ = some (.int .i64 (f k).2.2)
theorem PlacesOwn.at {w w' : World} {v : Value} {l : List (Int × Int × Int)} (h : PlacesOwn w w' v l) (h0 : 0 < l.length) : ∃ g cap, v = .slice (some ⟨g, 0, none⟩) l.length cap ∧ PlacesAt w' g l.length (fun k => l.getD k (0, 0, 0)) := by
  obtain ⟨ho, hb⟩ := h
  have ho' := ho
  rcases ho.2 with ⟨_, hn⟩ | ⟨g, cap, cur, rfl, hg, hblk, _⟩
  · omega
  · have e : ∀ k (h : k < l.length), l.getD k (0, 0, 0) = l[k] := fun k h => by simp [List.getD, h]
    refine ⟨g, cap, rfl, ?_, fun k hk => ⟨?_, ?_, ?_⟩⟩
    · rcases Nat.lt_or_ge g w'.heap.size with h | h
      · exact h
      · rw [Array.getElem?_eq_none h] at hblk; cases hblk
    · rw [ho'.cellAt _ (by omega), flatP_0 l k hk, ← e k hk]
    · rw [ho'.cellAt _ (by omega), flatP_1 l k hk, ← e k hk]
    · rw [ho'.cellAt _ (by omega), flatP_2 l k hk, ← e k hk]
theorem PlacesAt.below {w w' : World} {g m : Nat} {f : Nat → Int × Int × Int} (h : PlacesAt w g m f) (hb : Below w.heap.size w w') : PlacesAt w' g m f := by
  obtain ⟨hg, hc⟩ := h
  refine ⟨Nat.lt_of_lt_of_le hg hb.size, fun k hk => ?_⟩
  exact ⟨(hb.cell (p := ⟨g, _, none⟩) hg).trans (hc k hk).1, (hb.cell (p := ⟨g, _, none⟩) hg).trans (hc k hk).2.1, (hb.cell (p := ⟨g, _, none⟩) hg).trans (hc k hk).2.2⟩

theorem places_one_len : (placesTo 1 (2 * 1)).length = 2 := by decide
/-- The list of places, as it is to be: how many; each a place; none spare, nor behind it; behind ahead of in front; each once. -/
theorem places_len (n : Nat) (h1 : 1 ≤ n) (h4 : n ≤ 4) : (placesTo n (2 * n)).length = 4 * n - 2 := by
  rcases (show n = 1 ∨ n = 2 ∨ n = 3 ∨ n = 4 from by omega) with rfl | rfl | rfl | rfl <;> decide
def goodAt (n i : Nat) (f : Nat → Int × Int × Int) : Prop :=
  placeB (f i).1 (f i).2.1 (f i).2.2 n = true ∧ ¬ ((f i).1 = n ∧ (f i).2.1 = 1) ∧ (f i).2.2 = 1 - ((i % 2 : Nat) : Int) ∧ ∀ k, k < i → ¬ ((f k).1 = (f i).1 ∧ (f k).2.1 = (f i).2.1 ∧ (f k).2.2 = (f i).2.2)
theorem places_good (n : Nat) (h1 : 1 ≤ n) (h4 : n ≤ 4) : ∀ i, i < 4 * n - 2 → goodAt n i (fun k => (placesTo n (2 * n)).getD k (0, 0, 0)) := by
  rcases (show n = 1 ∨ n = 2 ∨ n = 3 ∨ n = 4 from by omega) with rfl | rfl | rfl | rfl <;> (unfold goodAt; decide)

theorem depth_ok (d : Int) (k : Nat) (h : d = 1 - ((k % 2 : Nat) : Int)) : (d != IntKind.i64.wrap (1 - (k : Int).tmod 2)) = false := by
  have e : (k : Int).tmod 2 = ((k % 2 : Nat) : Int) := by rw [Int.tmod_eq_emod_of_nonneg (by omega)]; omega
  rw [e, IntKind.wrap_i64, h]
  simp only [bne_eq_false_iff_eq]
  omega

set_option maxHeartbeats 400000 in
theorem topPlaces_out (n : Int) (w : World) (h : n < 1 ∨ 4 < n) : Calls Try.prog 8 #[.int .i64 n] w fun e w' => e = .returned (.bool true) ∧ Below w.heap.size w w' := by
  go_enter Try.func8, Try.ntmps8
  go_wp2_with fail
  refine (places_any 1 _ (by omega) (by omega)).mono ?_
  rintro e w1 ⟨v, rfl, ho⟩
  have Y : Hid (Below w.heap.size w w1) := ho.2
  obtain ⟨g, cap, hv, _⟩ := ho.at (by rw [places_one_len]; omega)
  rw [places_one_len] at hv
  rw [hv]
  clear ho hv
  rcases h with h | h
  · go_wp2
    go_returns
    exact ⟨rfl, Y.out⟩
  · have h' : ¬ n < 1 := by omega
    go_wp2
    go_returns
    exact ⟨rfl, Y.out⟩

/-- What the loops hold: the list, the spare place, and what lies below. -/
def TP (w wx : World) (g m N n : Nat) (f : Nat → Int × Int × Int) : Prop :=
  PlacesAt wx g m f ∧ Below w.heap.size w wx ∧ w.heap.size ≤ N ∧ N + 1 ≤ wx.heap.size ∧ ∀ o, wx.cell? ⟨N, o, none⟩ = (#[.int .i64 n, .int .i64 1, .int .i64 0] : Array Value)[o]?
theorem TP.below {w wx W : World} {g m N n : Nat} {f : Nat → Int × Int × Int} (h : TP w wx g m N n f) (hb : Below wx.heap.size wx W) : TP w W g m N n f := by
  obtain ⟨h0, h1, h2, h3, h4⟩ := h
  have hz := hb.size
  exact ⟨h0.below hb, B.next h1 hb (by omega), h2, by omega, B.row hb h4 (by omega)⟩
theorem TP.drew {w wx : World} {g m N n : Nat} {f : Nat → Int × Int × Int} (h : TP w wx g m N n f) : TP w wx.drew g m N n f := by
  refine h.below ⟨rfl, rfl, rfl, Nat.le_refl _, fun _ _ => rfl⟩
theorem TP.drewN {w wx : World} {g m N n : Nat} {f : Nat → Int × Int × Int} (h : TP w wx g m N n f) (q : Nat) : TP w (wx.drewN q) g m N n f := by
  refine h.below ⟨rfl, rfl, rfl, Nat.le_refl _, fun _ _ => rfl⟩

set_option maxHeartbeats 4000000 in
theorem topPlaces_in (n : Nat) (w : World) (h1 : 1 ≤ n) (h4 : n ≤ 4) : Calls Try.prog 8 #[.int .i64 n] w fun e w' => e = .returned (.bool true) ∧ Below w.heap.size w w' := by
  have hG : Hid (∀ i, i < 4 * n - 2 → goodAt n i (fun k => (placesTo n (2 * n)).getD k (0, 0, 0))) := places_good n h1 h4
  have hlen := places_len n h1 h4
  generalize hf : (fun k => (placesTo n (2 * n)).getD k (0, 0, 0)) = f at *
  have HF : Hid ((fun k => (placesTo n (2 * n)).getD k (0, 0, 0)) = f) := hf
  have HLEN : Hid ((placesTo n (2 * n)).length = 4 * n - 2) := hlen
  clear hf hlen
  have a1 : ¬ (n : Int) < 1 := by omega
  have a4 : ¬ 4 < (n : Int) := by omega
  have hsp : placeB n 1 0 n = true := by simp only [placeB, decide_eq_true_eq]; omega
  have HSP : Hid (placeB n 1 0 n = true) := hsp
  clear hsp
  go_enter Try.func8, Try.ntmps8
  go_wp2_with fail
  refine (places_any 1 _ (by omega) (by omega)).mono ?_
  rintro e w1 ⟨v, rfl, ho⟩
  have Y : Hid (Below w.heap.size w w1) := ho.2
  obtain ⟨g0, cap0, hv, _⟩ := ho.at (by rw [places_one_len]; omega)
  rw [places_one_len] at hv
  rw [hv]
  clear ho hv
  go_wp2_with fail
  refine (places_any n _ h1 h4).mono ?_
  rintro e w2 ⟨v2, rfl, ho⟩
  have Y2 : Hid (Below w.heap.size w w2) := B.next Y.out ho.2 Y.out.size
  obtain ⟨g, cap, hv, hat⟩ := ho.at (by rw [HLEN.out]; omega)
  rw [HLEN.out, HF.out] at hat
  rw [HLEN.out] at hv
  rw [hv]
  have HA : Hid (PlacesAt w2 g (4 * n - 2) f) := hat
  generalize hm : 4 * n - 2 = m at *
  have HM : Hid (4 * n - 2 = m) := hm
  have m1 : (m : Int) = 4 * (n : Int) - 2 := by omega
  have m2 : m ≤ 14 := by omega
  clear ho hv hat hm Y
  go_wp2_with fail
  refine (spare_any _ _).mono ?_
  rintro e w3 ⟨rfl, hb3⟩
  have T3 : Hid (TP w (w3.alloc (.cells #[.int .i64 n, .int .i64 1, .int .i64 0] 28)) g m w3.heap.size n f) := ⟨(HA.out.below hb3).below (B.new1 _ _), (B.next Y2.out hb3 Y2.out.size).alloc (by have := Y2.out.size; have := hb3.size; omega) _, by have := Y2.out.size; have := hb3.size; omega, by simp, B.row_new _ _ _⟩
  clear hb3 HA Y2
  go_wp2_with fail
  refine (checkPlace_any _ _ _ _ _).mono ?_
  rw [HSP.out, faultN_t, errV0]
  rintro e w4 ⟨rfl, hb4⟩
  have T4 : Hid (TP w w4 g m w3.heap.size n f) := T3.out.below hb4
  clear hb4 T3
  generalize w3.heap.size = N at *
  go_wp2_with fail
  go_loopg [5] m (fun q i wr => ∃ k : Nat, k + q = m ∧ i = .int .i64 k ∧ Hid (TP w wr g m N n f))
  case atStart => exact ⟨0, by omega, rfl, T4⟩
  case round =>
    obtain ⟨k, hk, rfl, TR⟩ := hrel
    have HK : Hid (k + gk = m) := hk
    clear T4
    by_cases hlt : k < m
    · clear hk
      obtain ⟨gp, gn, gd, gu⟩ := hG.out k hlt
      have HU : Hid _ := gu
      obtain ⟨⟨hg, hc⟩, _, _, hN, hs⟩ := TR.out
      obtain ⟨c0, c1, c2⟩ := hc k hlt
      have s0 : wr.cell? ⟨N, 0, none⟩ = some (.int .i64 n) := hs 0
      have s1 : wr.cell? ⟨N, 1, none⟩ = some (.int .i64 1) := hs 1
      have s2 : wr.cell? ⟨N, 2, none⟩ = some (.int .i64 0) := hs 2
      generalize hfk : f k = p at *
      have HFK : Hid (f k = p) := hfk
      have HGP : Hid (placeB p.1 p.2.1 p.2.2 n = true) := gp
      have HGN : Hid (¬ (p.1 = (n : Int) ∧ p.2.1 = 1)) := gn
      have HGD : Hid (p.2.2 = 1 - ((k % 2 : Nat) : Int)) := gd
      have i4 : (k : Int) < (m : Int) := by omega
      clear hfk gp gn gd gu hc hs
      go_upto_region 12 with fail
      go_cut [72] (fun s72 wx => s72 = .bool false ∧ Hid (TP w wx g m N n f))
      case first =>
        have hcase : ((p.1 == (n : Int)) = false) ∨ ((p.1 == (n : Int)) = true ∧ (p.2.1 == 1) = false) := by
          have := HGN.out
          by_cases h : p.1 = (n : Int)
          · right; exact ⟨by simpa using h, by simp; omega⟩
          · left; simpa using h
        rcases hcase with e0 | ⟨e0, e1⟩
        · skip
          go_region_held3 (fun wx => wx.cell? ⟨N, 0, none⟩ = some (.int .i64 n) ∧ wx.cell? ⟨N, 1, none⟩ = some (.int .i64 1) ∧ wx.cell? ⟨N, 2, none⟩ = some (.int .i64 0) ∧ wx.cell? ⟨g, k * 3, none⟩ = some (.int .i64 p.1) ∧ wx.cell? ⟨g, k * 3 + 1, none⟩ = some (.int .i64 p.2.1) ∧ wx.cell? ⟨g, k * 3 + 2, none⟩ = some (.int .i64 p.2.2)) (go_keep)
            (first
              | (go_at_call 22; refine (checkPlace_any _ _ _ _ _).mono ?_; rw [HGP.out, faultN_t, errV0]; rintro e wa ⟨rfl, hba⟩
                 have TA : Hid (TP w wa g m N n f) := TR.out.drew.below hba
                 obtain ⟨⟨_, ca⟩, _, _, _, sa⟩ := TA.out
                 obtain ⟨ca0, ca1, ca2⟩ := ca k hlt
                 rw [HFK.out] at ca0 ca1 ca2
                 have sa0 : wa.cell? ⟨N, 0, none⟩ = some (.int .i64 n) := sa 0
                 have sa1 : wa.cell? ⟨N, 1, none⟩ = some (.int .i64 1) := sa 1
                 have sa2 : wa.cell? ⟨N, 2, none⟩ = some (.int .i64 0) := sa 2
                 clear hba ca sa)
              | (go_at_call 26; refine (front_any _ _ _ _).mono ?_; rintro e wb ⟨rfl, hbb⟩
                 have TB : Hid (TP w wb g m N n f) := TA.out.below hbb
                 obtain ⟨⟨_, cb⟩, _, _, _, sb⟩ := TB.out
                 obtain ⟨cb0, cb1, cb2⟩ := cb k hlt
                 rw [HFK.out] at cb0 cb1 cb2
                 have sb0 : wb.cell? ⟨N, 0, none⟩ = some (.int .i64 n) := sb 0
                 have sb1 : wb.cell? ⟨N, 1, none⟩ = some (.int .i64 1) := sb 1
                 have sb2 : wb.cell? ⟨N, 2, none⟩ = some (.int .i64 0) := sb 2
                 clear hbb cb sb))
          go_wp2_with fail
          go_meet
          refine ⟨?_, TB⟩
          rw [depth_ok _ _ HGD.out]
        · skip
          go_region_held3 (fun wx => wx.cell? ⟨N, 0, none⟩ = some (.int .i64 n) ∧ wx.cell? ⟨N, 1, none⟩ = some (.int .i64 1) ∧ wx.cell? ⟨N, 2, none⟩ = some (.int .i64 0) ∧ wx.cell? ⟨g, k * 3, none⟩ = some (.int .i64 p.1) ∧ wx.cell? ⟨g, k * 3 + 1, none⟩ = some (.int .i64 p.2.1) ∧ wx.cell? ⟨g, k * 3 + 2, none⟩ = some (.int .i64 p.2.2)) (go_keep)
            (first
              | (go_at_call 22; refine (checkPlace_any _ _ _ _ _).mono ?_; rw [HGP.out, faultN_t, errV0]; rintro e wa ⟨rfl, hba⟩
                 have TA : Hid (TP w wa g m N n f) := TR.out.drew.below hba
                 obtain ⟨⟨_, ca⟩, _, _, _, sa⟩ := TA.out
                 obtain ⟨ca0, ca1, ca2⟩ := ca k hlt
                 rw [HFK.out] at ca0 ca1 ca2
                 have sa0 : wa.cell? ⟨N, 0, none⟩ = some (.int .i64 n) := sa 0
                 have sa1 : wa.cell? ⟨N, 1, none⟩ = some (.int .i64 1) := sa 1
                 have sa2 : wa.cell? ⟨N, 2, none⟩ = some (.int .i64 0) := sa 2
                 clear hba ca sa)
              | (go_at_call 26; refine (front_any _ _ _ _).mono ?_; rintro e wb ⟨rfl, hbb⟩
                 have TB : Hid (TP w wb g m N n f) := TA.out.below hbb
                 obtain ⟨⟨_, cb⟩, _, _, _, sb⟩ := TB.out
                 obtain ⟨cb0, cb1, cb2⟩ := cb k hlt
                 rw [HFK.out] at cb0 cb1 cb2
                 have sb0 : wb.cell? ⟨N, 0, none⟩ = some (.int .i64 n) := sb 0
                 have sb1 : wb.cell? ⟨N, 1, none⟩ = some (.int .i64 1) := sb 1
                 have sb2 : wb.cell? ⟨N, 2, none⟩ = some (.int .i64 0) := sb 2
                 clear hbb cb sb))
          go_wp2_with fail
          go_meet
          refine ⟨?_, TB⟩
          rw [depth_ok _ _ HGD.out]
      case rest =>
      obtain ⟨rfl, TX⟩ := hcut
      clear c0 c1 c2 s0 s1 s2 hg hN HGP HGN HGD TR
      go_wp2_with fail
      go_loopg [6] k (fun q i wr => ∃ j : Nat, j + q = k ∧ i = .int .i64 j ∧ Hid (TP w wr g m N n f))
      case atStart => exact ⟨0, by omega, rfl, TX⟩
      case round =>
        obtain ⟨j, hj, rfl, TI⟩ := hrel
        have HJ : Hid (j + gk = k) := hj
        by_cases hjk : j < k
        · clear hj TX
          have HD := HU.out j hjk
          obtain ⟨⟨hg, hc⟩, _, _, _, _⟩ := TI.out
          obtain ⟨c0, c1, c2⟩ := hc k hlt
          obtain ⟨b0, b1, b2⟩ := hc j (by omega)
          rw [HFK.out] at c0 c1 c2
          generalize f j = q at *
          have HDD : Hid _ := HD
          have i5 : (j : Int) < (m : Int) := by omega
          have i6 : (j : Int) < (k : Int) := by omega
          clear HD hc
          have hq : ((q.1 == p.1) = false) ∨ ((q.1 == p.1) = true ∧ (q.2.1 == p.2.1) = false) ∨ ((q.1 == p.1) = true ∧ (q.2.1 == p.2.1) = true ∧ (q.2.2 == p.2.2) = false) := by
            have := HDD.out
            by_cases h : q.1 = p.1
            · by_cases h' : q.2.1 = p.2.1
              · right; right; exact ⟨by simpa using h, by simpa using h', by simp only [beq_eq_false_iff_ne, ne_eq]; exact fun h2 => HDD.out ⟨h, h', h2⟩⟩
              · right; left; exact ⟨by simpa using h, by simpa using h'⟩
            · left; simpa using h
          rcases hq with e0 | ⟨e0, e1⟩ | ⟨e0, e1, e2⟩
          all_goals
            go_wp2_with fail
            go_quiet (fail)
            go_wp2_with fail
            go_roundg (gk - 1)
            case measure => have := HJ.out; omega
            case rel => exact ⟨j + 1, by have := HJ.out; omega, by go_num, TI.out.drewN _⟩
        · go_wp2
          go_roundg (m - (k + 1))
          case measure => have := HK.out; omega
          case rel => exact ⟨k + 1, by omega, by go_num, TI⟩
    · go_wp2
      go_returns
      exact ⟨rfl, TR.out.2.1⟩

theorem topPlaces_any (n : Int) (w : World) : Calls Try.prog 8 #[.int .i64 n] w fun e w' => e = .returned (.bool true) ∧ Below w.heap.size w w' := by
  by_cases h : n < 1 ∨ 4 < n
  · exact topPlaces_out n w h
  · obtain ⟨k, rfl⟩ := Int.eq_ofNat_of_zero_le (show 0 ≤ n from by omega)
    exact topPlaces_in k w (by omega) (by omega)

/-- The statement: for every input 'TopPlaces' answers true. -/
theorem topPlaces_holds : Rows.TopPlacesSaid :=
  OpenClaim.holds_of_wide 8 Try.f8 rfl rfl rfl rfl rfl rfl rfl ⟨rfl, rfl, rfl, rfl, rfl⟩ rfl rfl rfl rfl rfl (by kernel_rfl) Try.func8 (by kernel_rfl)
    (of_decide_eq_true (by kernel_rfl)) (by unfold Func.isWrapper; first | (rw [if_pos (by decide +kernel)]; kernel_rfl) | (rw [if_neg (by decide +kernel)]; exact ⟨rfl, rfl⟩))
    (fun os started H enc _ => law_lifted (s := Rows.topPlacesSpec) os started H enc (by kernel_rfl) Try.func8
      (ChangeSpec.witness6 (enc := enc) (C := Try.checked) false ⟨#[], #[.int .i64 0], []⟩ 8 (by kernel_rfl) (by kernel_rfl) (by kernel_rfl) (by kernel_rfl))
      (by kernel_rfl) (by kernel_rfl) rfl
      (fun ds h => by
        match ds, h with
        | [d1], _ => rfl)
      (fun W base args ds p hval hsz hA hlt => by
        rw [Try.params8] at hval hA
        obtain ⟨a, rfl⟩ := array_args1 (hsz.trans (by rw [Try.params8]; rfl))
        obtain ⟨n, rfl, _⟩ := val_int Try.underlying3 (hval 0 3 a rfl rfl)
        exact topPlaces_any n W))

end Go.Proofs.Yticjjnmmedmbiaa
