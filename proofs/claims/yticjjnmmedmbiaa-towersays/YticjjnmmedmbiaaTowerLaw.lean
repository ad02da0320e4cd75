/- Chapter 1, the statement 'TowerSays': for all levels, cars and places, what may be, and fits, is what the document says (A1 to A3); no condition. -/
import Derived.Test.YticjjnmmedmbiaaTowerA
namespace Go.Proofs.Yticjjnmmedmbiaa
open Go.ChangeShapes Go.WideShapes Go.ChangeAt Go.RowKit
set_option maxRecDepth 100000
set_option linter.unusedSimpArgs false
set_option linter.unusedVariables false

theorem faultN_nonneg (q : Bool) : 0 ≤ faultN q := by cases q <;> decide
theorem carN_nonneg (i x y z : Int) : 0 ≤ carN i x y z := faultN_nonneg _
theorem same_any' (n : Int) (w : World) (hn : 0 ≤ n) : Calls Try.prog 15 #[errV n, .int .i64 n] w fun e w' => e = .returned (.bool true) ∧ w = w' :=
  (same_any n w hn).mono fun e w' h => ⟨h.1, h.2.symm⟩

/-- The car and the place that were boxed first, and what lies below. -/
def TS (w wx : World) (i a b c x y z : Int) : Prop :=
  Below w.heap.size w wx ∧ w.heap.size + 2 ≤ wx.heap.size ∧ (∀ o, wx.cell? ⟨w.heap.size, o, none⟩ = (#[.int .i64 i, .int .i64 a, .int .i64 b, .int .i64 c] : Array Value)[o]?) ∧ (∀ o, wx.cell? ⟨w.heap.size + 1, o, none⟩ = (#[.int .i64 x, .int .i64 y, .int .i64 z] : Array Value)[o]?)
theorem TS.next {w wx wy : World} {i a b c x y z : Int} (h : TS w wx i a b c x y z) (hb : Below wx.heap.size wx wy) : TS w wy i a b c x y z := by
  obtain ⟨h0, h1, h2, h3⟩ := h
  have hz := hb.size
  exact ⟨B.next h0 hb (by omega), by omega, B.row hb h2 (by omega), B.row hb h3 (by omega)⟩
theorem TS.drew {w wx : World} {i a b c x y z : Int} (h : TS w wx i a b c x y z) : TS w wx.drew i a b c x y z :=
  h.next ⟨rfl, rfl, rfl, Nat.le_refl _, fun _ _ => rfl⟩
theorem TS.start (w : World) (i a b c x y z : Int) : TS w ((w.alloc (.cells #[.int .i64 i, .int .i64 a, .int .i64 b, .int .i64 c] 26)).alloc (.cells #[.int .i64 x, .int .i64 y, .int .i64 z] 28)) i a b c x y z := by
  have e1 := B.row_new (w.alloc (.cells #[.int .i64 i, .int .i64 a, .int .i64 b, .int .i64 c] 26)) #[.int .i64 x, .int .i64 y, .int .i64 z] 28
  rw [show (w.alloc (.cells #[.int .i64 i, .int .i64 a, .int .i64 b, .int .i64 c] 26)).heap.size = w.heap.size + 1 from by simp] at e1
  exact ⟨(B.new1 _ _).trans ((B.new1 _ _).mono (by simp)), by simp, B.row_old _ (B.row_new w _ _) (by simp), e1⟩
/-- The seven cells, one by one. -/
def TC (w wx : World) (i a b c x y z : Int) : Prop :=
  wx.cell? ⟨w.heap.size, 0, none⟩ = some (.int .i64 i) ∧ wx.cell? ⟨w.heap.size, 1, none⟩ = some (.int .i64 a) ∧ wx.cell? ⟨w.heap.size, 2, none⟩ = some (.int .i64 b) ∧ wx.cell? ⟨w.heap.size, 3, none⟩ = some (.int .i64 c) ∧
    wx.cell? ⟨w.heap.size + 1, 0, none⟩ = some (.int .i64 x) ∧ wx.cell? ⟨w.heap.size + 1, 1, none⟩ = some (.int .i64 y) ∧ wx.cell? ⟨w.heap.size + 1, 2, none⟩ = some (.int .i64 z)
theorem TS.cells {w wx : World} {i a b c x y z : Int} (h : TS w wx i a b c x y z) : TC w wx i a b c x y z := by
  obtain ⟨_, _, h2, h3⟩ := h
  exact ⟨h2 0, h2 1, h2 2, h2 3, h3 0, h3 1, h3 2⟩

set_option maxHeartbeats 400000 in
theorem towerSays_long (i a b c x y z lv : Int) (s : Option Addr) (len cap : Nat) (w : World) (hl : 10 < (len : Int)) :
    Calls Try.prog 3 #[.slice s len cap, .agg #[.int .i64 i, .int .i64 a, .int .i64 b, .int .i64 c], .agg #[.int .i64 x, .int .i64 y, .int .i64 z], .int .i64 lv] w fun e w' => e = .returned (.bool true) ∧ Below w.heap.size w w' := by
  have F0 : Hid (TS w ((w.alloc (.cells #[.int .i64 i, .int .i64 a, .int .i64 b, .int .i64 c] 26)).alloc (.cells #[.int .i64 x, .int .i64 y, .int .i64 z] 28)) i a b c x y z) := TS.start w i a b c x y z
  go_enter Try.func3, Try.ntmps3
  go_wp2_with fail
  refine (towers_any _).mono ?_
  rintro e w1 ⟨rfl, hb1⟩
  go_wp2
  go_returns
  exact ⟨rfl, (F0.out.next hb1).1⟩

set_option maxHeartbeats 8000000 in
theorem towerSays_z (i a b c x y z lv : Int) (s : Option Addr) (cap : Nat) (f : Nat → Int × Int × Int) (w : World) (hs : SizesAt w (.slice s 0 cap) 0 f) :
    Calls Try.prog 3 #[.slice s 0 cap, .agg #[.int .i64 i, .int .i64 a, .int .i64 b, .int .i64 c], .agg #[.int .i64 x, .int .i64 y, .int .i64 z], .int .i64 lv] w fun e w' => e = .returned (.bool true) ∧ Below w.heap.size w w' := by
  have F0 : Hid (TS w ((w.alloc (.cells #[.int .i64 i, .int .i64 a, .int .i64 b, .int .i64 c] 26)).alloc (.cells #[.int .i64 x, .int .i64 y, .int .i64 z] 28)) i a b c x y z) := TS.start w i a b c x y z
  have HS : Hid (SizesAt w (.slice s 0 cap) 0 f) := hs
  go_enter Try.func3, Try.ntmps3
  go_wp2_with fail
  refine (towers_any _).mono ?_
  rintro e w1 ⟨rfl, hb1⟩
  have F1 : Hid (TS w w1 i a b c x y z) := F0.out.next hb1
  obtain ⟨k0, k1, k2, k3, k4, k5, k6⟩ := F1.out.cells
  clear hb1 F0
  go_upto_region 4 with fail
  go_cut [54] (fun s54 wx => s54 = .bool false ∧ Hid (TS w wx i a b c x y z))
  case first =>
    go_region_held3 (fun wx => wx.cell? ⟨w.heap.size, 0, none⟩ = some (.int .i64 i) ∧ wx.cell? ⟨w.heap.size, 1, none⟩ = some (.int .i64 a) ∧ wx.cell? ⟨w.heap.size, 2, none⟩ = some (.int .i64 b) ∧ wx.cell? ⟨w.heap.size, 3, none⟩ = some (.int .i64 c) ∧ wx.cell? ⟨w.heap.size + 1, 0, none⟩ = some (.int .i64 x) ∧ wx.cell? ⟨w.heap.size + 1, 1, none⟩ = some (.int .i64 y) ∧ wx.cell? ⟨w.heap.size + 1, 2, none⟩ = some (.int .i64 z)) (go_keep)
     (first
      | (go_at_call 16; refine (checkSize_any _ _ _ _).mono ?_; rintro e wa ⟨rfl, hba⟩
         have Ta : Hid (TS w wa i a b c x y z) := F1.out.drew.next hba
         obtain ⟨ka0, ka1, ka2, ka3, ka4, ka5, ka6⟩ := Ta.out.cells
         clear hba)
      | (go_at_call 17; refine (rsize_any _ _ _ _).mono ?_; rintro e wb ⟨rfl, hbb⟩
         have Tb : Hid (TS w wb i a b c x y z) := Ta.out.next hbb
         obtain ⟨kb0, kb1, kb2, kb3, kb4, kb5, kb6⟩ := Tb.out.cells
         clear hbb)
      | (go_at_call_of 15 (errV (faultN (sizeB a b c))); refine (same_any' _ _ (faultN_nonneg _)).mono ?_; rintro e wx ⟨rfl, hwx⟩; subst hwx)
      | (go_at_call_of 15 (errV (carN i a b c)); refine (same_any' _ _ (carN_nonneg _ _ _ _)).mono ?_; rintro e wx ⟨rfl, hwx⟩; subst hwx)
      | (go_at_call_of 15 (errV (levelsN 0 f)); refine (same_any' _ _ (levelsN_nonneg _ _)).mono ?_; rintro e wx ⟨rfl, hwx⟩; subst hwx)
      | (go_at_call_of 15 (errV (faultN (placeB x y z lv))); refine (same_any' _ _ (faultN_nonneg _)).mono ?_; rintro e wx ⟨rfl, hwx⟩; subst hwx)
      | (go_at_call 18; refine (checkCar_any _ _ _ _ _).mono ?_; rintro e wc ⟨rfl, hbc⟩
         have Tc : Hid (TS w wc i a b c x y z) := Tb.out.next hbc
         obtain ⟨kc0, kc1, kc2, kc3, kc4, kc5, kc6⟩ := Tc.out.cells
         clear hbc)
      | (go_at_call 19; refine (rcar_any _ _ _ _ _).mono ?_; rintro e wd ⟨rfl, hbd⟩
         have Td : Hid (TS w wd i a b c x y z) := Tc.out.next hbd
         obtain ⟨kd0, kd1, kd2, kd3, kd4, kd5, kd6⟩ := Td.out.cells
         clear hbd)
      | (go_at_call 20; refine (check_any _ 0 f _ (HS.out.below Td.out.1)).mono ?_; rintro e we ⟨rfl, hbe⟩
         have Te : Hid (TS w we i a b c x y z) := Td.out.next hbe
         obtain ⟨ke0, ke1, ke2, ke3, ke4, ke5, ke6⟩ := Te.out.cells
         clear hbe)
      | (go_at_call 21; refine (rlevels_any _ 0 f _ (HS.out.below Te.out.1)).mono ?_; rintro e wf ⟨rfl, hbf⟩
         have Tf : Hid (TS w wf i a b c x y z) := Te.out.next hbf
         obtain ⟨kf0, kf1, kf2, kf3, kf4, kf5, kf6⟩ := Tf.out.cells
         clear hbf)
      | (go_at_call 22; refine (checkPlace_any _ _ _ _ _).mono ?_; rintro e wg ⟨rfl, hbg⟩
         have Tg : Hid (TS w wg i a b c x y z) := Tf.out.next hbg
         obtain ⟨kg0, kg1, kg2, kg3, kg4, kg5, kg6⟩ := Tg.out.cells
         clear hbg)
      | (go_at_call 23; refine (rplace_any _ _ _ _ _).mono ?_; rintro e wh ⟨rfl, hbh⟩
         have Th : Hid (TS w wh i a b c x y z) := Tg.out.next hbh
         obtain ⟨kh0, kh1, kh2, kh3, kh4, kh5, kh6⟩ := Th.out.cells
         clear hbh)
     )
    go_wp2_with fail
    go_meet
    exact ⟨rfl, Th⟩
  case rest =>
  obtain ⟨rfl, FC⟩ := hcut
  clear k0 k1 k2 k3 k4 k5 k6 F1
  go_wp2_with fail
  go_loopg [10] 0 (fun q j wr => ∃ k : Nat, k + q = 0 ∧ j = .int .i64 k ∧ Hid (TS w wr i a b c x y z))
  case atStart => exact ⟨0, by omega, rfl, FC⟩
  case round =>
    obtain ⟨k, hk, rfl, FR⟩ := hrel
    clear FC
    by_cases hlt : k < 0
    · omega
    · obtain ⟨hBr, zr, _, _⟩ := FR.out
      obtain ⟨k0, k1, k2, k3, k4, k5, k6⟩ := FR.out.cells
      have FN : Hid (TS w (wr.alloc (.cells #[.int .i64 x, .int .i64 y, .int .i64 0] 28)) i a b c x y z) := FR.out.next (B.new1 _ _)
      have hfr := B.row_new wr #[.int .i64 x, .int .i64 y, .int .i64 0] 28
      obtain ⟨n0, n1, n2, n3, n4, n5, n6⟩ := FN.out.cells
      clear hk
      go_upto_region 13 with fail
      go_cut [81] (fun s81 wx => s81 = .bool false ∧ Hid (TS w wx i a b c x y z))
      case first =>
        go_region_held3 (fun wx => wx.cell? ⟨w.heap.size + 1, 0, none⟩ = some (.int .i64 x) ∧ wx.cell? ⟨w.heap.size + 1, 1, none⟩ = some (.int .i64 y) ∧ wx.cell? ⟨w.heap.size + 1, 2, none⟩ = some (.int .i64 z) ∧ wx.cell? ⟨wr.heap.size, 0, none⟩ = some (.int .i64 x) ∧ wx.cell? ⟨wr.heap.size, 1, none⟩ = some (.int .i64 y) ∧ wx.cell? ⟨wr.heap.size, 2, none⟩ = some (.int .i64 0)) (go_keep)
         (first
          | (go_at_call 26; refine (front_any _ _ _ _).mono ?_; rintro e wp ⟨rfl, hbp⟩
             have TP1 : Hid (TS w wp i a b c x y z) := FN.out.drew.next hbp
             obtain ⟨kp0, kp1, kp2, kp3, kp4, kp5, kp6⟩ := TP1.out.cells
             have hfp := B.row hbp (b := wr.heap.size) (C := #[.int .i64 x, .int .i64 y, .int .i64 0]) hfr (by simp)
             clear hbp)
         )
        go_wp2_with fail
        go_meet
        exact ⟨by simp, TP1⟩
      case rest =>
      obtain ⟨rfl, FX⟩ := hcut
      clear hBr zr k0 k1 k2 k3 k4 k5 k6 n0 n1 n2 n3 n4 n5 n6 hfr FN FR
      go_upto_region 15 with fail
      go_cut [102] (fun s102 wx => s102 = .bool false ∧ Hid (TS w wx i a b c x y z))
      case first =>
        by_cases g1 : lv < 1
        · have g1' : ¬ 1 ≤ lv := by omega
          have g1'' : decide (1 ≤ lv) = false := by simpa using g1'
          go_wp2_with fail
          go_meet
          exact ⟨rfl, FX⟩
        by_cases g4 : 4 < lv
        · have g1' : 1 ≤ lv := by omega
          have g4' : decide (lv ≤ 4) = false := by simp; omega
          go_wp2_with fail
          go_meet
          exact ⟨rfl, FX⟩
        · obtain ⟨n, rfl⟩ := Int.eq_ofNat_of_zero_le (show 0 ≤ lv from by omega)
          have g1' : (1 : Int) ≤ (n : Int) := by omega
          have g4' : (n : Int) ≤ 4 := by omega
          have HN : Hid (1 ≤ n ∧ n ≤ 4) := ⟨by omega, by omega⟩
          go_wp2_with fail
          refine (spare_any _ _).mono ?_
          rintro e wa ⟨rfl, hba⟩
          have FA : Hid (TS w wa i a b c x y z) := FX.out.next hba
          clear hba
          go_wp2_with fail
          refine (rspare_any _ _).mono ?_
          rintro e wb ⟨rfl, hb2⟩
          have FB : Hid (TS w wb i a b c x y z) := FA.out.next hb2
          clear hb2
          go_wp2_with fail
          refine (places_any n _ HN.out.1 HN.out.2).mono ?_
          rintro e wd ⟨v1, rfl, ho1⟩
          have FD : Hid (TS w wd i a b c x y z) := FB.out.next ho1.2
          have hlen := places_len n HN.out.1 HN.out.2
          obtain ⟨q1, cap1, hv1, hat1⟩ := ho1.at (by omega)
          rw [hlen] at hv1 hat1
          rw [hv1]
          have HA1 : Hid (PlacesAt wd q1 (4 * n - 2) (fun k => (placesTo n (2 * n)).getD k (0, 0, 0))) := hat1
          have HLEN : Hid ((placesTo n (2 * n)).length = 4 * n - 2) := hlen
          clear ho1 hv1 hat1 hlen
          go_wp2_with fail
          refine (rplaces_any n _ HN.out.1 HN.out.2).mono ?_
          rintro e we ⟨v2, rfl, ho2⟩
          have FE : Hid (TS w we i a b c x y z) := FD.out.next ho2.2
          obtain ⟨q2, cap2, hv2, hat2⟩ := ho2.at (by have := HLEN.out; have := HN.out; omega)
          rw [HLEN.out] at hv2 hat2
          rw [hv2]
          have HA2 : Hid (PlacesAt we q2 (4 * n - 2) (fun k => (placesTo n (2 * n)).getD k (0, 0, 0))) := hat2
          have HA1' : Hid (PlacesAt we q1 (4 * n - 2) (fun k => (placesTo n (2 * n)).getD k (0, 0, 0))) := HA1.out.below ho2.2
          clear ho2 hv2 hat2 HA1
          go_wp2_with fail
          refine (samePlaces_core _ _ _ _ (4 * n - 2) _ _ (by have := HN.out; omega) HA1'.out HA2.out).mono ?_
          rintro e wf ⟨rfl, hbf⟩
          have FF : Hid (TS w wf i a b c x y z) := FE.out.next hbf
          clear hbf
          go_wp2_with fail
          go_meet
          exact ⟨rfl, FF⟩
      case rest =>
      obtain ⟨rfl, FY⟩ := hcut
      clear FX
      obtain ⟨k0, k1, k2, k3, k4, k5, k6⟩ := FY.out.cells
      go_upto_region 17 with fail
      cases hp : placeB x y z 4
      · have HP : Hid (placeB x y z 4 = false) := hp
        clear hp
        go_region_with (go_at_call 23; refine (rplace_any _ _ _ _ _).mono ?_; rw [HP.out, faultN_f]; rintro e wa ⟨rfl, hba⟩; simp only []; refine ‹∀ (a : Act) (w : World), wpAny _ _ _ _ _ _ a w → _› _ _ ?_; refine wpAny_take (i := 2) (v := .bool true) rfl (by kernel_rfl) (by kernel_rfl) (by kernel_rfl) (fun _ _ _ h => h) (Or.inl ⟨by kernel_rfl, fun _ => by kernel_rfl⟩) ?_; refine wpAny_take (i := 3) (v := .bool true) rfl (by kernel_rfl) (by kernel_rfl) (by kernel_rfl) (fun _ _ _ h => h) (Or.inl ⟨by kernel_rfl, fun _ => by kernel_rfl⟩) ?_; refine wpAny_take (i := 4) (v := undef) rfl (by kernel_rfl) (by kernel_rfl) (by kernel_rfl) (fun _ _ _ h => h) (Or.inr ⟨by kernel_rfl, rfl⟩) ?_; refine wpAny_take (i := 5) (v := undef) rfl (by kernel_rfl) (by kernel_rfl) (by kernel_rfl) (fun _ _ _ h => h) (Or.inr ⟨by kernel_rfl, rfl⟩) ?_; refine wpAny_take (i := 6) (v := undef) rfl (by kernel_rfl) (by kernel_rfl) (by kernel_rfl) (fun _ _ _ h => h) (Or.inr ⟨by kernel_rfl, rfl⟩) ?_; refine wpAny_take (i := 7) (v := undef) rfl (by kernel_rfl) (by kernel_rfl) (by kernel_rfl) (fun _ _ _ h => h) (Or.inr ⟨by kernel_rfl, rfl⟩) ?_; refine wpAny_take (i := 8) (v := undef) rfl (by kernel_rfl) (by kernel_rfl) (by kernel_rfl) (fun _ _ _ h => h) (Or.inr ⟨by kernel_rfl, rfl⟩) ?_; simp only [Act.put, List.getElem_toArray, List.getElem_cons_zero, List.getElem_cons_succ, List.setIfInBounds_toArray, List.set_cons_zero, List.set_cons_succ])
        all_goals
          go_wp2
          go_returns
          exact ⟨rfl, (FY.out.drew.next hba).1⟩
      · have HP : Hid (placeB x y z 4 = true) := hp
        simp only [placeB, decide_eq_true_eq] at hp
        obtain ⟨_, _, _, _, hz0, hz1⟩ := hp
        go_region_held3 (fun wx => wx.cell? ⟨w.heap.size, 0, none⟩ = some (.int .i64 i) ∧ wx.cell? ⟨w.heap.size, 1, none⟩ = some (.int .i64 a) ∧ wx.cell? ⟨w.heap.size, 2, none⟩ = some (.int .i64 b) ∧ wx.cell? ⟨w.heap.size, 3, none⟩ = some (.int .i64 c) ∧ wx.cell? ⟨w.heap.size + 1, 0, none⟩ = some (.int .i64 x) ∧ wx.cell? ⟨w.heap.size + 1, 1, none⟩ = some (.int .i64 y) ∧ wx.cell? ⟨w.heap.size + 1, 2, none⟩ = some (.int .i64 z)) (go_keep)
         (first
          | (go_at_call 23; refine (rplace_any _ _ _ _ _).mono ?_; rw [HP.out, faultN_t]; rintro e wa ⟨rfl, hba⟩
             have TQ1 : Hid (TS w wa i a b c x y z) := FY.out.drew.next hba
             obtain ⟨ka0, ka1, ka2, ka3, ka4, ka5, ka6⟩ := TQ1.out.cells
             clear hba)
          | (go_at_call 32; refine (ext_any _ _ _ _ hz0 hz1).mono ?_; rintro e wb ⟨rfl, hb2⟩
             have TQ2 : Hid (TS w wb i a b c x y z) := TQ1.out.next hb2
             obtain ⟨kb0, kb1, kb2, kb3, kb4, kb5, kb6⟩ := TQ2.out.cells
             clear hb2)
          | (go_at_call 33; refine (rext_any _ _ _ _ hz0 hz1).mono ?_; rintro e wd ⟨rfl, hb3⟩
             have TQ3 : Hid (TS w wd i a b c x y z) := TQ2.out.next hb3
             obtain ⟨kd0, kd1, kd2, kd3, kd4, kd5, kd6⟩ := TQ3.out.cells
             clear hb3)
         )
        go_wp2
        go_returns
        exact ⟨B.ret_bool (by simp), TQ3.out.1⟩

set_option maxHeartbeats 8000000 in
theorem towerSays_p (i a b c x y z lv : Int) (b0 off len cap : Nat) (f : Nat → Int × Int × Int) (w : World) (h0 : 1 ≤ len) (hl : ¬ 10 < (len : Int)) (hs : SizesAt w (.slice (some ⟨b0, off, none⟩) len cap) len f) (hbb : b0 < w.heap.size) (hcc : ∀ i, i < len → w.cell? ⟨b0, off + i * 3, none⟩ = some (.int .i64 (f i).1) ∧ w.cell? ⟨b0, off + i * 3 + 1, none⟩ = some (.int .i64 (f i).2.1) ∧ w.cell? ⟨b0, off + i * 3 + 2, none⟩ = some (.int .i64 (f i).2.2)) :
    Calls Try.prog 3 #[.slice (some ⟨b0, off, none⟩) len cap, .agg #[.int .i64 i, .int .i64 a, .int .i64 b, .int .i64 c], .agg #[.int .i64 x, .int .i64 y, .int .i64 z], .int .i64 lv] w fun e w' => e = .returned (.bool true) ∧ Below w.heap.size w w' := by
  have F0 : Hid (TS w ((w.alloc (.cells #[.int .i64 i, .int .i64 a, .int .i64 b, .int .i64 c] 26)).alloc (.cells #[.int .i64 x, .int .i64 y, .int .i64 z] 28)) i a b c x y z) := TS.start w i a b c x y z
  have HS : Hid (SizesAt w (.slice (some ⟨b0, off, none⟩) len cap) len f) := hs
  have HC : Hid _ := hcc
  clear hcc
  go_enter Try.func3, Try.ntmps3
  go_wp2_with fail
  refine (towers_any _).mono ?_
  rintro e w1 ⟨rfl, hb1⟩
  have F1 : Hid (TS w w1 i a b c x y z) := F0.out.next hb1
  obtain ⟨k0, k1, k2, k3, k4, k5, k6⟩ := F1.out.cells
  clear hb1 F0
  go_upto_region 4 with fail
  go_cut [54] (fun s54 wx => s54 = .bool false ∧ Hid (TS w wx i a b c x y z))
  case first =>
    go_region_held3 (fun wx => wx.cell? ⟨w.heap.size, 0, none⟩ = some (.int .i64 i) ∧ wx.cell? ⟨w.heap.size, 1, none⟩ = some (.int .i64 a) ∧ wx.cell? ⟨w.heap.size, 2, none⟩ = some (.int .i64 b) ∧ wx.cell? ⟨w.heap.size, 3, none⟩ = some (.int .i64 c) ∧ wx.cell? ⟨w.heap.size + 1, 0, none⟩ = some (.int .i64 x) ∧ wx.cell? ⟨w.heap.size + 1, 1, none⟩ = some (.int .i64 y) ∧ wx.cell? ⟨w.heap.size + 1, 2, none⟩ = some (.int .i64 z)) (go_keep)
     (first
      | (go_at_call 16; refine (checkSize_any _ _ _ _).mono ?_; rintro e wa ⟨rfl, hba⟩
         have Ta : Hid (TS w wa i a b c x y z) := F1.out.drew.next hba
         obtain ⟨ka0, ka1, ka2, ka3, ka4, ka5, ka6⟩ := Ta.out.cells
         clear hba)
      | (go_at_call 17; refine (rsize_any _ _ _ _).mono ?_; rintro e wb ⟨rfl, hbb⟩
         have Tb : Hid (TS w wb i a b c x y z) := Ta.out.next hbb
         obtain ⟨kb0, kb1, kb2, kb3, kb4, kb5, kb6⟩ := Tb.out.cells
         clear hbb)
      | (go_at_call_of 15 (errV (faultN (sizeB a b c))); refine (same_any' _ _ (faultN_nonneg _)).mono ?_; rintro e wx ⟨rfl, hwx⟩; subst hwx)
      | (go_at_call_of 15 (errV (carN i a b c)); refine (same_any' _ _ (carN_nonneg _ _ _ _)).mono ?_; rintro e wx ⟨rfl, hwx⟩; subst hwx)
      | (go_at_call_of 15 (errV (levelsN len f)); refine (same_any' _ _ (levelsN_nonneg _ _)).mono ?_; rintro e wx ⟨rfl, hwx⟩; subst hwx)
      | (go_at_call_of 15 (errV (faultN (placeB x y z lv))); refine (same_any' _ _ (faultN_nonneg _)).mono ?_; rintro e wx ⟨rfl, hwx⟩; subst hwx)
      | (go_at_call 18; refine (checkCar_any _ _ _ _ _).mono ?_; rintro e wc ⟨rfl, hbc⟩
         have Tc : Hid (TS w wc i a b c x y z) := Tb.out.next hbc
         obtain ⟨kc0, kc1, kc2, kc3, kc4, kc5, kc6⟩ := Tc.out.cells
         clear hbc)
      | (go_at_call 19; refine (rcar_any _ _ _ _ _).mono ?_; rintro e wd ⟨rfl, hbd⟩
         have Td : Hid (TS w wd i a b c x y z) := Tc.out.next hbd
         obtain ⟨kd0, kd1, kd2, kd3, kd4, kd5, kd6⟩ := Td.out.cells
         clear hbd)
      | (go_at_call 20; refine (check_any _ len f _ (HS.out.below Td.out.1)).mono ?_; rintro e we ⟨rfl, hbe⟩
         have Te : Hid (TS w we i a b c x y z) := Td.out.next hbe
         obtain ⟨ke0, ke1, ke2, ke3, ke4, ke5, ke6⟩ := Te.out.cells
         clear hbe)
      | (go_at_call 21; refine (rlevels_any _ len f _ (HS.out.below Te.out.1)).mono ?_; rintro e wf ⟨rfl, hbf⟩
         have Tf : Hid (TS w wf i a b c x y z) := Te.out.next hbf
         obtain ⟨kf0, kf1, kf2, kf3, kf4, kf5, kf6⟩ := Tf.out.cells
         clear hbf)
      | (go_at_call 22; refine (checkPlace_any _ _ _ _ _).mono ?_; rintro e wg ⟨rfl, hbg⟩
         have Tg : Hid (TS w wg i a b c x y z) := Tf.out.next hbg
         obtain ⟨kg0, kg1, kg2, kg3, kg4, kg5, kg6⟩ := Tg.out.cells
         clear hbg)
      | (go_at_call 23; refine (rplace_any _ _ _ _ _).mono ?_; rintro e wh ⟨rfl, hbh⟩
         have Th : Hid (TS w wh i a b c x y z) := Tg.out.next hbh
         obtain ⟨kh0, kh1, kh2, kh3, kh4, kh5, kh6⟩ := Th.out.cells
         clear hbh)
     )
    go_wp2_with fail
    go_meet
    exact ⟨rfl, Th⟩
  case rest =>
  obtain ⟨rfl, FC⟩ := hcut
  clear k0 k1 k2 k3 k4 k5 k6 F1
  go_wp2_with fail
  go_loopg [10] len (fun q j wr => ∃ k : Nat, k + q = len ∧ j = .int .i64 k ∧ Hid (TS w wr i a b c x y z))
  case atStart => exact ⟨0, by omega, rfl, FC⟩
  case round =>
    obtain ⟨k, hk, rfl, FR⟩ := hrel
    clear FC
    by_cases hlt : k < len
    · obtain ⟨hB, zr, _, _⟩ := FR.out
      obtain ⟨p0, p1, p2⟩ := HC.out k hlt
      rw [← hB.cell (p := ⟨b0, _, none⟩) hbb] at p0 p1 p2
      obtain ⟨k0, k1, k2, k3, k4, k5, k6⟩ := FR.out.cells
      generalize hfk : f k = sz at *
      have HFK : Hid (f k = sz) := hfk
      have i4 : (k : Int) < (len : Int) := by omega
      have HKK : Hid (k + gk = len) := hk
      clear hfk hk
      go_upto_region 9 with fail
      go_cut [75] (fun s75 wx => s75 = .bool false ∧ Hid (TS w wx i a b c x y z))
      case first =>
        go_region_held3 (fun wx => wx.cell? ⟨w.heap.size, 1, none⟩ = some (.int .i64 a) ∧ wx.cell? ⟨w.heap.size, 2, none⟩ = some (.int .i64 b) ∧ wx.cell? ⟨w.heap.size, 3, none⟩ = some (.int .i64 c) ∧ wx.cell? ⟨b0, off + k * 3, none⟩ = some (.int .i64 sz.1) ∧ wx.cell? ⟨b0, off + k * 3 + 1, none⟩ = some (.int .i64 sz.2.1) ∧ wx.cell? ⟨b0, off + k * 3 + 2, none⟩ = some (.int .i64 sz.2.2)) (go_keep)
         (first
          | (go_at_call 24; refine (fits_any _ _ _ _ _ _ _).mono ?_; rintro e wp ⟨rfl, hbp⟩
             have TP1 : Hid (TS w wp i a b c x y z) := FR.out.drew.next hbp
             obtain ⟨kp0, kp1, kp2, kp3, kp4, kp5, kp6⟩ := TP1.out.cells
             obtain ⟨pp0, pp1, pp2⟩ := HC.out k hlt
             rw [← TP1.out.1.cell (p := ⟨b0, _, none⟩) hbb, HFK.out] at pp0 pp1 pp2
             clear hbp)
          | (go_at_call 25; refine (rfits_any _ _ _ _ _ _ _).mono ?_; rintro e wq ⟨rfl, hbq⟩
             have TP2 : Hid (TS w wq i a b c x y z) := TP1.out.next hbq
             obtain ⟨kq0, kq1, kq2, kq3, kq4, kq5, kq6⟩ := TP2.out.cells
             obtain ⟨pq0, pq1, pq2⟩ := HC.out k hlt
             rw [← TP2.out.1.cell (p := ⟨b0, _, none⟩) hbb, HFK.out] at pq0 pq1 pq2
             clear hbq)
         )
        go_wp2_with fail
        go_meet
        exact ⟨by simp, TP2⟩
      case rest =>
      obtain ⟨rfl, FX⟩ := hcut
      clear hB zr p0 p1 p2 k0 k1 k2 k3 k4 k5 k6
      go_wp2_with fail
      go_roundg (gk - 1)
      case measure => have := HKK.out; omega
      case rel => exact ⟨k + 1, by have := HKK.out; omega, by go_num, FX⟩
    · obtain ⟨hBr, zr, _, _⟩ := FR.out
      obtain ⟨k0, k1, k2, k3, k4, k5, k6⟩ := FR.out.cells
      have FN : Hid (TS w (wr.alloc (.cells #[.int .i64 x, .int .i64 y, .int .i64 0] 28)) i a b c x y z) := FR.out.next (B.new1 _ _)
      have hfr := B.row_new wr #[.int .i64 x, .int .i64 y, .int .i64 0] 28
      obtain ⟨n0, n1, n2, n3, n4, n5, n6⟩ := FN.out.cells
      clear hk
      go_upto_region 13 with fail
      go_cut [81] (fun s81 wx => s81 = .bool false ∧ Hid (TS w wx i a b c x y z))
      case first =>
        go_region_held3 (fun wx => wx.cell? ⟨w.heap.size + 1, 0, none⟩ = some (.int .i64 x) ∧ wx.cell? ⟨w.heap.size + 1, 1, none⟩ = some (.int .i64 y) ∧ wx.cell? ⟨w.heap.size + 1, 2, none⟩ = some (.int .i64 z) ∧ wx.cell? ⟨wr.heap.size, 0, none⟩ = some (.int .i64 x) ∧ wx.cell? ⟨wr.heap.size, 1, none⟩ = some (.int .i64 y) ∧ wx.cell? ⟨wr.heap.size, 2, none⟩ = some (.int .i64 0)) (go_keep)
         (first
          | (go_at_call 26; refine (front_any _ _ _ _).mono ?_; rintro e wp ⟨rfl, hbp⟩
             have TP1 : Hid (TS w wp i a b c x y z) := FN.out.drew.next hbp
             obtain ⟨kp0, kp1, kp2, kp3, kp4, kp5, kp6⟩ := TP1.out.cells
             have hfp := B.row hbp (b := wr.heap.size) (C := #[.int .i64 x, .int .i64 y, .int .i64 0]) hfr (by simp)
             clear hbp)
         )
        go_wp2_with fail
        go_meet
        exact ⟨by simp, TP1⟩
      case rest =>
      obtain ⟨rfl, FX⟩ := hcut
      clear hBr zr k0 k1 k2 k3 k4 k5 k6 n0 n1 n2 n3 n4 n5 n6 hfr FN FR
      go_upto_region 15 with fail
      go_cut [102] (fun s102 wx => s102 = .bool false ∧ Hid (TS w wx i a b c x y z))
      case first =>
        by_cases g1 : lv < 1
        · have g1' : ¬ 1 ≤ lv := by omega
          have g1'' : decide (1 ≤ lv) = false := by simpa using g1'
          go_wp2_with fail
          go_meet
          exact ⟨rfl, FX⟩
        by_cases g4 : 4 < lv
        · have g1' : 1 ≤ lv := by omega
          have g4' : decide (lv ≤ 4) = false := by simp; omega
          go_wp2_with fail
          go_meet
          exact ⟨rfl, FX⟩
        · obtain ⟨n, rfl⟩ := Int.eq_ofNat_of_zero_le (show 0 ≤ lv from by omega)
          have g1' : (1 : Int) ≤ (n : Int) := by omega
          have g4' : (n : Int) ≤ 4 := by omega
          have HN : Hid (1 ≤ n ∧ n ≤ 4) := ⟨by omega, by omega⟩
          go_wp2_with fail
          refine (spare_any _ _).mono ?_
          rintro e wa ⟨rfl, hba⟩
          have FA : Hid (TS w wa i a b c x y z) := FX.out.next hba
          clear hba
          go_wp2_with fail
          refine (rspare_any _ _).mono ?_
          rintro e wb ⟨rfl, hb2⟩
          have FB : Hid (TS w wb i a b c x y z) := FA.out.next hb2
          clear hb2
          go_wp2_with fail
          refine (places_any n _ HN.out.1 HN.out.2).mono ?_
          rintro e wd ⟨v1, rfl, ho1⟩
          have FD : Hid (TS w wd i a b c x y z) := FB.out.next ho1.2
          have hlen := places_len n HN.out.1 HN.out.2
          obtain ⟨q1, cap1, hv1, hat1⟩ := ho1.at (by omega)
          rw [hlen] at hv1 hat1
          rw [hv1]
          have HA1 : Hid (PlacesAt wd q1 (4 * n - 2) (fun k => (placesTo n (2 * n)).getD k (0, 0, 0))) := hat1
          have HLEN : Hid ((placesTo n (2 * n)).length = 4 * n - 2) := hlen
          clear ho1 hv1 hat1 hlen
          go_wp2_with fail
          refine (rplaces_any n _ HN.out.1 HN.out.2).mono ?_
          rintro e we ⟨v2, rfl, ho2⟩
          have FE : Hid (TS w we i a b c x y z) := FD.out.next ho2.2
          obtain ⟨q2, cap2, hv2, hat2⟩ := ho2.at (by have := HLEN.out; have := HN.out; omega)
          rw [HLEN.out] at hv2 hat2
          rw [hv2]
          have HA2 : Hid (PlacesAt we q2 (4 * n - 2) (fun k => (placesTo n (2 * n)).getD k (0, 0, 0))) := hat2
          have HA1' : Hid (PlacesAt we q1 (4 * n - 2) (fun k => (placesTo n (2 * n)).getD k (0, 0, 0))) := HA1.out.below ho2.2
          clear ho2 hv2 hat2 HA1
          go_wp2_with fail
          refine (samePlaces_core _ _ _ _ (4 * n - 2) _ _ (by have := HN.out; omega) HA1'.out HA2.out).mono ?_
          rintro e wf ⟨rfl, hbf⟩
          have FF : Hid (TS w wf i a b c x y z) := FE.out.next hbf
          clear hbf
          go_wp2_with fail
          go_meet
          exact ⟨rfl, FF⟩
      case rest =>
      obtain ⟨rfl, FY⟩ := hcut
      clear FX
      obtain ⟨k0, k1, k2, k3, k4, k5, k6⟩ := FY.out.cells
      go_upto_region 17 with fail
      cases hp : placeB x y z 4
      · have HP : Hid (placeB x y z 4 = false) := hp
        clear hp
        go_region_with (go_at_call 23; refine (rplace_any _ _ _ _ _).mono ?_; rw [HP.out, faultN_f]; rintro e wa ⟨rfl, hba⟩; simp only []; refine ‹∀ (a : Act) (w : World), wpAny _ _ _ _ _ _ a w → _› _ _ ?_; refine wpAny_take (i := 2) (v := .bool true) rfl (by kernel_rfl) (by kernel_rfl) (by kernel_rfl) (fun _ _ _ h => h) (Or.inl ⟨by kernel_rfl, fun _ => by kernel_rfl⟩) ?_; refine wpAny_take (i := 3) (v := .bool true) rfl (by kernel_rfl) (by kernel_rfl) (by kernel_rfl) (fun _ _ _ h => h) (Or.inl ⟨by kernel_rfl, fun _ => by kernel_rfl⟩) ?_; refine wpAny_take (i := 4) (v := undef) rfl (by kernel_rfl) (by kernel_rfl) (by kernel_rfl) (fun _ _ _ h => h) (Or.inr ⟨by kernel_rfl, rfl⟩) ?_; refine wpAny_take (i := 5) (v := undef) rfl (by kernel_rfl) (by kernel_rfl) (by kernel_rfl) (fun _ _ _ h => h) (Or.inr ⟨by kernel_rfl, rfl⟩) ?_; refine wpAny_take (i := 6) (v := undef) rfl (by kernel_rfl) (by kernel_rfl) (by kernel_rfl) (fun _ _ _ h => h) (Or.inr ⟨by kernel_rfl, rfl⟩) ?_; refine wpAny_take (i := 7) (v := undef) rfl (by kernel_rfl) (by kernel_rfl) (by kernel_rfl) (fun _ _ _ h => h) (Or.inr ⟨by kernel_rfl, rfl⟩) ?_; refine wpAny_take (i := 8) (v := undef) rfl (by kernel_rfl) (by kernel_rfl) (by kernel_rfl) (fun _ _ _ h => h) (Or.inr ⟨by kernel_rfl, rfl⟩) ?_; simp only [Act.put, List.getElem_toArray, List.getElem_cons_zero, List.getElem_cons_succ, List.setIfInBounds_toArray, List.set_cons_zero, List.set_cons_succ])
        all_goals
          go_wp2
          go_returns
          exact ⟨rfl, (FY.out.drew.next hba).1⟩
      · have HP : Hid (placeB x y z 4 = true) := hp
        simp only [placeB, decide_eq_true_eq] at hp
        obtain ⟨_, _, _, _, hz0, hz1⟩ := hp
        go_region_held3 (fun wx => wx.cell? ⟨w.heap.size, 0, none⟩ = some (.int .i64 i) ∧ wx.cell? ⟨w.heap.size, 1, none⟩ = some (.int .i64 a) ∧ wx.cell? ⟨w.heap.size, 2, none⟩ = some (.int .i64 b) ∧ wx.cell? ⟨w.heap.size, 3, none⟩ = some (.int .i64 c) ∧ wx.cell? ⟨w.heap.size + 1, 0, none⟩ = some (.int .i64 x) ∧ wx.cell? ⟨w.heap.size + 1, 1, none⟩ = some (.int .i64 y) ∧ wx.cell? ⟨w.heap.size + 1, 2, none⟩ = some (.int .i64 z)) (go_keep)
         (first
          | (go_at_call 23; refine (rplace_any _ _ _ _ _).mono ?_; rw [HP.out, faultN_t]; rintro e wa ⟨rfl, hba⟩
             have TQ1 : Hid (TS w wa i a b c x y z) := FY.out.drew.next hba
             obtain ⟨ka0, ka1, ka2, ka3, ka4, ka5, ka6⟩ := TQ1.out.cells
             clear hba)
          | (go_at_call 32; refine (ext_any _ _ _ _ hz0 hz1).mono ?_; rintro e wb ⟨rfl, hb2⟩
             have TQ2 : Hid (TS w wb i a b c x y z) := TQ1.out.next hb2
             obtain ⟨kb0, kb1, kb2, kb3, kb4, kb5, kb6⟩ := TQ2.out.cells
             clear hb2)
          | (go_at_call 33; refine (rext_any _ _ _ _ hz0 hz1).mono ?_; rintro e wd ⟨rfl, hb3⟩
             have TQ3 : Hid (TS w wd i a b c x y z) := TQ2.out.next hb3
             obtain ⟨kd0, kd1, kd2, kd3, kd4, kd5, kd6⟩ := TQ3.out.cells
             clear hb3)
         )
        go_wp2
        go_returns
        exact ⟨B.ret_bool (by simp), TQ3.out.1⟩

theorem towerSays_any (i a b c x y z lv : Int) (v : Value) (len : Nat) (f : Nat → Int × Int × Int) (w : World) (hs : SizesAt w v len f) :
    Calls Try.prog 3 #[v, .agg #[.int .i64 i, .int .i64 a, .int .i64 b, .int .i64 c], .agg #[.int .i64 x, .int .i64 y, .int .i64 z], .int .i64 lv] w fun e w' => e = .returned (.bool true) ∧ Below w.heap.size w w' := by
  have hs' := hs
  obtain ⟨s, cap, rfl, hl, hm, hc⟩ := hs
  by_cases h10 : 10 < (len : Int)
  · exact towerSays_long i a b c x y z lv s len cap w h10
  by_cases h0 : len = 0
  · subst h0
    exact towerSays_z i a b c x y z lv s cap f w hs'
  · obtain ⟨b0, off, rfl, hb, hcell⟩ := hc (by omega)
    exact towerSays_p i a b c x y z lv b0 off len cap f w (by omega) h10 hs' hb hcell

/-- The statement: for every input 'TowerSays' answers true. -/
theorem towerSays_holds : Rows.TowerSaysSaid :=
  OpenClaim.holds_of_wide 3 Try.f3 rfl rfl rfl rfl rfl rfl rfl ⟨rfl, rfl, rfl, rfl, rfl⟩ rfl rfl rfl rfl rfl (by kernel_rfl) Try.func3 (by kernel_rfl)
    (of_decide_eq_true (by kernel_rfl)) (by unfold Func.isWrapper; first | (rw [if_pos (by decide +kernel)]; kernel_rfl) | (rw [if_neg (by decide +kernel)]; exact ⟨rfl, rfl⟩))
    (fun os started H enc _ => law_lifted (s := Rows.towerSaysSpec) os started H enc (by kernel_rfl) Try.func3
      (ChangeSpec.witness6 (enc := enc) (C := Try.checked) false ⟨#[], #[.slice none 0 0, .agg #[.int .i64 0, .int .i64 0, .int .i64 0, .int .i64 0], .agg #[.int .i64 0, .int .i64 0, .int .i64 0], .int .i64 0], []⟩ 8 (by kernel_rfl) (by kernel_rfl) (by kernel_rfl) (by kernel_rfl))
      (by kernel_rfl) (by kernel_rfl) rfl
      (fun ds h => by
        match ds, h with
        | [d1, d2, d3, d4], _ => rfl)
      (fun W base args ds p hval hsz hA hlt => by
        rw [Try.params3] at hval hA
        obtain ⟨v0, v1, v2, v3, d0, d1, d2, d3, p0, p1, p2, p3, rfl, rfl, rfl, h0, h1, h2, h3⟩ := trodAll_four hA
        obtain ⟨len, f, hs⟩ := open_sizes (hval 0 22 v0 rfl rfl) h0 (fun x hx => hlt x (by simp [hx]))
        obtain ⟨i, a, b, c, rfl, _⟩ := open_car (hval 1 26 v1 rfl rfl)
        obtain ⟨x, y, z, rfl, _⟩ := open_place (hval 2 28 v2 rfl rfl)
        obtain ⟨lv, rfl, _⟩ := val_int Try.underlying3 (hval 3 3 v3 rfl rfl)
        exact towerSays_any i a b c x y z lv v0 len f W hs))

end Go.Proofs.Yticjjnmmedmbiaa
