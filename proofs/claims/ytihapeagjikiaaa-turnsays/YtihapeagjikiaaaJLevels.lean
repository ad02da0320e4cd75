/- Chapter 1: what the check of levels answers, the program's and the document's (A2); contracts for the laws. -/
import Derived.Test.YtihapeagjikiaaaJSizes
namespace Go.Proofs.Ytihapeagjikiaaa
open Go.ChangeShapes Go.WideShapes Go.ChangeAt Go.RowKit
set_option maxRecDepth 100000
set_option linter.unusedSimpArgs false
set_option linter.unusedVariables false

theorem check_any (v : Value) (len : Nat) (f : Nat → Int × Int × Int) (w : World) (hs : SizesAt w v len f) :
    Calls Try.prog 25 #[v] w fun e w' => e = .returned (errV (levelsN len f)) ∧ Below w.heap.size w w' := by
  by_cases h : 1 ≤ len ∧ len ≤ 4
  · obtain ⟨a, cap, rfl, hl, hm, hc⟩ := hs
    obtain ⟨b, off, rfl, hb, hcell⟩ := hc (by omega)
    exact check_few b off len cap f w h.1 h.2 hb hcell
  · exact check_many v len f w hs h

set_option maxHeartbeats 400000 in
theorem rlevels_many (v : Value) (len : Nat) (f : Nat → Int × Int × Int) (w : World) (hs : SizesAt w v len f) (hn : ¬ (1 ≤ len ∧ len ≤ 4)) :
    Calls Try.prog 12 #[v] w fun e w' => e = .returned (.int .i64 (levelsN len f)) ∧ Below w.heap.size w w' := by
  obtain ⟨a, cap, rfl, hl, hm, _⟩ := hs
  unfold maxLen at hm
  have K : Hid (levelsN len f = 2) := by show _ = _; simp [levelsN, hn]
  by_cases h0 : len = 0
  · subst h0
    go_enter Try.func12, Try.ntmps12
    go_wp2
    go_returns
    exact ⟨by rw [K.out]; rfl, by go_grown⟩
  · have h4 : 4 < (len : Int) := by omega
    have h1 : ¬ (len : Int) < 1 := by omega
    clear hn h0
    go_enter Try.func12, Try.ntmps12
    go_wp2
    go_returns
    exact ⟨by rw [K.out]; rfl, by go_grown⟩

set_option maxHeartbeats 1000000 in
theorem rlevels_few (b off len cap : Nat) (f : Nat → Int × Int × Int) (w : World) (h1 : 1 ≤ len) (h4 : len ≤ 4) (hb : b < w.heap.size)
    (hc : ∀ i, i < len → w.cell? ⟨b, off + i * 3, none⟩ = some (.int .i64 (f i).1) ∧ w.cell? ⟨b, off + i * 3 + 1, none⟩ = some (.int .i64 (f i).2.1) ∧ w.cell? ⟨b, off + i * 3 + 2, none⟩ = some (.int .i64 (f i).2.2)) :
    Calls Try.prog 12 #[.slice (some ⟨b, off, none⟩) len cap] w fun e w' => e = .returned (.int .i64 (levelsN len f)) ∧ Below w.heap.size w w' := by
  have HC : Hid _ := hc
  clear hc
  have L : Hid (levelsN len f = levelsFrom f (f (len - 1)) len 0) := by show _ = _; simp [levelsN, h1, h4]
  have l1' : ¬ (len : Int) < 1 := by omega
  have l4' : ¬ 4 < (len : Int) := by omega
  go_enter Try.func12, Try.ntmps12
  go_wp2
  go_loopw [3] (fun i wr => ∃ k : Nat, k ≤ len ∧ i = .int .i64 k ∧ Hid (levelsFrom f (f (len - 1)) len 0 = levelsFrom f (f (len - 1)) (len - k) k) ∧ Below w.heap.size w wr)
    (fun i _ => len - (intOf i).toNat)
  case atStart => exact ⟨0, Nat.zero_le _, rfl, rfl, Below.refl _ _⟩
  case round =>
    obtain ⟨k, hk, rfl, HF, hB⟩ := hrel
    by_cases hlt : k < len
    · have hz := hB.size
      obtain ⟨c0, c1, c2⟩ := HC.out k hlt
      rw [← hB.cell (p := ⟨b, _, none⟩) hb] at c0 c1 c2
      obtain ⟨d0, d1, d2⟩ := HC.out (len - 1) (by omega)
      rw [← hB.cell (p := ⟨b, _, none⟩) hb] at d0 d1 d2
      generalize hl : f (len - 1) = l at *
      have HL : Hid (f (len - 1) = l) := hl
      clear hl
      have hs : Hid (levelsFrom f l (len - k) k = if levelN (f k) l = 0 then levelsFrom f l (len - (k + 1)) (k + 1) else levelN (f k) l) := by
        show _ = _
        rw [show len - k = (len - (k + 1)) + 1 from by omega]
        rfl
      generalize hfk : f k = s at *
      have HK : Hid (f k = s) := hfk
      clear hfk
      cases hsz : sizeB s.1 s.2.1 s.2.2
      · have HN : Hid (levelN s l = 1) := by show _ = _; simp [levelN, hsz]
        have HS : Hid (sizeB s.1 s.2.1 s.2.2 = false) := hsz
        clear hsz
        go_wp2_with fail
        refine (rsize_any _ _ _ _).mono ?_
        rintro e w1 ⟨rfl, hb1⟩
        rw [HS.out, faultN_f]
        go_wp2
        go_returns
        refine ⟨?_, B.next hB hb1 hz⟩
        rw [L.out, HF.out, hs.out, HN.out]
        rfl
      · have HS : Hid (sizeB s.1 s.2.1 s.2.2 = true) := hsz
        clear hsz
        go_wp2_with fail
        refine (rsize_any _ _ _ _).mono ?_
        rintro e w1 ⟨rfl, hb1⟩
        rw [HS.out, faultN_t]
        have z1 := hb1.size
        have B1 : Hid (Below w.heap.size w w1) := B.next hB hb1 hz
        rw [← hb1.cell (p := ⟨b, _, none⟩) (by show b < _; omega)] at c0 c1 c2 d0 d1 d2
        clear hb1
        have i1 : (0 : Int) ≤ (len : Int) - 1 := by omega
        have i2 : (len : Int) - 1 < (len : Int) := by omega
        have i3 : ((len : Int) - 1).toNat = len - 1 := by omega
        have i4 : (k : Int) < (len : Int) := by omega
        have i5 : IntKind.i64.wrap ((len : Int) - 1) = ((len - 1 : Nat) : Int) := by rw [IntKind.wrap_i64]; omega
        have i6 : len - 1 < len := by omega
        have i7 : ((len - 1 : Nat) : Int) < (len : Int) := by omega
        cases hft : fitsB s.1 s.2.1 s.2.2 l.1 l.2.1 l.2.2
        · have HN : Hid (levelN s l = 3) := by show _ = _; simp [levelN, HS.out, hft]
          have HT : Hid (fitsB s.1 s.2.1 s.2.2 l.1 l.2.1 l.2.2 = false) := hft
          clear hft
          go_wp2_with fail
          go_region_with (go_at_call 54; refine (rfits_any _ _ _ _ _ _ _).mono ?_; rw [HT.out]; rintro e w2 ⟨rfl, hb2⟩)
          all_goals
            go_wp2
            go_returns
            refine ⟨?_, B.next B1.out.drew hb2 (by simp; omega)⟩
            rw [L.out, HF.out, hs.out, HN.out]
            rfl
        · have HN : Hid (levelN s l = 0) := by show _ = _; simp [levelN, HS.out, hft]
          have HT : Hid (fitsB s.1 s.2.1 s.2.2 l.1 l.2.1 l.2.2 = true) := hft
          clear hft
          go_wp2_with fail
          go_region_with (go_at_call 54; refine (rfits_any _ _ _ _ _ _ _).mono ?_; rw [HT.out]; rintro e w2 ⟨rfl, hb2⟩)
          all_goals
            go_wp2
            go_roundw
            case rel => exact ⟨k + 1, by omega, by go_num, by show _ = _; rw [HF.out, hs.out, HN.out, if_pos rfl], B.next B1.out.drew hb2 (by simp; omega)⟩
            case measure => simp [intOf]; omega
    · go_wp2
      go_returns
      refine ⟨?_, hB⟩
      rw [L.out, HF.out, show len - k = 0 from by omega]
      rfl

theorem rlevels_any (v : Value) (len : Nat) (f : Nat → Int × Int × Int) (w : World) (hs : SizesAt w v len f) :
    Calls Try.prog 12 #[v] w fun e w' => e = .returned (.int .i64 (levelsN len f)) ∧ Below w.heap.size w w' := by
  by_cases h : 1 ≤ len ∧ len ≤ 4
  · obtain ⟨a, cap, rfl, hl, hm, hc⟩ := hs
    obtain ⟨b, off, rfl, hb, hcell⟩ := hc (by omega)
    exact rlevels_few b off len cap f w h.1 h.2 hb hcell
  · exact rlevels_many v len f w hs h

theorem levelN_nonneg (s l : Int × Int × Int) : 0 ≤ levelN s l := by
  unfold levelN
  split
  · split <;> omega
  · omega
theorem levelsFrom_nonneg (f : Nat → Int × Int × Int) (l : Int × Int × Int) : ∀ n i, 0 ≤ levelsFrom f l n i
  | 0, _ => Int.le_refl _
  | n + 1, i => by
    unfold levelsFrom
    split
    · exact levelsFrom_nonneg f l n (i + 1)
    · exact levelN_nonneg _ _
theorem levelsN_nonneg (len : Nat) (f : Nat → Int × Int × Int) : 0 ≤ levelsN len f := by
  unfold levelsN
  split
  · exact levelsFrom_nonneg _ _ _ _
  · omega
theorem levelsFrom_zero (f : Nat → Int × Int × Int) (l : Int × Int × Int) : ∀ n i, levelsFrom f l n i = 0 → ∀ j, i ≤ j → j < i + n → levelN (f j) l = 0
  | 0, i, _, j, h1, h2 => by omega
  | n + 1, i, h, j, h1, h2 => by
    unfold levelsFrom at h
    split at h
    · rename_i h0
      by_cases hj : j = i
      · rw [hj]; exact h0
      · exact levelsFrom_zero f l n (i + 1) h j (by omega) (by omega)
    · rename_i h0
      exact absurd h h0
/-- Where nothing is wrong there are one to four levels, and each fits the last one. -/
theorem levelsN_zero {len : Nat} {f : Nat → Int × Int × Int} (h : levelsN len f = 0) : 1 ≤ len ∧ len ≤ 4 ∧ ∀ i, i < len → fitsB (f i).1 (f i).2.1 (f i).2.2 (f (len - 1)).1 (f (len - 1)).2.1 (f (len - 1)).2.2 = true := by
  unfold levelsN at h
  split at h
  · rename_i hl
    refine ⟨hl.1, hl.2, fun i hi => ?_⟩
    have := levelsFrom_zero f _ _ _ h i (by omega) (by omega)
    unfold levelN at this
    split at this
    · split at this
      · assumption
      · omega
    · omega
  · omega

end Go.Proofs.Ytihapeagjikiaaa
