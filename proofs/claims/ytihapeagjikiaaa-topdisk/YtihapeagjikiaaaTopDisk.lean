/- Chapter 6: the walk of the statement 'TopDisk' (F2, F3). -/
import Derived.Test.YtihapeagjikiaaaTopDiskA
import Derived.Test.YtihapeagjikiaaaActs
import Derived.Deep.DeepCutAuto
namespace Go.Proofs.Ytihapeagjikiaaa
open Go.Shelf Go.Lib Go.ChangeShapes Go.WideShapes Go.ChangeAt Go.RowKit
set_option maxRecDepth 100000
set_option linter.unusedSimpArgs false
set_option linter.unusedVariables false

namespace Dk
open Bk Ac
/-- An act of a list: where it is to be written, and what. -/
theorem act_cells {w : World} {v : Value} {len : Nat} {f : Nat → ActC} (h : ActsAt w v len f) (h0 : 0 < len) : ∃ b off cap, v = .slice (some ⟨b, off, none⟩) len cap ∧ len ≤ cap ∧ cap ≤ maxLen ∧ ∀ wx, Below w.heap.size w wx → ∀ k, k < len → wx.cell? ⟨b, off + k * 12 + 1, none⟩ = some (.int .i64 (f k).a) ∧ wx.cell? ⟨b, off + k * 12 + 7, none⟩ = some (.string (f k).s) ∧ (f k).s.size ≤ maxLen := by
  obtain ⟨a, cap, rfl, hl, hm, hok, hc⟩ := h
  obtain ⟨b, off, rfl, hb, hcell⟩ := hc h0
  refine ⟨b, off, cap, rfl, hl, hm, fun wx hx k hk => ?_⟩
  have h1 := hcell k hk 1 (by decide)
  have h7 := hcell k hk 7 (by decide)
  exact ⟨(hx.cell hb).trans h1, (hx.cell hb).trans h7, (hok k hk).s⟩
/-- The texts that are wanted, as they lie. -/
def WA (g : Nat → ByteArray) : Array Value := #[.string (g 0), .string (g 1), .string (g 2), .string (g 3)]
theorem WA_set (g : Nat → ByteArray) (k : Nat) (hk : k < 4) (S : ByteArray) : (WA g).setIfInBounds k (.string S) = WA (fun j => if j = k then S else g j) := by
  have : k = 0 ∨ k = 1 ∨ k = 2 ∨ k = 3 := by omega
  rcases this with rfl | rfl | rfl | rfl <;> rfl
theorem WA_get (g : Nat → ByteArray) (k : Nat) (hk : k < 4) : (WA g)[k]? = some (.string (g k)) := by
  have : k = 0 ∨ k = 1 ∨ k = 2 ∨ k = 3 := by omega
  rcases this with rfl | rfl | rfl | rfl <;> rfl
theorem DFr.own_set {base : Nat} {w w8 : World} {X : Nat} (h : DFr base w w8) (hb : w.heap.size = base) (hX : base ≤ X) (o : Nat) (v : Value) : DFr base w (w8.setCell ⟨X, o, none⟩ v) :=
  ⟨h.b.setCell (p := ⟨X, o, none⟩) hX v, fun k arr T h1 h2 h3 hk => (h.far k arr T h1 h2 h3 hk).other (by have := hk.lt; omega) o v, h.oth.trans (KeepsOthers.setCell _ _ _)⟩
theorem DiskAt.farset {w : World} {base db sb : Nat} {secs : List Sec} {bit : Int} {armed : Bool} {left : Int} {down : Bool} {X : Nat} {arr : Array Value} (h : DiskAt w base db sb secs bit armed left down) (hX : Blk w X arr 92) (o : Nat) (v : Value) : DiskAt (w.setCell ⟨X, o, none⟩ v) base db sb secs bit armed left down := by
  refine ⟨h.d.other (fun e => ?_) _ _, h.s.other (fun e => ?_) _ _, fun i hi => (h.own i hi).grown (grown_set w X o v) (fun g e e' => ?_), h.ne, h.hb⟩
  · subst e; exact absurd (blk_typeD hX h.d) (by decide)
  · subst e; exact absurd (blk_typeD hX h.s) (by decide)
  · injection e' with e'
    subst e'
    exact own_neD (h.own i hi) hX (by decide) e

set_option maxHeartbeats 4000000 in
theorem topDisk_run (v1 : Value) (len1 : Nat) (f1 : Nat → ActC) (v2 : Value) (len2 : Nat) (f2 : Nat → ActC) (K : Int) (w : World) (hs1 : ActsAt w v1 len1 f1) (hs2 : ActsAt w v2 len2 f2) :
    Calls Try.prog 8 #[v1, v2, .int .u64 K] w fun e w' => e = .returned (.bool true) ∧ Below w.heap.size w w' := by
  have HS1 : Hid (ActsAt w v1 len1 f1) := hs1
  have HS2 : Hid (ActsAt w v2 len2 f2) := hs2
  obtain ⟨a1, cap1, rfl, hl1, hm1, hok1, hcc1⟩ := hs1
  obtain ⟨a2, cap2, rfl, hl2, hm2, hok2, hcc2⟩ := hs2
  clear hok1 hcc1 hok2 hcc2
  unfold maxLen at hm1 hm2
  go_enter Try.func8, Try.ntmps8
  go_wp2_with fail
  refine (diskNew_any 4 w (by decide) (by decide)).mono ?_
  rintro e w1 ⟨rfl, d1, b1⟩
  obtain ⟨base, hbs⟩ : ∃ base, w.heap.size = base := ⟨_, rfl⟩
  obtain ⟨db, hdb⟩ : ∃ db, base + 1 = db := ⟨_, rfl⟩
  have HBS : Hid (w.heap.size = base) := hbs
  rw [hbs] at d1 b1
  simp only [hbs]
  rw [hdb] at d1
  simp only [hdb]
  have X1 : Hid (DiskAt w1 base db base (List.replicate 4 secZ) 0 false 0 false ∧ DFr base w w1 ∧ base ≤ w1.heap.size) := by
    refine ⟨d1, DFr.of_below (by rw [hbs]; exact b1) (by omega), by have := b1.size; omega⟩
  clear d1 b1 hdb hbs
  go_wp2_with fail
  refine (flush_any base db base (List.replicate 4 secZ) 0 0 w1 X1.out.1 X1.out.2.2 (fun i hi => by have := DOk4.new.few i (by simpa using hi); omega) (fun i hi y hy => by have := DOk4.new.bit i (by simpa using hi) y hy; omega) (by simp)).mono ?_
  rintro e w2 ⟨rfl, d2, f2'⟩
  have OK2 : Hid (DOk4 (stl 18446744073709551615 (List.replicate 4 secZ) (List.replicate 4 secZ).length) 0) := DOk4.new.stl _
  generalize stl 18446744073709551615 (List.replicate 4 secZ) (List.replicate 4 secZ).length = secs2 at *
  have X2 : Hid (DiskAt w2 base db base secs2 0 false 0 false ∧ DFr base w w2 ∧ base ≤ w2.heap.size) := ⟨d2, X1.out.2.1.trans f2' (by have := HBS.out; omega), Nat.le_trans X1.out.2.2 f2'.b.size⟩
  clear d2 f2' X1
  go_wp2_with fail
  refine (sectors_any base db base secs2 0 false 0 false w2 X2.out.1).mono ?_
  rintro e w3 ⟨rfl, hw⟩
  subst hw
  rw [OK2.out.len]
  have HBW : Hid (∀ wx, DFr base w wx → Below w.heap.size w wx) := fun wx hx => by have := hx.b; rw [← HBS.out] at this; exact this
  go_wp2_with fail
  refine (light_any _ len1 f1 40 w3 (HS1.out.below (HBW.out _ X2.out.2.1))).mono ?_
  rintro e w4 ⟨q, rfl, hli, hw⟩
  subst hw
  have HL : Hid (q = true → Light len1 f1 40) := hli
  clear hli
  cases q
  · go_wp2
    go_returns
    exact ⟨rfl, HBW.out _ X2.out.2.1⟩
  have h40 : len1 ≤ 40 := by have := (HL.out rfl).1; omega
  clear HL
  go_wp2_with fail
  refine (light_any _ len2 f2 60 w4 (HS2.out.below (HBW.out _ X2.out.2.1))).mono ?_
  rintro e w5 ⟨q, rfl, hli, hw⟩
  subst hw
  have HL : Hid (q = true → Light len2 f2 60) := hli
  clear hli
  cases q
  · go_wp2
    go_returns
    exact ⟨rfl, HBW.out _ X2.out.2.1⟩
  have h60 : len2 ≤ 60 := by have := (HL.out rfl).1; omega
  clear HL
  go_wp2_with fail
  go_loopg [9] len1 (fun gg s9 wr => ∃ (k n : Nat) (secs : List Sec), k ≤ len1 ∧ len1 - k ≤ gg ∧ s9 = .int .i64 k ∧ n ≤ k ∧ Hid (DiskAt wr base db base secs n false 0 false ∧ DFr base w wr ∧ base ≤ wr.heap.size) ∧ Hid (DOk4 secs n))
  case atStart => exact ⟨0, 0, secs2, Nat.zero_le _, by omega, rfl, Nat.le_refl _, X2, OK2⟩
  case round =>
    clear X2 OK2
    obtain ⟨k, n, secs, hk, hg, rfl, hnk, M, OK⟩ := hrel
    by_cases hlt : k < len1
    · have hltz : (k : Int) < (len1 : Int) := by omega
      obtain ⟨ab, off, cap', ev, _, _, hcl⟩ := act_cells HS1.out (by omega)
      cases ev
      have hSz := (hcl w (Below.refl _ _) k hlt).2.2
      have HS : Hid (∀ W, DFr base w W → W.cell? ⟨ab, off + k * 12 + 1, none⟩ = some (.int .i64 (f1 k).a) ∧ W.cell? ⟨ab, off + k * 12 + 7, none⟩ = some (.string (f1 k).s)) := fun W hW => ⟨(hcl W (HBW.out W hW) k hlt).1, (hcl W (HBW.out W hW) k hlt).2.1⟩
      clear hcl
      generalize f1 k = x at *
      have D0 : Hid (DFr base w wr.drew) := M.out.2.1.trans (DFr.of_below (Below.refl _ _).drew M.out.2.2) (by have := HBS.out; omega)
      have HWR : Hid (Calls Try.prog 36 #[.pointer (some ⟨db, 0, none⟩), .int .i64 x.a, .string x.s] wr.drew fun e w' => ∃ (er : Value) (ok : Bool), e = .returned er ∧ Wrote base db base secs n x.a x.s wr.drew ok w') := write_both base db base secs n x.a x.s wr.drew (M.out.1.below (Below.refl _ _).drew) M.out.2.2 OK.out (by omega) hSz
      go_upto_region 9 with fail
      go_region_held3 (fun W => W.cell? ⟨ab, off + k * 12 + 1, none⟩ = some (.int .i64 x.a) ∧ W.cell? ⟨ab, off + k * 12 + 7, none⟩ = some (.string x.s)) (first | with_reducible exact HS.out _ D0.out | with_reducible exact HS.out _ BQ.out.1 | go_keep)
        (first
          | (go_at_call 36; refine HWR.out.mono ?_; rintro e wq ⟨er, ok, rfl, hq⟩; have BQ : Hid (DFr base w wq ∧ base ≤ wq.heap.size ∧ Wrote base db base secs n x.a x.s wr.drew ok wq) := ⟨D0.out.trans hq.1 (by have := HBS.out; omega), Nat.le_trans M.out.2.2 hq.1.b.size, hq⟩; clear hq))
      clear HS D0 HWR
      have hN : ∃ (n' : Nat) (secs' : List Sec), n' ≤ n + 1 ∧ (DiskAt wq base db base secs' n' false 0 false ∧ DFr base w wq ∧ base ≤ wq.heap.size) ∧ DOk4 secs' n' := by
        rcases BQ.out.2.2.2 with ⟨_, hD⟩ | ⟨_, hh, v', hD⟩
        · exact ⟨n, secs, by omega, ⟨hD, BQ.out.1, BQ.out.2.1⟩, OK.out⟩
        · have hi4 : x.a.toNat < 4 := by simp [hasN] at hh; omega
          exact ⟨n + 1, _, Nat.le_refl _, ⟨hD, BQ.out.1, BQ.out.2.1⟩, OK.out.write hi4 v' (padF x.s)⟩
      obtain ⟨n', secs', hn', hX, hO⟩ := hN
      have MX : Hid (DiskAt wq base db base secs' n' false 0 false ∧ DFr base w wq ∧ base ≤ wq.heap.size) := hX
      have OX : Hid (DOk4 secs' n') := hO
      clear hX hO BQ M OK
      go_wp2
      go_roundg (len1 - (k + 1))
      case measure => omega
      case rel => exact ⟨k + 1, n', secs', by omega, by omega, by go_num, by omega, MX, OX⟩
    · have hltz : ¬ (k : Int) < (len1 : Int) := by omega
      have HFL : Hid (Calls Try.prog 40 #[.pointer (some ⟨db, 0, none⟩)] wr fun e w' => e = .returned .nilIface ∧ DiskAt w' base db base (stl 18446744073709551615 secs secs.length) 0 false 0 false ∧ DFr base wr w') := flush_any base db base secs n 0 wr M.out.1 M.out.2.2 (fun i hi => by have := OK.out.few i (by rw [← OK.out.len]; exact hi); omega) (fun i hi y hy => by have := OK.out.bit i (by rw [← OK.out.len]; exact hi) y hy; omega) (by rw [OK.out.len]; decide)
      have OK3 : Hid (DOk4 (stl 18446744073709551615 secs secs.length) 0) := OK.out.stl _
      generalize stl 18446744073709551615 secs secs.length = secs3 at *
      go_wp2_with fail
      refine HFL.out.mono ?_
      rintro e w6 ⟨rfl, d6, f6⟩
      have X6 : Hid (DiskAt w6 base db base secs3 0 false 0 false ∧ DFr base w w6 ∧ base ≤ w6.heap.size) := ⟨d6, M.out.2.1.trans f6 (by have := HBS.out; omega), Nat.le_trans M.out.2.2 f6.b.size⟩
      clear d6 f6 M OK HFL
      obtain ⟨w7, hw7⟩ : ∃ w7, w6.alloc (.cells (WA fun _ => ⟨#[]⟩) 92) = w7 := ⟨_, rfl⟩
      obtain ⟨X, hX⟩ : ∃ X, w6.heap.size = X := ⟨_, rfl⟩
      have X7 : Hid ((DiskAt w7 base db base secs3 0 false 0 false ∧ DFr base w w7 ∧ base ≤ w7.heap.size) ∧ Blk w7 X (WA fun _ => ⟨#[]⟩) 92) := by
        show _ ∧ _
        rw [← hw7]
        exact ⟨⟨X6.out.1.below (B.new1 _ _), X6.out.2.1.trans (DFr.of_below (B.new1 _ _) X6.out.2.2) (by have := HBS.out; omega), Nat.le_trans X6.out.2.2 (B.new1 w6 _).size⟩, Blk.new1 hX.symm _ _⟩
      have HBX : Hid (base ≤ X) := by show _ ≤ _; rw [← hX]; exact X6.out.2.2
      have HW7 : Hid (w6.alloc (.cells (WA fun _ => ⟨#[]⟩) 92) = w7) := hw7
      unfold WA at HW7
      clear hw7 X6
      go_wp2_with fail
      simp only [HW7.out, hX]
      clear HW7 hX
      go_loopg [11] 4 (fun gg s11 wr => ∃ (k : Nat) (g : Nat → ByteArray), k ≤ 4 ∧ 4 - k ≤ gg ∧ s11 = .int .i64 k ∧ Hid ((DiskAt wr base db base secs3 0 false 0 false ∧ DFr base w wr ∧ base ≤ wr.heap.size) ∧ Blk wr X (WA g) 92) ∧ Hid (∀ j, j < k → g j = strOf (wantC K secs3[j]!)))
      case atStart => exact ⟨0, _, Nat.zero_le _, by omega, rfl, X7, fun j hj => absurd hj (Nat.not_lt_zero _)⟩
      case round =>
        clear X7
        obtain ⟨k2, g, hk2, hg2, rfl, M, G⟩ := hrel
        by_cases hlt2 : k2 < 4
        · have hlz2 : (k2 : Int) < 4 := by omega
          have hhas : hasN secs3.length (k2 : Int) = true := by rw [OK3.out.len]; simp [hasN]; omega
          have HRD : Hid (Calls Try.prog 38 #[.pointer (some ⟨db, 0, none⟩), .int .i64 k2] wr fun e w' => e = .returned (.tuple #[.string (strOf (wantC K secs3[k2]!)), .nilIface]) ∧ Below wr.heap.size wr w') := by
            have := read_any base db base secs3 0 false 0 false k2 wr M.out.1.1 (fun i hi => by have := OK3.out.few i (by rw [← OK3.out.len]; exact hi); omega) (by rw [OK3.out.len]; decide)
            rw [readS_ok hhas, readN_ok hhas, Int.toNat_natCast, want_nil K secs3[k2]! (List.length_eq_zero_iff.1 (by have := OK3.out.few k2 hlt2; omega))] at this
            exact this
          obtain ⟨S, hS⟩ : ∃ S, strOf (wantC K secs3[k2]!) = S := ⟨_, rfl⟩
          rw [hS] at HRD
          go_wp2_with fail
          refine HRD.out.mono ?_
          rintro e w8 ⟨rfl, b8⟩
          have N : Hid ((DiskAt w8 base db base secs3 0 false 0 false ∧ DFr base w w8 ∧ base ≤ w8.heap.size) ∧ Blk w8 X (WA g) 92) := ⟨⟨M.out.1.1.below b8, M.out.1.2.1.trans (DFr.of_below b8 M.out.1.2.2) (by have := HBS.out; omega), Nat.le_trans M.out.1.2.2 b8.size⟩, M.out.2.below b8⟩
          have rw8 : w8.cell? ⟨X, k2, none⟩ = some (.string (g k2)) := by rw [N.out.2.cell]; exact WA_get g k2 hlt2
          have fw8 := N.out.2.free
          have HN9 : Hid ((DiskAt (w8.setCell ⟨X, k2, none⟩ (.string S)) base db base secs3 0 false 0 false ∧ DFr base w (w8.setCell ⟨X, k2, none⟩ (.string S)) ∧ base ≤ (w8.setCell ⟨X, k2, none⟩ (.string S)).heap.size) ∧ Blk (w8.setCell ⟨X, k2, none⟩ (.string S)) X (WA fun j => if j = k2 then S else g j) 92) := by
            refine ⟨⟨N.out.1.1.farset N.out.2 k2 _, DFr.own_set N.out.1.2.1 HBS.out HBX.out k2 _, by rw [size_setCell]; exact N.out.1.2.2⟩, ?_⟩
            rw [← WA_set g k2 hlt2 S]
            exact N.out.2.set k2 _
          have HG9 : Hid (∀ j, j < k2 + 1 → (if j = k2 then S else g j) = strOf (wantC K secs3[j]!)) := fun j hj => by
            by_cases e : j = k2
            · rw [if_pos e, e]; exact hS.symm
            · rw [if_neg e]; exact G.out j (by omega)
          clear b8 M G N hS HRD
          go_wp2
          go_roundg (4 - (k2 + 1))
          case measure => omega
          case rel => exact ⟨k2 + 1, _, by omega, by omega, by go_num, HN9, HG9⟩
        · have hlz2 : ¬ (k2 : Int) < 4 := by omega
          have hk24 : k2 = 4 := by omega
          subst hk24
          go_wp2_with fail
          go_loopg [14, 15] len2 (fun gg s14 s15 wr => ∃ (k n : Nat) (g : Nat → ByteArray) (secs : List Sec), k ≤ len2 ∧ len2 - k ≤ gg ∧ s14 = .int .i64 n ∧ s15 = .int .i64 k ∧ n ≤ k ∧ Hid ((DiskAt wr base db base secs n false 0 false ∧ DFr base w wr ∧ base ≤ wr.heap.size) ∧ Blk wr X (WA g) 92) ∧ Hid (DOk4 secs n) ∧ Hid (∀ j, j < 4 → g j = strOf (wantC K secs[j]!)))
          case atStart => exact ⟨0, 0, g, secs3, Nat.zero_le _, by omega, rfl, rfl, Nat.le_refl _, M, OK3, G⟩
          case round =>
            clear M OK3 G hg2 hg hnk
            obtain ⟨k3, n3, g, secs, hk3, hg3, rfl, rfl, hnk, M, OK, G⟩ := hrel
            by_cases hlt3 : k3 < len2
            · have hlz3 : (k3 : Int) < (len2 : Int) := by omega
              obtain ⟨ab, off, cap', ev, _, _, hcl⟩ := act_cells HS2.out (by omega)
              cases ev
              have hSz := (hcl w (Below.refl _ _) k3 hlt3).2.2
              have HS : Hid (∀ W, DFr base w W → W.cell? ⟨ab, off + k3 * 12 + 1, none⟩ = some (.int .i64 (f2 k3).a) ∧ W.cell? ⟨ab, off + k3 * 12 + 7, none⟩ = some (.string (f2 k3).s)) := fun W hW => ⟨(hcl W (HBW.out W hW) k3 hlt3).1, (hcl W (HBW.out W hW) k3 hlt3).2.1⟩
              clear hcl
              generalize f2 k3 = x at *
              have D0 : Hid (DFr base w wr.drew) := M.out.1.2.1.trans (DFr.of_below (Below.refl _ _).drew M.out.1.2.2) (by have := HBS.out; omega)
              cases hq : (hasN 4 x.a && decide (x.s.size ≤ 64))
              · have HWR : Hid (Calls Try.prog 36 #[.pointer (some ⟨db, 0, none⟩), .int .i64 x.a, .string x.s] wr.drew fun e w' => e = .returned (.iface 115 (.int .i64 1)) ∧ w' = wr.drew) := write_bad base db base secs n3 x.a x.s wr.drew (M.out.1.1.below (Below.refl _ _).drew) M.out.1.2.2 OK.out (by omega) hSz hq
                have N : Hid ((DiskAt wr.drew base db base secs n3 false 0 false ∧ DFr base w wr.drew ∧ base ≤ wr.drew.heap.size) ∧ Blk wr.drew X (WA g) 92) := ⟨⟨M.out.1.1.below (Below.refl _ _).drew, D0.out, M.out.1.2.2⟩, M.out.2.below (Below.refl _ _).drew⟩
                go_upto_region 24 with fail
                go_region_held3 (fun W => W.cell? ⟨ab, off + k3 * 12 + 1, none⟩ = some (.int .i64 x.a) ∧ W.cell? ⟨ab, off + k3 * 12 + 7, none⟩ = some (.string x.s)) (first | with_reducible exact HS.out _ D0.out | go_keep)
                  (first
                    | (go_at_call 36; refine HWR.out.mono ?_; rintro e wq ⟨rfl, rfl⟩))
                clear HS HWR M
                go_wp2
                go_roundg (len2 - (k3 + 1))
                case measure => omega
                case rel => exact ⟨k3 + 1, n3, g, secs, by omega, by omega, rfl, by go_num, by omega, N, OK, G⟩
              · have hh : hasN 4 x.a = true := by simp only [Bool.and_eq_true] at hq; exact hq.1
                obtain ⟨ia, hia⟩ : ∃ ia : Nat, x.a = (ia : Int) := ⟨x.a.toNat, by simp [hasN] at hh; omega⟩
                have hi4 : ia < 4 := by simp [hasN] at hh; omega
                have hiaz : (ia : Int) < 4 := by omega
                have HWR : Hid (Calls Try.prog 36 #[.pointer (some ⟨db, 0, none⟩), .int .i64 ia, .string x.s] wr.drew fun e w' => e = .returned .nilIface ∧ DFr base wr.drew w' ∧ ∃ v', DiskAt w' base db base (secs.set ia ⟨secs[ia]!.kept, v', secs[ia]!.wr ++ [⟨n3, padF x.s⟩]⟩) ((n3 + 1 : Nat) : Int) false 0 false) := by
                  have := write_ok base db base secs n3 x.a x.s wr.drew (M.out.1.1.below (Below.refl _ _).drew) M.out.1.2.2 OK.out (by omega) hSz hq
                  rw [hia, Int.toNat_natCast] at this
                  exact this
                rw [hia] at HS
                have HX0 : Hid (Blk wr.drew X (WA g) 92) := M.out.2.below (Below.refl _ _).drew
                clear hq hh hia
                go_upto_region 24 with fail
                go_region_held3 (fun W => W.cell? ⟨ab, off + k3 * 12 + 1, none⟩ = some (.int .i64 ia) ∧ W.cell? ⟨ab, off + k3 * 12 + 7, none⟩ = some (.string x.s)) (first | with_reducible exact HS.out _ D0.out | with_reducible exact HS.out _ BQ.out.1 | go_keep)
                  (first
                    | (go_at_call 36; refine HWR.out.mono ?_; rintro e wq ⟨rfl, hF, hv⟩; have BQ : Hid (DFr base w wq ∧ base ≤ wq.heap.size ∧ Blk wq X (WA g) 92 ∧ ∃ v', DiskAt wq base db base (secs.set ia ⟨secs[ia]!.kept, v', secs[ia]!.wr ++ [⟨n3, padF x.s⟩]⟩) ((n3 + 1 : Nat) : Int) false 0 false) := ⟨D0.out.trans hF (by have := HBS.out; omega), Nat.le_trans M.out.1.2.2 hF.b.size, hF.far _ _ _ (by decide) (by decide) (by decide) HX0.out, hv⟩; clear hF hv))
                obtain ⟨v', hD⟩ := BQ.out.2.2.2
                have hlen := OK.out.len
                have OK2 : Hid (DOk4 (secs.set ia ⟨secs[ia]!.kept, v', secs[ia]!.wr ++ [⟨n3, padF x.s⟩]⟩) (n3 + 1)) := OK.out.write hi4 v' (padF x.s)
                have hge : ∀ j, j < 4 → (secs.set ia ⟨secs[ia]!.kept, v', secs[ia]!.wr ++ [⟨n3, padF x.s⟩]⟩)[j]! = if ia = j then ⟨secs[ia]!.kept, v', secs[ia]!.wr ++ [⟨n3, padF x.s⟩]⟩ else secs[j]! := fun j hj => set_get secs ia j _ (by rw [hlen]; exact hi4) (by rw [hlen]; exact hj)
                have HW2 : Hid (∀ j, j < 4 → wantC K (secs.set ia ⟨secs[ia]!.kept, v', secs[ia]!.wr ++ [⟨n3, padF x.s⟩]⟩)[j]! = if ia = j then (if keepB K n3 = true then padF x.s else wantC K secs[ia]!) else wantC K secs[j]!) := fun j hj => by
                  rw [hge j hj]
                  by_cases e : ia = j
                  · rw [if_pos e, if_pos e]; exact want_more K secs[ia]! v' ⟨n3, padF x.s⟩
                  · rw [if_neg e, if_neg e]
                have HNW : Hid ((secs.set ia ⟨secs[ia]!.kept, v', secs[ia]!.wr ++ [⟨n3, padF x.s⟩]⟩)[ia]!.now = padF x.s) := by
                  show _ = _
                  rw [hge ia hi4, if_pos rfl]
                  exact now_more secs[ia]! v' ⟨n3, padF x.s⟩
                have HD : Hid (DiskAt wq base db base (secs.set ia ⟨secs[ia]!.kept, v', secs[ia]!.wr ++ [⟨n3, padF x.s⟩]⟩) ((n3 + 1 : Nat) : Int) false 0 false) := hD
                clear hD hge HWR HX0 D0 M
                generalize secs.set ia ⟨secs[ia]!.kept, v', secs[ia]!.wr ++ [⟨n3, padF x.s⟩]⟩ = secs' at *
                have cA := (HS.out _ BQ.out.1).1
                cases hkb : keepB K n3
                · have hkb2 : (bits BinOp.and IntKind.u64 (K / 2 ^ n3) 1 == 1) = false := by unfold keepB at hkb; rw [Int.toNat_natCast] at hkb; exact hkb
                  have G2 : Hid (∀ j, j < 4 → g j = strOf (wantC K secs'[j]!)) := fun j hj => by
                    rw [HW2.out j hj, hkb]
                    by_cases e : ia = j
                    · subst e; rw [if_pos rfl]; exact G.out ia hj
                    · rw [if_neg e]; exact G.out j hj
                  have N : Hid ((DiskAt wq base db base secs' ((n3 + 1 : Nat) : Int) false 0 false ∧ DFr base w wq ∧ base ≤ wq.heap.size) ∧ Blk wq X (WA g) 92) := ⟨⟨HD.out, BQ.out.1, BQ.out.2.1⟩, BQ.out.2.2.1⟩
                  clear BQ HD G HW2 HNW HS hkb
                  go_wp2
                  go_roundg (len2 - (k3 + 1))
                  case measure => omega
                  case rel => exact ⟨k3 + 1, n3 + 1, g, secs', by omega, by omega, by go_num, by go_num, by omega, N, OK2, G2⟩
                · have hkb2 : (bits BinOp.and IntKind.u64 (K / 2 ^ n3) 1 == 1) = true := by unfold keepB at hkb; rw [Int.toNat_natCast] at hkb; exact hkb
                  have hhas : hasN secs'.length (ia : Int) = true := by rw [OK2.out.len]; simp [hasN]; omega
                  have HRD : Hid (Calls Try.prog 38 #[.pointer (some ⟨db, 0, none⟩), .int .i64 ia] wq fun e w' => e = .returned (.tuple #[.string (strOf (padF x.s)), .nilIface]) ∧ Below wq.heap.size wq w') := by
                    have := read_any base db base secs' _ false 0 false ia wq HD.out (fun i hi => by have := OK2.out.few i (by rw [← OK2.out.len]; exact hi); omega) (by rw [OK2.out.len]; decide)
                    rw [readS_ok hhas, readN_ok hhas, Int.toNat_natCast, HNW.out] at this
                    exact this
                  have G2 : Hid (∀ j, j < 4 → (if j = ia then strOf (padF x.s) else g j) = strOf (wantC K secs'[j]!)) := fun j hj => by
                    rw [HW2.out j hj, hkb]
                    by_cases e : j = ia
                    · subst e; rw [if_pos rfl, if_pos rfl]; rfl
                    · rw [if_neg e, if_neg (fun e' => e e'.symm)]; exact G.out j hj
                  obtain ⟨S, hS⟩ : ∃ S, strOf (padF x.s) = S := ⟨_, rfl⟩
                  rw [hS] at HRD G2
                  clear hS HW2 HNW G hkb
                  go_wp2_with fail
                  refine HRD.out.mono ?_
                  rintro e w8 ⟨rfl, b8⟩
                  have N : Hid ((DiskAt w8 base db base secs' ((n3 + 1 : Nat) : Int) false 0 false ∧ DFr base w w8 ∧ base ≤ w8.heap.size) ∧ Blk w8 X (WA g) 92) := ⟨⟨HD.out.below b8, BQ.out.1.trans (DFr.of_below b8 BQ.out.2.1) (by have := HBS.out; omega), Nat.le_trans BQ.out.2.1 b8.size⟩, BQ.out.2.2.1.below b8⟩
                  have cB := (HS.out _ N.out.1.2.1).1
                  have rw8 : w8.cell? ⟨X, ia, none⟩ = some (.string (g ia)) := by rw [N.out.2.cell]; exact WA_get g ia hi4
                  have fw8 := N.out.2.free
                  have HN9 : Hid ((DiskAt (w8.setCell ⟨X, ia, none⟩ (.string S)) base db base secs' ((n3 + 1 : Nat) : Int) false 0 false ∧ DFr base w (w8.setCell ⟨X, ia, none⟩ (.string S)) ∧ base ≤ (w8.setCell ⟨X, ia, none⟩ (.string S)).heap.size) ∧ Blk (w8.setCell ⟨X, ia, none⟩ (.string S)) X (WA fun j => if j = ia then S else g j) 92) := by
                    refine ⟨⟨N.out.1.1.farset N.out.2 ia _, DFr.own_set N.out.1.2.1 HBS.out HBX.out ia _, by rw [size_setCell]; exact N.out.1.2.2⟩, ?_⟩
                    rw [← WA_set g ia hi4 S]
                    exact N.out.2.set ia _
                  clear b8 N HRD BQ HD HS cA
                  go_wp2
                  go_roundg (len2 - (k3 + 1))
                  case measure => omega
                  case rel => exact ⟨k3 + 1, n3 + 1, _, secs', by omega, by omega, by go_num, by go_num, by omega, HN9, OK2, G2⟩
            · have hlz3 : ¬ (k3 : Int) < (len2 : Int) := by omega
              have HRS : Hid (Calls Try.prog 43 #[.pointer (some ⟨db, 0, none⟩), .int .u64 K] wr fun e w' => e = .returned (.tuple #[]) ∧ DiskAt w' base db base (stl K secs secs.length) 0 false 0 false ∧ DFr base wr w') := restart_any base db base secs n3 false 0 false K wr M.out.1.1 M.out.1.2.2 (fun i hi => by have := OK.out.few i (by rw [← OK.out.len]; exact hi); omega) (fun i hi y hy => by have := OK.out.bit i (by rw [← OK.out.len]; exact hi) y hy; omega) (by rw [OK.out.len]; decide)
              have OK4 : Hid (DOk4 (stl K secs secs.length) 0) := OK.out.stl K
              have G4 : Hid (∀ j, j < 4 → g j = strOf (stl K secs secs.length)[j]!.now) := fun j hj => by
                rw [stl_get K secs j (by rw [OK.out.len]; exact hj) _ (Nat.le_refl _), if_pos (by rw [OK.out.len]; exact hj), now_set]
                exact G.out j hj
              generalize stl K secs secs.length = secs4 at *
              go_wp2_with fail
              refine HRS.out.mono ?_
              rintro e w9 ⟨rfl, d9, f9⟩
              have N9 : Hid ((DiskAt w9 base db base secs4 0 false 0 false ∧ DFr base w w9 ∧ base ≤ w9.heap.size) ∧ Blk w9 X (WA g) 92) := ⟨⟨d9, M.out.1.2.1.trans f9 (by have := HBS.out; omega), Nat.le_trans M.out.1.2.2 f9.b.size⟩, f9.far _ _ _ (by decide) (by decide) (by decide) M.out.2⟩
              clear d9 f9 HRS M OK G
              go_wp2_with fail
              go_loopg [18] 4 (fun gg s18 wr => ∃ k : Nat, k ≤ 4 ∧ 4 - k ≤ gg ∧ s18 = .int .i64 k ∧ Hid ((DiskAt wr base db base secs4 0 false 0 false ∧ DFr base w wr ∧ base ≤ wr.heap.size) ∧ Blk wr X (WA g) 92))
              case atStart => exact ⟨0, Nat.zero_le _, by omega, rfl, N9⟩
              case round =>
                clear N9
                obtain ⟨k4, hk4, hg4, rfl, M⟩ := hrel
                by_cases hlt4 : k4 < 4
                · have hlz4 : (k4 : Int) < 4 := by omega
                  have hhas : hasN secs4.length (k4 : Int) = true := by rw [OK4.out.len]; simp [hasN]; omega
                  have HRD : Hid (Calls Try.prog 38 #[.pointer (some ⟨db, 0, none⟩), .int .i64 k4] wr fun e w' => e = .returned (.tuple #[.string (g k4), .nilIface]) ∧ Below wr.heap.size wr w') := by
                    have := read_any base db base secs4 0 false 0 false k4 wr M.out.1.1 (fun i hi => by have := OK4.out.few i (by rw [← OK4.out.len]; exact hi); omega) (by rw [OK4.out.len]; decide)
                    rw [readS_ok hhas, readN_ok hhas, Int.toNat_natCast, ← G4.out k4 hlt4] at this
                    exact this
                  go_wp2_with fail
                  refine HRD.out.mono ?_
                  rintro e w8 ⟨rfl, b8⟩
                  have N : Hid ((DiskAt w8 base db base secs4 0 false 0 false ∧ DFr base w w8 ∧ base ≤ w8.heap.size) ∧ Blk w8 X (WA g) 92) := ⟨⟨M.out.1.1.below b8, M.out.1.2.1.trans (DFr.of_below b8 M.out.1.2.2) (by have := HBS.out; omega), Nat.le_trans M.out.1.2.2 b8.size⟩, M.out.2.below b8⟩
                  have rw8 : w8.cell? ⟨X, k4, none⟩ = some (.string (g k4)) := by rw [N.out.2.cell]; exact WA_get g k4 hlt4
                  clear b8 M HRD
                  go_wp2
                  go_roundg (4 - (k4 + 1))
                  case measure => omega
                  case rel => exact ⟨k4 + 1, by omega, by omega, by go_num, N⟩
                · have hlz4 : ¬ (k4 : Int) < 4 := by omega
                  go_wp2
                  go_returns
                  exact ⟨rfl, HBW.out _ M.out.1.2.1⟩

end Dk
end Go.Proofs.Ytihapeagjikiaaa
