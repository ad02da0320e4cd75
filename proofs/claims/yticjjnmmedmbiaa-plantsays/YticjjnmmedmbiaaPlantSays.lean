/- Chapter 2: the walk of the statement 'PlantSays' (B1 to B4). -/
import Derived.Test.YticjjnmmedmbiaaPlantSaysA
namespace Go.Proofs.Yticjjnmmedmbiaa
open Go.ChangeShapes Go.WideShapes Go.ChangeAt Go.RowKit Go.Maps
set_option maxRecDepth 100000
set_option linter.unusedSimpArgs false
set_option linter.unusedVariables false

namespace Pl
open Ac
theorem neqSame_run (x y z : Int) (w : World) : Sem.run Try.prog (binOp .neq 28 (.agg #[.int .i64 x, .int .i64 y, .int .i64 z]) (.agg #[.int .i64 x, .int .i64 y, .int .i64 z])) w = .ok (.bool false) w := by
  have u3 := Try.underlying3
  have a3 := Try.isAgg3
  have z3 := Try.sizeOf3
  have hS : Try.prog.underlying 28 = some (.struct (Try.prog.fieldsOf 28)) := by kernel_rfl
  have hp : Try.prog.stoodInHeld 28 = false := by kernel_rfl
  rw [run_neq_struct, show (10000 : Nat) = 9999 + 1 from rfl, run_equalIn_agg w 9999 28 _ _ hS hp]
  simp only [Program.fieldsOf, Try.underlying28]
  go_simp
theorem guardPl_run (op : BinOp) (u v : Operand) (a b : Array Value) (w : World) : Sem.run Try.prog (eqGuard op 28 u v (.agg a) (.agg b)) w = .ok () w := run_eqGuard_agg w op 28 u v a b (by kernel_rfl)

/-- Both machines stand as s is. -/
structure Both (w wx : World) (pb mb rb n : Nat) (s : St) : Prop where
  p : IsP wx pb mb n s
  r : IsR wx rb s
  b : Below w.heap.size w wx
theorem Both.below {w wx wy : World} {pb mb rb n : Nat} {s : St} (h : Both w wx pb mb rb n s) (hb : Below wx.heap.size wx wy) : Both w wy pb mb rb n s := ⟨h.p.below hb, h.r.below hb, B.next h.b hb h.b.size⟩

set_option maxHeartbeats 8000000 in
theorem plantSays_run (lv : Int) (v : Value) (len : Nat) (f : Nat → ActC) (w : World) (hs : ActsAt w v len f) :
    Calls Try.prog 4 #[.int .i64 lv, v] w fun e w' => e = .returned (.bool true) ∧ Below w.heap.size w w' := by
  have HS : Hid (ActsAt w v len f) := hs
  obtain ⟨a, cap, rfl, hl, hm, hok, hcc⟩ := hs
  clear hok hcc
  unfold maxLen at hm
  have eP := neqSame_run
  have gP := guardPl_run
  go_enter Try.func4, Try.ntmps4
  go_wp2_with fail
  refine (machines_any w).mono ?_
  rintro e w1 ⟨rfl, b1⟩
  have B1 : Hid (Below w.heap.size w w1) := b1
  clear b1
  go_wp2_with fail
  refine (light_any _ len f 120 w1 (HS.out.below B1.out)).mono ?_
  rintro e w2 ⟨b, rfl, hli, hw⟩
  subst hw
  have HL : Hid (b = true → Light len f 120) := hli
  clear hli
  cases b
  · go_wp2
    go_returns
    exact ⟨rfl, B1.out⟩
  have h120 : len ≤ 120 := by have := (HL.out rfl).1; omega
  clear HL
  go_wp2_with fail
  by_cases hlv : 1 ≤ lv ∧ lv ≤ 4
  · refine (new_any lv w2 hlv.1 hlv.2).mono ?_
    rintro e w3 ⟨rfl, p3, b3⟩
    have z2 : w.heap.size ≤ w2.heap.size := B1.out.size
    have B3 : Hid (Below w.heap.size w w3) := B.next B1.out b3 z2
    have P3 : Hid (IsP w3 (w2.heap.size + 1) w2.heap.size 0 (newS lv)) := p3
    have I3 : Hid (Inv (newS lv)) := Inv.new hlv.1 hlv.2
    have hl1 := hlv.1; have hl4 := hlv.2
    clear p3 b3 hlv B1
    generalize hmb : w2.heap.size = mb at *
    generalize hpb : mb + 1 = pb at *
    have hpb' : w.heap.size ≤ pb := by omega
    clear hpb hmb
    go_wp2_with fail
    refine (rnew_any lv w3 hl1 hl4).mono ?_
    rintro e w4 ⟨rfl, r4, b4⟩
    have T4 : Hid (Both w w4 pb mb w3.heap.size 0 (newS lv)) := ⟨P3.out.below b4, r4, B.next B3.out b4 B3.out.size⟩
    have hrb : w.heap.size ≤ w3.heap.size := B3.out.size
    clear r4 b4 P3 B3
    generalize w3.heap.size = rb at *
    go_wp2_with fail
    go_loopg [10] len (fun gg s10 wr => ∃ (k : Nat) (s : St), k ≤ len ∧ len - k ≤ gg ∧ s10 = .int .i64 k ∧ Hid (Both w wr pb mb rb k s) ∧ Hid (Inv s) ∧ Hid (Uniq s))
    case atStart => exact ⟨0, _, Nat.zero_le _, by omega, rfl, T4, I3, Uniq.new lv⟩
    case round =>
      clear T4 I3
      obtain ⟨k, s, hk, hg, rfl, T, HI, HU⟩ := hrel
      by_cases hlt : k < len
      · have hltz : (k : Int) < (len : Int) := by omega
        obtain ⟨a', cap', ev, _, _, _, hc⟩ := HS.out.below T.out.b
        cases ev
        obtain ⟨b, off, rfl, hb, hcell⟩ := hc (by omega)
        clear hcell hc hb
        have HAC : Hid (∀ wx, Below w.heap.size w wx → ∀ i, i < 12 → wx.cell? ⟨b, off + k * 12 + i, none⟩ = (f k).vals[i]?) := fun wx hbx i hi => by
          obtain ⟨a', cap', ev, _, _, _, hc⟩ := HS.out.below hbx
          cases ev
          obtain ⟨b', off', e', hb', hcell⟩ := hc (by omega)
          cases e'
          exact hcell k hlt i hi
        generalize f k = x at HAC
        have c0 := HAC.out wr T.out.b 0 (by omega); have c1 := HAC.out wr T.out.b 1 (by omega); have c2 := HAC.out wr T.out.b 2 (by omega); have c3 := HAC.out wr T.out.b 3 (by omega)
        have c4 := HAC.out wr T.out.b 4 (by omega); have c5 := HAC.out wr T.out.b 5 (by omega); have c6 := HAC.out wr T.out.b 6 (by omega); have c7 := HAC.out wr T.out.b 7 (by omega)
        have c8 := HAC.out wr T.out.b 8 (by omega); have c9 := HAC.out wr T.out.b 9 (by omega); have c10 := HAC.out wr T.out.b 10 (by omega); have c11 := HAC.out wr T.out.b 11 (by omega)
        simp [ActC.vals] at c0 c1 c2 c3 c4 c5 c6 c7 c8 c9 c10 c11
        have HA : Hid (∀ wx, Below w.heap.size w wx → wx.cell? ⟨b, off + k * 12 + 1, none⟩ = some (.int .i64 x.a)) := fun wx hbx => by
          have := HAC.out wx hbx 1 (by omega)
          simpa [ActC.vals] using this
        clear HAC
        have hkm : k < maxLen := by unfold maxLen; omega
        have HO : Hid (Calls Try.prog 38 #[.pointer (some ⟨pb, 0, none⟩), .pointer (some ⟨rb, 0, none⟩), .agg #[.string x.kind, .int .i64 x.a, .int .i64 x.b, .int .i64 x.c0, .int .i64 x.c1, .int .i64 x.c2, .int .i64 x.c3, .string x.s, .int .u64 x.k, .int .i64 x.last, .slice x.sa x.sl x.sc, .slice x.ja x.jl x.jc]] wr fun e w' => e = .returned (.bool true) ∧ IsP w' pb mb (k + 1) (outS x s) ∧ IsR w' rb (outS x s) ∧ Turn3 pb mb rb wr w') := lout_any pb mb rb k s x wr T.out.p T.out.r HI.out hkm
        have HU2 : Hid (Uniq (outS x s)) := HU.out.out HI.out x
        have HI2 : Hid (Inv (outS x s)) := HI.out.out x
        generalize outS x s = s2 at HO HU2 HI2
        go_wp2_with fail
        refine HO.out.mono ?_
        rintro e w5 ⟨rfl, p5, r5, t5⟩
        have T5 : Hid (Both w w5 pb mb rb (k + 1) s2) := ⟨p5, r5, Turn3.new T.out.b t5 (by omega) (by omega) (by omega) T.out.b.size⟩
        clear p5 r5 t5 HO T HU HI c0 c1 c2 c3 c4 c5 c6 c7 c8 c9 c10 c11
        have HAS : Hid (Calls Try.prog 39 #[.pointer (some ⟨pb, 0, none⟩), .pointer (some ⟨rb, 0, none⟩)] w5 fun e w' => e = .returned (.bool true) ∧ Below w5.heap.size w5 w') := asPlant_any pb mb rb (k + 1) s2 w5 T5.out.p T5.out.r HI2.out
        have HWP : Hid (∀ id wx, Both w wx pb mb rb (k + 1) s2 → Calls Try.prog 40 #[.pointer (some ⟨pb, 0, none⟩), .int .i64 id] wx fun e w' => ∃ x y z b, e = .returned (.tuple #[.agg #[.int .i64 x, .int .i64 y, .int .i64 z], .bool b]) ∧ WhereP s2.D id x y z b ∧ Below wx.heap.size wx w') := fun id wx h => where_any pb mb (k + 1) s2 id wx h.p
        have HWR : Hid (∀ id wx, id ≠ 0 → Both w wx pb mb rb (k + 1) s2 → Calls Try.prog 41 #[.pointer (some ⟨rb, 0, none⟩), .int .i64 id] wx (RWherePost s2 id wx)) := fun id wx h0 h => rwhere_any rb s2 id wx h.r h0
        have HHP : Hid (∀ id wx, Both w wx pb mb rb (k + 1) s2 → Calls Try.prog 42 #[.pointer (some ⟨pb, 0, none⟩), .int .i64 id] wx fun e w' => e = .returned (.bool (hasB s2 id)) ∧ Below wx.heap.size wx w') := fun id wx h => has_any pb mb (k + 1) s2 id wx h.p HI2.out
        have HHR : Hid (∀ id wx, id ≠ 0 → Both w wx pb mb rb (k + 1) s2 → Calls Try.prog 43 #[.pointer (some ⟨rb, 0, none⟩), .int .i64 id] wx fun e w' => e = .returned (.bool (hasB s2 id)) ∧ Below wx.heap.size wx w') := fun id wx h0 h => rhas_any rb s2 id wx h.r h0
        go_wp2_with fail
        refine HAS.out.mono ?_
        rintro e w6 ⟨rfl, b6⟩
        have T6 : Hid (Both w w6 pb mb rb (k + 1) s2) := T5.out.below b6
        clear b6 T5 HAS
        go_wp2_with fail
        have AO : Hid (len - k ≤ gk ∧ k ≤ len) := ⟨hg, hk⟩
        go_loopg [12] 3 (fun gg s12 wr => ∃ j : Nat, 1 ≤ j ∧ j ≤ 4 ∧ 4 - j ≤ gg ∧ s12 = .int .i64 j ∧ Hid (Both w wr pb mb rb (k + 1) s2))
        case atStart => exact ⟨1, by omega, by omega, by omega, rfl, T6⟩
        case round =>
          clear T6
          obtain ⟨j, hj1, hj4, hgj, rfl, T⟩ := hrel
          by_cases hltj : j < 4
          · have hltjz : (j : Int) < 4 := by omega
            go_wp2_with fail
            refine (HWP.out j _ T.out).mono ?_
            rintro e wA ⟨x1, y1, z1, b1, rfl, hw1, bA⟩
            have TA : Hid (Both w wA pb mb rb (k + 1) s2) := T.out.below bA
            have HW1 : Hid (WhereP s2.D j x1 y1 z1 b1) := hw1
            clear bA hw1 T
            obtain ⟨wB, hwB⟩ : ∃ wB, wA.alloc (.cells #[.int .i64 x1, .int .i64 y1, .int .i64 z1] 28) = wB := ⟨_, rfl⟩
            have TB : Hid (Both w wB pb mb rb (k + 1) s2 ∧ Blk wB wA.heap.size #[.int .i64 x1, .int .i64 y1, .int .i64 z1] 28) := by
              show _ ∧ _
              rw [← hwB]
              exact ⟨TA.out.below (B.new1 _ _), Blk.new _ _ _⟩
            clear TA
            go_wp2_with fail
            clear hwB
            generalize wA.heap.size = XA at *
            refine (HWR.out j _ (by omega) TB.out.1).mono ?_
            rintro e wC ⟨x2, y2, z2, b2, rfl, hw2, bC⟩
            obtain ⟨rfl, rfl, rfl, rfl⟩ := where_same HU2.out HI2.out (by omega) HW1.out hw2
            have TC : Hid (Both w wC pb mb rb (k + 1) s2 ∧ Blk wC XA #[.int .i64 x1, .int .i64 y1, .int .i64 z1] 28) := ⟨TB.out.1.below bC, TB.out.2.below bC⟩
            clear bC hw2 HW1 TB
            obtain ⟨wD, hwD⟩ : ∃ wD, wC.alloc (.cells #[.int .i64 x1, .int .i64 y1, .int .i64 z1] 28) = wD := ⟨_, rfl⟩
            have TD : Hid (Both w wD pb mb rb (k + 1) s2 ∧ Blk wD XA #[.int .i64 x1, .int .i64 y1, .int .i64 z1] 28 ∧ Blk wD wC.heap.size #[.int .i64 x1, .int .i64 y1, .int .i64 z1] 28) := by
              show _ ∧ _ ∧ _
              rw [← hwD]
              exact ⟨TC.out.1.below (B.new1 _ _), TC.out.2.below (B.new1 _ _), Blk.new _ _ _⟩
            have ra := TD.out.2.1.cell
            have rc := TD.out.2.2.cell
            clear TC
            go_wp2_with fail
            clear hwD ra rc
            refine (HHP.out j _ TD.out.1).mono ?_
            rintro e wE ⟨rfl, bE⟩
            have TE : Hid (Both w wE pb mb rb (k + 1) s2) := TD.out.1.below bE
            clear bE TD
            go_wp2_with fail
            refine (HHR.out j _ (by omega) TE.out).mono ?_
            rintro e wF ⟨rfl, bF⟩
            have TF : Hid (Both w wF pb mb rb (k + 1) s2) := TE.out.below bF
            clear bF TE
            generalize hasB s2 j = q
            go_wp2
            go_roundg (4 - (j + 1))
            case measure => omega
            case rel => exact ⟨j + 1, by omega, by omega, by omega, by go_num, TF⟩
          · have hltjz : ¬ (j : Int) < 4 := by omega
            have cA := HA.out wr T.out.b
            by_cases hpos : 0 < x.a
            · go_wp2_with fail
              refine (HWP.out x.a _ T.out).mono ?_
              rintro e wA ⟨x1, y1, z1, b1, rfl, hw1, bA⟩
              have TA : Hid (Both w wA pb mb rb (k + 1) s2) := T.out.below bA
              have HW1 : Hid (WhereP s2.D x.a x1 y1 z1 b1) := hw1
              clear bA hw1 T cA
              obtain ⟨wB, hwB⟩ : ∃ wB, wA.alloc (.cells #[.int .i64 x1, .int .i64 y1, .int .i64 z1] 28) = wB := ⟨_, rfl⟩
              have TB : Hid (Both w wB pb mb rb (k + 1) s2 ∧ Blk wB wA.heap.size #[.int .i64 x1, .int .i64 y1, .int .i64 z1] 28) := by
                show _ ∧ _
                rw [← hwB]
                exact ⟨TA.out.below (B.new1 _ _), Blk.new _ _ _⟩
              have cA := HA.out wB TB.out.1.b
              clear TA
              go_wp2_with fail
              clear hwB cA
              generalize wA.heap.size = XA at *
              refine (HWR.out x.a _ (by omega) TB.out.1).mono ?_
              rintro e wC ⟨x2, y2, z2, b2, rfl, hw2, bC⟩
              obtain ⟨rfl, rfl, rfl, rfl⟩ := where_same HU2.out HI2.out (by omega) HW1.out hw2
              have TC : Hid (Both w wC pb mb rb (k + 1) s2 ∧ Blk wC XA #[.int .i64 x1, .int .i64 y1, .int .i64 z1] 28) := ⟨TB.out.1.below bC, TB.out.2.below bC⟩
              clear bC hw2 HW1 TB
              obtain ⟨wD, hwD⟩ : ∃ wD, wC.alloc (.cells #[.int .i64 x1, .int .i64 y1, .int .i64 z1] 28) = wD := ⟨_, rfl⟩
              have TD : Hid (Both w wD pb mb rb (k + 1) s2 ∧ Blk wD XA #[.int .i64 x1, .int .i64 y1, .int .i64 z1] 28 ∧ Blk wD wC.heap.size #[.int .i64 x1, .int .i64 y1, .int .i64 z1] 28) := by
                show _ ∧ _ ∧ _
                rw [← hwD]
                exact ⟨TC.out.1.below (B.new1 _ _), TC.out.2.below (B.new1 _ _), Blk.new _ _ _⟩
              clear TC
              have h0 := fun p : BelowW wD => (TD.out.2.1.below p.hb).cell 0
              have h1 := fun p : BelowW wD => (TD.out.2.1.below p.hb).cell 1
              have h2 := fun p : BelowW wD => (TD.out.2.1.below p.hb).cell 2
              have k0 := fun p : BelowW wD => (TD.out.2.2.below p.hb).cell 0
              have k1 := fun p : BelowW wD => (TD.out.2.2.below p.hb).cell 1
              have k2 := fun p : BelowW wD => (TD.out.2.2.below p.hb).cell 2
              have ka := fun p : BelowW wD => HA.out p.wd (TD.out.1.below p.hb).b
              have H1 : Hid (∀ p : BelowW wD, Calls Try.prog 42 #[.pointer (some ⟨pb, 0, none⟩), .int .i64 x.a] p.wd fun e w' => e = .returned (.bool (hasB s2 x.a)) ∧ Below p.wd.heap.size p.wd w') := fun p => HHP.out x.a p.wd (TD.out.1.below p.hb)
              have H2 : Hid (∀ p : BelowW wD, Calls Try.prog 43 #[.pointer (some ⟨rb, 0, none⟩), .int .i64 x.a] p.wd fun e w' => e = .returned (.bool (hasB s2 x.a)) ∧ Below p.wd.heap.size p.wd w') := fun p => HHR.out x.a p.wd (by omega) (TD.out.1.below p.hb)
              generalize hasB s2 x.a = q at H1 H2
              go_wp2_with fail
              clear hwD
              refine wp_region_below (by kernel_rfl) (by kernel_rfl) ?_
              repeat (quiet_step (first | (go_at_call 42; exact Calls.wof (H1.out _)) | (go_at_call 43; exact Calls.wof (H2.out _))))
              refine wpQuiet_nil ?_
              rintro wE ⟨⟨_, NQ⟩, rfl⟩
              have TE : Hid (Both w wE pb mb rb (k + 1) s2) := TD.out.1.below NQ
              clear h0 h1 h2 k0 k1 k2 ka NQ H1 H2 TD
              go_wp2
              go_roundg (len - (k + 1))
              case measure => omega
              case rel => exact ⟨k + 1, s2, by omega, by omega, by go_num, TE, HI2, HU2⟩
            · go_wp2
              go_roundg (len - (k + 1))
              case measure => omega
              case rel => exact ⟨k + 1, s2, by omega, by omega, by go_num, T, HI2, HU2⟩
      · have hltz : ¬ (k : Int) < (len : Int) := by omega
        go_wp2
        go_returns
        exact ⟨rfl, T.out.b⟩
  · refine (new_bad lv w2 hlv).mono ?_
    rintro e w3 ⟨rfl, rfl⟩
    generalize hE : errV 1 = E1
    go_wp2_with fail
    refine (rnew_bad lv _ hlv).mono ?_
    rintro e w4 ⟨rfl, rfl⟩
    go_wp2_with fail
    rw [← hE]
    refine (same_any 1 _ (by omega)).mono ?_
    rintro e w5 ⟨rfl, rfl⟩
    go_wp2
    go_returns
    exact ⟨rfl, B1.out⟩

end Pl
end Go.Proofs.Yticjjnmmedmbiaa
