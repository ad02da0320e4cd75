/- Chapter 11, the law TopGone: its walk. -/
import Derived.Test.YtopgllmjeliklaaGreatDoorKgHsM
import Derived.Test.YtopgllmjeliklaaGreatDoorKgHsO
import Derived.Test.YtopgllmjeliklaaGreatDoorKgCars
import Derived.Deep.CutRange
import Derived.Deep.CutBlock
import Derived.Deep.DeepCutAuto
namespace Go.Proofs.YtopgllmjeliklaaGreatDoor
open Go.Shelf Go.Lib Go.ChangeShapes Go.WideShapes Go.ChangeAt Go.RowKit Go.Maps
set_option maxRecDepth 100000
set_option linter.unusedSimpArgs false
set_option linter.unusedVariables false
namespace Hs
open Bk Lg Pl Dk Tx Tn Ac
theorem filter_take2 (l : List Int) (x : Int) (j : Nat) (hj : j < l.length) : (l.take (j + 1)).filter (fun z => z != x) = if (l.getD j 0 == x) = true then (l.take j).filter (fun z => z != x) else (l.take j).filter (fun z => z != x) ++ [l.getD j 0] := by
 have h1 : l.getD j 0 = l[j] := by simp [List.getD, List.getElem?_eq_getElem hj]
 rw [List.take_add_one, List.getElem?_eq_getElem hj, List.filter_append, h1]
 by_cases e : l[j] = x <;> simp [e]
theorem arrive_two' (id : Int) (s : St) : (arriveB id s = true ∧ arriveE id s = .nilIface) ∨ (arriveB id s = false ∧ ∃ n, arriveE id s = .iface 103 (.int .i64 n)) := by
 unfold arriveE arriveB
 by_cases h1 : 1 ≤ id ∧ id ≤ 999
 ·rw [if_pos h1]
  by_cases h2 : s.op = true ∧ s.ba = 0
  ·rw [if_pos h2]
   cases h3 : hasB s id
   ·left; simp [h1.1, h1.2, h2.1, h2.2]
   ·right; simp [h1.1, h1.2, h2.1, h2.2]; exact ⟨6, rfl⟩
  ·rw [if_neg h2]
   right
   refine ⟨?_, 7, rfl⟩; rw [Bool.eq_false_iff]
   intro k
   simp at k
   exact h2 ⟨k.1.1.2, k.1.2⟩
 ·rw [if_neg h1]
  right
  refine ⟨?_, 1, rfl⟩; rw [Bool.eq_false_iff]
  intro k
  simp at k
  exact h1 k.1.1.1
set_option maxHeartbeats 16000000 in
theorem topGone_law (len : Nat) (f : Nat → Int × Int × Int) (lvv : Value) (alen : Nat) (g : Nat → ActC) (v : Value) (w : World) (hs : SizesAt w lvv len f) (ha : ActsAt w v alen g) (G : Glob w) :
  Calls Tryz.prog 6 #[lvv, v] w fun e w' => e = .returned (.bool true) ∧ Below w.heap.size w w' := by
 have HW : Hid (Calls Tryz.prog 14 #[] w fun e w' => e = .returned (.bool true) ∧ Below w.heap.size w w') := works_any w G
 have HR : Hid (∀ W, Below w.heap.size w W → Calls Tryz.prog 15 #[lvv, v] W (ReadyPost len f alen g W)) := fun W hB => ready_any len f lvv alen g v W (hs.below hB) (ha.below hB) (G.new hB)
 have HG : Hid (∀ W, Below w.heap.size w W → Glob W) := fun W hf => G.below hf G.hn
 have hbg : Hid (Tryz.prog.globals.size ≤ w.heap.size) := G.hn; have HA : Hid (∀ W, Below w.heap.size w W → ActsAt W v alen g) := fun W hf => ha.below hf
 have HS : Hid (∀ W, Below w.heap.size w W → SizesAt W lvv len f) := fun W hf => hs.below hf
 obtain ⟨a, cap, rfl, hl, hm, hok, hc⟩ := id ha; have HOK : Hid (∀ i, i < alen → (g i).Ok) := hok
 clear hs ha G hc hok hl; unfold maxLen at hm; obtain ⟨i0, hi, hi0, hi1, hi2⟩ := info_parts Tryz.infoInt
 go_enter Tryz.func6, Tryz.ntmps6
 go_wp2_with fail; refine HW.out.mono ?_; rintro e w1 ⟨rfl, b1⟩; have X1 : Hid (Below w.heap.size w w1) := b1; have HR1 := hidd (HR.out w1 b1); clear HW HR b1; go_wp2_with fail; refine HR1.out.mono ?_; rintro e w2 ⟨b2, rfl | ⟨hlv, hlight, pb, mb, db, sb, hb, rfl, hx⟩⟩
 ·have X2 : Hid (Below w.heap.size w w2) := B.next X1.out b2 X1.out.size
  clear HR1 b2 X1 HG HA HS HOK; go_wp2; go_returns; exact ⟨rfl, X2.out⟩
 have G2 : Hid (HGone w w2 pb mb db sb hb (rowsOf f len) ⟨newS len, ⟨0, [], []⟩, []⟩ (60 * 0) (.slice none 0 0) []) := ⟨hx.down X1.out.size, B.next X1.out b2 X1.out.size, World.ownsRow_nil _ _ _ _, Gone.start _⟩; have hal : Hid ((alen : Int) ≤ 60) := hlight.1; have HLV : Hid (levelsN len f = 0) := hlv; have hln : Hid (1 ≤ len ∧ len ≤ 4) := ⟨(levelsN_zero hlv).1, (levelsN_zero hlv).2.1⟩; have HAR0 : Hid (∀ (id : Int) (s : St), (arriveB id s = true ∧ arriveE id s = .nilIface) ∨ (arriveB id s = false ∧ ∃ n, arriveE id s = .iface 103 (.int .i64 n))) := arrive_two'
 clear HR1 b2 X1 hx hlight hlv; go_wp2_with fail
 go_loopg [8, 9, 10, 11, 12, 13, 14] alen (fun q hv8 v9 iv10 p11 p12 p13 p14 wr => ∃ (k hb : Nat) (σ : Sg) (l : List Int), k + q = alen ∧ iv10 = .int .i64 k ∧ hv8 = .pointer (some ⟨hb, 0, none⟩) ∧ Hid (HGone w wr pb mb db sb hb (rowsOf f len) σ (60 * k) v9 l))
 case atStart => exact ⟨0, hb, _, [], by omega, rfl, rfl, G2⟩
 case round =>
  clear G2; obtain ⟨k, hb, σ, l, hk, rfl, rfl, HO⟩ := hrel; have HK : Hid (k + gk = alen) := hk
  by_cases hlt : k < alen
  ·have hlt' : (k : Int) < (alen : Int) := by omega
   have hAc := HA.out wr HO.out.b; obtain ⟨a', cap', hv, _, _, _, hc⟩ := hAc; obtain ⟨bq, off, hv2, hbl, hcell⟩ := hc (by omega); injection hv with e1 e2 e3; subst hv2; subst e1 e3; have c0 : wr.cell? ⟨bq, off + k * 12 + 0, none⟩ = some (.string (g k).kind) := hcell k hlt 0 (by omega); have c1 : wr.cell? ⟨bq, off + k * 12 + 1, none⟩ = some (.int .i64 (g k).a) := hcell k hlt 1 (by omega); have c2 : wr.cell? ⟨bq, off + k * 12 + 2, none⟩ = some (.int .i64 (g k).b) := hcell k hlt 2 (by omega); have c3 : wr.cell? ⟨bq, off + k * 12 + 3, none⟩ = some (.int .i64 (g k).c0) := hcell k hlt 3 (by omega); have c4 : wr.cell? ⟨bq, off + k * 12 + 4, none⟩ = some (.int .i64 (g k).c1) := hcell k hlt 4 (by omega); have c5 : wr.cell? ⟨bq, off + k * 12 + 5, none⟩ = some (.int .i64 (g k).c2) := hcell k hlt 5 (by omega); have c6 : wr.cell? ⟨bq, off + k * 12 + 6, none⟩ = some (.int .i64 (g k).c3) := hcell k hlt 6 (by omega); have c7 : wr.cell? ⟨bq, off + k * 12 + 7, none⟩ = some (.string (g k).s) := hcell k hlt 7 (by omega); have c8 : wr.cell? ⟨bq, off + k * 12 + 8, none⟩ = some (.int .u64 (g k).k) := hcell k hlt 8 (by omega); have c9 : wr.cell? ⟨bq, off + k * 12 + 9, none⟩ = some (.int .i64 (g k).last) := hcell k hlt 9 (by omega); have c10 : wr.cell? ⟨bq, off + k * 12 + 10, none⟩ = some (.slice (g k).sa (g k).sl (g k).sc) := hcell k hlt 10 (by omega); have c11 : wr.cell? ⟨bq, off + k * 12 + 11, none⟩ = some (.slice (g k).ja (g k).jl (g k).jc) := hcell k hlt 11 (by omega); have hx := HOK.out k hlt; have HPL := hidd (play_any w.heap.size pb mb db sb hb len f lvv σ (60 * k) (g k) wr HO.out.x (HS.out wr HO.out.b) HLV.out (by have := hal.out; unfold maxLen; omega) hx (HG.out wr HO.out.b) hbg.out)
   have HBQ : Hid (bq < w.heap.size) := by
    obtain ⟨a2, cap2, hv, _, _, _, hc⟩ := HA.out w (Below.refl _ _); obtain ⟨bq2, off2, hv2, hb2, _⟩ := hc (by omega); injection hv with e1 _ _; rw [hv2] at e1; injection e1 with e1; injection e1 with e4 e5 _; subst e4 e5; exact hb2
   have HL18 : Hid (l.length ≤ 18) := HO.out.g.len.2.2; have hl18 := HL18.out; clear hcell hc hk hx; simp only [Nat.add_zero] at c0
   go_upto_block 2 with fail
   go_cut [8, 9, 11, 12, 13, 14] (fun s8 s9 s11 s12 s13 s14 wx => ∃ (hb' : Nat) (σ' : Sg) (l' : List Int), s8 = .pointer (some ⟨hb', 0, none⟩) ∧ Hid (HGone w wx pb mb db sb hb' (rowsOf f len) σ' (60 * (k + 1)) s9 l'))
   case first =>
    cases ka : ((g k).kind.toList == [97, 114, 114, 105, 118, 101])
    ·cases kl : ((g k).kind.toList == [108, 101, 97, 118, 101])
     ·have HCN : Hid (∀ σ', PlayR (rowsOf f len) (g k) σ σ' → ∀ y, y ≠ 0 → Pl.cnt σ'.s y = Pl.cnt σ.s y) := fun σ' hp => hp.cnt HO.out.x.iv ka kl
      go_wp2_with fail; refine HPL.out.mono ?_; rintro e w3 ⟨hb', σ', rfl, f3, hp, hx3⟩; have HO3 : Hid (HGone w w3 pb mb db sb hb' (rowsOf f len) σ' (60 * (k + 1)) u9 l) := HO.out.done f3 (by rw [Nat.mul_succ]; exact hx3) (HCN.out σ' hp); clear HPL f3 hp hx3 HO HCN c0 c1 c2 c3 c4 c5 c6 c7 c8 c9 c10 c11 hbl; go_wp2_with fail
      go_meet
      exact ⟨hb', σ', l, rfl, HO3⟩
     ·have HLv := hidd (leave_any pb mb (60 * k) σ.s wr HO.out.x.p)
      have HX0 : Hid (leaveV σ.s = .tuple #[.int .i64 (if leaveB σ.s = true then σ.s.ba else 0), if leaveB σ.s = true then .nilIface else errV 7]) := rfl
      rw [HX0.out] at HLv
      cases hlb : leaveB σ.s with
      | false =>
        simp only [hlb, Bool.false_eq_true, if_false] at HLv; rw [errV_ne (by decide), show leaveS σ.s = σ.s from by simp [leaveS, hlb]] at HLv
        clear HX0 HPL c1 c2 c3 c4 c5 c6 c7 c8 c9 c10 c11; go_wp2_with fail; refine HLv.out.mono ?_; rintro e w5 ⟨rfl, p5, t5⟩; obtain ⟨hx5, f5⟩ := HO.out.x.turned t5 p5 HO.out.x.iv; have HO5 : Hid (HGone w w5 pb mb db sb hb (rowsOf f len) σ (60 * (k + 1)) u9 l) := HO.out.done f5 (hx5.le (by omega)) (fun _ _ => rfl)
        clear HLv p5 t5 hx5 f5 HO c0 hlb; go_wp2_with fail
        go_meet
        exact ⟨hb, σ, l, rfl, HO5⟩
      | true =>
        simp only [hlb, if_true] at HLv; have HCL : Hid (Gone (leaveS σ.s) (l.filter (fun z => z != σ.s.ba))) := HO.out.g.leave hlb
        have HI2 : Hid (Inv (leaveS σ.s)) := HO.out.x.iv.leave; generalize leaveS σ.s = s2 at HLv HCL HI2; generalize σ.s.ba = id at HLv HCL; clear HX0 HPL c1 c2 c3 c4 c5 c6 c7 c8 c9 c10 c11 hlb; go_wp2_with fail; refine HLv.out.mono ?_; rintro e w5 ⟨rfl, p5, t5⟩; obtain ⟨hx5, f5⟩ := HO.out.x.turned t5 p5 HI2.out; have B5 : Hid (Below w.heap.size w w5) := ((HFr.of_below HO.out.b (Nat.le_refl _)).trans f5).b; have A5 : Hid (IntsAt w5 u9 l) := row_at (row_far HO.out.row fun k arr hk => f5.far k arr _ (by decide) (by decide) (by decide) (by decide) (by decide) (by decide) hk)
        have R6 : Hid (HR w w5 w5.heap.size pb mb db sb hb (rowsOf f len) ⟨s2, σ.b, σ.gs⟩ (60 * (k + 1)) (.slice none 0 0) u9 l ((l.take 0).filter (fun z => z != id))) := by
         obtain ⟨ad, cp, e, a1, a2, hc⟩ := A5.out; exact ⟨World.ownsRow_nil _ _ _ _, hx5.le (by omega), ⟨ad, cp, e, a1, a2, hc⟩, B5.out, Nat.le_refl _, B5.out.size⟩
        generalize hbase : w5.heap.size = base at R6; clear HLv p5 t5 hx5 f5 HO c0 hbase A5 B5; obtain ⟨ad4, cp4, e4, a41, a42, _⟩ := R6.out.at4; subst e4; unfold maxLen at a42; go_wp2_with fail
        go_loopg [13, 14] l.length (fun q vv i wx => ∃ j : Nat, j + q = l.length ∧ i = .int .i64 j ∧ Hid (HR w wx base pb mb db sb hb (rowsOf f len) ⟨s2, σ.b, σ.gs⟩ (60 * (k + 1)) vv (.slice ad4 l.length cp4) l ((l.take j).filter (fun z => z != id))))
        case atStart => exact ⟨0, by omega, rfl, R6⟩
        case round =>
         obtain ⟨j, hj, rfl, PR⟩ := hrel; have HJ : Hid (j + gk = l.length) := hj
         by_cases hlj : j < l.length
         ·obtain ⟨ad5, cp5, e5, _, _, hc5⟩ := PR.out.at4
          cases e5
          obtain ⟨b5, o5, rfl, hb5, hcl5⟩ := hc5 (by omega); have d1 := hcl5 j hlj; have hlj' : (j : Int) < (l.length : Int) := by omega
          have hft := filter_take2 l id j hlj; have HFT : Hid ((l.take (j + 1)).filter (fun z => z != id) = if (l.getD j 0 == id) = true then (l.take j).filter (fun z => z != id) else (l.take j).filter (fun z => z != id) ++ [l.getD j 0]) := hft
          have hfl : ((l.take j).filter (fun z => z != id)).length ≤ 18 := Nat.le_trans (List.length_filter_le _ _) (by rw [List.length_take]; omega)
          generalize (l.take j).filter (fun z => z != id) = F at *
          generalize l.getD j 0 = Y at *; clear hft hcl5 hc5 hj R6
          cases hy : (Y == id)
          ·have HYY : Hid ((Y == id) = false) := hy
           have hy' : ¬ Y = id := by simpa using hy
           have PB : Hid (HR w (wr.alloc (.cells #[.int .i64 Y] 3)) base pb mb db sb hb (rowsOf f len) ⟨s2, σ.b, σ.gs⟩ (60 * (k + 1)) u13 (.slice (some ⟨b5, o5, none⟩) l.length cp4) l F) := PR.out.alloc _; have zbase := PR.out.base1
           go_wp2_with (first
            | (at_builtin; refine wpList_append_own _ rfl _ _ 56 rfl base 3 i0 (.int .i64 0) 1 8 Tryz.underlying56 hi hi0 hi1 hi2 rfl (by decide) _ F.length (ints F) rfl PB.out.row ⟨wr.heap.size, 0, none⟩ 1 1 [.int .i64 Y] rfl rfl (news_new _ _ _ _ (by simp)) (ints_one [Y]) (by unfold maxLen; omega) (by omega) (by simp; omega) ?_
               intro v' w7 hown' hgrow3 hnil3
               have X : Hid (HR w w7 base pb mb db sb hb (rowsOf f len) ⟨s2, σ.b, σ.gs⟩ (60 * (k + 1)) v' (.slice (some ⟨b5, o5, none⟩) l.length cp4) l (F ++ [Y])) := PB.out.grown hown' hgrow3; clear hown' hgrow3 hnil3))
           go_roundg (gk - 1)
           case measure => have := HJ.out; omega
           case rel => exact ⟨j + 1, by have := HJ.out; omega, by go_num, by show HR _ _ _ _ _ _ _ _ _ _ _ _ _ _ _; rw [HFT.out, HYY.out]; exact X.out⟩
          ·have HYY : Hid ((Y == id) = true) := hy
           have hy' : Y = id := by simpa using hy
           subst hy'; go_wp2_with fail
           go_roundg (gk - 1)
           case measure => have := HJ.out; omega
           case rel => exact ⟨j + 1, by have := HJ.out; omega, by go_num, by show HR _ _ _ _ _ _ _ _ _ _ _ _ _ _ _; rw [HFT.out]; simp; exact PR.out⟩
         ·have hlj' : ¬ (j : Int) < (l.length : Int) := by omega
          have hjj : j = l.length := by omega
          subst hjj; rw [List.take_length] at PR; clear R6; go_wp2_with fail
          go_meet
          exact ⟨hb, _, _, rfl, ⟨PR.out.x, PR.out.below, ⟨PR.out.row.1, PR.out.row.2.elim Or.inl fun ⟨g, cap, cur, h1, h2, h3⟩ => Or.inr ⟨g, cap, cur, h1, Nat.le_trans PR.out.base2 h2, h3⟩⟩, HCL.out⟩⟩
    ·have HAr := hidd (arrive_any pb mb (60 * k) σ.s (g k).a wr HO.out.x.p HO.out.x.iv)
     rcases HAR0.out (g k).a σ.s with ⟨hab, ea⟩ | ⟨hab, nn, ea⟩
     ·rw [ea] at HAr
      have HGA : Hid (Gone (arriveS (g k).a σ.s) (l ++ [(g k).a])) := HO.out.g.arrive hab; have HI2 : Hid (Inv (arriveS (g k).a σ.s)) := HO.out.x.iv.arrive _; generalize arriveS (g k).a σ.s = s2 at HAr HGA HI2; clear hab ea HPL c2 c3 c4 c5 c6 c7 c8 c9 c10 c11; go_wp2_with fail; refine HAr.out.mono ?_; rintro e w5 ⟨rfl, p5, t5⟩; obtain ⟨hx5, f5⟩ := HO.out.x.turned t5 p5 HI2.out; have B5 : Hid (Below w.heap.size w w5) := ((HFr.of_below HO.out.b (Nat.le_refl _)).trans f5).b; have d1 : w5.cell? ⟨bq, off + k * 12 + 1, none⟩ = some (.int .i64 (g k).a) := (World.cell?_of_block (f5.b.block bq HBQ.out)).trans c1; have R5 : Hid ((w5.alloc (.cells #[.int .i64 (g k).a] 3)).ownsRow w.heap.size 3 1 u9 l.length (ints l)) := (row_far HO.out.row fun k arr hk => f5.far k arr _ (by decide) (by decide) (by decide) (by decide) (by decide) (by decide) hk).alloc _
      have X5 : Hid (HX (w5.alloc (.cells #[.int .i64 (g k).a] 3)) w.heap.size pb mb db sb hb (rowsOf f len) ⟨s2, σ.b, σ.gs⟩ (60 * (k + 1))) := (hx5.le (by omega)).below (B.new1 _ _); have B5a : Hid (Below w.heap.size w (w5.alloc (.cells #[.int .i64 (g k).a] 3))) := B5.out.alloc B5.out.size _; have zz5 : w.heap.size ≤ w5.heap.size := B5.out.size; clear HAr p5 t5 hx5 f5 HO c0 c1 B5; generalize (g k).a = va at *
      go_wp2_with (first
       | (at_builtin; refine wpList_append_own _ rfl _ _ 56 rfl w.heap.size 3 i0 (.int .i64 0) 1 8 Tryz.underlying56 hi hi0 hi1 hi2 rfl (by decide) _ l.length (ints l) rfl R5.out ⟨w5.heap.size, 0, none⟩ 1 1 [.int .i64 va] rfl rfl (news_new _ _ _ _ (by simp)) (ints_one [va]) (by unfold maxLen; omega) (by omega) (by simp; omega) ?_
          intro v' w7 hown' hgrow3 hnil3
          have X : Hid (HGone w w7 pb mb db sb hb (rowsOf f len) ⟨s2, σ.b, σ.gs⟩ (60 * (k + 1)) v' (l ++ [va])) := ⟨X5.out.grown hgrow3 (fun k hk => (row_blk R5.out k hk).2), Below.grown B5a.out hgrow3 (by simp; omega) (fun k hk => (row_blk R5.out k hk).1), (by rw [ints_append, List.length_append]; exact hown'), HGA.out⟩
          clear hown' hgrow3 hnil3))
      go_meet
      exact ⟨hb, _, _, rfl, X⟩
     ·rw [ea, show arriveS (g k).a σ.s = σ.s from by simp [arriveS, hab]] at HAr
      clear hab ea HPL c2 c3 c4 c5 c6 c7 c8 c9 c10 c11; go_wp2_with fail; refine HAr.out.mono ?_; rintro e w5 ⟨rfl, p5, t5⟩; obtain ⟨hx5, f5⟩ := HO.out.x.turned t5 p5 HO.out.x.iv; have HO5 : Hid (HGone w w5 pb mb db sb hb (rowsOf f len) σ (60 * (k + 1)) u9 l) := HO.out.done f5 (hx5.le (by omega)) (fun _ _ => rfl)
      clear HAr p5 t5 hx5 f5 HO c0 c1; go_wp2_with fail
      go_meet
      exact ⟨hb, σ, l, rfl, HO5⟩
   case rest =>
   obtain ⟨hb', σ', l', rfl, HO3⟩ := hcut; have HCa := hidd (cars_any pb mb (60 * (k + 1)) σ'.s wc HO3.out.x.p HO3.out.x.iv); clear HPL HO c0 c1 c2 c3 c4 c5 c6 c7 c8 c9 c10 c11 hbl hl18 HL18; go_wp2_with fail; refine HCa.out.mono ?_; rintro e w6 ⟨v6, rfl, o6⟩; have HO6 : Hid (HGone w w6 pb mb db sb hb' (rowsOf f len) σ' (60 * (k + 1)) u9 l') := HO3.out.below o6.2; obtain ⟨g1, g2, g3⟩ := HO3.out.g.len; have HAL := hidd (alike_any v6 u9 (carsL σ'.s) l' w6 o6.at (row_at HO6.out.row) g1 g2 (by omega)); clear HCa o6 HO3 g1 g2 g3; go_wp2_with fail; refine HAL.out.mono ?_; rintro e w7 ⟨rfl, b7⟩; have HO7 : Hid (HGone w w7 pb mb db sb hb' (rowsOf f len) σ' (60 * (k + 1)) u9 l') := HO6.out.below b7; clear HAL HO6 b7; go_wp2_with fail
   go_roundg (gk - 1)
   case measure => have := HK.out; omega
   case rel => exact ⟨k + 1, hb', σ', l', by have := HK.out; omega, by go_num, rfl, HO7⟩
  ·have hlt' : ¬ (k : Int) < (alen : Int) := by omega
   clear HA HS HOK hk; go_wp2; go_returns; exact ⟨rfl, HO.out.b⟩
end Hs
end Go.Proofs.YtopgllmjeliklaaGreatDoor
