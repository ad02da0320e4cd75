/- slices.DeleteFunc at stays of the call's own: what is kept, in its order; contract for the laws of stage 2. -/
import Derived.Test.YtaikbojdmfkbhaaGreatDoorDel
import Derived.Shelf.SlicesE.DeleteFunc
namespace Go.Proofs.YtaikbojdmfkbhaaGreatDoor
open Go.Shelf Go.Lib Go.ChangeShapes Go.WideShapes Go.ChangeAt Go.RowKit
set_option maxRecDepth 100000
set_option linter.unusedSimpArgs false
set_option linter.unusedVariables false

namespace Bk

theorem zeroS_run (w : World) : (zeroValue 84).run Tryz.prog w = .ok (.agg #[.int .i64 0, .int .i64 0, .int .i64 0, .int .i64 0, .int .i64 0, .int .i64 0, .int .i64 0, .int .i64 0]) w := by kernel_rfl
theorem zeroCellsS (n : Nat) : ((Builtin.zeroCells (Value.agg #[.int .i64 0, .int .i64 0, .int .i64 0, .int .i64 0, .int .i64 0, .int .i64 0, .int .i64 0, .int .i64 0]).cells n).toList).length = n * 8 ∧ ∀ v ∈ (Builtin.zeroCells (Value.agg #[.int .i64 0, .int .i64 0, .int .i64 0, .int .i64 0, .int .i64 0, .int .i64 0, .int .i64 0, .int .i64 0]).cells n).toList, v.oneCell' = true := by
  refine ⟨by simp [Builtin.zeroCells, Value.cells, Nat.mul_comm], fun v hv => ?_⟩
  simp only [Builtin.zeroCells, Value.cells] at hv
  simp at hv
  obtain ⟨i, hi, rfl⟩ := hv
  have h : i % 8 < 8 := Nat.mod_lt _ (by decide)
  generalize i % 8 = m at h
  have hm : m = 0 ∨ m = 1 ∨ m = 2 ∨ m = 3 ∨ m = 4 ∨ m = 5 ∨ m = 6 ∨ m = 7 := by omega
  rcases hm with rfl | rfl | rfl | rfl | rfl | rfl | rfl | rfl <;> rfl

set_option maxHeartbeats 4000000 in
theorem delS_any (p : Stay → Bool) (gf : Nat) (lb : Array Value) (eg : ∀ args w, (callFunc gf args).run Tryz.prog w = .ok (.enter gf args) w) (base : Nat) (v : Value) (l : List Stay) (w : World) (h : OwnAt w base 84 8 Stay.enc v l) (hl : l.length ≤ 1000)
    (hp : ∀ W, w.grownBy W v.ownBlock → ∀ x : Stay, Calls Tryz.prog gf (#[.agg #[.int .i64 x.t, .int .i64 x.id, .int .i64 x.a, .int .i64 x.b, .int .i64 x.c, .int .i64 x.x, .int .i64 x.y, .int .i64 x.z]] ++ lb) W fun e w' => e = .returned (.bool (p x)) ∧ Below W.heap.size W w') :
    Calls Tryz.prog 155 #[v, .func (.func gf) #[] lb] w fun e w' => ∃ v', e = .returned v' ∧ OwnAt w' base 84 8 Stay.enc v' (l.filter fun x => !p x) ∧ w.grownBy w' v.ownBlock ∧ (∀ g, v'.ownBlock = some g → v.ownBlock = some g) := by
  rcases h with ⟨rfl, rfl⟩ | ⟨g, cap, cur, rfl, hg, hk, hlc, hm, hs, hr⟩
  · clear hp eg
    go_enter Tryz.func155, Tryz.ntmps155
    go_wp2_with fail
    refine (idxStay_none _ _ _ _).mono ?_
    rintro e w1 ⟨rfl, rfl⟩
    go_wp2
    go_returns
    exact ⟨_, rfl, Or.inl ⟨rfl, rfl⟩, grown_refl _ _, fun g h => h⟩
  · unfold maxLen at hm
    have hPB : PredBelow Tryz.prog gf lb (fun x : Stay => .agg x.enc.toArray) p w := fun W x hb =>
      (hp W (grown_of_below hb) x).mono fun e w' ⟨he, hb'⟩ => ⟨he, B.next hb hb' hb.size⟩
    have HI : Hid (Calls Tryz.prog 79 #[.slice (some ⟨g, 0, none⟩) l.length cap, .func (.func gf) #[] lb] w fun e w' => e = .returned (.int .i64 (Lib.idxBy (fun _ y => p y) l default)) ∧ Below w.heap.size w w') := by
      have := AnyQ.slices_IndexFunc Tryz.lis 8 Tryz.isAgg84 Tryz.sizeOf84 Stay.enc (fun _ => rfl) p gf lb eg g 0 l.length cap l w hPB (Nat.le_refl _) (by omega) hk.lt (fun j hj i u hu => by rw [hk.cell, Nat.zero_add]; exact hr j hj i u hu)
      rw [List.take_length] at this
      exact this
    have HP : Hid (∀ W, w.grownBy W (some g) → ∀ x : Stay, Calls Tryz.prog gf (#[.agg #[.int .i64 x.t, .int .i64 x.id, .int .i64 x.a, .int .i64 x.b, .int .i64 x.c, .int .i64 x.x, .int .i64 x.y, .int .i64 x.z]] ++ lb) W fun e w' => e = .returned (.bool (p x)) ∧ Below W.heap.size W w') := hp
    rcases idxByFrom_spec (fun _ y => p y) default l 0 with ⟨e1, hall⟩ | ⟨k0, hk0, e1, ht, hall⟩
    · have e2 : Lib.idxBy (fun _ y => p y) l default = -1 := e1
      rw [e2] at HI
      have e3 : (l.filter fun x => !p x) = l := by
        rw [List.filter_eq_self]
        intro a ha
        obtain ⟨j, hj, rfl⟩ := List.getElem_of_mem ha
        have := hall j hj
        rw [getElem!_pos l j hj] at this
        simp [this]
      have HO : Hid (∀ w1, Below w.heap.size w w1 → OwnAt w1 base 84 8 Stay.enc (.slice (some ⟨g, 0, none⟩) l.length cap) (l.filter fun x => !p x)) := fun w1 hb => by
        rw [e3]
        exact Or.inr ⟨g, cap, cur, rfl, hg, hk.below hb, hlc, hm, hs, hr⟩
      clear hp hPB hall e1 e2 e3 hr hs hk HP
      go_enter Tryz.func155, Tryz.ntmps155
      go_wp2_with fail
      refine HI.out.mono ?_
      rintro e w1 ⟨rfl, b1⟩
      have B1 : Hid (Below w.heap.size w w1) := b1
      clear b1
      go_wp2
      go_returns
      exact ⟨_, rfl, HO.out _ B1.out, grown_of_below B1.out, fun g h => h⟩
    · have e2 : Lib.idxBy (fun _ y => p y) l default = (k0 : Int) := by unfold Lib.idxBy; rw [e1]; simp
      rw [e2] at HI
      have hne1 : ((k0 : Int) == -1) = false := beq_eq_false_iff_ne.2 (by omega)
      have hft : (l.take k0).filter (fun x => !p x) = l.take k0 := by
        rw [List.filter_eq_self]
        intro a ha
        obtain ⟨j, hj, rfl⟩ := List.getElem_of_mem ha
        simp only [List.length_take] at hj
        have := hall j (by omega)
        rw [getElem!_pos l j (by omega)] at this
        simp [List.getElem_take, this]
      have ht' : p l[k0]! = true := ht
      have HD : Hid (∀ w1, Below w.heap.size w w1 → DelI w w1 g cap 8 84 Stay.enc p l (k0 + 1) k0) := fun w1 hb => by
        have h0 : DelI w w g cap 8 84 Stay.enc p l k0 k0 := ⟨grown_refl _ _, by rw [hft, List.length_take]; omega, cur, hk, hs, by
          rw [hft]
          intro j hj i u hu
          simp only [List.length_take] at hj
          have e : (l.take k0)[j]! = l[j]! := by rw [getElem!_pos (l.take k0) j (by simp; omega), getElem!_pos l j (by omega), List.getElem_take]
          rw [e] at hu
          exact hr j (by omega) i u hu, fun a _ ha => hr a ha⟩
        exact h0.skip hk0 ht' hb
      clear hp hPB hall e1 e2 hft hr hs hk ht ht'
      go_enter Tryz.func155, Tryz.ntmps155
      go_wp2_with fail
      refine HI.out.mono ?_
      rintro e w1 ⟨rfl, b1⟩
      have D1 : Hid (DelI w w1 g cap 8 84 Stay.enc p l (k0 + 1) k0) := HD.out w1 b1
      clear b1 HD HI
      go_wp2_with fail
      go_loopg [5, 6, 7] l.length (fun gg s5 s6 _ wr => ∃ i j : Nat, s5 = .int .i64 i ∧ s6 = .int .i64 j ∧ j ≤ l.length ∧ l.length - j ≤ gg ∧ i < j ∧ Hid (DelI w wr g cap 8 84 Stay.enc p l j i))
      case atStart => exact ⟨k0, k0 + 1, rfl, by go_num, by omega, by omega, by omega, D1⟩
      case round =>
        clear D1
        obtain ⟨i, j, rfl, rfl, hjl, hgg, hij, D⟩ := hrel
        obtain ⟨cu, hb, hsz, _, hcu⟩ := D.out.cur
        have KB : Hid (Blk wr g cu 84) := hb
        have HZ : Hid (cu.size = cap * 8) := hsz
        by_cases hlt : j < l.length
        · have hltz : (j : Int) < (l.length : Int) := by omega
          have hiz : (i : Int) < (l.length : Int) := by omega
          have HX : Hid (∀ c u, (Stay.enc l[j]!)[c]? = some u → cu[j * 8 + c]? = some u) := hcu j (Nat.le_refl _) hlt
          have c0 := (hb.cell (j * 8 + 0)).trans (HX.out 0 _ rfl)
          have c1 := (hb.cell (j * 8 + 1)).trans (HX.out 1 _ rfl)
          have c2 := (hb.cell (j * 8 + 2)).trans (HX.out 2 _ rfl)
          have c3 := (hb.cell (j * 8 + 3)).trans (HX.out 3 _ rfl)
          have c4 := (hb.cell (j * 8 + 4)).trans (HX.out 4 _ rfl)
          have c5 := (hb.cell (j * 8 + 5)).trans (HX.out 5 _ rfl)
          have c6 := (hb.cell (j * 8 + 6)).trans (HX.out 6 _ rfl)
          have c7 := (hb.cell (j * 8 + 7)).trans (HX.out 7 _ rfl)
          obtain ⟨o0, ho0⟩ : ∃ o, cu[i * 8 + 0]? = some o := ⟨_, Array.getElem?_eq_getElem (by rw [HZ.out]; have : (i + 1) * 8 ≤ cap * 8 := Nat.mul_le_mul_right 8 (by omega); omega)⟩
          obtain ⟨o1, ho1⟩ : ∃ o, cu[i * 8 + 1]? = some o := ⟨_, Array.getElem?_eq_getElem (by rw [HZ.out]; have : (i + 1) * 8 ≤ cap * 8 := Nat.mul_le_mul_right 8 (by omega); omega)⟩
          obtain ⟨o2, ho2⟩ : ∃ o, cu[i * 8 + 2]? = some o := ⟨_, Array.getElem?_eq_getElem (by rw [HZ.out]; have : (i + 1) * 8 ≤ cap * 8 := Nat.mul_le_mul_right 8 (by omega); omega)⟩
          obtain ⟨o3, ho3⟩ : ∃ o, cu[i * 8 + 3]? = some o := ⟨_, Array.getElem?_eq_getElem (by rw [HZ.out]; have : (i + 1) * 8 ≤ cap * 8 := Nat.mul_le_mul_right 8 (by omega); omega)⟩
          obtain ⟨o4, ho4⟩ : ∃ o, cu[i * 8 + 4]? = some o := ⟨_, Array.getElem?_eq_getElem (by rw [HZ.out]; have : (i + 1) * 8 ≤ cap * 8 := Nat.mul_le_mul_right 8 (by omega); omega)⟩
          obtain ⟨o5, ho5⟩ : ∃ o, cu[i * 8 + 5]? = some o := ⟨_, Array.getElem?_eq_getElem (by rw [HZ.out]; have : (i + 1) * 8 ≤ cap * 8 := Nat.mul_le_mul_right 8 (by omega); omega)⟩
          obtain ⟨o6, ho6⟩ : ∃ o, cu[i * 8 + 6]? = some o := ⟨_, Array.getElem?_eq_getElem (by rw [HZ.out]; have : (i + 1) * 8 ≤ cap * 8 := Nat.mul_le_mul_right 8 (by omega); omega)⟩
          obtain ⟨o7, ho7⟩ : ∃ o, cu[i * 8 + 7]? = some o := ⟨_, Array.getElem?_eq_getElem (by rw [HZ.out]; have : (i + 1) * 8 ≤ cap * 8 := Nat.mul_le_mul_right 8 (by omega); omega)⟩
          clear hcu HX hb hsz
          simp only [Nat.add_zero] at c0 ho0
          have KS : Hid (∀ wx, Below wr.heap.size wr wx → p l[j]! = true → DelI w wx g cap 8 84 Stay.enc p l (j + 1) i) := fun wx hb hp => D.out.skip hlt hp hb
          have KK : Hid (∀ wx, Below wr.heap.size wr wx → p l[j]! = false → DelI w (wx.setCells g (i * 8) (Stay.enc l[j]!)) g cap 8 84 Stay.enc p l (j + 1) (i + 1)) := fun wx hb hp => D.out.keep stay_len hlt hlc hp hb
          have HG : Hid (w.grownBy wr (some g)) := D.out.grown
          clear D
          generalize l[j]! = x at *
          obtain ⟨st, sid, sa, sb, sc, sx, sy, sz⟩ := x
          simp only at c0 c1 c2 c3 c4 c5 c6 c7
          obtain ⟨wa, hwa⟩ : ∃ wa, wr.alloc (.cells #[.int .i64 st, .int .i64 sid, .int .i64 sa, .int .i64 sb, .int .i64 sc, .int .i64 sx, .int .i64 sy, .int .i64 sz] 84) = wa := ⟨_, rfl⟩
          have NA : Hid (Below wr.heap.size wr wa) := by show Below _ _ _; rw [← hwa]; exact B.new1 _ _
          have KA : Hid (Blk wa wr.heap.size #[.int .i64 st, .int .i64 sid, .int .i64 sa, .int .i64 sb, .int .i64 sc, .int .i64 sx, .int .i64 sy, .int .i64 sz] 84) := by show Blk _ _ _ _; rw [← hwa]; exact Blk.new _ _ _
          have HC : Hid (Calls Tryz.prog gf (#[.agg #[.int .i64 st, .int .i64 sid, .int .i64 sa, .int .i64 sb, .int .i64 sc, .int .i64 sx, .int .i64 sy, .int .i64 sz]] ++ lb) wa fun e w' => e = .returned (.bool (p ⟨st, sid, sa, sb, sc, sx, sy, sz⟩)) ∧ Below wa.heap.size wa w') := HP.out wa (grown_trans HG.out (grown_of_below NA.out)) ⟨st, sid, sa, sb, sc, sx, sy, sz⟩
          have ra := KA.out.cell
          cases hq : p ⟨st, sid, sa, sb, sc, sx, sy, sz⟩
          · rw [hq] at HC
            go_wp2_with fail
            clear hwa ra
            refine HC.out.mono ?_
            rintro e wb ⟨rfl, bb⟩
            have NB : Hid (Below wr.heap.size wr wb) := B.next NA.out bb NA.out.size
            have rb := (KA.out.below bb).cell
            have KBb := KB.out.below NB.out
            have d0 : wb.cell? ⟨g, i * 8, none⟩ = some o0 := (KBb.cell _).trans ho0
            have d1 : wb.cell? ⟨g, i * 8 + 1, none⟩ = some o1 := (KBb.cell _).trans ho1
            have d2 : wb.cell? ⟨g, i * 8 + 2, none⟩ = some o2 := (KBb.cell _).trans ho2
            have d3 : wb.cell? ⟨g, i * 8 + 3, none⟩ = some o3 := (KBb.cell _).trans ho3
            have d4 : wb.cell? ⟨g, i * 8 + 4, none⟩ = some o4 := (KBb.cell _).trans ho4
            have d5 : wb.cell? ⟨g, i * 8 + 5, none⟩ = some o5 := (KBb.cell _).trans ho5
            have d6 : wb.cell? ⟨g, i * 8 + 6, none⟩ = some o6 := (KBb.cell _).trans ho6
            have d7 : wb.cell? ⟨g, i * 8 + 7, none⟩ = some o7 := (KBb.cell _).trans ho7
            have fz := KBb.free
            have KN : Hid (DelI w (wb.setCells g (i * 8) (Stay.enc ⟨st, sid, sa, sb, sc, sx, sy, sz⟩)) g cap 8 84 Stay.enc p l (j + 1) (i + 1)) := KK.out wb NB.out hq
            clear bb KBb ho0 c0 ho1 c1 ho2 c2 ho3 c3 ho4 c4 ho5 c5 ho6 c6 ho7 c7 KS KK HC KA hq
            go_wp2
            go_roundg (l.length - (j + 1))
            case measure => omega
            case rel => exact ⟨i + 1, j + 1, by go_num, by go_num, by omega, Nat.le_refl _, by omega, KN⟩
          · rw [hq] at HC
            go_wp2_with fail
            clear hwa ra
            refine HC.out.mono ?_
            rintro e wb ⟨rfl, bb⟩
            have NB : Hid (Below wr.heap.size wr wb) := B.next NA.out bb NA.out.size
            have KN : Hid (DelI w wb g cap 8 84 Stay.enc p l (j + 1) i) := KS.out wb NB.out hq
            clear bb ho0 c0 ho1 c1 ho2 c2 ho3 c3 ho4 c4 ho5 c5 ho6 c6 ho7 c7 KS KK HC KA hq
            go_wp2
            go_roundg (l.length - (j + 1))
            case measure => omega
            case rel => exact ⟨i, j + 1, rfl, by go_num, by omega, Nat.le_refl _, by omega, KN⟩
        · have hje : j = l.length := by omega
          subst hje
          have hltz : ¬ (l.length : Int) < (l.length : Int) := by omega
          obtain ⟨zl, hzl⟩ : ∃ zl, (Builtin.zeroCells (Value.agg #[.int .i64 0, .int .i64 0, .int .i64 0, .int .i64 0, .int .i64 0, .int .i64 0, .int .i64 0, .int .i64 0]).cells (l.length - i)).toList = zl := ⟨_, rfl⟩
          have hzz := zeroCellsS (l.length - i)
          rw [hzl] at hzz
          have hcl : ∀ ty, (Builtin.clear_ #[35] ty #[.slice (some ⟨g, i * 8, none⟩) (l.length - i) (cap - i)]).run Tryz.prog wr = .ok (.tuple #[]) (wr.setCells g (i * 8) zl) :=
            fun ty => run_clear_rows wr _ _ ty _ Tryz.underlying35 zeroS_run g (i * 8) _ _ (by omega) zl hzl (fun t ht => by
              rw [hb.cell, Array.getElem?_eq_getElem (by rw [hsz]; have : l.length * 8 ≤ cap * 8 := Nat.mul_le_mul_right 8 hlc; rw [hzz.1] at ht; have : (l.length - i) * 8 = l.length * 8 - i * 8 := Nat.sub_mul _ _ _; have : i * 8 ≤ l.length * 8 := Nat.mul_le_mul_right 8 (by omega); omega)]; rfl) (fun t ht => hb.free _) hzz.2
          have HF : Hid (OwnAt (wr.setCells g (i * 8) zl) base 84 8 Stay.enc (.slice (some ⟨g, 0, none⟩) i cap) (l.filter fun x => !p x) ∧ w.grownBy (wr.setCells g (i * 8) zl) (some g)) := by
            obtain ⟨cu2, hb2, hs2, hin, _⟩ := D.out.cur
            have hlen := D.out.len
            rw [List.take_length] at hin hlen
            refine ⟨Or.inr ⟨g, cap, setRow cu2 (i * 8) zl, by rw [hlen], hg, blk_setCells _ _ _ hb2, by rw [hlen]; omega, hm, by rw [setRow_size]; exact hs2, fun a ha c u hu => ?_⟩, grown_trans D.out.grown (grown_setCells g _ _ _)⟩
            have hc : c < 8 := by rw [← stay_len (l.filter fun x => !p x)[a]!]; exact (List.getElem?_eq_some_iff.1 hu).1
            rw [hlen] at ha
            rw [setRow_out _ _ _ _ (Or.inl (by have : (a + 1) * 8 ≤ i * 8 := Nat.mul_le_mul_right 8 ha; omega))]
            exact hin a (by rw [hlen]; exact ha) c u hu
          have hiL : (i : Int) ≤ (l.length : Int) := by omega
          have hiC : (i : Int) ≤ (cap : Int) := by omega
          have hlC : (l.length : Int) ≤ (cap : Int) := by omega
          clear hb hsz hcu D KB HZ hzz hzl
          generalize wr.setCells g (i * 8) zl = wz at *
          go_wp2
          go_returns
          exact ⟨_, rfl, HF.out.1, HF.out.2, fun g h => h⟩

end Bk
end Go.Proofs.YtaikbojdmfkbhaaGreatDoor
