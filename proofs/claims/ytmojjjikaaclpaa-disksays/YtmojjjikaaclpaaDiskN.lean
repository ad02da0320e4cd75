/- Chapter 8: slices.DeleteFunc at writes of the call's own: what is kept, in its order; contract for the laws of stage 3. -/
import Derived.Test.YtmojjjikaaclpaaDiskD
import Derived.Test.YtmojjjikaaclpaaDel
namespace Go.Proofs.Ytmojjjikaaclpaa
open Go.Shelf Go.Lib Go.ChangeShapes Go.WideShapes Go.ChangeAt Go.RowKit
set_option maxRecDepth 100000
set_option linter.unusedSimpArgs false
set_option linter.unusedVariables false

namespace Dk
open Bk

theorem zeroW (w : World) : (zeroValue 70).run Try.prog w = .ok (.agg (Wr.enc ⟨0, fun _ => 0⟩).toArray) w := by kernel_rfl
theorem wrI65 : (Try.prog.info? 70).map (·.size) = some 65 := by kernel_rfl
theorem zeroCellsW (z : Value) (hz : z.cells.size = 65) (h1 : ∀ v ∈ z.cells, v.oneCell' = true) (n : Nat) : ((Builtin.zeroCells z.cells n).toList).length = n * 65 ∧ ∀ v ∈ (Builtin.zeroCells z.cells n).toList, v.oneCell' = true := by
  refine ⟨by simp [Builtin.zeroCells, hz, Nat.mul_comm], fun v hv => ?_⟩
  simp only [Builtin.zeroCells] at hv
  simp at hv
  obtain ⟨i, hi, rfl⟩ := hv
  have h : i % z.cells.size < z.cells.size := Nat.mod_lt _ (by rw [hz]; decide)
  rw [getElem!_pos z.cells _ h]
  exact h1 _ (Array.getElem_mem h)

set_option maxHeartbeats 4000000 in
theorem delW_any (p : Wr → Bool) (gf : Nat) (lb : Array Value) (eg : ∀ args w, (callFunc gf args).run Try.prog w = .ok (.enter gf args) w) (base : Nat) (v : Value) (l : List Wr) (w : World) (h : OwnAt w base 70 65 Wr.enc v l) (hl : l.length ≤ 1000)
    (hp : ∀ W, w.grownBy W v.ownBlock → ∀ x : Wr, Calls Try.prog gf (#[.agg (Wr.enc x).toArray] ++ lb) W fun e w' => e = .returned (.bool (p x)) ∧ Below W.heap.size W w') :
    Calls Try.prog 27 #[v, .func (.func gf) #[] lb] w fun e w' => ∃ v', e = .returned v' ∧ OwnAt w' base 70 65 Wr.enc v' (l.filter fun x => !p x) ∧ w.grownBy w' v.ownBlock ∧ (∀ g, v'.ownBlock = some g → v.ownBlock = some g) := by
  rcases h with ⟨rfl, rfl⟩ | ⟨g, cap, cur, rfl, hg, hk, hlc, hm, hs, hr⟩
  · clear hp eg
    go_enter Try.func27, Try.ntmps27
    go_wp2_with fail
    refine (idxW_none _ _ _ _).mono ?_
    rintro e w1 ⟨rfl, rfl⟩
    go_wp2
    go_returns
    exact ⟨_, rfl, Or.inl ⟨rfl, rfl⟩, grown_refl _ _, fun g h => h⟩
  · unfold maxLen at hm
    have hPB : PredBelow Try.prog gf lb (fun x : Wr => .agg (Wr.enc x).toArray) p w := fun W x hb =>
      (hp W (grown_of_below hb) x).mono fun e w' ⟨he, hb'⟩ => ⟨he, B.next hb hb' hb.size⟩
    have HI : Hid (Calls Try.prog 30 #[.slice (some ⟨g, 0, none⟩) l.length cap, .func (.func gf) #[] lb] w fun e w' => e = .returned (.int .i64 (Lib.idxBy (fun _ y => p y) l default)) ∧ Below w.heap.size w w') := by
      have := AnyQ.slices_IndexFunc Try.liw 65 Try.isAgg70 Try.sizeOf70 Wr.enc Wr.enc_len p gf lb eg g 0 l.length cap l w hPB (Nat.le_refl _) (by omega) hk.lt (fun j hj i u hu => by rw [hk.cell, Nat.zero_add]; exact hr j hj i u hu)
      rw [List.take_length] at this
      exact this
    have HP : Hid (∀ W, w.grownBy W (some g) → ∀ x : Wr, Calls Try.prog gf (#[.agg (Wr.enc x).toArray] ++ lb) W fun e w' => e = .returned (.bool (p x)) ∧ Below W.heap.size W w') := hp
    rcases idxByFrom_spec (fun _ y => p y) default l 0 with ⟨e1, hall⟩ | ⟨k0, hk0, e1, ht, hall⟩
    · have e2 : Lib.idxBy (fun _ y => p y) l default = -1 := e1
      rw [e2] at HI
      have e3 : (l.filter fun x => !p x) = l := by
        rw [List.filter_eq_self]
        intro a ha
        obtain ⟨j, hj, rfl⟩ := List.getElem_of_mem ha
        have := hall j hj
        rw [getElem!_pos l j hj] at this
        simp [this]
      have HO : Hid (∀ w1, Below w.heap.size w w1 → OwnAt w1 base 70 65 Wr.enc (.slice (some ⟨g, 0, none⟩) l.length cap) (l.filter fun x => !p x)) := fun w1 hb => by
        rw [e3]
        exact Or.inr ⟨g, cap, cur, rfl, hg, hk.below hb, hlc, hm, hs, hr⟩
      clear hp hPB hall e1 e2 e3 hr hs hk HP
      go_enter Try.func27, Try.ntmps27
      go_wp2_with fail
      refine HI.out.mono ?_
      rintro e w1 ⟨rfl, b1⟩
      have B1 : Hid (Below w.heap.size w w1) := b1
      clear b1
      go_wp2
      go_returns
      exact ⟨_, rfl, HO.out _ B1.out, grown_of_below B1.out, fun g h => h⟩
    · have e2 : Lib.idxBy (fun _ y => p y) l default = (k0 : Int) := by unfold Lib.idxBy; rw [e1]; simp
      rw [e2] at HI
      have hne1 : ((k0 : Int) == -1) = false := beq_eq_false_iff_ne.2 (by omega)
      have hft : (l.take k0).filter (fun x => !p x) = l.take k0 := by
        rw [List.filter_eq_self]
        intro a ha
        obtain ⟨j, hj, rfl⟩ := List.getElem_of_mem ha
        simp only [List.length_take] at hj
        have := hall j (by omega)
        rw [getElem!_pos l j (by omega)] at this
        simp [List.getElem_take, this]
      have ht' : p l[k0]! = true := ht
      have HD : Hid (∀ w1, Below w.heap.size w w1 → DelI w w1 g cap 65 70 Wr.enc p l (k0 + 1) k0) := fun w1 hb => by
        have h0 : DelI w w g cap 65 70 Wr.enc p l k0 k0 := ⟨grown_refl _ _, by rw [hft, List.length_take]; omega, cur, hk, hs, by
          rw [hft]
          intro j hj i u hu
          simp only [List.length_take] at hj
          have e : (l.take k0)[j]! = l[j]! := by rw [getElem!_pos (l.take k0) j (by simp; omega), getElem!_pos l j (by omega), List.getElem_take]
          rw [e] at hu
          exact hr j (by omega) i u hu, fun a _ ha => hr a ha⟩
        exact h0.skip hk0 ht' hb
      clear hp hPB hall e1 e2 hft hr hs hk ht ht'
      go_enter Try.func27, Try.ntmps27
      go_wp2_with fail
      refine HI.out.mono ?_
      rintro e w1 ⟨rfl, b1⟩
      have D1 : Hid (DelI w w1 g cap 65 70 Wr.enc p l (k0 + 1) k0) := HD.out w1 b1
      clear b1 HD HI
      go_wp2_with fail
      go_loopg [5, 6, 7] l.length (fun gg s5 s6 _ wr => ∃ i j : Nat, s5 = .int .i64 i ∧ s6 = .int .i64 j ∧ j ≤ l.length ∧ l.length - j ≤ gg ∧ i < j ∧ Hid (DelI w wr g cap 65 70 Wr.enc p l j i))
      case atStart => exact ⟨k0, k0 + 1, rfl, by go_num, by omega, by omega, by omega, D1⟩
      case round =>
        clear D1
        obtain ⟨i, j, rfl, rfl, hjl, hgg, hij, D⟩ := hrel
        obtain ⟨cu, hb, hsz, _, hcu⟩ := D.out.cur
        have KB : Hid (Blk wr g cu 70) := hb
        have HZ : Hid (cu.size = cap * 65) := hsz
        by_cases hlt : j < l.length
        · have hltz : (j : Int) < (l.length : Int) := by omega
          have hiz : (i : Int) < (l.length : Int) := by omega
          have HX : Hid (∀ c u, (Wr.enc l[j]!)[c]? = some u → cu[j * 65 + c]? = some u) := hcu j (Nat.le_refl _) hlt
          have HL : Hid (wr.rangeAt g (j * 65) (Wr.enc l[j]!)) := fun c v hv => (hb.cell (j * 65 + c)).trans (HX.out c v hv)
          clear hcu HX hb hsz
          have KS : Hid (∀ wx, Below wr.heap.size wr wx → p l[j]! = true → DelI w wx g cap 65 70 Wr.enc p l (j + 1) i) := fun wx hb hp => D.out.skip hlt hp hb
          have KK : Hid (∀ wx, Below wr.heap.size wr wx → p l[j]! = false → DelI w (wx.setCells g (i * 65) (Wr.enc l[j]!)) g cap 65 70 Wr.enc p l (j + 1) (i + 1)) := fun wx hb hp => D.out.keep Wr.enc_len hlt hlc hp hb
          have HG : Hid (w.grownBy wr (some g)) := D.out.grown
          clear D
          generalize l[j]! = x at *
          obtain ⟨Z, hZ⟩ : ∃ Z, (Wr.enc ⟨0, fun _ => 0⟩) = Z := ⟨_, rfl⟩
          have hZs : Hid (Z.length = 65) := by show _ = _; rw [← hZ]; exact Wr.enc_len _
          obtain ⟨w1, hw1⟩ : ∃ w1, wr.alloc (.cells Z.toArray 70) = w1 := ⟨_, rfl⟩
          have X1 : Below wr.heap.size wr w1 ∧ Blk w1 wr.heap.size Z.toArray 70 := by
            rw [← hw1]
            exact ⟨B.new1 _ _, Blk.new _ _ _⟩
          have hZ2 : ∀ w : World, (zeroValue 70).run Try.prog w = .ok (.agg Z.toArray) w := fun w => by rw [← hZ]; exact zeroW w
          obtain ⟨Y, hY⟩ : ∃ Y, Wr.enc x = Y := ⟨_, rfl⟩
          have hYs : Hid (Y.length = 65) := by show _ = _; rw [← hY]; exact Wr.enc_len _
          rw [hY] at HL KK
          have hYi : (Try.prog.info? 70).map (·.size) = some Y.length := by rw [hYs.out]; exact wrI65
          have hYj : (Try.prog.info? 70).map (·.size) = some Y.toArray.size := by simp only [List.size_toArray]; exact hYi
          have hY1 : Y.toArray.all (·.oneCell') = true := by rw [← hY]; exact all_oneCell_toArray (Wr.enc_one _)
          obtain ⟨w2, hw2⟩ : ∃ w2, w1.setCells wr.heap.size 0 Y.toArray.toList = w2 := ⟨_, rfl⟩
          have X2 : Hid (Below wr.heap.size wr w2 ∧ Blk w2 wr.heap.size Y.toArray 70) := by
            show _ ∧ _
            rw [← hw2]
            exact ⟨below_cells (Nat.le_refl _) _ 0 X1.1, blk_all X1.2 (by rw [List.size_toArray, hZs.out, hYs.out])⟩
          have HT : Hid (w1.there wr.heap.size 0 Y.toArray.size) := blk_there X1.2 0 _ (by simp only [List.size_toArray]; rw [hZs.out, hYs.out]; exact Nat.le_refl _)
          have hW2 : Hid (w1.setCells wr.heap.size 0 Y.toArray.toList = w2) := hw2
          have HR2 : Hid (w2.rangeAt wr.heap.size 0 Y) := blk_range X2.out.2
          have HC : Hid (Calls Try.prog gf (#[.agg Y.toArray] ++ lb) w2 fun e w' => e = .returned (.bool (p x)) ∧ Below w2.heap.size w2 w') := by
            have := HP.out w2 (grown_trans HG.out (grown_of_below X2.out.1)) x
            rw [hY] at this
            exact this
          clear hw2 hZ X1
          obtain ⟨q, hq⟩ : ∃ q, p x = q := ⟨_, rfl⟩
          rw [hq] at HC
          go_wp2_with (first | (refine wpList_load_mid rfl 70 _ rfl g (j * 65) rfl Y _ HL.out wrU rfl hYi ?_) | (refine wpList_store_as rfl 70 _ _ rfl wr.heap.size 0 Y.toArray rfl rfl HT.out hYj hY1 w2 hW2.out ?_) | (refine wpList_load_mid rfl 70 _ rfl wr.heap.size 0 rfl Y _ HR2.out wrU rfl hYi ?_))
          clear hw1
          refine HC.out.mono ?_
          rintro e wb ⟨rfl, bb⟩
          have NB : Hid (Below wr.heap.size wr wb) := B.next X2.out.1 bb X2.out.1.size
          have HRb : Hid (wb.rangeAt wr.heap.size 0 Y) := blk_range (X2.out.2.below bb)
          cases q
          · have KBb := KB.out.below NB.out
            have KN : Hid (DelI w (wb.setCells g (i * 65) Y) g cap 65 70 Wr.enc p l (j + 1) (i + 1)) := KK.out wb NB.out hq
            have HT2 : Hid (wb.there g (i * 65) Y.toArray.size) := blk_there KBb (i * 65) _ (by rw [HZ.out]; simp only [List.size_toArray, hYs.out]; have : (i + 1) * 65 ≤ cap * 65 := Nat.mul_le_mul_right 65 (by omega); omega)
            obtain ⟨w3, hw3⟩ : ∃ w3, wb.setCells g (i * 65) Y.toArray.toList = w3 := ⟨_, rfl⟩
            have hW3 : Hid (wb.setCells g (i * 65) Y.toArray.toList = w3) := hw3
            have KN3 : Hid (DelI w w3 g cap 65 70 Wr.enc p l (j + 1) (i + 1)) := by show DelI _ _ _ _ _ _ _ _ _ _ _; rw [← hw3]; exact KN.out
            clear bb KBb KS KK HC hq KN hw3 HT HR2 hW2 X2 HL
            go_wp2_with (first | (refine wpList_load_mid rfl 70 _ rfl wr.heap.size 0 rfl Y _ HRb.out wrU rfl hYi ?_) | (refine wpList_store_as rfl 70 _ _ rfl g (i * 65) Y.toArray rfl rfl HT2.out hYj hY1 w3 hW3.out ?_))
            go_roundg (l.length - (j + 1))
            case measure => omega
            case rel => exact ⟨i + 1, j + 1, by go_num, by go_num, by omega, Nat.le_refl _, by omega, KN3⟩
          · have KN : Hid (DelI w wb g cap 65 70 Wr.enc p l (j + 1) i) := KS.out wb NB.out hq
            clear bb KS KK HC hq HT HR2 hW2 X2 HL HRb
            go_wp2
            go_roundg (l.length - (j + 1))
            case measure => omega
            case rel => exact ⟨i, j + 1, rfl, by go_num, by omega, Nat.le_refl _, by omega, KN⟩
        · have hje : j = l.length := by omega
          subst hje
          have hltz : ¬ (l.length : Int) < (l.length : Int) := by omega
          obtain ⟨zv, hzv⟩ : ∃ zv : Value, (Value.agg (Wr.enc ⟨0, fun _ => 0⟩).toArray) = zv := ⟨_, rfl⟩
          have hzr : ∀ W : World, (zeroValue 70).run Try.prog W = .ok zv W := fun W => by rw [← hzv]; exact zeroW W
          obtain ⟨zl, hzl⟩ : ∃ zl, (Builtin.zeroCells zv.cells (l.length - i)).toList = zl := ⟨_, rfl⟩
          have hzz := zeroCellsW zv (by rw [← hzv]; simp [Value.cells, Wr.enc_len]) (by rw [← hzv]; intro v hv; exact Wr.enc_one _ v (by simpa [Value.cells] using hv)) (l.length - i)
          rw [hzl] at hzz
          have hcl : ∀ ty, (Builtin.clear_ #[72] ty #[.slice (some ⟨g, i * 65, none⟩) (l.length - i) (cap - i)]).run Try.prog wr = .ok (.tuple #[]) (wr.setCells g (i * 65) zl) :=
            fun ty => run_clear_rows wr _ _ ty _ (by kernel_rfl) hzr g (i * 65) _ _ (by omega) zl hzl (fun t ht => by
              rw [hb.cell, Array.getElem?_eq_getElem (by rw [hsz]; have : l.length * 65 ≤ cap * 65 := Nat.mul_le_mul_right 65 hlc; rw [hzz.1] at ht; have : (l.length - i) * 65 = l.length * 65 - i * 65 := Nat.sub_mul _ _ _; have : i * 65 ≤ l.length * 65 := Nat.mul_le_mul_right 65 (by omega); omega)]; rfl) (fun t ht => hb.free _) hzz.2
          have HF : Hid (OwnAt (wr.setCells g (i * 65) zl) base 70 65 Wr.enc (.slice (some ⟨g, 0, none⟩) i cap) (l.filter fun x => !p x) ∧ w.grownBy (wr.setCells g (i * 65) zl) (some g)) := by
            obtain ⟨cu2, hb2, hs2, hin, _⟩ := D.out.cur
            have hlen := D.out.len
            rw [List.take_length] at hin hlen
            refine ⟨Or.inr ⟨g, cap, setRow cu2 (i * 65) zl, by rw [hlen], hg, blk_setCells _ _ _ hb2, by rw [hlen]; omega, hm, by rw [Bk.setRow_size]; exact hs2, fun a ha c u hu => ?_⟩, grown_trans D.out.grown (grown_setCells g _ _ _)⟩
            have hc : c < 65 := by rw [← Wr.enc_len (l.filter fun x => !p x)[a]!]; exact (List.getElem?_eq_some_iff.1 hu).1
            rw [hlen] at ha
            rw [setRow_out _ _ _ _ (Or.inl (by have : (a + 1) * 65 ≤ i * 65 := Nat.mul_le_mul_right 65 ha; omega))]
            exact hin a (by rw [hlen]; exact ha) c u hu
          have hiL : (i : Int) ≤ (l.length : Int) := by omega
          have hiC : (i : Int) ≤ (cap : Int) := by omega
          have hlC : (l.length : Int) ≤ (cap : Int) := by omega
          clear hb hsz hcu D KB HZ hzz hzl hzr hzv
          generalize wr.setCells g (i * 65) zl = wz at *
          go_wp2
          go_returns
          exact ⟨_, rfl, HF.out.1, HF.out.2, fun g h => h⟩

end Dk
end Go.Proofs.Ytmojjjikaaclpaa
