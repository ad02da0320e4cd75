/- Chapter 6: the disk: a sector is written, while it is neither armed nor down; contract for the laws of stage 3. -/
import Derived.Test.YtmojjjikaaclpaaDiskF
namespace Go.Proofs.Ytmojjjikaaclpaa
open Go.Shelf Go.Lib Go.ChangeShapes Go.WideShapes Go.ChangeAt Go.RowKit
set_option maxRecDepth 100000
set_option linter.unusedSimpArgs false
set_option linter.unusedVariables false

namespace Dk
open Bk
/-- A struct built of one part. -/
theorem wpList_build {P : Program} {ops : Array Oper} {rest : List Oper} {op : Oper} {a : Act} {w : World} {Q : Exit → Act → World → Prop} (hgd : op.guard = none) (t : TypeId) (x : Operand) (ho : op.op = .build t #[(0, x)]) (v v' : Value) (hx : a.eval x = v)
    (hr : (Instr.build t #[(0, v)]).run P w = .ok v' w) (h : wpList P ops Q rest (a.put op.dst v') w) : wpList P ops Q (op :: rest) a w :=
  wpList_plain hgd fun _ hK => by
    unfold Oper.wp
    simp [execOp, ho, hx, hr, Result.andThen]
    exact hK _ _ h
theorem wrB (bit : Int) (w : World) : (Instr.build 70 #[(0, .int .i64 bit)]).run Try.prog w = .ok (.agg (Wr.enc ⟨bit, fun _ => 0⟩).toArray) w := by kernel_rfl
theorem wrZ (w : World) : (zeroValue 70).run Try.prog w = .ok (.agg (Wr.enc ⟨0, fun _ => 0⟩).toArray) w := by kernel_rfl
/-- What Write answers, and how the disk then lies. -/
def WritePost (base db sb : Nat) (secs : List Sec) (bit left x : Int) (S : ByteArray) (w : World) (e : Ending) (w' : World) : Prop :=
  ((hasN secs.length x && decide (S.size ≤ 64)) = false ∧ e = .returned (errV 1) ∧ w' = w) ∨
  ((hasN secs.length x && decide (S.size ≤ 64)) = true ∧ e = .returned .nilIface ∧ DFr base w w' ∧ ∃ v', DiskAt w' base db sb (secs.set x.toNat ⟨secs[x.toNat]!.kept, v', secs[x.toNat]!.wr ++ [⟨bit, padF S⟩]⟩) (bit + 1) false left false)

set_option maxHeartbeats 800000 in
theorem write_any (base db sb : Nat) (secs : List Sec) (bit left x : Int) (S : ByteArray) (w : World) (h : DiskAt w base db sb secs bit false left false) (hbase : base ≤ w.heap.size) (hb0 : 0 ≤ bit) (hb1 : bit ≤ 62) (hd : ∀ i, i < secs.length → ∀ y ∈ secs[i]!.wr, y.bit ≠ bit) (hl : ∀ i, i < secs.length → secs[i]!.wr.length ≤ 900) (hn : secs.length ≤ 1000) (hS : S.size ≤ maxLen) :
    Calls Try.prog 10 #[.pointer (some ⟨db, 0, none⟩), .int .i64 x, .string S] w (WritePost base db sb secs bit left x S w) := by
  unfold maxLen at hS
  have rd := h.d.cell
  have HH : Hid (Calls Try.prog 21 #[.pointer (some ⟨db, 0, none⟩), .int .i64 x] w fun e w' => e = .returned (.bool (hasN secs.length x)) ∧ w' = w) := has_any db sb secs.length x w (h.d.cell 0)
  have HST : Hid (Calls Try.prog 22 #[.pointer (some ⟨db, 0, none⟩)] w fun e w' => e = .returned .nilIface ∧ w' = w) := step_quiet db w (h.d.cell 2) (h.d.cell 4)
  have HB0 : Hid ((hasN secs.length x && decide (S.size ≤ 64)) = false → WritePost base db sb secs bit left x S w (.returned (.iface 60 (.int .i64 1))) w) := fun e => Or.inl ⟨e, rfl, rfl⟩
  have HG0 : Hid ((hasN secs.length x && decide (S.size ≤ 64)) = true → ∀ v' w', DFr base w w' → DiskAt w' base db sb (secs.set x.toNat ⟨secs[x.toNat]!.kept, v', secs[x.toNat]!.wr ++ [⟨bit, padF S⟩]⟩) (bit + 1) false left false → WritePost base db sb secs bit left x S w (.returned .nilIface) w') := fun e v' w' h1 h2 => Or.inr ⟨e, rfl, h1, v', h2⟩
  generalize WritePost base db sb secs bit left x S w = PP at *
  cases hx : hasN secs.length x
  · have HP : Hid (PP (.returned (.iface 60 (.int .i64 1))) w) := HB0.out (by rw [hx]; rfl)
    rw [hx] at HH
    clear HB0 HG0 h hd hl HST hx
    go_enter Try.func10, Try.ntmps10
    go_wp2_with fail
    refine HH.out.mono ?_
    rintro e w1 ⟨rfl, rfl⟩
    go_wp2
    exact HP.out
  by_cases hs : 64 < S.size
  · have HP : Hid (PP (.returned (.iface 60 (.int .i64 1))) w) := HB0.out (by rw [decide_eq_false (by omega)]; simp)
    have hsz : (64 : Int) < (S.size : Int) := by omega
    rw [hx] at HH
    clear HB0 HG0 h hd hl HST hx
    go_enter Try.func10, Try.ntmps10
    go_wp2_with fail
    refine HH.out.mono ?_
    rintro e w1 ⟨rfl, rfl⟩
    go_wp2
    exact HP.out
  · have hsz : ¬ (64 : Int) < (S.size : Int) := by omega
    obtain ⟨i, rfl⟩ : ∃ i : Nat, x = (i : Int) := ⟨x.toNat, by simp [hasN] at hx; omega⟩
    have hi : i < secs.length := by simp [hasN] at hx; omega
    have hiz : (i : Int) < (secs.length : Int) := by omega
    have HP : Hid (∀ v' w', DFr base w w' → DiskAt w' base db sb (secs.set i ⟨secs[i]!.kept, v', secs[i]!.wr ++ [⟨bit, padF S⟩]⟩) (bit + 1) false left false → PP (.returned .nilIface) w') := HG0.out (by rw [hx, decide_eq_true (by omega)]; rfl)
    rw [hx] at HH
    clear HB0 HG0 hx
    -- the write, as it is laid
    obtain ⟨Y, hY⟩ : ∃ Y, Wr.enc ⟨bit, fun _ => 0⟩ = Y := ⟨_, rfl⟩
    obtain ⟨Y2, hY2⟩ : ∃ Y, Wr.enc ⟨bit, padF S⟩ = Y := ⟨_, rfl⟩
    obtain ⟨Z, hZ⟩ : ∃ Y, (Wr.enc ⟨0, fun _ => 0⟩).toArray = Y := ⟨_, rfl⟩
    have hbd : ∀ w, (Instr.build 70 #[(0, .int .i64 bit)]).run Try.prog w = .ok (.agg Y.toArray) w := fun w => by rw [← hY]; exact wrB bit w
    have hZv : ∀ w, (zeroValue 70).run Try.prog w = .ok (.agg Z) w := fun w => by rw [← hZ]; exact wrZ w
    have hZs : Z.size = 65 := by rw [← hZ]; simp [Wr.enc_len]
    have hYs : Y.toArray.size = 65 := by rw [← hY]; simp [Wr.enc_len]
    have hwi : (Try.prog.info? 70).map (·.size) = some 65 := by kernel_rfl
    have hYi : (Try.prog.info? 70).map (·.size) = some Y.toArray.size := by rw [hYs]; exact hwi
    have hY2i : (Try.prog.info? 70).map (·.size) = some Y2.length := by rw [← hY2, Wr.enc_len]; exact hwi
    have hY1 : Y.toArray.all (·.oneCell') = true := by rw [← hY]; exact all_oneCell_toArray (Wr.enc_one _)
    obtain ⟨w1, hw1⟩ : ∃ w1, w.alloc (.cells Z 70) = w1 := ⟨_, rfl⟩
    have X1 : Hid (Below w.heap.size w w1 ∧ Blk w1 w.heap.size Z 70) := by
      show _ ∧ _
      rw [← hw1]
      exact ⟨B.new1 _ _, Blk.new _ _ _⟩
    obtain ⟨w2, hw2⟩ : ∃ w2, w1.setCells w.heap.size 0 Y.toArray.toList = w2 := ⟨_, rfl⟩
    have X2 : Hid (Below w.heap.size w w2 ∧ Blk w2 w.heap.size Y.toArray 70) := by
      show _ ∧ _
      rw [← hw2]
      exact ⟨below_cells (Nat.le_refl _) _ 0 X1.out.1, blk_all X1.out.2 (by rw [hZs, ← hYs]; simp)⟩
    have HT : Hid (w1.there w.heap.size 0 Y.toArray.size) := blk_there X1.out.2 0 _ (by rw [hZs, hYs]; exact Nat.le_refl _)
    have hW2 : Hid (w1.setCells w.heap.size 0 Y.toArray.toList = w2) := hw2
    have hB2 := X2.out.2
    rw [← hY] at hB2
    obtain ⟨w3, hcp, hB3, hg3⟩ := run_copy_text w2 w.heap.size bit S (by omega) hB2 3
    rw [hY2] at hB3
    have X3 : Hid (Below w.heap.size w w3 ∧ Blk w3 w.heap.size Y2.toArray 70 ∧ DiskAt w3 base db sb secs bit false left false) := by
      have b3 := below_of_grown X2.out.1 hg3 (Nat.le_refl _) X2.out.1.size
      exact ⟨b3, hB3, h.below b3⟩
    clear hw2 hB2 hB3 hg3
    go_enter Try.func10, Try.ntmps10
    go_wp2_with fail
    refine HH.out.mono ?_
    rintro e w9 ⟨rfl, rfl⟩
    go_wp2_with fail
    refine HST.out.mono ?_
    rintro e w10 ⟨rfl, rfl⟩
    clear HH HST
    go_upto_region 7 with (first | (refine wpList_build rfl 70 _ rfl (.int .i64 bit) (.agg Y.toArray) rfl (hbd _) ?_) | (refine wpList_store_as rfl 70 _ _ rfl w10.heap.size 0 Y.toArray rfl rfl HT.out hYi hY1 w2 hW2.out ?_))
    clear hW2 HT X1 hbd hZv hZs hYs hYi hY1 hZ hY hw1
    go_upto_region 8 with fail
    clear hcp X2
    have HDK : Hid (DiskAt w3 base db sb secs bit false left false) := X3.out.2.2
    have D0 : Hid (Below w3.heap.size w3 w3.drew) := (Below.refl _ _).drew
    have HS : Hid (∀ W, Below w3.heap.size w3 W → W.cell? ⟨db, 0, none⟩ = some (.slice (some ⟨sb, 0, none⟩) secs.length secs.length) ∧ W.rangeAt w10.heap.size 0 Y2) := fun W hb => ⟨(HDK.out.d.below hb).cell 0, blk_range (X3.out.2.1.below hb)⟩
    have HSD : Hid ((fun W : World => W.cell? ⟨db, 0, none⟩ = some (.slice (some ⟨sb, 0, none⟩) secs.length secs.length) ∧ W.rangeAt w10.heap.size 0 Y2) w3.drew) := HS.out _ D0.out
    have HAD : Hid (Calls Try.prog 23 #[.pointer (some ⟨sb, i * 65, none⟩), .agg Y2.toArray] w3.drew fun e w' => e = .returned (.tuple #[]) ∧ ∃ v', OwnAt w' base 70 65 Wr.enc v' (secs[i]!.wr ++ [⟨bit, padF S⟩]) ∧ Blk w' sb ((secs.flatMap Sec.enc).toArray.setIfInBounds (i * 65 + 64) v') 74 ∧ AddFr w3.drew w' sb secs[i]!.v ∧ (∀ g, v'.ownBlock = some g → secs[i]!.v.ownBlock = some g ∨ w3.drew.heap.size ≤ g)) := by
      rw [← hY2]
      exact add_any base sb (i * 65) secs[i]! ⟨bit, padF S⟩ _ w3.drew ((HDK.out.below D0.out).sec hi) (HDK.out.s.below D0.out) (Nat.le_trans hbase (Nat.le_trans X3.out.1.size D0.out.size)) (hd i hi) (hl i hi)
    have HNB : Hid (w10.heap.size ≠ sb ∧ secs[i]!.v.ownBlock ≠ some w10.heap.size) := ⟨by have := h.s.lt; omega, fun e => by have := (own_at (h.own i hi) e).2.1; omega⟩
    clear hd hl h
    refine wp_region_held (S := fun W => W.cell? ⟨db, 0, none⟩ = some (.slice (some ⟨sb, 0, none⟩) secs.length secs.length) ∧ W.rangeAt w10.heap.size 0 Y2) (by kernel_rfl) ?_
    refine wpAnyH_take (fuel := 7) (i := 0) (v := .pointer (some ⟨db, 0, none⟩)) rfl (by kernel_rfl) (by kernel_rfl) (by kernel_rfl) (fun _ _ _ h => h) (Or.inl ⟨by rfl, ?_⟩) HSD.out ?_
    · intro W hSw
      (try dsimp only at hSw)
      obtain ⟨y0, y1⟩ := hSw
      clear y1
      go_simp
      try rfl
    (try simp only [Act.put, List.setIfInBounds_toArray, List.set_cons_zero, List.set_cons_succ, List.getElem_toArray, List.getElem_cons_zero, List.getElem_cons_succ])
    refine wpAnyH_take (fuel := 6) (i := 1) (v := .pointer (some ⟨db, 0, none⟩)) rfl (by kernel_rfl) (by kernel_rfl) (by kernel_rfl) (fun _ _ _ h => h) (Or.inl ⟨by rfl, ?_⟩) HSD.out ?_
    · intro W hSw
      (try dsimp only at hSw)
      obtain ⟨y0, y1⟩ := hSw
      clear y1
      go_simp
      try rfl
    (try simp only [Act.put, List.setIfInBounds_toArray, List.set_cons_zero, List.set_cons_succ, List.getElem_toArray, List.getElem_cons_zero, List.getElem_cons_succ])
    refine wpAnyH_take (fuel := 5) (i := 2) (v := .pointer (some ⟨db, 0, none⟩)) rfl (by kernel_rfl) (by kernel_rfl) (by kernel_rfl) (fun _ _ _ h => h) (Or.inl ⟨by rfl, ?_⟩) HSD.out ?_
    · intro W hSw
      (try dsimp only at hSw)
      obtain ⟨y0, y1⟩ := hSw
      clear y1
      go_simp
      try rfl
    (try simp only [Act.put, List.setIfInBounds_toArray, List.set_cons_zero, List.set_cons_succ, List.getElem_toArray, List.getElem_cons_zero, List.getElem_cons_succ])
    refine wpAnyH_take (fuel := 4) (i := 3) (v := .slice (some ⟨sb, 0, none⟩) secs.length secs.length) rfl (by kernel_rfl) (by kernel_rfl) (by kernel_rfl) (fun _ _ _ h => h) (Or.inl ⟨by rfl, ?_⟩) HSD.out ?_
    · intro W hSw
      (try dsimp only at hSw)
      obtain ⟨y0, y1⟩ := hSw
      clear y1
      go_simp
      try rfl
    (try simp only [Act.put, List.setIfInBounds_toArray, List.set_cons_zero, List.set_cons_succ, List.getElem_toArray, List.getElem_cons_zero, List.getElem_cons_succ])
    refine wpAnyH_take (fuel := 3) (i := 4) (v := .int .i64 i) rfl (by kernel_rfl) (by kernel_rfl) (by kernel_rfl) (fun _ _ _ h => h) (Or.inl ⟨by rfl, ?_⟩) HSD.out ?_
    · intro W hSw
      (try dsimp only at hSw)
      obtain ⟨y0, y1⟩ := hSw
      clear y1
      go_simp
      try rfl
    (try simp only [Act.put, List.setIfInBounds_toArray, List.set_cons_zero, List.set_cons_succ, List.getElem_toArray, List.getElem_cons_zero, List.getElem_cons_succ])
    refine wpAnyH_take (fuel := 2) (i := 5) (v := .pointer (some ⟨sb, i * 65, none⟩)) rfl (by kernel_rfl) (by kernel_rfl) (by kernel_rfl) (fun _ _ _ h => h) (Or.inl ⟨by rfl, ?_⟩) HSD.out ?_
    · intro W hSw
      (try dsimp only at hSw)
      obtain ⟨y0, y1⟩ := hSw
      clear y1
      go_simp
      try rfl
    (try simp only [Act.put, List.setIfInBounds_toArray, List.set_cons_zero, List.set_cons_succ, List.getElem_toArray, List.getElem_cons_zero, List.getElem_cons_succ])
    refine wpAnyH_take (fuel := 1) (i := 6) (v := .agg Y2.toArray) rfl (by kernel_rfl) (by kernel_rfl) (by kernel_rfl) (fun _ _ _ h => h) (yieldsIf_load_mid (by rfl) 70 _ rfl w10.heap.size 0 rfl Y2 _ (fun W h => h.2) wrU rfl hY2i) HSD.out ?_
    (try simp only [Act.put, List.setIfInBounds_toArray, List.set_cons_zero, List.set_cons_succ, List.getElem_toArray, List.getElem_cons_zero, List.getElem_cons_succ])
    refine wpAnyH_ready (fuel := 0) (rs := [7]) (by kernel_rfl) (by simp) ?_
    refine AllReadyH.cons rfl (fun K hK => ?_) AllReadyH.nil
    go_simp
    refine HAD.out.mono ?_
    rintro e w4 ⟨rfl, v', hO, hB, hF, hnn⟩
    have X4 : Hid (DFr base w10 w4 ∧ DiskAt w4 base db sb (secs.set i ⟨secs[i]!.kept, v', secs[i]!.wr ++ [⟨bit, padF S⟩]⟩) bit false left false) := by
      have hk := HDK.out.below D0.out
      exact ⟨(DFr.of_below (B.next X3.out.1 D0.out X3.out.1.size) hbase).trans (DFr.of_add hF hk.s (hk.own i hi) hk.hb.2) hbase, hk.added hi hO hB hF hnn⟩
    have HS4 : Hid ((fun W : World => W.cell? ⟨db, 0, none⟩ = some (.slice (some ⟨sb, 0, none⟩) secs.length secs.length) ∧ W.rangeAt w10.heap.size 0 Y2) w4) := by
      have hc := X4.out.2.d.cell 0
      rw [List.length_set] at hc
      have hbk := X3.out.2.1.below D0.out
      exact ⟨hc, blk_range ((hF.block _ hbk.lt HNB.out.1 HNB.out.2).trans hbk)⟩
    clear hO hB hF hnn HAD
    simp only []
    refine hK.out _ _ HS4.out (fun _ => ?_)
    clear hK K
    refine wpAnyH_done (by kernel_rfl) ?_ _
    (try simp only [Act.put])
    have r4 := X4.out.2.d.cell
    have f4 := X4.out.2.d.free
    go_wp2
    have hbm : (bit + 1) % 64 = bit + 1 := by omega
    rw [hbm]
    exact HP.out v' _ (X4.out.1.trans (DFr.of_set X4.out.2.d X4.out.2.hb.1 1 _) hbase) (X4.out.2.setBit (bit + 1))

end Dk
end Go.Proofs.Ytmojjjikaaclpaa
