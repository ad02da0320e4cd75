/- Chapter 8: the disk: a write is laid beside those that aren't kept, that of its own bit goes; contracts for the laws of stage 3. -/
import Derived.Test.YtmojjjikaaclpaaDiskN
import Derived.Test.YtmojjjikaaclpaaDiskF
namespace Go.Proofs.Ytmojjjikaaclpaa
open Go.Shelf Go.Lib Go.ChangeShapes Go.WideShapes Go.ChangeAt Go.RowKit
set_option maxRecDepth 100000
set_option linter.unusedSimpArgs false
set_option linter.unusedVariables false

namespace Dk
open Bk
set_option maxHeartbeats 4000000 in
theorem addW_any (base sb o : Nat) (s : Sec) (x : Wr) (C : Array Value) (w : World) (h : SecAt w base sb o s) (hB : Blk w sb C 74) (hbase : base ≤ w.heap.size) (hl : s.wr.length ≤ 900) :
    Calls Try.prog 23 #[.pointer (some ⟨sb, o, none⟩), .agg (Wr.enc x).toArray] w fun e w' => e = .returned (.tuple #[]) ∧ ∃ v', OwnAt w' base 70 65 Wr.enc v' ((s.wr.filter fun y => !(y.bit == x.bit)) ++ [x]) ∧ Blk w' sb (C.setIfInBounds (o + 64) v') 74 ∧ AddFr w w' sb s.v ∧ (∀ g, v'.ownBlock = some g → s.v.ownBlock = some g ∨ w.heap.size ≤ g) := by
  obtain ⟨i0, hi0, hz0, hs0, hb0⟩ := wr_info
  obtain ⟨X, hX⟩ : ∃ X, Wr.enc x = X := ⟨_, rfl⟩
  have wrI : (Try.prog.info? 70).map (·.size) = some X.length := by rw [hi0, ← hX, Wr.enc_len, ← hs0]; rfl
  obtain ⟨a, cap, hv, hr⟩ := h.own.rows
  have hm := hr.2.1; have hlc := hr.1
  unfold maxLen at hm
  obtain ⟨w1, hw1⟩ : ∃ w1, w.alloc (.cells X.toArray 70) = w1 := ⟨_, rfl⟩
  have X1 : Hid (Below w.heap.size w w1 ∧ Blk w1 w.heap.size X.toArray 70) := by
    show _ ∧ _
    rw [← hw1]
    exact ⟨B.new1 _ _, Blk.new _ _ _⟩
  have hsb : sb < w.heap.size := hB.lt
  obtain ⟨L1, hL1⟩ : ∃ L1, (s.wr.filter fun y => !(y.bit == x.bit)) = L1 := ⟨_, rfl⟩
  have HL1 : Hid (L1.length ≤ 900) := by show _ ≤ _; rw [← hL1]; exact Nat.le_trans (List.length_filter_le _ _) hl
  have HDel : Hid (Calls Try.prog 27 #[.slice a s.wr.length cap, .func (.func 28) #[] #[.pointer (some ⟨w.heap.size, 0, none⟩)]] w1 fun e w' => ∃ v', e = .returned v' ∧ OwnAt w' base 70 65 Wr.enc v' L1 ∧ w1.grownBy w' (Value.slice a s.wr.length cap).ownBlock ∧ (∀ g, v'.ownBlock = some g → (Value.slice a s.wr.length cap).ownBlock = some g)) := by
    rw [← hL1, ← hv]
    have hne : some w.heap.size ≠ s.v.ownBlock := fun e => by have := (h.own.block _ e.symm).2; omega
    refine delW_any (fun y => y.bit == x.bit) _ _ (enters_of Try.func28 (by kernel_rfl) rfl) base s.v s.wr w1 (h.own.below X1.out.1) (by omega) (fun W hg y => ?_)
    have hbk : Blk W w.heap.size X.toArray 70 := (hg.block _ X1.out.2.lt hne).trans X1.out.2
    have := add1_any y x.bit w.heap.size W hbk.lt (by rw [hbk.cell, ← hX]; rfl)
    exact this
  rw [hL1]
  have c64 : C[o + 64]? = some (.slice a s.wr.length cap) := by
    have := h.slice
    rw [hB.cell, hv] at this
    exact this
  have HO : Hid (OwnAt w base 70 65 Wr.enc (.slice a s.wr.length cap) s.wr) := by show OwnAt _ _ _ _ _ _ _; rw [← hv]; exact h.own
  have HB : Hid (Blk w sb C 74) := hB
  have HC64 : Hid (C[o + 64]? = some (.slice a s.wr.length cap)) := c64
  rw [hX, hv]
  generalize hPP : (fun (e : Ending) (w' : World) => e = .returned (.tuple #[]) ∧ ∃ v', OwnAt w' base 70 65 Wr.enc v' (L1 ++ [x]) ∧ Blk w' sb (C.setIfInBounds (o + 64) v') 74 ∧ AddFr w w' sb (.slice a s.wr.length cap) ∧ (∀ g, v'.ownBlock = some g → (Value.slice a s.wr.length cap).ownBlock = some g ∨ w.heap.size ≤ g)) = PP
  have HP : Hid (∀ g cp w', OwnAt w' base 70 65 Wr.enc (.slice (some ⟨g, 0, none⟩) (L1.length + 1) cp) (L1 ++ [x]) → Blk w' sb (C.setIfInBounds (o + 64) (.slice (some ⟨g, 0, none⟩) (L1.length + 1) cp)) 74 → AddFr w w' sb (.slice a s.wr.length cap) → ((Value.slice a s.wr.length cap).ownBlock = some g ∨ w.heap.size ≤ g) → PP (.returned (.tuple #[])) w') := fun g cp w' h1 h2 h3 h4 => by
    rw [← hPP]
    exact ⟨rfl, _, h1, h2, h3, fun g' e => by simp [Value.ownBlock] at e; subst e; exact h4⟩
  have HOW : Hid (∀ k, (Value.slice a s.wr.length cap).ownBlock = some k → k < w.heap.size) := fun k e => by
    rcases HO.out with ⟨h1, _⟩ | ⟨g, cp, cur, h1, _, h2, _⟩
    · rw [h1] at e; simp [Value.ownBlock] at e
    · rw [h1] at e; simp [Value.ownBlock] at e; subst e; exact h2.lt
  have HRB0 : Hid (∀ W : World, (Instr.buildSlice 72 1 #[(0, .agg X.toArray)]).run Try.prog W = .ok (.slice (some ⟨W.heap.size, 0, none⟩) 1 1) (W.alloc (.cells X.toArray 70))) := fun W => run_build_one W _ _ i0 _ X (by kernel_rfl) hi0 hz0 (by rw [hs0, ← hX, Wr.enc_len]) (by rw [← hX, Wr.enc_len]; decide) (by rw [← hX, Wr.enc_len]; decide)
  clear hPP h hv hr hB c64 hi0 hz0 hs0 hb0
  have c1 : w1.cell? ⟨sb, o + 64, none⟩ = some (.slice a s.wr.length cap) := by rw [(HB.out.below X1.out.1).cell]; exact HC64.out
  go_enter Try.func23, Try.ntmps23
  go_wp2_with fail
  clear hw1 c1
  refine HDel.out.mono ?_
  rintro e w2 ⟨vD, rfl, hoD, hgD, hiD⟩
  obtain ⟨a1, cap1, rfl, hr1⟩ := hoD.rows
  have hm1 := hr1.2.1; have hlc1 := hr1.1
  unfold maxLen at hm1
  have hneX : some w.heap.size ≠ (Value.slice a s.wr.length cap).ownBlock := fun e => by have := HOW.out _ e.symm; omega
  have hneS : some sb ≠ (Value.slice a s.wr.length cap).ownBlock := fun e => own_neD HO.out HB.out (by decide) e.symm
  have HIN : Hid (∀ g, (Value.slice a1 L1.length cap1).ownBlock = some g → (Value.slice a s.wr.length cap).ownBlock = some g) := hiD
  have K2 : Hid (w.grownBy w2 (Value.slice a s.wr.length cap).ownBlock ∧ Blk w2 sb C 74 ∧ Blk w2 w.heap.size X.toArray 70 ∧ OwnAt w2 base 70 65 Wr.enc (.slice a1 L1.length cap1) L1) := by
    have hb1 := HB.out.below X1.out.1
    exact ⟨grown_trans (grown_of_below X1.out.1) hgD, (hgD.block _ hb1.lt hneS).trans hb1, (hgD.block _ X1.out.2.lt hneX).trans X1.out.2, hoD⟩
  clear hoD hgD hiD HDel X1 HB hneX hneS hr1
  have r2 : w2.cell? ⟨sb, o + 64, none⟩ = some (.slice a s.wr.length cap) := by rw [K2.out.2.1.cell]; exact HC64.out
  have f2 := K2.out.2.1.free
  obtain ⟨w3, hw3⟩ : ∃ w3, w2.setCell ⟨sb, o + 64, none⟩ (.slice a1 L1.length cap1) = w3 := ⟨_, rfl⟩
  have hbx : w.heap.size ≠ sb := by omega
  have K3 : Hid (AddFr w w3 sb (.slice a s.wr.length cap) ∧ Blk w3 sb (C.setIfInBounds (o + 64) (.slice a1 L1.length cap1)) 74 ∧ Blk w3 w.heap.size X.toArray 70 ∧ OwnAt w3 base 70 65 Wr.enc (.slice a1 L1.length cap1) L1) := by
    show _ ∧ _ ∧ _ ∧ _
    rw [← hw3]
    refine ⟨⟨K2.out.1.os, K2.out.1.tape, K2.out.1.output, by rw [size_setCell]; exact K2.out.1.size, fun k hk h1 h2 => (Below.heap_setCell _ _ _ _ h1).trans (K2.out.1.block k hk (fun e => h2 e.symm))⟩, K2.out.2.1.set _ _, K2.out.2.2.1.other (fun e => hbx e.symm) _ _, K2.out.2.2.2.grown (grown_set w2 sb (o + 64) _) (fun g e e' => ?_)⟩
    injection e' with e'
    subst e'
    exact own_neD K2.out.2.2.2 K2.out.2.1 (by decide) e
  go_upto_region 2 with fail
  clear hw3 r2 f2 K2
  obtain ⟨wz, hwz⟩ : ∃ wz, w3.drew.alloc (.cells X.toArray 70) = wz := ⟨_, rfl⟩
  have D0 : Hid (Below w3.heap.size w3 w3.drew) := (Below.refl _ _).drew
  have KZ : Hid (Below w3.heap.size w3 wz ∧ Blk wz w3.heap.size X.toArray 70) := by
    show _ ∧ _
    rw [← hwz]
    exact ⟨D0.out.alloc (Nat.le_refl _) _, Blk.new1 (w := w3.drew) rfl _ _⟩
  have HC3 : Hid (∀ W, Below w3.heap.size w3 W → W.cell? ⟨sb, o + 64, none⟩ = some (.slice a1 L1.length cap1)) := fun W hb => by
    rw [(K3.out.2.1.below hb).cell, Array.getElem?_setIfInBounds, if_pos rfl, if_pos (by have := (Array.getElem?_eq_some_iff.1 HC64.out).1; exact this)]
  have HS : Hid (∀ W, Below w3.heap.size w3 W → W.rangeAt w.heap.size 0 X) := fun W hb => blk_range (K3.out.2.2.1.below hb)
  have HSD : Hid ((fun W : World => W.rangeAt w.heap.size 0 X) w3.drew) := HS.out _ D0.out
  have hKZ := KZ.out.2
  rw [← hX] at hKZ
  obtain ⟨g, cp, w5, HRA0, HO5, hg5, hn5⟩ := run_wr 72 (.slice a1 L1.length cap1) L1 base w3.heap.size x wz (K3.out.2.2.2.below KZ.out.1) (by have := HL1.out; omega) hKZ (Nat.le_trans hbase (Nat.le_trans K3.out.1.size KZ.out.1.size))
  have HRA : Hid (AppD Try.prog 72 72 (.slice a1 L1.length cap1) (.slice (some ⟨w3.heap.size, 0, none⟩) 1 1) wz (.slice (some ⟨g, 0, none⟩) (L1.length + 1) cp) w5) := HRA0
  have hnb : ∀ k : Nat, (k = sb ∨ w.heap.size ≤ k) → some k ≠ (Value.slice a1 L1.length cap1).ownBlock := fun k hk e => by
    rcases hk with rfl | hk
    · exact own_neD K3.out.2.2.2 K3.out.2.1 (by decide) e.symm
    · exact absurd (HOW.out k (HIN.out k e.symm)) (by omega)
  have K5 : Hid (AddFr w w5 sb (.slice a s.wr.length cap) ∧ Blk w5 sb (C.setIfInBounds (o + 64) (.slice a1 L1.length cap1)) 74 ∧ Blk w5 w.heap.size X.toArray 70 ∧ OwnAt w5 base 70 65 Wr.enc (.slice (some ⟨g, 0, none⟩) (L1.length + 1) cp) (L1 ++ [x])) := by
    have hz := KZ.out.1
    have hk3 := K3.out.1
    refine ⟨⟨hg5.os.trans (hz.os.trans hk3.os), hg5.tape.trans (hz.tape.trans hk3.tape), hg5.output.trans (hz.output.trans hk3.output), Nat.le_trans hk3.size (Nat.le_trans hz.size hg5.size), fun k hk h1 h2 => ?_⟩, ?_, ?_, HO5⟩
    · exact (hg5.block k (by have := hk3.size; have := hz.size; omega) (fun e => h2 (HIN.out k e.symm))).trans ((hz.block k (by have := hk3.size; omega)).trans (hk3.block k hk h1 h2))
    · exact (hg5.block sb (K3.out.2.1.below hz).lt (hnb sb (Or.inl rfl))).trans (K3.out.2.1.below hz)
    · exact (hg5.block w.heap.size (K3.out.2.2.1.below hz).lt (hnb _ (Or.inr (Nat.le_refl _)))).trans (K3.out.2.2.1.below hz)
  have HS5 : Hid ((fun W : World => W.rangeAt w.heap.size 0 X) w5) := blk_range K5.out.2.2.1
  obtain ⟨w6, hw6⟩ : ∃ w6, w5.setCell ⟨sb, o + 64, none⟩ (.slice (some ⟨g, 0, none⟩) (L1.length + 1) cp) = w6 := ⟨_, rfl⟩
  have hoC : o + 64 < C.size := (Array.getElem?_eq_some_iff.1 HC64.out).1
  have hc5 : Hid ((C.setIfInBounds (o + 64) (.slice a1 L1.length cap1))[o + 64]? = some (.slice a1 L1.length cap1)) := by
    show _ = _
    rw [Array.getElem?_setIfInBounds, if_pos rfl, if_pos hoC]
  have HFIN : Hid (PP (.returned (.tuple #[])) w6) := by
    have e6 : Blk w6 sb (C.setIfInBounds (o + 64) (.slice (some ⟨g, 0, none⟩) (L1.length + 1) cp)) 74 := by
      rw [← hw6]
      have := K5.out.2.1.set (o + 64) (.slice (some ⟨g, 0, none⟩) (L1.length + 1) cp)
      rwa [show ((C.setIfInBounds (o + 64) (.slice a1 L1.length cap1)).setIfInBounds (o + 64) (.slice (some ⟨g, 0, none⟩) (L1.length + 1) cp)) = C.setIfInBounds (o + 64) (.slice (some ⟨g, 0, none⟩) (L1.length + 1) cp) from by simp] at this
    refine HP.out g cp w6 ?_ e6 ?_ ?_
    · rw [← hw6]
      refine K5.out.2.2.2.grown (grown_set w5 sb (o + 64) _) (fun g' e e' => ?_)
      injection e' with e'
      subst e'
      exact own_neD K5.out.2.2.2 K5.out.2.1 (by decide) e
    · have hk5 := K5.out.1
      rw [← hw6]
      exact ⟨hk5.os, hk5.tape, hk5.output, by rw [size_setCell]; exact hk5.size, fun k hk h1 h2 => (Below.heap_setCell _ _ _ _ h1).trans (hk5.block k hk h1 h2)⟩
    · rcases hn5 with h | h
      · exact Or.inl (HIN.out _ h)
      · exact Or.inr (by rw [h]; exact Nat.le_trans K3.out.1.size KZ.out.1.size)
  have HS6 : Hid ((fun W : World => W.rangeAt w.heap.size 0 X) w6) := by
    show World.rangeAt _ _ _ _
    rw [← hw6]
    exact blk_range (K5.out.2.2.1.other (fun e => hbx e.symm) _ _)
  clear HRA0 HO5 hg5 hn5 hKZ hnb
  have HRB : Hid ((Instr.buildSlice 72 1 #[(0, .agg X.toArray)]).run Try.prog w3.drew = .ok (.slice (some ⟨w3.heap.size, 0, none⟩) 1 1) wz) := by
    show _ = _
    rw [← hwz]
    exact HRB0.out w3.drew
  clear hwz HRB0
  refine wp_region_held (S := fun W => W.rangeAt w.heap.size 0 X) (by kernel_rfl) ?_
  refine wpAnyH_take (fuel := 10) (i := 0) (v := .pointer (some ⟨sb, o, none⟩)) rfl (by kernel_rfl) (by kernel_rfl) (by kernel_rfl) (fun _ _ _ h => h) (Or.inl ⟨by rfl, ?_⟩) HSD.out ?_
  · intro W hSw
    clear hSw
    go_simp
    try rfl
  (try simp only [Act.put, List.setIfInBounds_toArray, List.set_cons_zero, List.set_cons_succ, List.getElem_toArray, List.getElem_cons_zero, List.getElem_cons_succ])
  refine wpAnyH_take (fuel := 9) (i := 1) (v := .pointer (some ⟨sb, o, none⟩)) rfl (by kernel_rfl) (by kernel_rfl) (by kernel_rfl) (fun _ _ _ h => h) (Or.inl ⟨by rfl, ?_⟩) HSD.out ?_
  · intro W hSw
    clear hSw
    go_simp
    try rfl
  (try simp only [Act.put, List.setIfInBounds_toArray, List.set_cons_zero, List.set_cons_succ, List.getElem_toArray, List.getElem_cons_zero, List.getElem_cons_succ])
  refine wpAnyH_take (fuel := 8) (i := 2) (v := .pointer (some ⟨sb, o, none⟩)) rfl (by kernel_rfl) (by kernel_rfl) (by kernel_rfl) (fun _ _ _ h => h) (Or.inl ⟨by rfl, ?_⟩) HSD.out ?_
  · intro W hSw
    clear hSw
    go_simp
    try rfl
  (try simp only [Act.put, List.setIfInBounds_toArray, List.set_cons_zero, List.set_cons_succ, List.getElem_toArray, List.getElem_cons_zero, List.getElem_cons_succ])
  refine wpAnyH_take (fuel := 7) (i := 3) (v := .pointer (some ⟨sb, o + 64, none⟩)) rfl (by kernel_rfl) (by kernel_rfl) (by kernel_rfl) (fun _ _ _ h => h) (Or.inl ⟨by rfl, ?_⟩) HSD.out ?_
  · intro W hSw
    clear hSw
    go_simp
    try rfl
  (try simp only [Act.put, List.setIfInBounds_toArray, List.set_cons_zero, List.set_cons_succ, List.getElem_toArray, List.getElem_cons_zero, List.getElem_cons_succ])
  refine wpAnyH_take (fuel := 6) (i := 5) (v := .agg X.toArray) rfl (by kernel_rfl) (by kernel_rfl) (by kernel_rfl) (fun _ _ _ h => h) (yieldsIf_load_mid (by rfl) 70 _ rfl w.heap.size 0 rfl X _ (fun W h => h) wrU rfl wrI) HSD.out ?_
  (try simp only [Act.put, List.setIfInBounds_toArray, List.set_cons_zero, List.set_cons_succ, List.getElem_toArray, List.getElem_cons_zero, List.getElem_cons_succ])
  refine wpAnyH_ready (fuel := 5) (rs := [4, 6]) (by kernel_rfl) (by simp) ?_
  refine AllReadyH.cons rfl (fun K hK => ?_) (AllReadyH.cons rfl (fun K hK => ?_) AllReadyH.nil)
  · have r3 := (HC3.out _ D0.out)
    go_simp
    clear r3
    refine hK.out _ _ HSD.out (fun _ => ?_)
    clear hK K
    refine wpAnyH_ready (fuel := 4) (rs := [6]) (by kernel_rfl) (by simp) ?_
    refine AllReadyH.cons rfl (fun K hK => ?_) AllReadyH.nil
    refine step_build (by rfl) _ _ (by rfl) _ _ _ (by rfl) HRB.out ?_
    refine hK.out _ _ (HS.out _ KZ.out.1) (fun _ => ?_)
    clear hK K
    refine wpAnyH_ready (fuel := 3) (rs := [7]) (by kernel_rfl) (by simp) ?_
    refine AllReadyH.cons rfl (fun K hK => ?_) AllReadyH.nil
    refine step_of_appD (by rfl) _ _ _ (by rfl) _ _ (by rfl) (by rfl) _ _ HRA.out ?_
    refine hK.out _ _ HS5.out (fun _ => ?_)
    clear hK K
    (try simp only [Act.put, List.setIfInBounds_toArray, List.set_cons_zero, List.set_cons_succ, List.getElem_toArray, List.getElem_cons_zero, List.getElem_cons_succ])
    refine wpAnyH_take (fuel := 2) (i := 8) (v := .pointer (some ⟨sb, o, none⟩)) rfl (by kernel_rfl) (by kernel_rfl) (by kernel_rfl) (fun _ _ _ h => h) (Or.inl ⟨by rfl, ?_⟩) HS5.out ?_
    · intro W hSw
      clear hSw
      go_simp
      try rfl
    (try simp only [Act.put, List.setIfInBounds_toArray, List.set_cons_zero, List.set_cons_succ, List.getElem_toArray, List.getElem_cons_zero, List.getElem_cons_succ])
    refine wpAnyH_take (fuel := 1) (i := 9) (v := .pointer (some ⟨sb, o + 64, none⟩)) rfl (by kernel_rfl) (by kernel_rfl) (by kernel_rfl) (fun _ _ _ h => h) (Or.inl ⟨by rfl, ?_⟩) HS5.out ?_
    · intro W hSw
      clear hSw
      go_simp
      try rfl
    (try simp only [Act.put, List.setIfInBounds_toArray, List.set_cons_zero, List.set_cons_succ, List.getElem_toArray, List.getElem_cons_zero, List.getElem_cons_succ])
    refine wpAnyH_ready (fuel := 0) (rs := [10]) (by kernel_rfl) (by simp) ?_
    refine AllReadyH.cons rfl (fun K hK => ?_) AllReadyH.nil
    have r5 := K5.out.2.1.cell (o + 64)
    rw [hc5.out] at r5
    have f5 := K5.out.2.1.free
    go_simp
    refine hK.out _ _ HS6.out (fun _ => ?_)
    clear hK K
    refine wpAnyH_done (by kernel_rfl) ?_ _
    (try simp only [Act.put])
    go_wp2
    go_returns
    exact HFIN.out
  · refine step_build (by rfl) _ _ (by rfl) _ _ _ (by rfl) HRB.out ?_
    refine hK.out _ _ (HS.out _ KZ.out.1) (fun _ => ?_)
    clear hK K
    refine wpAnyH_ready (fuel := 4) (rs := [4]) (by kernel_rfl) (by simp) ?_
    refine AllReadyH.cons rfl (fun K hK => ?_) AllReadyH.nil
    have r3 := (HC3.out _ KZ.out.1)
    go_simp
    clear r3
    refine hK.out _ _ (HS.out _ KZ.out.1) (fun _ => ?_)
    clear hK K
    refine wpAnyH_ready (fuel := 3) (rs := [7]) (by kernel_rfl) (by simp) ?_
    refine AllReadyH.cons rfl (fun K hK => ?_) AllReadyH.nil
    refine step_of_appD (by rfl) _ _ _ (by rfl) _ _ (by rfl) (by rfl) _ _ HRA.out ?_
    refine hK.out _ _ HS5.out (fun _ => ?_)
    clear hK K
    (try simp only [Act.put, List.setIfInBounds_toArray, List.set_cons_zero, List.set_cons_succ, List.getElem_toArray, List.getElem_cons_zero, List.getElem_cons_succ])
    refine wpAnyH_take (fuel := 2) (i := 8) (v := .pointer (some ⟨sb, o, none⟩)) rfl (by kernel_rfl) (by kernel_rfl) (by kernel_rfl) (fun _ _ _ h => h) (Or.inl ⟨by rfl, ?_⟩) HS5.out ?_
    · intro W hSw
      clear hSw
      go_simp
      try rfl
    (try simp only [Act.put, List.setIfInBounds_toArray, List.set_cons_zero, List.set_cons_succ, List.getElem_toArray, List.getElem_cons_zero, List.getElem_cons_succ])
    refine wpAnyH_take (fuel := 1) (i := 9) (v := .pointer (some ⟨sb, o + 64, none⟩)) rfl (by kernel_rfl) (by kernel_rfl) (by kernel_rfl) (fun _ _ _ h => h) (Or.inl ⟨by rfl, ?_⟩) HS5.out ?_
    · intro W hSw
      clear hSw
      go_simp
      try rfl
    (try simp only [Act.put, List.setIfInBounds_toArray, List.set_cons_zero, List.set_cons_succ, List.getElem_toArray, List.getElem_cons_zero, List.getElem_cons_succ])
    refine wpAnyH_ready (fuel := 0) (rs := [10]) (by kernel_rfl) (by simp) ?_
    refine AllReadyH.cons rfl (fun K hK => ?_) AllReadyH.nil
    have r5 := K5.out.2.1.cell (o + 64)
    rw [hc5.out] at r5
    have f5 := K5.out.2.1.free
    go_simp
    refine hK.out _ _ HS6.out (fun _ => ?_)
    clear hK K
    refine wpAnyH_done (by kernel_rfl) ?_ _
    (try simp only [Act.put])
    go_wp2
    go_returns
    exact HFIN.out


/-- The disk behind a write. -/
theorem DiskAt.addedW {w w' : World} {base db sb : Nat} {secs : List Sec} {bit : Int} {armed : Bool} {left : Int} {down : Bool} {i : Nat} {L : List Wr} {v' : Value} (h : DiskAt w base db sb secs bit armed left down) (hi : i < secs.length)
    (hO : OwnAt w' base 70 65 Wr.enc v' L) (hB : Blk w' sb ((secs.flatMap Sec.enc).toArray.setIfInBounds (i * 65 + 64) v') 74) (hF : AddFr w w' sb secs[i]!.v) (hn : ∀ g, v'.ownBlock = some g → secs[i]!.v.ownBlock = some g ∨ w.heap.size ≤ g) :
    DiskAt w' base db sb (secs.set i ⟨secs[i]!.kept, v', L⟩) bit armed left down := by
  have hdb : db ≠ sb := fun e => by
    have h1 := h.d
    rw [e] at h1
    exact absurd (blk_typeD h1 h.s) (by decide)
  refine ⟨?_, ?_, ?_, ?_, h.hb⟩
  · rw [List.length_set]
    refine (hF.block db h.d.lt hdb (fun e => ?_)).trans h.d
    obtain ⟨_, _, cur, hc⟩ := own_at (h.own i hi) e
    exact absurd (blk_typeD h.d hc) (by decide)
  · have e : ((secs.flatMap Sec.enc).toArray.setIfInBounds (i * 65 + 64) v') = ((secs.set i ⟨secs[i]!.kept, v', L⟩).flatMap Sec.enc).toArray := by
      refine flat_of _ _ (by simp only [Array.size_setIfInBounds, List.size_toArray, List.length_set]; exact flat_len Sec.enc 65 Sec.enc_len secs) (fun j hj r hr => ?_)
      rw [List.length_set] at hj
      rw [set_get secs i j _ hi hj, Array.getElem?_setIfInBounds, List.getElem?_toArray, flat_get Sec.enc 65 Sec.enc_len secs j r hj hr]
      by_cases e : i = j
      · subst e
        rw [if_pos rfl]
        by_cases er : r = 64
        · subst er
          rw [if_pos rfl, if_pos (by simp only [List.size_toArray]; rw [flat_len Sec.enc 65 Sec.enc_len secs]; omega)]
          unfold Sec.enc
          rw [List.getElem?_append_right (by rw [conV_len]; exact Nat.le_refl _), conV_len]
          rfl
        · rw [if_neg (by omega)]
          unfold Sec.enc
          rw [List.getElem?_append_left (by rw [conV_len]; omega), List.getElem?_append_left (by rw [conV_len]; omega)]
      · rw [if_neg e, if_neg (by omega)]
    rw [← e]
    exact hB
  · intro j hj
    rw [List.length_set] at hj
    rw [set_get secs i j _ hi hj]
    by_cases e : i = j
    · rw [if_pos e]; exact hO
    · rw [if_neg e]
      rcases h.own j hj with h1 | ⟨g, cap, cur, hv, hg, hk, r⟩
      · exact Or.inl h1
      · refine Or.inr ⟨g, cap, cur, hv, hg, (hF.block g hk.lt (fun e' => ?_) (fun e' => ?_)).trans hk, r⟩
        · subst e'; exact absurd (blk_typeD hk h.s) (by decide)
        · exact h.ne i j hi hj e g e' (by rw [hv]; rfl)
  · intro a b ha hb hab g hg
    rw [List.length_set] at ha hb
    rw [set_get secs i a _ hi ha] at hg
    rw [set_get secs i b _ hi hb]
    by_cases ea : i = a
    · rw [if_pos ea] at hg
      rw [if_neg (by omega)]
      rcases hn g hg with h1 | h1
      · exact h.ne i b hi hb (by omega) g h1
      · intro h2
        have := (own_at (h.own b hb) h2).2.1
        omega
    · rw [if_neg ea] at hg
      by_cases eb : i = b
      · rw [if_pos eb]
        intro h2
        rcases hn g h2 with h1 | h1
        · exact h.ne i a hi ha ea g h1 hg
        · have := (own_at (h.own a ha) hg).2.1
          omega
      · rw [if_neg eb]
        exact h.ne a b ha hb hab g hg

/-- The writes of a sector behind one more. -/
def moreW (l : List Wr) (y : Wr) : List Wr := (l.filter fun z => !(z.bit == y.bit)) ++ [y]

end Dk
end Go.Proofs.Ytmojjjikaaclpaa
