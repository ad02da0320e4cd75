/- DiskI DiskJ DiskK DiskL. -/
import Derived.Test.YtopgllmjeliklaaGreatDoorKtDiskE
set_option maxRecDepth 100000
set_option linter.unusedSimpArgs false
set_option linter.unusedVariables false
namespace Go.Proofs.YtopgllmjeliklaaGreatDoor
open Go.Shelf Go.Lib Go.ChangeShapes Go.WideShapes Go.ChangeAt Go.RowKit
namespace Dk
open Bk
def setSec (K : Int) (s : Sec) : Sec := ⟨settleC K s.kept s.wr, .slice none 0 0, []⟩
def stl (K : Int) (secs : List Sec) : Nat → List Sec
 | 0 => secs
 | k + 1 => (stl K secs k).set k (setSec K (stl K secs k)[k]!)
theorem stl_len (K : Int) (secs : List Sec) : ∀ k, (stl K secs k).length = secs.length
 | 0 => rfl
 | k + 1 => by rw [stl, List.length_set, stl_len K secs k]
theorem stl_get (K : Int) (secs : List Sec) (j : Nat) (hj : j < secs.length) : ∀ k, k ≤ secs.length → (stl K secs k)[j]! = if j < k then setSec K secs[j]! else secs[j]!
 | 0, _ => by rw [if_neg (by omega)]; rfl
 | k + 1, hk => by
   have ih := stl_get K secs j hj k (by omega); rw [stl, set_get _ _ _ _ (by rw [stl_len]; omega) (by rw [stl_len]; exact hj)]
   by_cases e : k = j
   ·subst e
    rw [if_pos rfl, if_pos (by omega), ih, if_neg (by omega)]
   ·rw [if_neg e, ih]
    by_cases h1 : j < k
    ·rw [if_pos h1, if_pos (by omega)]
    ·rw [if_neg h1, if_neg (by omega)]
theorem DiskAt.settled {w w' : World} {base db sb : Nat} {secs : List Sec} {bit : Int} {armed : Bool} {left : Int} {down : Bool} {i : Nat} {c : Nat → Int} (h : DiskAt w base db sb secs bit armed left down) (hi : i < secs.length)
  (hB : Blk w' sb ((setRow (secs.flatMap Sec.enc).toArray (i * 65) (conV c)).setIfInBounds (i * 65 + 64) (.slice none 0 0)) 157) (hg : w.grownBy w' (some sb)) :
  DiskAt w' base db sb (secs.set i ⟨c, .slice none 0 0, []⟩) bit armed left down := by
 have hdb : db ≠ sb := fun e => by
  have h1 := h.d; rw [e] at h1; exact absurd (blk_typeD h1 h.s) (by decide)
 have hfl := flat_len Sec.enc 65 Sec.enc_len secs; have hfit : i * 65 + 65 ≤ secs.length * 65 := by omega
 refine ⟨?_, ?_, ?_, ?_, h.hb⟩
 ·rw [List.length_set]
  exact (hg.block db h.d.lt (fun e => hdb (by injection e))).trans h.d
 ·have e : ((setRow (secs.flatMap Sec.enc).toArray (i * 65) (conV c)).setIfInBounds (i * 65 + 64) (.slice none 0 0)) = ((secs.set i ⟨c, .slice none 0 0, []⟩).flatMap Sec.enc).toArray := by
   refine flat_of _ _ (by simp only [Array.size_setIfInBounds, Bk.setRow_size, List.size_toArray, List.length_set]; exact hfl) (fun j hj r hr => ?_)
   rw [List.length_set] at hj; rw [set_get secs i j _ hi hj, Array.getElem?_setIfInBounds]
   by_cases e : i = j
   ·subst e
    rw [if_pos rfl]
    by_cases er : r = 64
    ·subst er
     rw [if_pos rfl, if_pos (by rw [Bk.setRow_size]; simp only [List.size_toArray]; omega)]; unfold Sec.enc; rw [List.getElem?_append_right (by rw [conV_len]; exact Nat.le_refl _), conV_len]
     rfl
    ·rw [if_neg (by omega), setRow_in _ _ _ _ (by rw [conV_len]; omega) (by rw [conV_len]; simp only [List.size_toArray]; omega)]
     unfold Sec.enc; rw [List.getElem?_append_left (by rw [conV_len]; omega)]
   ·rw [if_neg e, if_neg (by omega), setRow_out _ _ _ _ (by rw [conV_len]; omega), List.getElem?_toArray, flat_get Sec.enc 65 Sec.enc_len secs j r hj hr]
  rw [← e]; exact hB
 ·intro j hj
  rw [List.length_set] at hj; rw [set_get secs i j _ hi hj]
  by_cases e : i = j
  ·rw [if_pos e]; exact Or.inl ⟨rfl, rfl⟩
  ·rw [if_neg e]
   exact (h.own j hj).grown hg (fun g e1 e2 => by
    injection e2 with e2; subst e2; exact own_neD (h.own j hj) h.s (by decide) e1)
 ·intro a b ha hb hab g hga
  rw [List.length_set] at ha hb; rw [set_get secs i a _ hi ha] at hga; rw [set_get secs i b _ hi hb]
  by_cases ea : i = a
  ·rw [if_pos ea] at hga
   simp [Value.ownBlock] at hga
  ·rw [if_neg ea] at hga
   by_cases eb : i = b
   ·rw [if_pos eb]
    simp [Value.ownBlock]
   ·rw [if_neg eb]
    exact h.ne a b ha hb hab g hga
theorem DFr.of_grown {base : Nat} {w w' : World} {sb : Nat} {C : Array Value} (hg : w.grownBy w' (some sb)) (hB : Blk w sb C 157) (hb : base ≤ sb) : DFr base w w' := by
 have hsb := hB.lt; refine ⟨⟨hg.os, hg.tape, hg.output, hg.size, fun k hk => hg.block k (by omega) (by simp; omega)⟩, fun k arr T h1 h2 h3 hk => (hg.block k hk.lt (fun e => ?_)).trans hk, hg.size, fun k o hk ho => (hg.block k (Array.getElem?_eq_some_iff.1 hk).1 (fun e => ?_)).trans hk⟩
 ·injection e with e
  subst e; exact h2 (blk_typeD hk hB)
 ·injection e with e
  subst e; rw [show w.heap[_]? = _ from hB] at hk
  cases hk; cases ho
set_option maxHeartbeats 2000000 in
theorem settle_any (base db sb : Nat) (secs : List Sec) (bit : Int) (armed : Bool) (left : Int) (down : Bool) (K : Int) (w : World) (h : DiskAt w base db sb secs bit armed left down) (hbase : base ≤ w.heap.size) (hl : ∀ i, i < secs.length → secs[i]!.wr.length ≤ 1000) (hbit : ∀ i, i < secs.length → ∀ y ∈ secs[i]!.wr, 0 ≤ y.bit ∧ y.bit < 64) (hn : secs.length ≤ 1000) :
  Calls Tryz.prog 70 #[.pointer (some ⟨db, 0, none⟩), .int .u64 K] w fun e w' => e = .returned (.tuple #[]) ∧ DiskAt w' base db sb (stl K secs secs.length) 0 armed left down ∧ DFr base w w' := by
 have c0 := h.d.cell 0; have H0 : Hid (DiskAt w base db sb secs bit armed left down) := h
 have HBI : Hid (∀ i, i < secs.length → ∀ y ∈ secs[i]!.wr, 0 ≤ y.bit ∧ y.bit < 64) := hbit
 have HLE : Hid (∀ i, i < secs.length → secs[i]!.wr.length ≤ 1000) := hl
 generalize hPP : (fun (e : Ending) (w' : World) => e = .returned (.tuple #[]) ∧ DiskAt w' base db sb (stl K secs secs.length) 0 armed left down ∧ DFr base w w') = PP
 have HP : Hid (∀ w', DiskAt w' base db sb (stl K secs secs.length) 0 armed left down → DFr base w w' → PP (.returned (.tuple #[])) w') := fun w' h1 h2 => by rw [← hPP]; exact ⟨rfl, h1, h2⟩
 clear hPP h hbit hl; simp only [List.getElem?_toArray, List.getElem?_cons_zero] at c0
 go_enter Tryz.func70, Tryz.ntmps70
 go_wp2_with fail; clear c0
 go_loopg [10] secs.length (fun gg s10 wr => ∃ k : Nat, k ≤ secs.length ∧ secs.length - k ≤ gg ∧ s10 = .int .i64 k ∧ Hid (DiskAt wr base db sb (stl K secs k) bit armed left down ∧ DFr base w wr))
 case atStart => exact ⟨0, Nat.zero_le _, by omega, rfl, H0.out, DFr.refl _ _⟩
 case round =>
  clear H0; obtain ⟨k, hk, hg, rfl, M⟩ := hrel
  by_cases hlt : k < secs.length
  ·have hltz : (k : Int) < (secs.length : Int) := by omega
   have c0 := M.out.1.d.cell 0; rw [stl_len] at c0; simp only [List.getElem?_toArray, List.getElem?_cons_zero] at c0; have hk' : k < (stl K secs k).length := by rw [stl_len]; exact hlt
   have hge : (stl K secs k)[k]! = secs[k]! := by rw [stl_get K secs k hlt k hk, if_neg (by omega)]
   have HC : Hid (Calls Tryz.prog 103 #[.pointer (some ⟨sb, k * 65, none⟩), .int .u64 K] wr fun e w' => e = .returned (.tuple #[]) ∧ Blk w' sb ((setRow ((stl K secs k).flatMap Sec.enc).toArray (k * 65) (conV (settleC K (stl K secs k)[k]!.kept (stl K secs k)[k]!.wr))).setIfInBounds (k * 65 + 64) (.slice none 0 0)) 157 ∧ wr.grownBy w' (some sb)) :=
    secSettle_any base sb (k * 65) (stl K secs k)[k]! K _ wr (M.out.1.sec hk') M.out.1.s (by rw [hge]; exact HLE.out k hlt) (by rw [hge]; exact HBI.out k hlt) (by simp only [List.size_toArray]; rw [flat_len Sec.enc 65 Sec.enc_len, stl_len]; omega)
   go_wp2_with fail; clear c0; refine HC.out.mono ?_; rintro e w2 ⟨rfl, hB, hgr⟩; have N : Hid (DiskAt w2 base db sb (stl K secs (k + 1)) bit armed left down ∧ DFr base w w2) := ⟨M.out.1.settled hk' hB hgr, M.out.2.trans (DFr.of_grown hgr M.out.1.s M.out.1.hb.2) hbase⟩
   clear hB hgr M HC; go_wp2
   go_roundg (secs.length - (k + 1))
   case measure => omega
   case rel => exact ⟨k + 1, by omega, by omega, by go_num, N⟩
  ·have hltz : ¬ (k : Int) < (secs.length : Int) := by omega
   have hke : k = secs.length := by omega
   subst hke; have r1 := M.out.1.d.cell 1; simp only [List.getElem?_toArray, List.getElem?_cons_succ, List.getElem?_cons_zero] at r1; have f1 := M.out.1.d.free; have HF : Hid (PP (.returned (.tuple #[])) (wr.setCell ⟨db, 1, none⟩ (.int .i64 0))) := HP.out _ (M.out.1.setBit 0) (M.out.2.trans (DFr.of_set M.out.1.d M.out.1.hb.1 1 _) hbase); clear HP M; go_wp2; go_returns; exact HF.out
end Dk
namespace Dk
open Bk
def secZ : Sec := ⟨fun _ => 0, .slice none 0 0, []⟩
theorem sec_info : ∃ i, Tryz.prog.info? 157 = some i ∧ i.zero = some (.agg (Sec.enc secZ).toArray) ∧ i.size = 65 ∧ i.bytes = 88 := by
 have h : (Tryz.prog.info? 157).map (fun i => (i.zero, i.size, i.bytes)) = some (some (.agg (Sec.enc secZ).toArray), 65, 88) := by kernel_rfl
 cases hi : Tryz.prog.info? 157 with
 | none => rw [hi] at h; cases h
 | some i =>
   rw [hi] at h; simp only [Option.map_some, Option.some.injEq, Prod.mk.injEq] at h; exact ⟨i, rfl, h.1, h.2.1, h.2.2⟩
theorem made_secs (n : Nat) : madeCells (Value.agg (Sec.enc secZ).toArray).cells (n * 65) = ((List.replicate n secZ).flatMap Sec.enc).toArray := by
 refine flat_of _ _ (by simp [madeCells]) (fun j hj r hr => ?_)
 rw [List.length_replicate] at hj; have e : (List.replicate n secZ)[j]! = secZ := by rw [getElem!_pos _ j (by simpa using hj)]; simp
 have hs : (Value.agg (Sec.enc secZ).toArray).cells.size = 65 := by simp [Value.cells, Sec.enc_len]
 have hlt : j * 65 + r < n * 65 := by omega
 rw [e]; unfold madeCells; rw [Array.getElem?_map, Array.getElem?_range, if_pos hlt]; simp only [Option.map_some]; rw [hs, show (j * 65 + r) % 65 = r from by omega]
 simp only [Value.cells]; rw [getElem!_pos (Sec.enc secZ).toArray r (by simp [Sec.enc_len]; exact hr), List.getElem?_eq_getElem (by rw [Sec.enc_len]; exact hr)]
 simp
theorem make_secs (n : Nat) (hn : n ≤ 1000) (W : World) : (Instr.makeSlice 122 (.int .i64 n) (.int .i64 n)).run Tryz.prog W = .ok (.slice (some ⟨W.heap.size, 0, none⟩) n n) (W.alloc (.cells ((List.replicate n secZ).flatMap Sec.enc).toArray 157)) := by
 obtain ⟨i, hi, hz, hs, hb⟩ := sec_info; have := run_make W 122 157 i _ (by kernel_rfl) hi hz .i64 .i64 n n (by omega) (Int.le_refl _) (by rw [hb]; omega) (by omega); rw [hs, Int.toNat_natCast, made_secs] at this; exact this
set_option maxHeartbeats 2000000 in
theorem diskNew_any (n : Nat) (w : World) (h1 : 1 ≤ n) (h40 : n ≤ 40) :
  Calls Tryz.prog 72 #[.int .i64 n] w fun e w' => e = .returned (.tuple #[.pointer (some ⟨w.heap.size + 1, 0, none⟩), .nilIface]) ∧ DiskAt w' w.heap.size (w.heap.size + 1) w.heap.size (List.replicate n secZ) 0 false 0 false ∧ Below w.heap.size w w' := by
 have hmk := make_secs n (by omega); obtain ⟨C, hC⟩ : ∃ C, ((List.replicate n secZ).flatMap Sec.enc).toArray = C := ⟨_, rfl⟩
 rw [hC] at hmk
 have HD : Hid (DiskAt ((w.alloc (.cells C 157)).alloc (.cells #[.slice (some ⟨w.heap.size, 0, none⟩) n n, .int .i64 0, .bool false, .int .i64 0, .bool false] 124)) w.heap.size (w.heap.size + 1) w.heap.size (List.replicate n secZ) 0 false 0 false) := by
  have hv : ∀ i, i < (List.replicate n secZ).length → (List.replicate n secZ)[i]! = secZ := fun i hi => by rw [getElem!_pos _ i hi]; simp
  refine ⟨?_, ?_, fun i hi => ?_, fun i j hi hj _ g hg => ?_, by omega, Nat.le_refl _⟩
  ·rw [List.length_replicate]; exact Blk.new1 (by simp) _ _
  ·rw [hC]; exact (Blk.new _ _ _).old _
  ·rw [hv i hi]; exact Or.inl ⟨rfl, rfl⟩
  ·rw [hv i hi] at hg; simp [secZ, Value.ownBlock] at hg
 have hz1 : ¬ (n : Int) < 1 := by omega
 have hz2 : ¬ (40 : Int) < (n : Int) := by omega
 clear hC
 go_enter Tryz.func72, Tryz.ntmps72
 go_wp2; go_returns; exact ⟨rfl, HD.out, (B.new1 _ _).alloc (by simp) _⟩
set_option maxHeartbeats 400000 in
theorem sectors_any (base db sb : Nat) (secs : List Sec) (bit : Int) (armed : Bool) (left : Int) (down : Bool) (w : World) (h : DiskAt w base db sb secs bit armed left down) :
  Calls Tryz.prog 100 #[.pointer (some ⟨db, 0, none⟩)] w fun e w' => e = .returned (.int .i64 secs.length) ∧ w' = w := by
 have rd := h.d.cell; clear h
 go_enter Tryz.func100, Tryz.ntmps100
 go_wp2; go_returns; exact ⟨rfl, rfl⟩
end Dk
namespace Dk
open Bk
theorem DiskAt.head {w : World} {base db sb : Nat} {secs : List Sec} {bit bit' : Int} {armed armed' : Bool} {left left' : Int} {down down' : Bool} (h : DiskAt w base db sb secs bit armed left down) (o : Nat) (v : Value)
  (e : (#[.slice (some ⟨sb, 0, none⟩) secs.length secs.length, .int .i64 bit, .bool armed, .int .i64 left, .bool down] : Array Value).setIfInBounds o v = #[.slice (some ⟨sb, 0, none⟩) secs.length secs.length, .int .i64 bit', .bool armed', .int .i64 left', .bool down']) : DiskAt (w.setCell ⟨db, o, none⟩ v) base db sb secs bit' armed' left' down' := by
 have hdb : db ≠ sb := fun e => by
  have h1 := h.d; rw [e] at h1; exact absurd (blk_typeD h1 h.s) (by decide)
 refine ⟨e ▸ h.d.set o v, h.s.other hdb _ _, fun i hi => (h.own i hi).grown (grown_set w db o _) (fun g e1 e' => ?_), h.ne, h.hb⟩
 injection e' with e'; subst e'; exact own_neD (h.own i hi) h.d (by decide) e1
def downB (armed : Bool) (left : Int) (down : Bool) : Bool := down || (armed && left == 0)
def leftN (armed : Bool) (left : Int) (down : Bool) : Int := if (armed && !downB armed left down) = true then left - 1 else left
def stepN (armed : Bool) (left : Int) (down : Bool) : Int := if downB armed left down = true then 9 else 0
set_option maxHeartbeats 2000000 in
theorem step_any (base db sb : Nat) (secs : List Sec) (bit : Int) (armed : Bool) (left : Int) (down : Bool) (w : World) (h : DiskAt w base db sb secs bit armed left down) (hbase : base ≤ w.heap.size) (hl : 0 ≤ left ∨ armed = false) (hl2 : left ≤ 9223372036854775807) :
  Calls Tryz.prog 150 #[.pointer (some ⟨db, 0, none⟩)] w fun e w' => e = .returned (errV (stepN armed left down)) ∧ DiskAt w' base db sb secs bit armed (leftN armed left down) (downB armed left down) ∧ DFr base w w' := by
 have c2 := h.d.cell 2; have c3 := h.d.cell 3; have c4 := h.d.cell 4; simp only [List.getElem?_toArray, List.getElem?_cons_succ, List.getElem?_cons_zero] at c2 c3 c4; have H0 : Hid (DiskAt w base db sb secs bit armed left down) := h
 have ff := h.d.free; clear h
 cases armed
 ·cases down
  ·go_enter Tryz.func150, Tryz.ntmps150
   go_wp2; go_returns; exact ⟨rfl, H0.out, DFr.refl _ _⟩
  ·go_enter Tryz.func150, Tryz.ntmps150
   go_wp2; go_returns; exact ⟨rfl, H0.out, DFr.refl _ _⟩
 ·cases hz : (left == 0)
  ·have hlp : 1 ≤ left := by
    have : left ≠ 0 := by simpa using hz
    rcases hl with h | h
    ·omega
    ·cases h
   have HLN : Hid (leftN true left false = left - 1 ∧ downB true left false = false ∧ stepN true left false = 0) := by unfold leftN stepN downB; rw [hz]; exact ⟨rfl, rfl, rfl⟩
   have HLD : Hid (leftN true left true = left ∧ downB true left true = true ∧ stepN true left true = 9) := by unfold leftN stepN downB; rw [hz]; exact ⟨rfl, rfl, rfl⟩
   cases down
   ·rw [HLN.out.1, HLN.out.2.1, HLN.out.2.2]
    have X : Hid (DiskAt (w.setCell ⟨db, 3, none⟩ (.int .i64 (left - 1))) base db sb secs bit true (left - 1) false ∧ DFr base w (w.setCell ⟨db, 3, none⟩ (.int .i64 (left - 1)))) := ⟨H0.out.head 3 _ rfl, DFr.of_set H0.out.d H0.out.hb.1 3 _⟩; clear HLN HLD
    go_enter Tryz.func150, Tryz.ntmps150
    go_wp2; go_returns; exact ⟨rfl, X.out.1, X.out.2⟩
   ·rw [HLD.out.1, HLD.out.2.1, HLD.out.2.2]
    clear HLN HLD
    go_enter Tryz.func150, Tryz.ntmps150
    go_wp2; go_returns; exact ⟨rfl, H0.out, DFr.refl _ _⟩
  ·have hl0 : left = 0 := by simpa using hz
   subst hl0; have HLD : Hid (leftN true 0 down = 0 ∧ downB true 0 down = true ∧ stepN true 0 down = 9) := by cases down <;> exact ⟨rfl, rfl, rfl⟩
   rw [HLD.out.1, HLD.out.2.1, HLD.out.2.2]; have X : Hid (DiskAt (w.setCell ⟨db, 4, none⟩ (.bool true)) base db sb secs bit true 0 true ∧ DFr base w (w.setCell ⟨db, 4, none⟩ (.bool true))) := ⟨H0.out.head 4 _ rfl, DFr.of_set H0.out.d H0.out.hb.1 4 _⟩; clear HLD hz
   go_enter Tryz.func150, Tryz.ntmps150
   go_wp2; go_returns; exact ⟨rfl, X.out.1, X.out.2⟩
end Dk
namespace Dk
open Bk
def WriteG (base db sb : Nat) (secs : List Sec) (bit : Int) (armed : Bool) (left : Int) (down : Bool) (x : Int) (S : ByteArray) (w : World) (e : Ending) (w' : World) : Prop :=
 ((hasN secs.length x && decide (S.size ≤ 64)) = false ∧ e = .returned (errV 1) ∧ w' = w) ∨
 ((hasN secs.length x && decide (S.size ≤ 64)) = true ∧ downB armed left down = true ∧ e = .returned (errV 9) ∧ DFr base w w' ∧ DiskAt w' base db sb secs bit armed (leftN armed left down) true) ∨
 ((hasN secs.length x && decide (S.size ≤ 64)) = true ∧ downB armed left down = false ∧ e = .returned .nilIface ∧ DFr base w w' ∧ ∃ v', DiskAt w' base db sb (secs.set x.toNat ⟨secs[x.toNat]!.kept, v', secs[x.toNat]!.wr ++ [⟨bit, padF S⟩]⟩) (bit + 1) armed (leftN armed left down) false)
set_option maxHeartbeats 1600000 in
theorem writeG_any (base db sb : Nat) (secs : List Sec) (bit : Int) (armed : Bool) (left : Int) (down : Bool) (x : Int) (S : ByteArray) (w : World) (h : DiskAt w base db sb secs bit armed left down) (hbase : base ≤ w.heap.size) (hlo : 0 ≤ left ∨ armed = false) (hlh : left ≤ 9223372036854775807) (hb0 : 0 ≤ bit) (hb1 : bit ≤ 62) (hd : ∀ i, i < secs.length → ∀ y ∈ secs[i]!.wr, y.bit ≠ bit) (hl : ∀ i, i < secs.length → secs[i]!.wr.length ≤ 900) (hn : secs.length ≤ 1000) (hS : S.size ≤ maxLen) :
  Calls Tryz.prog 125 #[.pointer (some ⟨db, 0, none⟩), .int .i64 x, .string S] w (WriteG base db sb secs bit armed left down x S w) := by
 unfold maxLen at hS; have HH : Hid (Calls Tryz.prog 149 #[.pointer (some ⟨db, 0, none⟩), .int .i64 x] w fun e w' => e = .returned (.bool (hasN secs.length x)) ∧ w' = w) := has_any db sb secs.length x w (h.d.cell 0)
 have HST : Hid (Calls Tryz.prog 150 #[.pointer (some ⟨db, 0, none⟩)] w fun e w' => e = .returned (errV (stepN armed left down)) ∧ DiskAt w' base db sb secs bit armed (leftN armed left down) (downB armed left down) ∧ DFr base w w') := step_any base db sb secs bit armed left down w h hbase hlo hlh
 have HSN : Hid (stepN armed left down = if downB armed left down = true then 9 else 0) := rfl
 have HB0 : Hid ((hasN secs.length x && decide (S.size ≤ 64)) = false → WriteG base db sb secs bit armed left down x S w (.returned (.iface 103 (.int .i64 1))) w) := fun e => Or.inl ⟨e, rfl, rfl⟩
 have HD0 : Hid ((hasN secs.length x && decide (S.size ≤ 64)) = true → downB armed left down = true → ∀ w', DFr base w w' → DiskAt w' base db sb secs bit armed (leftN armed left down) true → WriteG base db sb secs bit armed left down x S w (.returned (.iface 103 (.int .i64 9))) w') := fun e e' w' h1 h2 => Or.inr (Or.inl ⟨e, e', rfl, h1, h2⟩)
 have HG0 : Hid ((hasN secs.length x && decide (S.size ≤ 64)) = true → downB armed left down = false → ∀ v' w', DFr base w w' → DiskAt w' base db sb (secs.set x.toNat ⟨secs[x.toNat]!.kept, v', secs[x.toNat]!.wr ++ [⟨bit, padF S⟩]⟩) (bit + 1) armed (leftN armed left down) false → WriteG base db sb secs bit armed left down x S w (.returned .nilIface) w') := fun e e' v' w' h1 h2 => Or.inr (Or.inr ⟨e, e', rfl, h1, v', h2⟩)
 generalize WriteG base db sb secs bit armed left down x S w = PP at *
 generalize leftN armed left down = left2 at *
 generalize downB armed left down = dn at *
 generalize stepN armed left down = sn at *
 clear h hlo hlh
 cases hx : hasN secs.length x
 ·have HP : Hid (PP (.returned (.iface 103 (.int .i64 1))) w) := HB0.out (by rw [hx]; rfl)
  rw [hx] at HH; clear HB0 HG0 HD0 hd hl HST hx
  go_enter Tryz.func125, Tryz.ntmps125
  go_wp2_with fail; refine HH.out.mono ?_; rintro e w1 ⟨rfl, rfl⟩; go_wp2; exact HP.out
 by_cases hs : 64 < S.size
 ·have HP : Hid (PP (.returned (.iface 103 (.int .i64 1))) w) := HB0.out (by rw [decide_eq_false (by omega)]; simp)
  have hsz : (64 : Int) < (S.size : Int) := by omega
  rw [hx] at HH; clear HB0 HG0 HD0 hd hl HST hx
  go_enter Tryz.func125, Tryz.ntmps125
  go_wp2_with fail; refine HH.out.mono ?_; rintro e w1 ⟨rfl, rfl⟩; go_wp2; exact HP.out
 ·have hsz : ¬ (64 : Int) < (S.size : Int) := by omega
  have hok : (hasN secs.length x && decide (S.size ≤ 64)) = true := by rw [hx, decide_eq_true (by omega)]; rfl
  obtain ⟨i, rfl⟩ : ∃ i : Nat, x = (i : Int) := ⟨x.toNat, by simp [hasN] at hx; omega⟩
  have hi : i < secs.length := by simp [hasN] at hx; omega
  have hiz : (i : Int) < (secs.length : Int) := by omega
  have HPD : Hid (dn = true → ∀ w', DFr base w w' → DiskAt w' base db sb secs bit armed left2 true → PP (.returned (.iface 103 (.int .i64 9))) w') := HD0.out hok
  have HPG : Hid (dn = false → ∀ v' w', DFr base w w' → DiskAt w' base db sb (secs.set i ⟨secs[i]!.kept, v', secs[i]!.wr ++ [⟨bit, padF S⟩]⟩) (bit + 1) armed left2 false → PP (.returned .nilIface) w') := HG0.out hok
  rw [hx] at HH; clear HB0 HG0 HD0 hx hok
  go_enter Tryz.func125, Tryz.ntmps125
  go_wp2_with fail; refine HH.out.mono ?_; rintro e w9 ⟨rfl, rfl⟩; go_wp2_with fail; refine HST.out.mono ?_; rintro e w10 ⟨rfl, hD10, hF10⟩; have XD : Hid (DiskAt w10 base db sb secs bit armed left2 dn ∧ DFr base w9 w10) := ⟨hD10, hF10⟩; clear hD10 hF10 HH HST
  cases dn
  case true =>
   obtain rfl : sn = 9 := HSN.out; have HF : Hid (PP (.returned (.iface 103 (.int .i64 9))) w10) := HPD.out rfl _ XD.out.2 XD.out.1; clear HPD HPG hd hl; rw [show errV 9 = .iface 103 (.int .i64 9) from rfl]
   go_wp2; exact HF.out
  obtain rfl : sn = 0 := HSN.out; have HP : Hid (∀ v' w', DFr base w10 w' → DiskAt w' base db sb (secs.set i ⟨secs[i]!.kept, v', secs[i]!.wr ++ [⟨bit, padF S⟩]⟩) (bit + 1) armed left2 false → PP (.returned .nilIface) w') := fun v' w' h1 h2 => HPG.out rfl v' w' (XD.out.2.trans h1 hbase) h2
  have hbase' : base ≤ w10.heap.size := Nat.le_trans hbase XD.out.2.b.size; clear hbase; have hbase := hbase'; have h := XD.out.1; have rd := h.d.cell; clear HPD HPG HSN XD; rw [errV0]; obtain ⟨Y, hY⟩ : ∃ Y, Wr.enc ⟨bit, fun _ => 0⟩ = Y := ⟨_, rfl⟩
  obtain ⟨Y2, hY2⟩ : ∃ Y, Wr.enc ⟨bit, padF S⟩ = Y := ⟨_, rfl⟩
  obtain ⟨Z, hZ⟩ : ∃ Y, (Wr.enc ⟨0, fun _ => 0⟩).toArray = Y := ⟨_, rfl⟩
  have hbd : ∀ w, (Instr.build 194 #[(0, .int .i64 bit)]).run Tryz.prog w = .ok (.agg Y.toArray) w := fun w => by rw [← hY]; exact wrB bit w
  have hZv : ∀ w, (zeroValue 194).run Tryz.prog w = .ok (.agg Z) w := fun w => by rw [← hZ]; exact wrZ w
  have hZs : Z.size = 65 := by rw [← hZ]; simp [Wr.enc_len]
  have hYs : Y.toArray.size = 65 := by rw [← hY]; simp [Wr.enc_len]
  have hwi : (Tryz.prog.info? 194).map (·.size) = some 65 := by kernel_rfl
  have hYi : (Tryz.prog.info? 194).map (·.size) = some Y.toArray.size := by rw [hYs]; exact hwi
  have hY2i : (Tryz.prog.info? 194).map (·.size) = some Y2.length := by rw [← hY2, Wr.enc_len]; exact hwi
  have hY1 : Y.toArray.all (·.oneCell') = true := by rw [← hY]; exact all_oneCell_toArray (Wr.enc_one _)
  obtain ⟨w1, hw1⟩ : ∃ w1, w10.alloc (.cells Z 194) = w1 := ⟨_, rfl⟩
  have X1 : Hid (Below w10.heap.size w10 w1 ∧ Blk w1 w10.heap.size Z 194) := by
   show _ ∧ _
   rw [← hw1]; exact ⟨B.new1 _ _, Blk.new _ _ _⟩
  obtain ⟨w2, hw2⟩ : ∃ w2, w1.setCells w10.heap.size 0 Y.toArray.toList = w2 := ⟨_, rfl⟩
  have X2 : Hid (Below w10.heap.size w10 w2 ∧ Blk w2 w10.heap.size Y.toArray 194) := by
   show _ ∧ _
   rw [← hw2]; exact ⟨below_cells (Nat.le_refl _) _ 0 X1.out.1, blk_all X1.out.2 (by rw [hZs, ← hYs]; simp)⟩
  have HT : Hid (w1.there w10.heap.size 0 Y.toArray.size) := blk_there X1.out.2 0 _ (by rw [hZs, hYs]; exact Nat.le_refl _); have hW2 : Hid (w1.setCells w10.heap.size 0 Y.toArray.toList = w2) := hw2; have hB2 := X2.out.2; rw [← hY] at hB2; obtain ⟨w3, hcp, hB3, hg3⟩ := run_copy_text w2 w10.heap.size bit S (by omega) hB2 3; rw [hY2] at hB3
  have X3 : Hid (Below w10.heap.size w10 w3 ∧ Blk w3 w10.heap.size Y2.toArray 194 ∧ DiskAt w3 base db sb secs bit armed left2 false) := by
   have b3 := below_of_grown X2.out.1 hg3 (Nat.le_refl _) X2.out.1.size; exact ⟨b3, hB3, h.below b3⟩
  clear hw2 hB2 hB3 hg3
  go_upto_region 7 with (first | (refine wpList_build rfl 194 _ rfl (.int .i64 bit) (.agg Y.toArray) rfl (hbd _) ?_) | (refine wpList_store_as rfl 194 _ _ rfl w10.heap.size 0 Y.toArray rfl rfl HT.out hYi hY1 w2 hW2.out ?_))
  clear hW2 HT X1 hbd hZv hZs hYs hYi hY1 hZ hY hw1
  go_upto_region 8 with fail
  clear hcp X2; have HDK : Hid (DiskAt w3 base db sb secs bit armed left2 false) := X3.out.2.2; have D0 : Hid (Below w3.heap.size w3 w3.drew) := (Below.refl _ _).drew; have HS : Hid (∀ W, Below w3.heap.size w3 W → W.cell? ⟨db, 0, none⟩ = some (.slice (some ⟨sb, 0, none⟩) secs.length secs.length) ∧ W.rangeAt w10.heap.size 0 Y2) := fun W hb => ⟨(HDK.out.d.below hb).cell 0, blk_range (X3.out.2.1.below hb)⟩
  have HSD : Hid ((fun W : World => W.cell? ⟨db, 0, none⟩ = some (.slice (some ⟨sb, 0, none⟩) secs.length secs.length) ∧ W.rangeAt w10.heap.size 0 Y2) w3.drew) := HS.out _ D0.out
  have HAD : Hid (Calls Tryz.prog 151 #[.pointer (some ⟨sb, i * 65, none⟩), .agg Y2.toArray] w3.drew fun e w' => e = .returned (.tuple #[]) ∧ ∃ v', OwnAt w' base 194 65 Wr.enc v' (secs[i]!.wr ++ [⟨bit, padF S⟩]) ∧ Blk w' sb ((secs.flatMap Sec.enc).toArray.setIfInBounds (i * 65 + 64) v') 157 ∧ AddFr w3.drew w' sb secs[i]!.v ∧ (∀ g, v'.ownBlock = some g → secs[i]!.v.ownBlock = some g ∨ w3.drew.heap.size ≤ g)) := by
   rw [← hY2]; exact add_any base sb (i * 65) secs[i]! ⟨bit, padF S⟩ _ w3.drew ((HDK.out.below D0.out).sec hi) (HDK.out.s.below D0.out) (Nat.le_trans hbase (Nat.le_trans X3.out.1.size D0.out.size)) (hd i hi) (hl i hi)
  have HNB : Hid (w10.heap.size ≠ sb ∧ secs[i]!.v.ownBlock ≠ some w10.heap.size) := ⟨by have := h.s.lt; omega, fun e => by have := (own_at (h.own i hi) e).2.1; omega⟩
  clear hd hl h; refine wp_region_held (S := fun W => W.cell? ⟨db, 0, none⟩ = some (.slice (some ⟨sb, 0, none⟩) secs.length secs.length) ∧ W.rangeAt w10.heap.size 0 Y2) (by kernel_rfl) ?_
  refine wpAnyH_take (fuel := 7) (i := 0) (v := .pointer (some ⟨db, 0, none⟩)) rfl (by kernel_rfl) (by kernel_rfl) (by kernel_rfl) (fun _ _ _ h => h) (Or.inl ⟨by rfl, ?_⟩) HSD.out ?_
  ·intro W hSw
   (try dsimp only at hSw)
   obtain ⟨y0, y1⟩ := hSw; clear y1
   go_simp
   try rfl
  (try simp only [Act.put, List.setIfInBounds_toArray, List.set_cons_zero, List.set_cons_succ, List.getElem_toArray, List.getElem_cons_zero, List.getElem_cons_succ])
  refine wpAnyH_take (fuel := 6) (i := 1) (v := .pointer (some ⟨db, 0, none⟩)) rfl (by kernel_rfl) (by kernel_rfl) (by kernel_rfl) (fun _ _ _ h => h) (Or.inl ⟨by rfl, ?_⟩) HSD.out ?_
  ·intro W hSw
   (try dsimp only at hSw)
   obtain ⟨y0, y1⟩ := hSw; clear y1
   go_simp
   try rfl
  (try simp only [Act.put, List.setIfInBounds_toArray, List.set_cons_zero, List.set_cons_succ, List.getElem_toArray, List.getElem_cons_zero, List.getElem_cons_succ])
  refine wpAnyH_take (fuel := 5) (i := 2) (v := .pointer (some ⟨db, 0, none⟩)) rfl (by kernel_rfl) (by kernel_rfl) (by kernel_rfl) (fun _ _ _ h => h) (Or.inl ⟨by rfl, ?_⟩) HSD.out ?_
  ·intro W hSw
   (try dsimp only at hSw)
   obtain ⟨y0, y1⟩ := hSw; clear y1
   go_simp
   try rfl
  (try simp only [Act.put, List.setIfInBounds_toArray, List.set_cons_zero, List.set_cons_succ, List.getElem_toArray, List.getElem_cons_zero, List.getElem_cons_succ])
  refine wpAnyH_take (fuel := 4) (i := 3) (v := .slice (some ⟨sb, 0, none⟩) secs.length secs.length) rfl (by kernel_rfl) (by kernel_rfl) (by kernel_rfl) (fun _ _ _ h => h) (Or.inl ⟨by rfl, ?_⟩) HSD.out ?_
  ·intro W hSw
   (try dsimp only at hSw)
   obtain ⟨y0, y1⟩ := hSw; clear y1
   go_simp
   try rfl
  (try simp only [Act.put, List.setIfInBounds_toArray, List.set_cons_zero, List.set_cons_succ, List.getElem_toArray, List.getElem_cons_zero, List.getElem_cons_succ])
  refine wpAnyH_take (fuel := 3) (i := 4) (v := .int .i64 i) rfl (by kernel_rfl) (by kernel_rfl) (by kernel_rfl) (fun _ _ _ h => h) (Or.inl ⟨by rfl, ?_⟩) HSD.out ?_
  ·intro W hSw
   (try dsimp only at hSw)
   obtain ⟨y0, y1⟩ := hSw; clear y1
   go_simp
   try rfl
  (try simp only [Act.put, List.setIfInBounds_toArray, List.set_cons_zero, List.set_cons_succ, List.getElem_toArray, List.getElem_cons_zero, List.getElem_cons_succ])
  refine wpAnyH_take (fuel := 2) (i := 5) (v := .pointer (some ⟨sb, i * 65, none⟩)) rfl (by kernel_rfl) (by kernel_rfl) (by kernel_rfl) (fun _ _ _ h => h) (Or.inl ⟨by rfl, ?_⟩) HSD.out ?_
  ·intro W hSw
   (try dsimp only at hSw)
   obtain ⟨y0, y1⟩ := hSw; clear y1
   go_simp
   try rfl
  (try simp only [Act.put, List.setIfInBounds_toArray, List.set_cons_zero, List.set_cons_succ, List.getElem_toArray, List.getElem_cons_zero, List.getElem_cons_succ])
  refine wpAnyH_take (fuel := 1) (i := 6) (v := .agg Y2.toArray) rfl (by kernel_rfl) (by kernel_rfl) (by kernel_rfl) (fun _ _ _ h => h) (yieldsIf_load_mid (by rfl) 194 _ rfl w10.heap.size 0 rfl Y2 _ (fun W h => h.2) wrU rfl hY2i) HSD.out ?_
  (try simp only [Act.put, List.setIfInBounds_toArray, List.set_cons_zero, List.set_cons_succ, List.getElem_toArray, List.getElem_cons_zero, List.getElem_cons_succ])
  refine wpAnyH_ready (fuel := 0) (rs := [7]) (by kernel_rfl) (by simp) ?_; refine AllReadyH.cons rfl (fun K hK => ?_) AllReadyH.nil
  go_simp
  refine HAD.out.mono ?_; rintro e w4 ⟨rfl, v', hO, hB, hF, hnn⟩
  have X4 : Hid (DFr base w10 w4 ∧ DiskAt w4 base db sb (secs.set i ⟨secs[i]!.kept, v', secs[i]!.wr ++ [⟨bit, padF S⟩]⟩) bit armed left2 false) := by
   have hk := HDK.out.below D0.out; exact ⟨(DFr.of_below (B.next X3.out.1 D0.out X3.out.1.size) hbase).trans (DFr.of_add hF hk.s (hk.own i hi) hk.hb.2) hbase, hk.added hi hO hB hF hnn⟩
  have HS4 : Hid ((fun W : World => W.cell? ⟨db, 0, none⟩ = some (.slice (some ⟨sb, 0, none⟩) secs.length secs.length) ∧ W.rangeAt w10.heap.size 0 Y2) w4) := by
   have hc := X4.out.2.d.cell 0; rw [List.length_set] at hc; have hbk := X3.out.2.1.below D0.out; exact ⟨hc, blk_range ((hF.block _ hbk.lt HNB.out.1 HNB.out.2).trans hbk)⟩
  clear hO hB hF hnn HAD; simp only []; refine hK.out _ _ HS4.out (fun _ => ?_)
  clear hK K; refine wpAnyH_done (by kernel_rfl) ?_ _
  (try simp only [Act.put])
  have r4 := X4.out.2.d.cell; have f4 := X4.out.2.d.free; go_wp2; have hbm : (bit + 1) % 64 = bit + 1 := by omega
  rw [hbm]; exact HP.out v' _ (X4.out.1.trans (DFr.of_set X4.out.2.d X4.out.2.hb.1 1 _) hbase) (X4.out.2.setBit (bit + 1))
end Dk
end Go.Proofs.YtopgllmjeliklaaGreatDoor
