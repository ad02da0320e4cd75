/- DiskD. -/
import Derived.Test.YtopgllmjeliklaaGreatDoorKhDel
import Derived.Laws.OwnMore
set_option maxRecDepth 100000
set_option linter.unusedSimpArgs false
set_option linter.unusedVariables false
namespace Go.Proofs.YtopgllmjeliklaaGreatDoor
open Go.Shelf Go.Lib Go.ChangeShapes Go.WideShapes Go.ChangeAt Go.RowKit
namespace Dk
open Bk
theorem zip_set : ∀ (X : List Value) (k : Nat) (Z : Array Value), (X.zipIdx k).foldl (fun cs p => cs.setIfInBounds p.2 p.1) Z = setRow Z k X
 | [], _, _ => rfl
 | v :: r, k, Z => by
   rw [List.zipIdx_cons, List.foldl_cons, zip_set r (k + 1)]
   rfl
theorem fill_one (X : List Value) (Z : Array Value) (hz : Z.size = X.length) : Instr.fill (fun i => some (i * X.length, X.length)) Z [(0, .agg X.toArray)] = some X.toArray := by
 unfold Instr.fill; simp only [Nat.zero_mul, Value.cells, List.size_toArray, ne_eq, not_true_eq_false, decide_false, Nat.zero_add, Bool.false_or, gt_iff_lt, hz, Nat.lt_irrefl, Bool.false_eq_true, if_false]; unfold Instr.fill
 have : X.toArray.zipIdx.foldl (fun cs (p : Value × Nat) => cs.setIfInBounds p.2 p.1) Z = X.toArray := by
  have hz' : X.toArray.zipIdx = (X.zipIdx).toArray := by
   apply Array.ext'
   simp
  rw [hz', List.foldl_toArray, zip_set X 0 Z, setRow_all Z X hz]
 simpa using this
theorem run_build_one {P : Program} (w : World) (t e : TypeId) (i : TypeInfo) (z : Value) (X : List Value) (ht : P.underlying t = some (.slice e)) (hi : P.info? e = some i) (hz : i.zero = some z) (hs : i.size = X.length) (h0 : 0 < X.length) (hm : X.length ≤ 16777216) :
  (Instr.buildSlice t 1 #[(0, .agg X.toArray)]).run P w = .ok (.slice (some ⟨w.heap.size, 0, none⟩) 1 1) (w.alloc (.cells X.toArray e)) := by
 have hn1 : ¬ (16777216 < X.length) := by omega
 have hn2 : ¬ (X.length = 0) := by omega
 have hf := fill_one X ((Array.range X.length).map fun k => z.cells[k % z.cells.size]!) (by simp)
 simp [Instr.buildSlice, run_underlying ht, sizeOf, typeInfo, hi, hs, zeroValue, hz, hn1, hn2]
 rw [hf]
 rfl
theorem step_build {P : Program} {ops : Array Oper} {o : Oper} {a : Act} {w : World} {K : Act → World → Prop} {Q : Exit → Act → World → Prop} {E : Prop} (hg : o.guard = none) (t : TypeId) (x : Operand) (hop : o.op = .buildSlice t 1 #[(0, x)]) (v v' : Value) (w' : World) (hx : a.eval x = v)
  (hr : (Instr.buildSlice t 1 #[(0, v)]).run P w = .ok v' w') (hK : K (a.put o.dst v') w') : if Region.wanted o (yielded ops a.tmps) = true then Oper.wp P o a w K Q else E := by
 have hw : Region.wanted o (yielded ops a.tmps) = true := by simp [Region.wanted, hg]
 rw [if_pos hw]; unfold Oper.wp
 simp [execOp, hop, hx, hr, Result.andThen]
 exact hK
structure AppD (P : Program) (t ty : TypeId) (v1 v2 : Value) (w : World) (v' : Value) (w' : World) : Prop where
 run : (Builtin.append_ #[t, t] ty #[v1, v2]).run P w = .ok v' w'
theorem step_of_appD {P : Program} {ops : Array Oper} {o : Oper} {a : Act} {w : World} {K : Act → World → Prop} {Q : Exit → Act → World → Prop} {E : Prop}
  (hg : o.guard = none) (s x : Operand) (t : TypeId) (hop : o.op = Op.call { callee := Callee.builtin Builtin.append, args := #[s, x], argTypes := #[t, t] })
  (v1 v2 : Value) (h1 : a.eval s = v1) (h2 : a.eval x = v2) (v' : Value) (w' : World) (hr : AppD P t o.type v1 v2 w v' w') (hK : K (a.put o.dst v') w') :
  if Region.wanted o (yielded ops a.tmps) = true then Oper.wp P o a w K Q else E := by
 have hw : Region.wanted o (yielded ops a.tmps) = true := by simp [Region.wanted, hg]
 rw [if_pos hw]; have hrun := hr.run; unfold Oper.wp
 simp [execOp, hop, resolve, invoke, builtin, h1, h2, hrun, Result.andThen]
 exact hK
theorem blk_typeD {w : World} {g : Nat} {a a' : Array Value} {T T' : TypeId} (h : Blk w g a T) (h' : Blk w g a' T') : T = T' := by
 have h1 : w.heap[g]? = _ := h; have h2 : w.heap[g]? = _ := h'; rw [h1] at h2
 simp at h2
 exact h2.2
theorem own_neD {α : Type} [Inhabited α] {w : World} {b : Nat} {T T' : TypeId} {k : Nat} {enc : α → List Value} {v : Value} {l : List α} {n : Nat} {a : Array Value} (h : OwnAt w b T k enc v l) (hk : Blk w n a T') (hT : T ≠ T') : v.ownBlock ≠ some n := by
 intro e
 rcases h with ⟨rfl, _⟩ | ⟨g, cap, cur, rfl, hg, hb, _⟩
 ·simp [Value.ownBlock] at e
 ·simp [Value.ownBlock] at e
  subst e; exact hT (blk_typeD hb hk)
theorem wrU : Tryz.prog.underlying 194 = some (.struct (Tryz.prog.fieldsOf 194)) := by kernel_rfl
theorem Wr.enc_one (x : Wr) : ∀ v ∈ Wr.enc x, v.oneCell' = true := by
 intro v hv
 unfold Wr.enc at hv
 rcases List.mem_cons.1 hv with rfl | hv
 ·rfl
 ·exact conV_one _ v hv
theorem wr_info : ∃ i, Tryz.prog.info? 194 = some i ∧ i.zero = some (.agg (Wr.enc ⟨0, fun _ => 0⟩).toArray) ∧ i.size = 65 ∧ i.bytes = 72 := by
 have h : (Tryz.prog.info? 194).map (fun i => (i.zero, i.size, i.bytes)) = some (some (.agg (Wr.enc ⟨0, fun _ => 0⟩).toArray), 65, 72) := by kernel_rfl
 cases hi : Tryz.prog.info? 194 with
 | none => rw [hi] at h; cases h
 | some i =>
   rw [hi] at h; simp only [Option.map_some, Option.some.injEq, Prod.mk.injEq] at h; exact ⟨i, rfl, h.1, h.2.1, h.2.2⟩
theorem run_wr (ty : TypeId) (v : Value) (l : List Wr) (base B : Nat) (x : Wr) (w : World) (h : OwnAt w base 194 65 Wr.enc v l) (hl : l.length ≤ 1000) (hB : Blk w B (Wr.enc x).toArray 194) (hbase : base ≤ w.heap.size) :
  ∃ g cap w', AppD Tryz.prog 155 ty v (.slice (some ⟨B, 0, none⟩) 1 1) w (.slice (some ⟨g, 0, none⟩) (l.length + 1) cap) w' ∧ OwnAt w' base 194 65 Wr.enc (.slice (some ⟨g, 0, none⟩) (l.length + 1) cap) (l ++ [x]) ∧ w.grownBy w' v.ownBlock ∧ (v.ownBlock = some g ∨ g = w.heap.size) := by
 obtain ⟨i, hi, hz, hs, hb⟩ := wr_info; have hle : (l.length + 1) * 72 ≤ 140737488355328 := by omega
 obtain ⟨g, cap, w', hrun, ho, hg, hn, _⟩ := run_append_lies (P := Tryz.prog) w 155 ty base 194 i _ 65 72 (by kernel_rfl) hi hz hs hb (by simp [Value.cells, Wr.enc_len]) (by decide) v l.length (l.flatMap Wr.enc) (h.to_owns Wr.enc_len) ⟨B, 0, none⟩ 1 1 (Wr.enc x) (by rw [Wr.enc_len]) (fun j u hj => World.news_of_block (show w.heap[B]? = _ from hB) j u (by simpa using hj)) (Wr.enc_one x) (by decide) (by unfold maxLen; omega) hle hbase _ rfl
 refine ⟨g, cap, w', ⟨hrun⟩, ?_, hg, hn⟩; refine OwnAt.of_owns Wr.enc_len ?_; rw [List.length_append, List.flatMap_append]
 simpa using ho
structure AddFr (w w' : World) (sb : Nat) (v : Value) : Prop where
 os : w'.os = w.os
 tape : w'.tape = w.tape
 output : w'.output = w.output
 size : w.heap.size ≤ w'.heap.size
 block : ∀ k, k < w.heap.size → k ≠ sb → v.ownBlock ≠ some k → w'.heap[k]? = w.heap[k]?
set_option maxHeartbeats 4000000 in
theorem add_any (base sb o : Nat) (s : Sec) (x : Wr) (C : Array Value) (w : World) (h : SecAt w base sb o s) (hB : Blk w sb C 157) (hbase : base ≤ w.heap.size) (hd : ∀ y ∈ s.wr, y.bit ≠ x.bit) (hl : s.wr.length ≤ 900) :
  Calls Tryz.prog 151 #[.pointer (some ⟨sb, o, none⟩), .agg (Wr.enc x).toArray] w fun e w' => e = .returned (.tuple #[]) ∧ ∃ v', OwnAt w' base 194 65 Wr.enc v' (s.wr ++ [x]) ∧ Blk w' sb (C.setIfInBounds (o + 64) v') 157 ∧ AddFr w w' sb s.v ∧ (∀ g, v'.ownBlock = some g → s.v.ownBlock = some g ∨ w.heap.size ≤ g) := by
 obtain ⟨i0, hi0, hz0, hs0, hb0⟩ := wr_info; obtain ⟨X, hX⟩ : ∃ X, Wr.enc x = X := ⟨_, rfl⟩
 have wrI : (Tryz.prog.info? 194).map (·.size) = some X.length := by rw [hi0, ← hX, Wr.enc_len, ← hs0]; rfl
 obtain ⟨a, cap, hv, hr⟩ := h.own.rows; have hm := hr.2.1; have hlc := hr.1; unfold maxLen at hm; obtain ⟨w1, hw1⟩ : ∃ w1, w.alloc (.cells X.toArray 194) = w1 := ⟨_, rfl⟩
 have X1 : Hid (Below w.heap.size w w1 ∧ Blk w1 w.heap.size X.toArray 194) := by
  show _ ∧ _
  rw [← hw1]; exact ⟨B.new1 _ _, Blk.new _ _ _⟩
 have hsb : sb < w.heap.size := hB.lt
 have HDel : Hid (Calls Tryz.prog 160 #[.slice a s.wr.length cap, .func (.func 161) #[] #[.pointer (some ⟨w.heap.size, 0, none⟩)]] w1 fun e w' => e = .returned (.slice a s.wr.length cap) ∧ Below w1.heap.size w1 w') := by
  rw [← hv]; refine delW_none (fun y => y.bit == x.bit) _ _ (enters_of Tryz.func161 (by kernel_rfl) rfl) base s.v s.wr w1 (h.own.below X1.out.1) (by omega) (fun W y hb => ?_) (fun y hy => by simpa using hd y hy)
  have := add1_any y x.bit w.heap.size W (X1.out.2.below hb).lt (by rw [(X1.out.2.below hb).cell, ← hX]; rfl); exact this.mono fun e w' hh => ⟨hh.1, B.next hb hh.2 hb.size⟩
 have c64 : C[o + 64]? = some (.slice a s.wr.length cap) := by
  have := h.slice; rw [hB.cell, hv] at this; exact this
 have HO : Hid (OwnAt w base 194 65 Wr.enc (.slice a s.wr.length cap) s.wr) := by show OwnAt _ _ _ _ _ _ _; rw [← hv]; exact h.own
 have HB : Hid (Blk w sb C 157) := hB; have HC64 : Hid (C[o + 64]? = some (.slice a s.wr.length cap)) := c64; rw [hX, hv]; generalize hPP : (fun (e : Ending) (w' : World) => e = .returned (.tuple #[]) ∧ ∃ v', OwnAt w' base 194 65 Wr.enc v' (s.wr ++ [x]) ∧ Blk w' sb (C.setIfInBounds (o + 64) v') 157 ∧ AddFr w w' sb (.slice a s.wr.length cap) ∧ (∀ g, v'.ownBlock = some g → (Value.slice a s.wr.length cap).ownBlock = some g ∨ w.heap.size ≤ g)) = PP
 have HP : Hid (∀ g cp w', OwnAt w' base 194 65 Wr.enc (.slice (some ⟨g, 0, none⟩) (s.wr.length + 1) cp) (s.wr ++ [x]) → Blk w' sb (C.setIfInBounds (o + 64) (.slice (some ⟨g, 0, none⟩) (s.wr.length + 1) cp)) 157 → AddFr w w' sb (.slice a s.wr.length cap) → ((Value.slice a s.wr.length cap).ownBlock = some g ∨ w.heap.size ≤ g) → PP (.returned (.tuple #[])) w') := fun g cp w' h1 h2 h3 h4 => by
  rw [← hPP]; exact ⟨rfl, _, h1, h2, h3, fun g' e => by simp [Value.ownBlock] at e; subst e; exact h4⟩
 have HOW : Hid (∀ k, (Value.slice a s.wr.length cap).ownBlock = some k → k < w.heap.size) := fun k e => by
  rcases HO.out with ⟨h1, _⟩ | ⟨g, cp, cur, h1, _, h2, _⟩
  ·rw [h1] at e; simp [Value.ownBlock] at e
  ·rw [h1] at e; simp [Value.ownBlock] at e; subst e; exact h2.lt
 have HRB0 : Hid (∀ W : World, (Instr.buildSlice 155 1 #[(0, .agg X.toArray)]).run Tryz.prog W = .ok (.slice (some ⟨W.heap.size, 0, none⟩) 1 1) (W.alloc (.cells X.toArray 194))) := fun W => run_build_one W _ _ i0 _ X (by kernel_rfl) hi0 hz0 (by rw [hs0, ← hX, Wr.enc_len]) (by rw [← hX, Wr.enc_len]; decide) (by rw [← hX, Wr.enc_len]; decide)
 clear hPP h hd hv hr hB c64 hi0 hz0 hs0 hb0; have c1 : w1.cell? ⟨sb, o + 64, none⟩ = some (.slice a s.wr.length cap) := by rw [(HB.out.below X1.out.1).cell]; exact HC64.out
 go_enter Tryz.func151, Tryz.ntmps151
 go_wp2_with fail; clear hw1 c1; refine HDel.out.mono ?_; rintro e w2 ⟨rfl, b2⟩
 have K2 : Hid (Below w.heap.size w w2 ∧ Blk w2 sb C 157 ∧ Blk w2 w.heap.size X.toArray 194 ∧ OwnAt w2 base 194 65 Wr.enc (.slice a s.wr.length cap) s.wr) := by
  have b1 := B.next X1.out.1 b2 X1.out.1.size; exact ⟨b1, HB.out.below b1, X1.out.2.below b2, HO.out.below b1⟩
 clear b2 HDel X1 HO HB; have r2 : w2.cell? ⟨sb, o + 64, none⟩ = some (.slice a s.wr.length cap) := by rw [K2.out.2.1.cell]; exact HC64.out
 have f2 := K2.out.2.1.free; obtain ⟨w3, hw3⟩ : ∃ w3, w2.setCell ⟨sb, o + 64, none⟩ (.slice a s.wr.length cap) = w3 := ⟨_, rfl⟩
 have hbx : w.heap.size ≠ sb := by omega
 have K3 : Hid (AddFr w w3 sb (.slice a s.wr.length cap) ∧ Blk w3 sb (C.setIfInBounds (o + 64) (.slice a s.wr.length cap)) 157 ∧ Blk w3 w.heap.size X.toArray 194 ∧ OwnAt w3 base 194 65 Wr.enc (.slice a s.wr.length cap) s.wr) := by
  show _ ∧ _ ∧ _ ∧ _
  rw [← hw3]; refine ⟨⟨K2.out.1.os, K2.out.1.tape, K2.out.1.output, by rw [size_setCell]; exact K2.out.1.size, fun k hk h1 _ => (Below.heap_setCell _ _ _ _ h1).trans (K2.out.1.block k hk)⟩, K2.out.2.1.set _ _, K2.out.2.2.1.other (fun e => hbx e.symm) _ _, K2.out.2.2.2.grown (grown_set w2 sb (o + 64) _) (fun g e e' => ?_)⟩
  injection e' with e'; subst e'; exact own_neD K2.out.2.2.2 K2.out.2.1 (by decide) e
 go_upto_region 2 with fail
 clear hw3 r2 f2 K2; obtain ⟨wz, hwz⟩ : ∃ wz, w3.drew.alloc (.cells X.toArray 194) = wz := ⟨_, rfl⟩
 have D0 : Hid (Below w3.heap.size w3 w3.drew) := (Below.refl _ _).drew
 have KZ : Hid (Below w3.heap.size w3 wz ∧ Blk wz w3.heap.size X.toArray 194) := by
  show _ ∧ _
  rw [← hwz]; exact ⟨D0.out.alloc (Nat.le_refl _) _, Blk.new1 (w := w3.drew) rfl _ _⟩
 have HC3 : Hid (∀ W, Below w3.heap.size w3 W → W.cell? ⟨sb, o + 64, none⟩ = some (.slice a s.wr.length cap)) := fun W hb => by
  rw [(K3.out.2.1.below hb).cell, Array.getElem?_setIfInBounds, if_pos rfl, if_pos (by have := (Array.getElem?_eq_some_iff.1 HC64.out).1; exact this)]
 have HS : Hid (∀ W, Below w3.heap.size w3 W → W.rangeAt w.heap.size 0 X) := fun W hb => blk_range (K3.out.2.2.1.below hb)
 have HSD : Hid ((fun W : World => W.rangeAt w.heap.size 0 X) w3.drew) := HS.out _ D0.out
 have hKZ := KZ.out.2; rw [← hX] at hKZ; obtain ⟨g, cp, w5, HRA0, HO5, hg5, hn5⟩ := run_wr 155 (.slice a s.wr.length cap) s.wr base w3.heap.size x wz (K3.out.2.2.2.below KZ.out.1) (by omega) hKZ (Nat.le_trans hbase (Nat.le_trans K3.out.1.size KZ.out.1.size)); have HRA : Hid (AppD Tryz.prog 155 155 (.slice a s.wr.length cap) (.slice (some ⟨w3.heap.size, 0, none⟩) 1 1) wz (.slice (some ⟨g, 0, none⟩) (s.wr.length + 1) cp) w5) := HRA0
 have hnb : ∀ k : Nat, (k = sb ∨ w.heap.size ≤ k) → some k ≠ (Value.slice a s.wr.length cap).ownBlock := fun k hk e => by
  rcases hk with rfl | hk
  ·exact own_neD K3.out.2.2.2 K3.out.2.1 (by decide) e.symm
  ·exact absurd (HOW.out k e.symm) (by omega)
 have K5 : Hid (AddFr w w5 sb (.slice a s.wr.length cap) ∧ Blk w5 sb (C.setIfInBounds (o + 64) (.slice a s.wr.length cap)) 157 ∧ Blk w5 w.heap.size X.toArray 194 ∧ OwnAt w5 base 194 65 Wr.enc (.slice (some ⟨g, 0, none⟩) (s.wr.length + 1) cp) (s.wr ++ [x])) := by
  have hz := KZ.out.1; have hk3 := K3.out.1; refine ⟨⟨hg5.os.trans (hz.os.trans hk3.os), hg5.tape.trans (hz.tape.trans hk3.tape), hg5.output.trans (hz.output.trans hk3.output), Nat.le_trans hk3.size (Nat.le_trans hz.size hg5.size), fun k hk h1 h2 => ?_⟩, ?_, ?_, HO5⟩
  ·exact (hg5.block k (by have := hk3.size; have := hz.size; omega) (fun e => h2 e.symm)).trans ((hz.block k (by have := hk3.size; omega)).trans (hk3.block k hk h1 h2))
  ·exact (hg5.block sb (K3.out.2.1.below hz).lt (hnb sb (Or.inl rfl))).trans (K3.out.2.1.below hz)
  ·exact (hg5.block w.heap.size (K3.out.2.2.1.below hz).lt (hnb _ (Or.inr (Nat.le_refl _)))).trans (K3.out.2.2.1.below hz)
 have HS5 : Hid ((fun W : World => W.rangeAt w.heap.size 0 X) w5) := blk_range K5.out.2.2.1
 obtain ⟨w6, hw6⟩ : ∃ w6, w5.setCell ⟨sb, o + 64, none⟩ (.slice (some ⟨g, 0, none⟩) (s.wr.length + 1) cp) = w6 := ⟨_, rfl⟩
 have hoC : o + 64 < C.size := (Array.getElem?_eq_some_iff.1 HC64.out).1
 have hc5 : Hid ((C.setIfInBounds (o + 64) (.slice a s.wr.length cap))[o + 64]? = some (.slice a s.wr.length cap)) := by
  show _ = _
  rw [Array.getElem?_setIfInBounds, if_pos rfl, if_pos hoC]
 have HFIN : Hid (PP (.returned (.tuple #[])) w6) := by
  have e6 : Blk w6 sb (C.setIfInBounds (o + 64) (.slice (some ⟨g, 0, none⟩) (s.wr.length + 1) cp)) 157 := by
   rw [← hw6]; have := K5.out.2.1.set (o + 64) (.slice (some ⟨g, 0, none⟩) (s.wr.length + 1) cp)
   rwa [show ((C.setIfInBounds (o + 64) (.slice a s.wr.length cap)).setIfInBounds (o + 64) (.slice (some ⟨g, 0, none⟩) (s.wr.length + 1) cp)) = C.setIfInBounds (o + 64) (.slice (some ⟨g, 0, none⟩) (s.wr.length + 1) cp) from by simp] at this
  refine HP.out g cp w6 ?_ e6 ?_ ?_
  ·rw [← hw6]
   refine K5.out.2.2.2.grown (grown_set w5 sb (o + 64) _) (fun g' e e' => ?_)
   injection e' with e'; subst e'; exact own_neD K5.out.2.2.2 K5.out.2.1 (by decide) e
  ·have hk5 := K5.out.1
   rw [← hw6]; exact ⟨hk5.os, hk5.tape, hk5.output, by rw [size_setCell]; exact hk5.size, fun k hk h1 h2 => (Below.heap_setCell _ _ _ _ h1).trans (hk5.block k hk h1 h2)⟩
  ·rcases hn5 with h | h
   ·exact Or.inl h
   ·exact Or.inr (by rw [h]; exact Nat.le_trans K3.out.1.size KZ.out.1.size)
 have HS6 : Hid ((fun W : World => W.rangeAt w.heap.size 0 X) w6) := by
  show World.rangeAt _ _ _ _
  rw [← hw6]; exact blk_range (K5.out.2.2.1.other (fun e => hbx e.symm) _ _)
 clear HRA0 HO5 hg5 hn5 hKZ hnb
 have HRB : Hid ((Instr.buildSlice 155 1 #[(0, .agg X.toArray)]).run Tryz.prog w3.drew = .ok (.slice (some ⟨w3.heap.size, 0, none⟩) 1 1) wz) := by
  show _ = _
  rw [← hwz]; exact HRB0.out w3.drew
 clear hwz HRB0; refine wp_region_held (S := fun W => W.rangeAt w.heap.size 0 X) (by kernel_rfl) ?_
 refine wpAnyH_take (fuel := 10) (i := 0) (v := .pointer (some ⟨sb, o, none⟩)) rfl (by kernel_rfl) (by kernel_rfl) (by kernel_rfl) (fun _ _ _ h => h) (Or.inl ⟨by rfl, ?_⟩) HSD.out ?_
 ·intro W hSw
  clear hSw
  go_simp
  try rfl
 (try simp only [Act.put, List.setIfInBounds_toArray, List.set_cons_zero, List.set_cons_succ, List.getElem_toArray, List.getElem_cons_zero, List.getElem_cons_succ])
 refine wpAnyH_take (fuel := 9) (i := 1) (v := .pointer (some ⟨sb, o, none⟩)) rfl (by kernel_rfl) (by kernel_rfl) (by kernel_rfl) (fun _ _ _ h => h) (Or.inl ⟨by rfl, ?_⟩) HSD.out ?_
 ·intro W hSw
  clear hSw
  go_simp
  try rfl
 (try simp only [Act.put, List.setIfInBounds_toArray, List.set_cons_zero, List.set_cons_succ, List.getElem_toArray, List.getElem_cons_zero, List.getElem_cons_succ])
 refine wpAnyH_take (fuel := 8) (i := 2) (v := .pointer (some ⟨sb, o, none⟩)) rfl (by kernel_rfl) (by kernel_rfl) (by kernel_rfl) (fun _ _ _ h => h) (Or.inl ⟨by rfl, ?_⟩) HSD.out ?_
 ·intro W hSw
  clear hSw
  go_simp
  try rfl
 (try simp only [Act.put, List.setIfInBounds_toArray, List.set_cons_zero, List.set_cons_succ, List.getElem_toArray, List.getElem_cons_zero, List.getElem_cons_succ])
 refine wpAnyH_take (fuel := 7) (i := 3) (v := .pointer (some ⟨sb, o + 64, none⟩)) rfl (by kernel_rfl) (by kernel_rfl) (by kernel_rfl) (fun _ _ _ h => h) (Or.inl ⟨by rfl, ?_⟩) HSD.out ?_
 ·intro W hSw
  clear hSw
  go_simp
  try rfl
 (try simp only [Act.put, List.setIfInBounds_toArray, List.set_cons_zero, List.set_cons_succ, List.getElem_toArray, List.getElem_cons_zero, List.getElem_cons_succ])
 refine wpAnyH_take (fuel := 6) (i := 5) (v := .agg X.toArray) rfl (by kernel_rfl) (by kernel_rfl) (by kernel_rfl) (fun _ _ _ h => h) (yieldsIf_load_mid (by rfl) 194 _ rfl w.heap.size 0 rfl X _ (fun W h => h) wrU rfl wrI) HSD.out ?_
 (try simp only [Act.put, List.setIfInBounds_toArray, List.set_cons_zero, List.set_cons_succ, List.getElem_toArray, List.getElem_cons_zero, List.getElem_cons_succ])
 refine wpAnyH_ready (fuel := 5) (rs := [4, 6]) (by kernel_rfl) (by simp) ?_; refine AllReadyH.cons rfl (fun K hK => ?_) (AllReadyH.cons rfl (fun K hK => ?_) AllReadyH.nil)
 ·have r3 := (HC3.out _ D0.out)
  go_simp
  clear r3; refine hK.out _ _ HSD.out (fun _ => ?_)
  clear hK K; refine wpAnyH_ready (fuel := 4) (rs := [6]) (by kernel_rfl) (by simp) ?_; refine AllReadyH.cons rfl (fun K hK => ?_) AllReadyH.nil
  refine step_build (by rfl) _ _ (by rfl) _ _ _ (by rfl) HRB.out ?_; refine hK.out _ _ (HS.out _ KZ.out.1) (fun _ => ?_)
  clear hK K; refine wpAnyH_ready (fuel := 3) (rs := [7]) (by kernel_rfl) (by simp) ?_; refine AllReadyH.cons rfl (fun K hK => ?_) AllReadyH.nil
  refine step_of_appD (by rfl) _ _ _ (by rfl) _ _ (by rfl) (by rfl) _ _ HRA.out ?_; refine hK.out _ _ HS5.out (fun _ => ?_)
  clear hK K
  (try simp only [Act.put, List.setIfInBounds_toArray, List.set_cons_zero, List.set_cons_succ, List.getElem_toArray, List.getElem_cons_zero, List.getElem_cons_succ])
  refine wpAnyH_take (fuel := 2) (i := 8) (v := .pointer (some ⟨sb, o, none⟩)) rfl (by kernel_rfl) (by kernel_rfl) (by kernel_rfl) (fun _ _ _ h => h) (Or.inl ⟨by rfl, ?_⟩) HS5.out ?_
  ·intro W hSw
   clear hSw
   go_simp
   try rfl
  (try simp only [Act.put, List.setIfInBounds_toArray, List.set_cons_zero, List.set_cons_succ, List.getElem_toArray, List.getElem_cons_zero, List.getElem_cons_succ])
  refine wpAnyH_take (fuel := 1) (i := 9) (v := .pointer (some ⟨sb, o + 64, none⟩)) rfl (by kernel_rfl) (by kernel_rfl) (by kernel_rfl) (fun _ _ _ h => h) (Or.inl ⟨by rfl, ?_⟩) HS5.out ?_
  ·intro W hSw
   clear hSw
   go_simp
   try rfl
  (try simp only [Act.put, List.setIfInBounds_toArray, List.set_cons_zero, List.set_cons_succ, List.getElem_toArray, List.getElem_cons_zero, List.getElem_cons_succ])
  refine wpAnyH_ready (fuel := 0) (rs := [10]) (by kernel_rfl) (by simp) ?_; refine AllReadyH.cons rfl (fun K hK => ?_) AllReadyH.nil
  have r5 := K5.out.2.1.cell (o + 64); rw [hc5.out] at r5; have f5 := K5.out.2.1.free
  go_simp
  refine hK.out _ _ HS6.out (fun _ => ?_)
  clear hK K; refine wpAnyH_done (by kernel_rfl) ?_ _
  (try simp only [Act.put])
  go_wp2; go_returns; exact HFIN.out
 ·refine step_build (by rfl) _ _ (by rfl) _ _ _ (by rfl) HRB.out ?_
  refine hK.out _ _ (HS.out _ KZ.out.1) (fun _ => ?_)
  clear hK K; refine wpAnyH_ready (fuel := 4) (rs := [4]) (by kernel_rfl) (by simp) ?_; refine AllReadyH.cons rfl (fun K hK => ?_) AllReadyH.nil
  have r3 := (HC3.out _ KZ.out.1)
  go_simp
  clear r3; refine hK.out _ _ (HS.out _ KZ.out.1) (fun _ => ?_)
  clear hK K; refine wpAnyH_ready (fuel := 3) (rs := [7]) (by kernel_rfl) (by simp) ?_; refine AllReadyH.cons rfl (fun K hK => ?_) AllReadyH.nil
  refine step_of_appD (by rfl) _ _ _ (by rfl) _ _ (by rfl) (by rfl) _ _ HRA.out ?_; refine hK.out _ _ HS5.out (fun _ => ?_)
  clear hK K
  (try simp only [Act.put, List.setIfInBounds_toArray, List.set_cons_zero, List.set_cons_succ, List.getElem_toArray, List.getElem_cons_zero, List.getElem_cons_succ])
  refine wpAnyH_take (fuel := 2) (i := 8) (v := .pointer (some ⟨sb, o, none⟩)) rfl (by kernel_rfl) (by kernel_rfl) (by kernel_rfl) (fun _ _ _ h => h) (Or.inl ⟨by rfl, ?_⟩) HS5.out ?_
  ·intro W hSw
   clear hSw
   go_simp
   try rfl
  (try simp only [Act.put, List.setIfInBounds_toArray, List.set_cons_zero, List.set_cons_succ, List.getElem_toArray, List.getElem_cons_zero, List.getElem_cons_succ])
  refine wpAnyH_take (fuel := 1) (i := 9) (v := .pointer (some ⟨sb, o + 64, none⟩)) rfl (by kernel_rfl) (by kernel_rfl) (by kernel_rfl) (fun _ _ _ h => h) (Or.inl ⟨by rfl, ?_⟩) HS5.out ?_
  ·intro W hSw
   clear hSw
   go_simp
   try rfl
  (try simp only [Act.put, List.setIfInBounds_toArray, List.set_cons_zero, List.set_cons_succ, List.getElem_toArray, List.getElem_cons_zero, List.getElem_cons_succ])
  refine wpAnyH_ready (fuel := 0) (rs := [10]) (by kernel_rfl) (by simp) ?_; refine AllReadyH.cons rfl (fun K hK => ?_) AllReadyH.nil
  have r5 := K5.out.2.1.cell (o + 64); rw [hc5.out] at r5; have f5 := K5.out.2.1.free
  go_simp
  refine hK.out _ _ HS6.out (fun _ => ?_)
  clear hK K; refine wpAnyH_done (by kernel_rfl) ?_ _
  (try simp only [Act.put])
  go_wp2; go_returns; exact HFIN.out
end Dk
end Go.Proofs.YtopgllmjeliklaaGreatDoor
