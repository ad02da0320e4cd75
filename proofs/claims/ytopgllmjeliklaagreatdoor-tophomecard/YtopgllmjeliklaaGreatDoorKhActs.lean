/- Acts Outside Moved Guard. -/
import Derived.Test.YtopgllmjeliklaaGreatDoorKhPlantK
set_option maxRecDepth 100000
set_option linter.unusedSimpArgs false
set_option linter.unusedVariables false
namespace Go.Proofs.YtopgllmjeliklaaGreatDoor
open Go.ChangeShapes Go.WideShapes Go.ChangeAt Go.RowKit
namespace Ac
structure ActC where
 kind : ByteArray
 a : Int
 b : Int
 c0 : Int
 c1 : Int
 c2 : Int
 c3 : Int
 s : ByteArray
 k : Int
 last : Int
 sa : Option Addr
 sl : Nat
 sc : Nat
 ja : Option Addr
 jl : Nat
 jc : Nat
def ActC.vals (x : ActC) : Array Value := #[.string x.kind, .int .i64 x.a, .int .i64 x.b, .int .i64 x.c0, .int .i64 x.c1, .int .i64 x.c2, .int .i64 x.c3, .string x.s, .int .u64 x.k, .int .i64 x.last, .slice x.sa x.sl x.sc, .slice x.ja x.jl x.jc]
def ActC.none : ActC := ⟨.empty, 0, 0, 0, 0, 0, 0, .empty, 0, 0, .none, 0, 0, .none, 0, 0⟩
structure ActC.Ok (x : ActC) : Prop where
 a : (Lit.int .i64 x.a).wf = true
 kind : x.kind.size ≤ maxLen
 s : x.s.size ≤ maxLen
 sl : x.sl ≤ maxLen
 jl : x.jl ≤ maxLen
def ActsAt (W : World) (v : Value) (len : Nat) (f : Nat → ActC) : Prop :=
 ∃ (a : Option Addr) (cap : Nat), v = .slice a len cap ∧ len ≤ cap ∧ cap ≤ maxLen ∧ (∀ i, i < len → (f i).Ok) ∧
  (0 < len → ∃ b off, a = some ⟨b, off, .none⟩ ∧ b < W.heap.size ∧ ∀ i, i < len → ∀ j, j < 12 → W.cell? ⟨b, off + i * 12 + j, .none⟩ = (f i).vals[j]?)
theorem ActsAt.below {W W' : World} {v : Value} {len : Nat} {f : Nat → ActC} (h : ActsAt W v len f) (hb : Below W.heap.size W W') : ActsAt W' v len f := by
 obtain ⟨a, cap, hv, hl, hm, hk, hc⟩ := h; refine ⟨a, cap, hv, hl, hm, hk, fun h0 => ?_⟩
 obtain ⟨b, off, ha, hlt, hcell⟩ := hc h0; exact ⟨b, off, ha, Nat.lt_of_lt_of_le hlt hb.size, fun i hi j hj => (hb.cell (p := ⟨b, _, .none⟩) hlt).trans (hcell i hi j hj)⟩
theorem slice_len {H : Type} {enc : TypeId × Value → H} {w : World} {base : Nat} {spare : Nat → Bool} {held : Bool} {t e : TypeId} {fuel : Nat} {cs : List Value} {y : DataW H × List MemPlace} (ht : Tryz.prog.underlying t = some (.slice e))
  (hf : DataW.trod enc Tryz.prog w base spare held fuel t cs = some y) : ∃ a l c, cs = [.slice a l c] ∧ l ≤ maxLen := by
 rcases DataW.trod_slice ht hf with ⟨rfl, _⟩ | ⟨a, l, c, _, _, _, _, rfl, _, _, h1, h2, _⟩
 ·exact ⟨_, _, _, rfl, Nat.zero_le _⟩
 ·exact ⟨_, _, _, rfl, Nat.le_trans h1 h2⟩
theorem act_elem {H : Type} {enc : TypeId × Value → H} {w : World} {base : Nat} {spare : Nat → Bool} {held : Bool} {n : Nat} {cs : List Value} {y : DataW H × List MemPlace}
  (h : DataW.trod enc Tryz.prog w base spare held n 41 cs = some y) (hl : cs.length = 12) : ∃ x : ActC, cs = x.vals.toList ∧ x.Ok := by
 have k1 : Tryz.prog.cellsOf 3 = 1 := by kernel_rfl
 have k2 : Tryz.prog.cellsOf 9 = 1 := by kernel_rfl
 have k3 : Tryz.prog.cellsOf 34 = 4 := by kernel_rfl
 have k4 : Tryz.prog.cellsOf 35 = 1 := by kernel_rfl
 have k5 : Tryz.prog.cellsOf 39 = 3 := by kernel_rfl
 have k6 : Tryz.prog.cellsOf 32 = 3 := by kernel_rfl
 have k7 : Tryz.prog.cellsOf 36 = 1 := by kernel_rfl
 have k8 : Tryz.prog.cellsOf 37 = 1 := by kernel_rfl
 obtain ⟨xs, m, _, _, _, hxl, hf⟩ := DataW.trod_struct Tryz.underlying41 h
 match xs, hxl with
 | [y0, y1, y2, y3, y4, y5, y6], _ =>
   match cs, hl with
   | [e0, e1, e2, e3, e4, e5, e6, e7, e8, e9, e10, e11], _ =>
     have f0 := hf 0 _ rfl; have f1 := hf 1 _ rfl; have f2 := hf 2 _ rfl; have f3 := hf 3 _ rfl; have f4 := hf 4 _ rfl; have f5 := hf 5 _ rfl; have f6 := hf 6 _ rfl
     simp [k1, k2, k3, k4, k5] at f0 f1 f2 f3 f4 f5 f6
     obtain ⟨kind, g0, _, w0⟩ := DataW.trod_string Tryz.underlying9 f0; obtain ⟨a, g1, _, w1⟩ := DataW.trod_int Tryz.underlying3 f1; obtain ⟨b, g2, _, w2⟩ := DataW.trod_int Tryz.underlying3 f2; obtain ⟨s, g4, _, w4⟩ := DataW.trod_string Tryz.underlying9 f4; obtain ⟨k, g5, _, w5⟩ := DataW.trod_int Tryz.underlying35 f5; obtain ⟨u0, u1, m2, _, _, c0, c1⟩ := trod_struct2 Tryz.underlying34 f3
     simp [k1, k6] at c0 c1
     obtain ⟨c0', q0, _, _⟩ := DataW.trod_int Tryz.underlying3 c0; obtain ⟨v0, v1, v2, m3, _, _, d0, d1, d2⟩ := Deep.trod_struct3 Tryz.underlying32 c1
     simp [k1] at d0 d1 d2
     obtain ⟨c1', q1, _, _⟩ := DataW.trod_int Tryz.underlying3 d0; obtain ⟨c2', q2, _, _⟩ := DataW.trod_int Tryz.underlying3 d1; obtain ⟨c3', q3, _, _⟩ := DataW.trod_int Tryz.underlying3 d2; obtain ⟨b0, b1, b2, m4, _, _, l0, l1, l2⟩ := Deep.trod_struct3 Tryz.underlying39 f6
     simp [k1, k7, k8] at l0 l1 l2
     obtain ⟨last, r0, _, _⟩ := DataW.trod_int Tryz.underlying3 l0; obtain ⟨sa, sl, sc, r1, hsl⟩ := slice_len Tryz.underlying36 l1; obtain ⟨ja, jl, jc, r2, hjl⟩ := slice_len Tryz.underlying37 l2
     simp at g0 g1 g2 g4 g5 q0 q1 q2 q3 r0 r1 r2
     subst g0 g1 g2 g4 g5 q0 q1 q2 q3 r0 r1 r2; exact ⟨⟨kind, a, b, c0', c1', c2', c3', s, k, last, sa, sl, sc, ja, jl, jc⟩, rfl, ⟨w1, w0, w4, hsl, hjl⟩⟩
theorem open_acts {H : Type} {enc : TypeId × Value → H} {W : World} {b0 : Nat} {v : Value} {d : DataW H} {p : List MemPlace} (hv : Value.okWide Tryz.prog W .any b0 23 v)
  (h : DataW.Trod enc Tryz.prog W 0 (fun _ => true) true 23 v d p) (hlt : ∀ x ∈ p, x.block < W.heap.size) : ∃ len f, ActsAt W v len f := by
 obtain ⟨a0, len0, cap0, rfl⟩ := okWide_slice Tryz.underlying23 hv; obtain ⟨fuel, hf⟩ := h; have ce : Tryz.prog.cellsOf 41 = 12 := by kernel_rfl
 rcases Deep.open_slice Tryz.underlying23 (by simpa [Value.cells] using hf) with ⟨hcs, _⟩ | ⟨a, len, cap, m, n, D, Pl, hcs, _, hl, hm, hmm, hx, hel⟩
 ·simp at hcs
  obtain ⟨rfl, rfl, rfl⟩ := hcs; exact ⟨0, fun _ => ActC.none, .none, 0, rfl, Nat.le_refl _, Nat.zero_le _, fun i h => absurd h (Nat.not_lt_zero _), fun h => absurd h (Nat.lt_irrefl _)⟩
 ·simp at hcs hmm
  obtain ⟨rfl, rfl, rfl⟩ := hcs
  have each : ∀ i, i < len0 → ∃ q : ActC, q.Ok ∧ ∀ j, j < 12 → W.cell? (a.add (i * 12 + j)) = q.vals[j]? := by
   intro i hi
   obtain ⟨cs', h1, h2⟩ := hel i (by omega); rw [ce] at h1; obtain ⟨_, hlen, hcell⟩ := World.cells?_some h1; obtain ⟨x, hx, hok⟩ := act_elem h2 hlen; refine ⟨x, hok, fun j hj => ?_⟩
   have e := hcell j (by omega); rw [Deep.add_add] at e; rw [e, hx]
   simp
  have hin : Inhabited ActC := ⟨ActC.none⟩; obtain ⟨f, hq⟩ := Deep.choose_lt each; refine ⟨len0, f, some a, cap0, rfl, hl, hm, fun i hi => (hq i hi).1, fun h0 => ?_⟩
  have hs : a.spot = .none := by
   have := cell_spot (v := .string (f 0).kind) ((hq 0 h0).2 0 (by omega))
   simpa [Addr.add] using this
  obtain ⟨b, off, sp⟩ := a; simp only at hs; subst hs
  have hmem : MemPlace.cell b off ∈ p := by
   simp only [Prod.mk.injEq] at hx; rw [hx.2]; refine List.mem_append_left _ ?_; simp only [MemPlace.row, List.mem_map, List.mem_range]; exact ⟨0, by rw [ce]; omega, by simp⟩
  refine ⟨b, off, rfl, hlt _ hmem, fun i hi j hj => ?_⟩
  have ad : ∀ k, (Addr.add ⟨b, off, .none⟩ k) = ⟨b, off + k, .none⟩ := by
   intro k
   unfold Addr.add
   split
   ·rename_i h; subst h; rfl
   ·rfl
  have := (hq i hi).2 j hj; rw [ad] at this; rw [Nat.add_assoc]; exact this
def Light (len : Nat) (f : Nat → ActC) (most : Int) : Prop := (len : Int) ≤ most ∧ ∀ i, i < len → (f i).s.size ≤ 100 ∧ (f i).sl ≤ 20 ∧ (f i).jl ≤ 12
def LightPost (len : Nat) (f : Nat → ActC) (most : Int) (w : World) (e : Ending) (w' : World) : Prop := ∃ b, e = .returned (.bool b) ∧ (b = true → Light len f most) ∧ w' = w
set_option maxHeartbeats 1000000 in
theorem light_any (v : Value) (len : Nat) (f : Nat → ActC) (most : Int) (w : World) (hs : ActsAt w v len f) :
  Calls Tryz.prog 46 #[v, .int .i64 most] w fun e w' => LightPost len f most w e w' := by
 obtain ⟨a, cap, rfl, hl, hm, hok, hc⟩ := hs; unfold maxLen at hm; have HC : Hid _ := hc; have HO : Hid _ := hok; clear hc hok
 by_cases hmost : most < (len : Int)
 ·go_enter Tryz.func46, Tryz.ntmps46
  go_wp2; go_returns; exact ⟨false, rfl, fun h => absurd h (by simp), rfl⟩
 ·have HM : Hid ((len : Int) ≤ most) := by show _ ≤ _; omega
  go_enter Tryz.func46, Tryz.ntmps46
  go_wp2_with fail
  go_loopw [5] (fun i wr => ∃ k : Nat, k ≤ len ∧ i = .int .i64 k ∧ Hid (∀ j, j < k → (f j).s.size ≤ 100 ∧ (f j).sl ≤ 20 ∧ (f j).jl ≤ 12) ∧ wr = w) (fun i _ => len - (intOf i).toNat)
  case atStart => exact ⟨0, Nat.zero_le _, rfl, fun j hj => absurd hj (Nat.not_lt_zero _), rfl⟩
  case round =>
   obtain ⟨k, hk, rfl, HF, rfl⟩ := hrel
   by_cases hlt : k < len
   ·obtain ⟨b, off, ha, hb, hcell⟩ := HC.out (by omega)
    have hOk := HO.out k hlt; have c7 := hcell k hlt 7 (by omega); have c10 := hcell k hlt 10 (by omega); have c11 := hcell k hlt 11 (by omega)
    simp [ActC.vals] at c7 c10 c11
    have l1 := hOk.s; have l2 := hOk.sl; have l3 := hOk.jl; unfold maxLen at l1 l2 l3; clear hcell hOk; subst ha; go_wp2
    all_goals first
     | (go_returns; exact ⟨false, rfl, fun h => absurd h (by simp), rfl⟩)
     | (refine ⟨⟨k + 1, by omega, by simp, fun j hj => ?_, trivial⟩, by simp [intOf]; omega⟩
        by_cases hjk : j = k
        ·subst hjk; omega
        ·exact HF.out j (by omega))
   ·go_wp2
    go_returns; exact ⟨true, rfl, fun _ => ⟨HM.out, fun i hi => HF.out i (by omega)⟩, rfl⟩
end Ac
end Go.Proofs.YtopgllmjeliklaaGreatDoor
namespace Go.Proofs.YtopgllmjeliklaaGreatDoor
open Go.ChangeShapes Go.WideShapes Go.ChangeAt Go.RowKit Go.Maps
namespace Pl
open Ac
def byte0 (s : ByteArray) : Int := if h : 0 < s.size then ((s[0]'h).toNat : Int) else 45
theorem byte0_of {s : ByteArray} (h : 0 < s.size) : ((s[0]'h).toNat : Int) = byte0 s := by simp [byte0, h]
theorem byte0_none {s : ByteArray} (h : ¬ 0 < s.size) : byte0 s = 45 := by simp [byte0, h]
theorem step_rest (s : St) : stepS 45 s = s := by simp [stepS, doS]
def outS (x : ActC) (s : St) : St := if (x.kind.toList == [115, 116, 101, 112]) = true then stepS (byte0 x.s) s else if (x.kind.toList == [119, 97, 108, 107]) = true then walkS x.a s else if (x.kind.toList == [97, 114, 114, 105, 118, 101]) = true then arriveS x.a s else if (x.kind.toList == [108, 101, 97, 118, 101]) = true then leaveS s else if (x.kind.toList == [115, 116, 97, 108, 108]) = true then stallS x.a s else s
theorem outS_step {x : ActC} {s : St} (h : (x.kind.toList == [115, 116, 101, 112]) = true) : outS x s = stepS (byte0 x.s) s := by simp only [outS, h, if_true, Bool.false_eq_true, if_false]
theorem outS_walk {x : ActC} {s : St} (h0 : (x.kind.toList == [115, 116, 101, 112]) = false) (h : (x.kind.toList == [119, 97, 108, 107]) = true) : outS x s = walkS x.a s := by simp only [outS, h, h0, if_true, Bool.false_eq_true, if_false]
theorem outS_arrive {x : ActC} {s : St} (h0 : (x.kind.toList == [115, 116, 101, 112]) = false) (h1 : (x.kind.toList == [119, 97, 108, 107]) = false) (h : (x.kind.toList == [97, 114, 114, 105, 118, 101]) = true) : outS x s = arriveS x.a s := by simp only [outS, h, h0, h1, if_true, Bool.false_eq_true, if_false]
theorem outS_leave {x : ActC} {s : St} (h0 : (x.kind.toList == [115, 116, 101, 112]) = false) (h1 : (x.kind.toList == [119, 97, 108, 107]) = false) (h2 : (x.kind.toList == [97, 114, 114, 105, 118, 101]) = false) (h : (x.kind.toList == [108, 101, 97, 118, 101]) = true) : outS x s = leaveS s := by simp only [outS, h, h0, h1, h2, if_true, Bool.false_eq_true, if_false]
theorem outS_stall {x : ActC} {s : St} (h0 : (x.kind.toList == [115, 116, 101, 112]) = false) (h1 : (x.kind.toList == [119, 97, 108, 107]) = false) (h2 : (x.kind.toList == [97, 114, 114, 105, 118, 101]) = false) (h3 : (x.kind.toList == [108, 101, 97, 118, 101]) = false) (h : (x.kind.toList == [115, 116, 97, 108, 108]) = true) : outS x s = stallS x.a s := by simp only [outS, h, h0, h1, h2, h3, if_true, Bool.false_eq_true, if_false]
theorem outS_else {x : ActC} {s : St} (h0 : (x.kind.toList == [115, 116, 101, 112]) = false) (h1 : (x.kind.toList == [119, 97, 108, 107]) = false) (h2 : (x.kind.toList == [97, 114, 114, 105, 118, 101]) = false) (h3 : (x.kind.toList == [108, 101, 97, 118, 101]) = false) (h4 : (x.kind.toList == [115, 116, 97, 108, 108]) = false) : outS x s = s := by simp only [outS, h0, h1, h2, h3, h4, Bool.false_eq_true, if_false]
theorem Inv.out {s : St} (h : Inv s) (x : ActC) : Inv (outS x s) := by
 unfold outS
 split; · exact h.step _
 split; · exact h.walk _
 split; · exact h.arrive _
 split; · exact h.leave
 split; · exact h.stall _
 exact h
set_option maxHeartbeats 2000000 in
theorem out_any (pb mb n : Nat) (s : St) (x : ActC) (w : World) (hp : IsP w pb mb n s) (iv : Inv s) (hn : n < maxLen) :
  Calls Tryz.prog 47 #[.pointer (some ⟨pb, 0, none⟩), .agg x.vals] w fun e w' => e = .returned (.tuple #[]) ∧ IsP w' pb mb (n + 1) (outS x s) ∧ Turn pb mb w w' := by
 unfold ActC.vals; have P : Hid (∀ o, IsP (w.alloc o) pb mb n s) := fun o => hp.below (B.new1 w o)
 have IV : Hid (Inv s) := iv; have KS : Hid (∀ o, StepTo pb mb n (byte0 x.s) (w.alloc o) (stepS (byte0 x.s) s)) := fun o => step_any pb mb n s _ _ (P.out o) iv.ok hn iv.wf iv.st.2
 have KW : Hid (∀ o, Calls Tryz.prog 48 #[.pointer (some ⟨pb, 0, none⟩), .int .i64 x.a] (w.alloc o) fun e w' => e = .returned (walkE x.a s) ∧ IsP w' pb mb n (walkS x.a s) ∧ Turn pb mb (w.alloc o) w') := fun o => walk_any pb mb n s x.a _ (P.out o) iv.pe.1 iv.pe.2
 have KA : Hid (∀ o, Calls Tryz.prog 25 #[.pointer (some ⟨pb, 0, none⟩), .int .i64 x.a] (w.alloc o) fun e w' => e = .returned (arriveE x.a s) ∧ IsP w' pb mb n (arriveS x.a s) ∧ Turn pb mb (w.alloc o) w') := fun o => arrive_any pb mb n s x.a _ (P.out o) iv
 have KL : Hid (∀ o, Calls Tryz.prog 26 #[.pointer (some ⟨pb, 0, none⟩)] (w.alloc o) fun e w' => e = .returned (leaveV s) ∧ IsP w' pb mb n (leaveS s) ∧ Turn pb mb (w.alloc o) w') := fun o => leave_any pb mb n s _ (P.out o)
 have KT : Hid (∀ o, Calls Tryz.prog 75 #[.pointer (some ⟨pb, 0, none⟩), .int .i64 x.a] (w.alloc o) fun e w' => e = .returned (stallE x.a) ∧ IsP w' pb mb n (stallS x.a s) ∧ Turn pb mb (w.alloc o) w') := fun o => stall_any pb mb n s x.a _ (P.out o)
 have KV : Hid (leaveV s = .tuple #[.int .i64 (if leaveB s = true then s.ba else 0), if leaveB s = true then .nilIface else errV 7]) := rfl
 clear hp iv hn
 go_enter Tryz.func47, Tryz.ntmps47
 go_wp2_with fail
 ·rw [byte0_of]
  refine (KS.out _).mono ?_; rintro e w1 ⟨rfl, p1, t1⟩; have P1 : Hid (IsP w1 pb mb _ _) := p1; have T1 : Hid (Turn pb mb _ w1) := t1; clear p1 t1; go_wp2; go_returns; exact ⟨rfl, by rw [outS_step ‹_›]; exact P1.out, (Turn.of_below (B.new1 w _)).trans T1.out⟩
 ·go_returns
  exact ⟨rfl, by rw [outS_step ‹_›, byte0_none ‹_›, step_rest]; exact (P.out _).mono, Turn.of_below (B.new1 w _)⟩
 ·refine (KW.out _).mono ?_
  rintro e w1 ⟨rfl, p1, t1⟩; have P1 : Hid (IsP w1 pb mb _ _) := p1; have T1 : Hid (Turn pb mb _ w1) := t1; clear p1 t1; generalize walkE x.a s = ev; go_wp2; go_returns; exact ⟨rfl, by rw [outS_walk ‹_› ‹_›]; exact P1.out.mono, (Turn.of_below (B.new1 w _)).trans T1.out⟩
 ·refine (KA.out _).mono ?_
  rintro e w1 ⟨rfl, p1, t1⟩; have P1 : Hid (IsP w1 pb mb _ _) := p1; have T1 : Hid (Turn pb mb _ w1) := t1; clear p1 t1; generalize arriveE x.a s = ev; go_wp2; go_returns; exact ⟨rfl, by rw [outS_arrive ‹_› ‹_› ‹_›]; exact P1.out.mono, (Turn.of_below (B.new1 w _)).trans T1.out⟩
 ·refine (KL.out _).mono ?_
  rw [KV.out]; rintro e w1 ⟨rfl, p1, t1⟩; have P1 : Hid (IsP w1 pb mb _ _) := p1; have T1 : Hid (Turn pb mb _ w1) := t1; clear p1 t1 KV KL; generalize (if leaveB s = true then s.ba else 0) = ev
  generalize (if leaveB s = true then Value.nilIface else errV 7) = ev2
  go_wp2; go_returns; exact ⟨rfl, by rw [outS_leave ‹_› ‹_› ‹_› ‹_›]; exact P1.out.mono, (Turn.of_below (B.new1 w _)).trans T1.out⟩
 ·refine (KT.out _).mono ?_
  rintro e w1 ⟨rfl, p1, t1⟩; have P1 : Hid (IsP w1 pb mb _ _) := p1; have T1 : Hid (Turn pb mb _ w1) := t1; clear p1 t1; generalize stallE x.a = ev; go_wp2; go_returns; exact ⟨rfl, by rw [outS_stall ‹_› ‹_› ‹_› ‹_› ‹_›]; exact P1.out.mono, (Turn.of_below (B.new1 w _)).trans T1.out⟩
 ·go_returns
  exact ⟨rfl, by rw [outS_else ‹_› ‹_› ‹_› ‹_› ‹_›]; exact (P.out _).mono, Turn.of_below (B.new1 w _)⟩
end Pl
namespace Pl
def m1 : St := ⟨1, 0, 0, true, 0, 0, 3, .map [], 0, false⟩
def m2 : St := ⟨1, 0, 0, false, 0, 0, 3, .map [], 0, false⟩
def m3 : St := ⟨1, 0, 0, false, 0, 3, 0, .map [], 0, false⟩
end Pl
end Go.Proofs.YtopgllmjeliklaaGreatDoor
namespace Go.Proofs.YtopgllmjeliklaaGreatDoor
open Go.ChangeShapes Go.WideShapes Go.ChangeAt Go.RowKit
def levelB (h : Int) : Bool := decide (0 < h) && (h % 3 == 0)
def closedB (dr : Bool) (pe : Int) : Bool := !dr && (pe == 0)
def belowB (h ex : Int) : Bool := (h == 0) && (ex == 0)
def reachB (x h li : Int) (car : Bool) : Bool := decide (-2 ≤ x ∧ x ≤ 2) && ((x == 0) || levelB h && ((li == 0) || !car))
def mayB (c h ex : Int) (dr : Bool) (pe li ba : Int) (he tl tr : Bool) : Bool :=
 if c = 45 then true
 else if c = 117 ∨ c = 100 then (ex == 0) && closedB dr pe
 else if c = 108 then reachB (ex - 1) h li tl
 else if c = 114 then reachB (ex + 1) h li tr
 else if c = 103 then levelB h && (ex != 0) && (li == 0) && he
 else if c = 112 then levelB h && (ex != 0) && (li != 0) && !he
 else if c = 111 then belowB h ex
 else if c = 99 then pe == 0
 else if c = 110 then belowB h ex && closedB dr pe && (li == 0) && (ba != 0)
 else if c = 120 then belowB h ex && closedB dr pe && (li != 0) && (ba == 0)
 else false
theorem i64_bounds {n : Int} (h : IntKind.i64.has n) : -9223372036854775808 ≤ n ∧ n ≤ 9223372036854775807 := by
 simpa [IntKind.has, IntKind.min, IntKind.max, IntKind.bits, IntKind.signed] using h
theorem ret_bool {a b : Bool} (h : a = b) : Ending.returned (.bool a) = .returned (.bool b) := by rw [h]
end Go.Proofs.YtopgllmjeliklaaGreatDoor
