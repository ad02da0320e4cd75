/- What a statement's input names: a list of acts that came in: how it lies in memory; is it light? -/
import Derived.Test.YtopgllmjeliklaaGreatDoorJShelf
import Derived.Test.YtopgllmjeliklaaGreatDoorJSizes
import Derived.Test.YtopgllmjeliklaaGreatDoorJPlantN
import Derived.WalkSpells
import Derived.WalkLawsBesides
import Derived.Deep.QuietTactic
import Derived.BigQuiet
import Derived.Deep.RegionWith
import Derived.Deep.Light
namespace Go.Proofs.YtopgllmjeliklaaGreatDoor
open Go.ChangeShapes Go.WideShapes Go.ChangeAt Go.RowKit
set_option maxRecDepth 100000
set_option linter.unusedSimpArgs false
set_option linter.unusedVariables false

namespace Ac
/-- An act, cell by cell. -/
structure ActC where
  kind : ByteArray
  a : Int
  b : Int
  c0 : Int
  c1 : Int
  c2 : Int
  c3 : Int
  s : ByteArray
  k : Int
  last : Int
  sa : Option Addr
  sl : Nat
  sc : Nat
  ja : Option Addr
  jl : Nat
  jc : Nat

def ActC.vals (x : ActC) : Array Value := #[.string x.kind, .int .i64 x.a, .int .i64 x.b, .int .i64 x.c0, .int .i64 x.c1, .int .i64 x.c2, .int .i64 x.c3, .string x.s, .int .u64 x.k, .int .i64 x.last, .slice x.sa x.sl x.sc, .slice x.ja x.jl x.jc]
def ActC.none : ActC := ⟨.empty, 0, 0, 0, 0, 0, 0, .empty, 0, 0, .none, 0, 0, .none, 0, 0⟩
/-- What is sure of an act's cells. -/
structure ActC.Ok (x : ActC) : Prop where
  a : (Lit.int .i64 x.a).wf = true
  kind : x.kind.size ≤ maxLen
  s : x.s.size ≤ maxLen
  sl : x.sl ≤ maxLen
  jl : x.jl ≤ maxLen

/-- A list of acts lies in memory. -/
def ActsAt (W : World) (v : Value) (len : Nat) (f : Nat → ActC) : Prop :=
  ∃ (a : Option Addr) (cap : Nat), v = .slice a len cap ∧ len ≤ cap ∧ cap ≤ maxLen ∧ (∀ i, i < len → (f i).Ok) ∧
    (0 < len → ∃ b off, a = some ⟨b, off, .none⟩ ∧ b < W.heap.size ∧ ∀ i, i < len → ∀ j, j < 12 → W.cell? ⟨b, off + i * 12 + j, .none⟩ = (f i).vals[j]?)

theorem ActsAt.below {W W' : World} {v : Value} {len : Nat} {f : Nat → ActC} (h : ActsAt W v len f) (hb : Below W.heap.size W W') : ActsAt W' v len f := by
  obtain ⟨a, cap, hv, hl, hm, hk, hc⟩ := h
  refine ⟨a, cap, hv, hl, hm, hk, fun h0 => ?_⟩
  obtain ⟨b, off, ha, hlt, hcell⟩ := hc h0
  exact ⟨b, off, ha, Nat.lt_of_lt_of_le hlt hb.size, fun i hi j hj => (hb.cell (p := ⟨b, _, .none⟩) hlt).trans (hcell i hi j hj)⟩

theorem slice_len {H : Type} {enc : TypeId × Value → H} {w : World} {base : Nat} {spare : Nat → Bool} {held : Bool} {t e : TypeId} {fuel : Nat} {cs : List Value} {y : DataW H × List MemPlace} (ht : Tryz.prog.underlying t = some (.slice e))
    (hf : DataW.trod enc Tryz.prog w base spare held fuel t cs = some y) : ∃ a l c, cs = [.slice a l c] ∧ l ≤ maxLen := by
  rcases DataW.trod_slice ht hf with ⟨rfl, _⟩ | ⟨a, l, c, _, _, _, _, rfl, _, _, h1, h2, _⟩
  · exact ⟨_, _, _, rfl, Nat.zero_le _⟩
  · exact ⟨_, _, _, rfl, Nat.le_trans h1 h2⟩

theorem act_elem {H : Type} {enc : TypeId × Value → H} {w : World} {base : Nat} {spare : Nat → Bool} {held : Bool} {n : Nat} {cs : List Value} {y : DataW H × List MemPlace}
    (h : DataW.trod enc Tryz.prog w base spare held n 41 cs = some y) (hl : cs.length = 12) : ∃ x : ActC, cs = x.vals.toList ∧ x.Ok := by
  have k1 : Tryz.prog.cellsOf 3 = 1 := by kernel_rfl
  have k2 : Tryz.prog.cellsOf 9 = 1 := by kernel_rfl
  have k3 : Tryz.prog.cellsOf 34 = 4 := by kernel_rfl
  have k4 : Tryz.prog.cellsOf 35 = 1 := by kernel_rfl
  have k5 : Tryz.prog.cellsOf 39 = 3 := by kernel_rfl
  have k6 : Tryz.prog.cellsOf 32 = 3 := by kernel_rfl
  have k7 : Tryz.prog.cellsOf 36 = 1 := by kernel_rfl
  have k8 : Tryz.prog.cellsOf 37 = 1 := by kernel_rfl
  obtain ⟨xs, m, _, _, _, hxl, hf⟩ := DataW.trod_struct Tryz.underlying41 h
  match xs, hxl with
  | [y0, y1, y2, y3, y4, y5, y6], _ =>
    match cs, hl with
    | [e0, e1, e2, e3, e4, e5, e6, e7, e8, e9, e10, e11], _ =>
      have f0 := hf 0 _ rfl; have f1 := hf 1 _ rfl; have f2 := hf 2 _ rfl; have f3 := hf 3 _ rfl; have f4 := hf 4 _ rfl; have f5 := hf 5 _ rfl; have f6 := hf 6 _ rfl
      simp [k1, k2, k3, k4, k5] at f0 f1 f2 f3 f4 f5 f6
      obtain ⟨kind, g0, _, w0⟩ := DataW.trod_string Tryz.underlying9 f0
      obtain ⟨a, g1, _, w1⟩ := DataW.trod_int Tryz.underlying3 f1
      obtain ⟨b, g2, _, w2⟩ := DataW.trod_int Tryz.underlying3 f2
      obtain ⟨s, g4, _, w4⟩ := DataW.trod_string Tryz.underlying9 f4
      obtain ⟨k, g5, _, w5⟩ := DataW.trod_int Tryz.underlying35 f5
      obtain ⟨u0, u1, m2, _, _, c0, c1⟩ := trod_struct2 Tryz.underlying34 f3
      simp [k1, k6] at c0 c1
      obtain ⟨c0', q0, _, _⟩ := DataW.trod_int Tryz.underlying3 c0
      obtain ⟨v0, v1, v2, m3, _, _, d0, d1, d2⟩ := Deep.trod_struct3 Tryz.underlying32 c1
      simp [k1] at d0 d1 d2
      obtain ⟨c1', q1, _, _⟩ := DataW.trod_int Tryz.underlying3 d0
      obtain ⟨c2', q2, _, _⟩ := DataW.trod_int Tryz.underlying3 d1
      obtain ⟨c3', q3, _, _⟩ := DataW.trod_int Tryz.underlying3 d2
      obtain ⟨b0, b1, b2, m4, _, _, l0, l1, l2⟩ := Deep.trod_struct3 Tryz.underlying39 f6
      simp [k1, k7, k8] at l0 l1 l2
      obtain ⟨last, r0, _, _⟩ := DataW.trod_int Tryz.underlying3 l0
      obtain ⟨sa, sl, sc, r1, hsl⟩ := slice_len Tryz.underlying36 l1
      obtain ⟨ja, jl, jc, r2, hjl⟩ := slice_len Tryz.underlying37 l2
      simp at g0 g1 g2 g4 g5 q0 q1 q2 q3 r0 r1 r2
      subst g0 g1 g2 g4 g5 q0 q1 q2 q3 r0 r1 r2
      exact ⟨⟨kind, a, b, c0', c1', c2', c3', s, k, last, sa, sl, sc, ja, jl, jc⟩, rfl, ⟨w1, w0, w4, hsl, hjl⟩⟩

theorem open_acts {H : Type} {enc : TypeId × Value → H} {W : World} {b0 : Nat} {v : Value} {d : DataW H} {p : List MemPlace} (hv : Value.okWide Tryz.prog W .any b0 23 v)
    (h : DataW.Trod enc Tryz.prog W 0 (fun _ => true) true 23 v d p) (hlt : ∀ x ∈ p, x.block < W.heap.size) : ∃ len f, ActsAt W v len f := by
  obtain ⟨a0, len0, cap0, rfl⟩ := okWide_slice Tryz.underlying23 hv
  obtain ⟨fuel, hf⟩ := h
  have ce : Tryz.prog.cellsOf 41 = 12 := by kernel_rfl
  rcases Deep.open_slice Tryz.underlying23 (by simpa [Value.cells] using hf) with ⟨hcs, _⟩ | ⟨a, len, cap, m, n, D, Pl, hcs, _, hl, hm, hmm, hx, hel⟩
  · simp at hcs
    obtain ⟨rfl, rfl, rfl⟩ := hcs
    exact ⟨0, fun _ => ActC.none, .none, 0, rfl, Nat.le_refl _, Nat.zero_le _, fun i h => absurd h (Nat.not_lt_zero _), fun h => absurd h (Nat.lt_irrefl _)⟩
  · simp at hcs hmm
    obtain ⟨rfl, rfl, rfl⟩ := hcs
    have each : ∀ i, i < len0 → ∃ q : ActC, q.Ok ∧ ∀ j, j < 12 → W.cell? (a.add (i * 12 + j)) = q.vals[j]? := by
      intro i hi
      obtain ⟨cs', h1, h2⟩ := hel i (by omega)
      rw [ce] at h1
      obtain ⟨_, hlen, hcell⟩ := World.cells?_some h1
      obtain ⟨x, hx, hok⟩ := act_elem h2 hlen
      refine ⟨x, hok, fun j hj => ?_⟩
      have e := hcell j (by omega)
      rw [Deep.add_add] at e
      rw [e, hx]
      simp
    have hin : Inhabited ActC := ⟨ActC.none⟩
    obtain ⟨f, hq⟩ := Deep.choose_lt each
    refine ⟨len0, f, some a, cap0, rfl, hl, hm, fun i hi => (hq i hi).1, fun h0 => ?_⟩
    have hs : a.spot = .none := by
      have := cell_spot (v := .string (f 0).kind) ((hq 0 h0).2 0 (by omega))
      simpa [Addr.add] using this
    obtain ⟨b, off, sp⟩ := a
    simp only at hs
    subst hs
    have hmem : MemPlace.cell b off ∈ p := by
      simp only [Prod.mk.injEq] at hx
      rw [hx.2]
      refine List.mem_append_left _ ?_
      simp only [MemPlace.row, List.mem_map, List.mem_range]
      exact ⟨0, by rw [ce]; omega, by simp⟩
    refine ⟨b, off, rfl, hlt _ hmem, fun i hi j hj => ?_⟩
    have ad : ∀ k, (Addr.add ⟨b, off, .none⟩ k) = ⟨b, off + k, .none⟩ := by
      intro k
      unfold Addr.add
      split
      · rename_i h; subst h; rfl
      · rfl
    have := (hq i hi).2 j hj
    rw [ad] at this
    rw [Nat.add_assoc]
    exact this

/-- What is known of acts that are light. -/
def Light (len : Nat) (f : Nat → ActC) (most : Int) : Prop := (len : Int) ≤ most ∧ ∀ i, i < len → (f i).s.size ≤ 100 ∧ (f i).sl ≤ 20 ∧ (f i).jl ≤ 12

def LightPost (len : Nat) (f : Nat → ActC) (most : Int) (w : World) (e : Ending) (w' : World) : Prop := ∃ b, e = .returned (.bool b) ∧ (b = true → Light len f most) ∧ w' = w

set_option maxHeartbeats 1000000 in
theorem light_any (v : Value) (len : Nat) (f : Nat → ActC) (most : Int) (w : World) (hs : ActsAt w v len f) :
    Calls Tryz.prog 46 #[v, .int .i64 most] w fun e w' => LightPost len f most w e w' := by
  obtain ⟨a, cap, rfl, hl, hm, hok, hc⟩ := hs
  unfold maxLen at hm
  have HC : Hid _ := hc
  have HO : Hid _ := hok
  clear hc hok
  by_cases hmost : most < (len : Int)
  · go_enter Tryz.func46, Tryz.ntmps46
    go_wp2
    go_returns
    exact ⟨false, rfl, fun h => absurd h (by simp), rfl⟩
  · have HM : Hid ((len : Int) ≤ most) := by show _ ≤ _; omega
    go_enter Tryz.func46, Tryz.ntmps46
    go_wp2_with fail
    go_loopw [5] (fun i wr => ∃ k : Nat, k ≤ len ∧ i = .int .i64 k ∧ Hid (∀ j, j < k → (f j).s.size ≤ 100 ∧ (f j).sl ≤ 20 ∧ (f j).jl ≤ 12) ∧ wr = w) (fun i _ => len - (intOf i).toNat)
    case atStart => exact ⟨0, Nat.zero_le _, rfl, fun j hj => absurd hj (Nat.not_lt_zero _), rfl⟩
    case round =>
      obtain ⟨k, hk, rfl, HF, rfl⟩ := hrel
      by_cases hlt : k < len
      · obtain ⟨b, off, ha, hb, hcell⟩ := HC.out (by omega)
        have hOk := HO.out k hlt
        have c7 := hcell k hlt 7 (by omega)
        have c10 := hcell k hlt 10 (by omega)
        have c11 := hcell k hlt 11 (by omega)
        simp [ActC.vals] at c7 c10 c11
        have l1 := hOk.s; have l2 := hOk.sl; have l3 := hOk.jl
        unfold maxLen at l1 l2 l3
        clear hcell hOk
        subst ha
        go_wp2
        all_goals first
          | (go_returns; exact ⟨false, rfl, fun h => absurd h (by simp), rfl⟩)
          | (refine ⟨⟨k + 1, by omega, by simp, fun j hj => ?_, trivial⟩, by simp [intOf]; omega⟩
             by_cases hjk : j = k
             · subst hjk; omega
             · exact HF.out j (by omega))
      · go_wp2
        go_returns
        exact ⟨true, rfl, fun _ => ⟨HM.out, fun i hi => HF.out i (by omega)⟩, rfl⟩

end Ac
end Go.Proofs.YtopgllmjeliklaaGreatDoor

namespace Go.Proofs.YtopgllmjeliklaaGreatDoor
open Go.ChangeShapes Go.WideShapes Go.ChangeAt Go.RowKit Go.Maps
set_option maxRecDepth 100000
set_option linter.unusedSimpArgs false
set_option linter.unusedVariables false

namespace Pl
open Ac
/-- The first byte of a text; that of Rest, if there is none. -/
def byte0 (s : ByteArray) : Int := if h : 0 < s.size then ((s[0]'h).toNat : Int) else 45
theorem byte0_of {s : ByteArray} (h : 0 < s.size) : ((s[0]'h).toNat : Int) = byte0 s := by simp [byte0, h]
theorem byte0_none {s : ByteArray} (h : ¬ 0 < s.size) : byte0 s = 45 := by simp [byte0, h]
theorem step_rest (s : St) : stepS 45 s = s := by simp [stepS, doS]

def outS (x : ActC) (s : St) : St := if (x.kind.toList == [115, 116, 101, 112]) = true then stepS (byte0 x.s) s else if (x.kind.toList == [119, 97, 108, 107]) = true then walkS x.a s else if (x.kind.toList == [97, 114, 114, 105, 118, 101]) = true then arriveS x.a s else if (x.kind.toList == [108, 101, 97, 118, 101]) = true then leaveS s else if (x.kind.toList == [115, 116, 97, 108, 108]) = true then stallS x.a s else s
theorem outS_step {x : ActC} {s : St} (h : (x.kind.toList == [115, 116, 101, 112]) = true) : outS x s = stepS (byte0 x.s) s := by simp only [outS, h, if_true, Bool.false_eq_true, if_false]
theorem outS_walk {x : ActC} {s : St} (h0 : (x.kind.toList == [115, 116, 101, 112]) = false) (h : (x.kind.toList == [119, 97, 108, 107]) = true) : outS x s = walkS x.a s := by simp only [outS, h, h0, if_true, Bool.false_eq_true, if_false]
theorem outS_arrive {x : ActC} {s : St} (h0 : (x.kind.toList == [115, 116, 101, 112]) = false) (h1 : (x.kind.toList == [119, 97, 108, 107]) = false) (h : (x.kind.toList == [97, 114, 114, 105, 118, 101]) = true) : outS x s = arriveS x.a s := by simp only [outS, h, h0, h1, if_true, Bool.false_eq_true, if_false]
theorem outS_leave {x : ActC} {s : St} (h0 : (x.kind.toList == [115, 116, 101, 112]) = false) (h1 : (x.kind.toList == [119, 97, 108, 107]) = false) (h2 : (x.kind.toList == [97, 114, 114, 105, 118, 101]) = false) (h : (x.kind.toList == [108, 101, 97, 118, 101]) = true) : outS x s = leaveS s := by simp only [outS, h, h0, h1, h2, if_true, Bool.false_eq_true, if_false]
theorem outS_stall {x : ActC} {s : St} (h0 : (x.kind.toList == [115, 116, 101, 112]) = false) (h1 : (x.kind.toList == [119, 97, 108, 107]) = false) (h2 : (x.kind.toList == [97, 114, 114, 105, 118, 101]) = false) (h3 : (x.kind.toList == [108, 101, 97, 118, 101]) = false) (h : (x.kind.toList == [115, 116, 97, 108, 108]) = true) : outS x s = stallS x.a s := by simp only [outS, h, h0, h1, h2, h3, if_true, Bool.false_eq_true, if_false]
theorem outS_else {x : ActC} {s : St} (h0 : (x.kind.toList == [115, 116, 101, 112]) = false) (h1 : (x.kind.toList == [119, 97, 108, 107]) = false) (h2 : (x.kind.toList == [97, 114, 114, 105, 118, 101]) = false) (h3 : (x.kind.toList == [108, 101, 97, 118, 101]) = false) (h4 : (x.kind.toList == [115, 116, 97, 108, 108]) = false) : outS x s = s := by simp only [outS, h0, h1, h2, h3, h4, Bool.false_eq_true, if_false]

theorem Inv.out {s : St} (h : Inv s) (x : ActC) : Inv (outS x s) := by
  unfold outS
  split; · exact h.step _
  split; · exact h.walk _
  split; · exact h.arrive _
  split; · exact h.leave
  split; · exact h.stall _
  exact h

set_option maxHeartbeats 2000000 in
theorem out_any (pb mb n : Nat) (s : St) (x : ActC) (w : World) (hp : IsP w pb mb n s) (iv : Inv s) (hn : n < maxLen) :
    Calls Tryz.prog 47 #[.pointer (some ⟨pb, 0, none⟩), .agg x.vals] w fun e w' => e = .returned (.tuple #[]) ∧ IsP w' pb mb (n + 1) (outS x s) ∧ Turn pb mb w w' := by
  unfold ActC.vals
  have P : Hid (∀ o, IsP (w.alloc o) pb mb n s) := fun o => hp.below (B.new1 w o)
  have IV : Hid (Inv s) := iv
  have KS : Hid (∀ o, StepTo pb mb n (byte0 x.s) (w.alloc o) (stepS (byte0 x.s) s)) := fun o => step_any pb mb n s _ _ (P.out o) iv.ok hn iv.wf iv.st.2
  have KW : Hid (∀ o, Calls Tryz.prog 48 #[.pointer (some ⟨pb, 0, none⟩), .int .i64 x.a] (w.alloc o) fun e w' => e = .returned (walkE x.a s) ∧ IsP w' pb mb n (walkS x.a s) ∧ Turn pb mb (w.alloc o) w') := fun o => walk_any pb mb n s x.a _ (P.out o) iv.pe.1 iv.pe.2
  have KA : Hid (∀ o, Calls Tryz.prog 25 #[.pointer (some ⟨pb, 0, none⟩), .int .i64 x.a] (w.alloc o) fun e w' => e = .returned (arriveE x.a s) ∧ IsP w' pb mb n (arriveS x.a s) ∧ Turn pb mb (w.alloc o) w') := fun o => arrive_any pb mb n s x.a _ (P.out o) iv
  have KL : Hid (∀ o, Calls Tryz.prog 26 #[.pointer (some ⟨pb, 0, none⟩)] (w.alloc o) fun e w' => e = .returned (leaveV s) ∧ IsP w' pb mb n (leaveS s) ∧ Turn pb mb (w.alloc o) w') := fun o => leave_any pb mb n s _ (P.out o)
  have KT : Hid (∀ o, Calls Tryz.prog 75 #[.pointer (some ⟨pb, 0, none⟩), .int .i64 x.a] (w.alloc o) fun e w' => e = .returned (stallE x.a) ∧ IsP w' pb mb n (stallS x.a s) ∧ Turn pb mb (w.alloc o) w') := fun o => stall_any pb mb n s x.a _ (P.out o)
  have KV : Hid (leaveV s = .tuple #[.int .i64 (if leaveB s = true then s.ba else 0), if leaveB s = true then .nilIface else errV 7]) := rfl
  clear hp iv hn
  go_enter Tryz.func47, Tryz.ntmps47
  go_wp2_with fail
  · rw [byte0_of]
    refine (KS.out _).mono ?_
    rintro e w1 ⟨rfl, p1, t1⟩
    have P1 : Hid (IsP w1 pb mb _ _) := p1
    have T1 : Hid (Turn pb mb _ w1) := t1
    clear p1 t1
    go_wp2
    go_returns
    exact ⟨rfl, by rw [outS_step ‹_›]; exact P1.out, (Turn.of_below (B.new1 w _)).trans T1.out⟩
  · go_returns
    exact ⟨rfl, by rw [outS_step ‹_›, byte0_none ‹_›, step_rest]; exact (P.out _).mono, Turn.of_below (B.new1 w _)⟩
  · refine (KW.out _).mono ?_
    rintro e w1 ⟨rfl, p1, t1⟩
    have P1 : Hid (IsP w1 pb mb _ _) := p1
    have T1 : Hid (Turn pb mb _ w1) := t1
    clear p1 t1
    generalize walkE x.a s = ev
    go_wp2
    go_returns
    exact ⟨rfl, by rw [outS_walk ‹_› ‹_›]; exact P1.out.mono, (Turn.of_below (B.new1 w _)).trans T1.out⟩
  · refine (KA.out _).mono ?_
    rintro e w1 ⟨rfl, p1, t1⟩
    have P1 : Hid (IsP w1 pb mb _ _) := p1
    have T1 : Hid (Turn pb mb _ w1) := t1
    clear p1 t1
    generalize arriveE x.a s = ev
    go_wp2
    go_returns
    exact ⟨rfl, by rw [outS_arrive ‹_› ‹_› ‹_›]; exact P1.out.mono, (Turn.of_below (B.new1 w _)).trans T1.out⟩
  · refine (KL.out _).mono ?_
    rw [KV.out]
    rintro e w1 ⟨rfl, p1, t1⟩
    have P1 : Hid (IsP w1 pb mb _ _) := p1
    have T1 : Hid (Turn pb mb _ w1) := t1
    clear p1 t1 KV KL
    generalize (if leaveB s = true then s.ba else 0) = ev
    generalize (if leaveB s = true then Value.nilIface else errV 7) = ev2
    go_wp2
    go_returns
    exact ⟨rfl, by rw [outS_leave ‹_› ‹_› ‹_› ‹_›]; exact P1.out.mono, (Turn.of_below (B.new1 w _)).trans T1.out⟩
  · refine (KT.out _).mono ?_
    rintro e w1 ⟨rfl, p1, t1⟩
    have P1 : Hid (IsP w1 pb mb _ _) := p1
    have T1 : Hid (Turn pb mb _ w1) := t1
    clear p1 t1
    generalize stallE x.a = ev
    go_wp2
    go_returns
    exact ⟨rfl, by rw [outS_stall ‹_› ‹_› ‹_› ‹_› ‹_›]; exact P1.out.mono, (Turn.of_below (B.new1 w _)).trans T1.out⟩
  · go_returns
    exact ⟨rfl, by rw [outS_else ‹_› ‹_› ‹_› ‹_› ‹_›]; exact (P.out _).mono, Turn.of_below (B.new1 w _)⟩

end Pl
end Go.Proofs.YtopgllmjeliklaaGreatDoor

namespace Go.Proofs.YtopgllmjeliklaaGreatDoor
open Go.ChangeShapes Go.WideShapes Go.ChangeAt Go.RowKit Go.Maps
set_option maxRecDepth 100000
set_option linter.unusedSimpArgs false
set_option linter.unusedVariables false

namespace Pl
/-- A machine that was made in new memory: nothing old has turned. -/
theorem turn_new {N pb mb : Nat} {w w1 w2 : World} (h : Below N w w1) (t : Turn pb mb w1 w2) (h1 : N ≤ pb) (h2 : N ≤ mb) (hN : N ≤ w1.heap.size) : Below N w w2 :=
  ⟨t.os.trans h.os, t.tape.trans h.tape, t.output.trans h.output, Nat.le_trans h.size t.size, fun k hk => (t.block k (by omega) (by omega) (by omega)).trans (h.block k hk)⟩

theorem carAt_empty (lv h ex : Int) : carAtI (.map []) lv h ex = 0 := by
  unfold carAtI
  split
  · exact carOf_of rfl
  · rfl
theorem has_empty (id : Int) (lv : Int) (h0 : id ≠ 0) : hasB (newS lv) id = false := by
  have : atB (.map [] : DataW Unit) id = false := by
    cases k : atB (.map [] : DataW Unit) id with
    | false => rfl
    | true =>
      obtain ⟨x, y, z, _, hc⟩ := atB_iff.1 k
      rw [carOf_of (c := 0) rfl] at hc
      omega
  have h1 : ((0 : Int) == id) = false := by simp; omega
  simp [hasB, newS, this, h1]

def m1 : St := ⟨1, 0, 0, true, 0, 0, 3, .map [], 0, false⟩
def m2 : St := ⟨1, 0, 0, false, 0, 0, 3, .map [], 0, false⟩
def m3 : St := ⟨1, 0, 0, false, 0, 3, 0, .map [], 0, false⟩
theorem moved_1 : arriveS 3 (newS 1) = m1 ∧ arriveE 3 (newS 1) = .nilIface := by
  have h := has_empty 3 1 (by decide)
  simp [arriveS, arriveE, arriveB, h]
  simp [newS, m1]
theorem moved_2 : stepS 99 m1 = m2 := by simp [stepS, doS, shutS, m1, m2]
theorem moved_3 : stepS 110 m2 = m3 := by simp [stepS, doS, takeInS, m2, m3]
theorem inv_m1 : Inv m1 := by rw [← moved_1.1]; exact (Inv.new (by decide) (by decide)).arrive 3
theorem inv_m2 : Inv m2 := by rw [← moved_2]; exact inv_m1.step 99
theorem inv_m3 : Inv m3 := by rw [← moved_3]; exact inv_m2.step 110
theorem sense_m3 : senseV m3 = .agg #[.int .i64 0, .int .i64 0, .bool false, .int .i64 0, .int .i64 3, .int .i64 0, .bool false, .bool false, .bool false] := by
  simp [senseV, m3, carAt_empty]

-- left out: this seat has not what it speaks of

end Pl
end Go.Proofs.YtopgllmjeliklaaGreatDoor

namespace Go.Proofs.YtopgllmjeliklaaGreatDoor
open Go.ChangeShapes Go.WideShapes Go.ChangeAt Go.RowKit
set_option maxRecDepth 100000
set_option linter.unusedSimpArgs false
set_option linter.unusedVariables false

def levelB (h : Int) : Bool := decide (0 < h) && (h % 3 == 0)
def closedB (dr : Bool) (pe : Int) : Bool := !dr && (pe == 0)
def belowB (h ex : Int) : Bool := (h == 0) && (ex == 0)
def reachB (x h li : Int) (car : Bool) : Bool := decide (-2 ≤ x ∧ x ≤ 2) && ((x == 0) || levelB h && ((li == 0) || !car))

def mayB (c h ex : Int) (dr : Bool) (pe li ba : Int) (he tl tr : Bool) : Bool :=
  if c = 45 then true
  else if c = 117 ∨ c = 100 then (ex == 0) && closedB dr pe
  else if c = 108 then reachB (ex - 1) h li tl
  else if c = 114 then reachB (ex + 1) h li tr
  else if c = 103 then levelB h && (ex != 0) && (li == 0) && he
  else if c = 112 then levelB h && (ex != 0) && (li != 0) && !he
  else if c = 111 then belowB h ex
  else if c = 99 then pe == 0
  else if c = 110 then belowB h ex && closedB dr pe && (li == 0) && (ba != 0)
  else if c = 120 then belowB h ex && closedB dr pe && (li != 0) && (ba == 0)
  else false

theorem i64_bounds {n : Int} (h : IntKind.i64.has n) : -9223372036854775808 ≤ n ∧ n ≤ 9223372036854775807 := by
  simpa [IntKind.has, IntKind.min, IntKind.max, IntKind.bits, IntKind.signed] using h

set_option maxHeartbeats 400000 in
theorem closed_any (h ex : Int) (dr : Bool) (pe li ba : Int) (he tl tr : Bool) (w : World) :
    Calls Tryz.prog 133 #[.agg #[.int .i64 h, .int .i64 ex, .bool dr, .int .i64 pe, .int .i64 li, .int .i64 ba, .bool he, .bool tl, .bool tr]] w fun e w' => e = .returned (.bool (closedB dr pe)) ∧ Below w.heap.size w w' := by
  cases dr
  all_goals
    go_enter Tryz.func133, Tryz.ntmps133
    go_wp2
    go_returns
    exact ⟨by simp [closedB], by go_grown⟩

set_option maxHeartbeats 400000 in
theorem below_any (h ex : Int) (dr : Bool) (pe li ba : Int) (he tl tr : Bool) (w : World) :
    Calls Tryz.prog 136 #[.agg #[.int .i64 h, .int .i64 ex, .bool dr, .int .i64 pe, .int .i64 li, .int .i64 ba, .bool he, .bool tl, .bool tr]] w fun e w' => e = .returned (.bool (belowB h ex)) ∧ Below w.heap.size w w' := by
  by_cases c : h = 0
  · subst c
    go_enter Tryz.func136, Tryz.ntmps136
    go_wp2
    go_returns
    exact ⟨by simp [belowB], by go_grown⟩
  · have c' : (h == 0) = false := by simpa using c
    go_enter Tryz.func136, Tryz.ntmps136
    go_wp2
    go_returns
    exact ⟨by simp [belowB, c'], by go_grown⟩

set_option maxHeartbeats 400000 in
theorem level_any (h ex : Int) (dr : Bool) (pe li ba : Int) (he tl tr : Bool) (w : World) (hh : IntKind.i64.has h) :
    Calls Tryz.prog 135 #[.agg #[.int .i64 h, .int .i64 ex, .bool dr, .int .i64 pe, .int .i64 li, .int .i64 ba, .bool he, .bool tl, .bool tr]] w fun e w' => e = .returned (.bool (levelB h)) ∧ Below w.heap.size w w' := by
  have hb := i64_bounds hh
  by_cases c : 0 < h
  · go_enter Tryz.func135, Tryz.ntmps135
    go_wp2
    go_returns
    exact ⟨by simp [levelB, c], by go_grown⟩
  · have c' : decide (0 < h) = false := by simpa using c
    go_enter Tryz.func135, Tryz.ntmps135
    go_wp2
    go_returns
    exact ⟨by simp [levelB, c'], by go_grown⟩

set_option maxHeartbeats 1000000 in
theorem reach_any (x : Int) (car : Bool) (h ex : Int) (dr : Bool) (pe li ba : Int) (he tl tr : Bool) (w : World) (hh : IntKind.i64.has h) :
    Calls Tryz.prog 134 #[.int .i64 x, .bool car, .agg #[.int .i64 h, .int .i64 ex, .bool dr, .int .i64 pe, .int .i64 li, .int .i64 ba, .bool he, .bool tl, .bool tr]] w fun e w' => e = .returned (.bool (reachB x h li car)) ∧ Below w.heap.size w w' := by
  have hb := i64_bounds hh
  clear hh
  by_cases c1 : x < -2
  · have g : decide (-2 ≤ x ∧ x ≤ 2) = false := by simp; omega
    go_enter Tryz.func134, Tryz.ntmps134
    go_wp2
    go_returns
    exact ⟨by simp [reachB, g], by go_grown⟩
  by_cases c2 : 2 < x
  · have g : decide (-2 ≤ x ∧ x ≤ 2) = false := by simp; omega
    go_enter Tryz.func134, Tryz.ntmps134
    go_wp2
    go_returns
    exact ⟨by simp [reachB, g], by go_grown⟩
  have G : Hid (decide (-2 ≤ x ∧ x ≤ 2) = true) := by show _ = _; simp; omega
  by_cases c3 : x = 0
  · subst c3
    go_enter Tryz.func134, Tryz.ntmps134
    go_wp2
    go_returns
    exact ⟨by simp [reachB], by go_grown⟩
  have c3' : (x == 0) = false := by simpa using c3
  clear c3
  by_cases p : 0 < h
  · cases q : (h % 3 == 0)
    · go_enter Tryz.func134, Tryz.ntmps134
      go_wp2
      go_returns
      exact ⟨by simp [reachB, G.out, levelB, p, q, c3'], by go_grown⟩
    · cases l : (li == 0)
      all_goals
        go_enter Tryz.func134, Tryz.ntmps134
        go_wp2
        go_returns
        exact ⟨by simp [reachB, G.out, levelB, p, q, l, c3'], by go_grown⟩
  · have p' : decide (0 < h) = false := by simpa using p
    go_enter Tryz.func134, Tryz.ntmps134
    go_wp2
    go_returns
    exact ⟨by simp [reachB, G.out, levelB, p', c3'], by go_grown⟩

theorem ret_bool {a b : Bool} (h : a = b) : Ending.returned (.bool a) = .returned (.bool b) := by rw [h]

end Go.Proofs.YtopgllmjeliklaaGreatDoor

namespace Go.Proofs.YtopgllmjeliklaaGreatDoor
open Go.ChangeShapes Go.WideShapes Go.ChangeAt Go.RowKit
set_option maxRecDepth 100000
set_option linter.unusedSimpArgs false
set_option linter.unusedVariables false

set_option maxHeartbeats 4000000 in
theorem may_45 (h ex : Int) (dr : Bool) (pe li ba : Int) (he tl tr : Bool) (w : World) (hh : -9223372036854775808 ≤ h ∧ h ≤ 9223372036854775807) (hx : -9223372036854775808 ≤ ex ∧ ex ≤ 9223372036854775807) :
    Calls Tryz.prog 90 #[.int .u8 45, .agg #[.int .i64 h, .int .i64 ex, .bool dr, .int .i64 pe, .int .i64 li, .int .i64 ba, .bool he, .bool tl, .bool tr]] w fun e w' => e = .returned (.bool (mayB 45 h ex dr pe li ba he tl tr)) ∧ Below w.heap.size w w' := by
  go_enter Tryz.func90, Tryz.ntmps90
  go_wp2
  all_goals
    go_returns
    refine ⟨ret_bool ?_, by go_grown⟩
    go_light
    first
      | (simp [mayB, levelB, closedB, belowB, reachB, *]; done)
      | (simp [mayB, levelB, closedB, belowB, reachB, *]; omega)

set_option maxHeartbeats 4000000 in
theorem may_117 (h ex : Int) (dr : Bool) (pe li ba : Int) (he tl tr : Bool) (w : World) (hh : -9223372036854775808 ≤ h ∧ h ≤ 9223372036854775807) (hx : -9223372036854775808 ≤ ex ∧ ex ≤ 9223372036854775807) :
    Calls Tryz.prog 90 #[.int .u8 117, .agg #[.int .i64 h, .int .i64 ex, .bool dr, .int .i64 pe, .int .i64 li, .int .i64 ba, .bool he, .bool tl, .bool tr]] w fun e w' => e = .returned (.bool (mayB 117 h ex dr pe li ba he tl tr)) ∧ Below w.heap.size w w' := by
  go_enter Tryz.func90, Tryz.ntmps90
  go_wp2
  all_goals
    go_returns
    refine ⟨ret_bool ?_, by go_grown⟩
    go_light
    first
      | (simp [mayB, levelB, closedB, belowB, reachB, *]; done)
      | (simp [mayB, levelB, closedB, belowB, reachB, *]; omega)

set_option maxHeartbeats 4000000 in
theorem may_100 (h ex : Int) (dr : Bool) (pe li ba : Int) (he tl tr : Bool) (w : World) (hh : -9223372036854775808 ≤ h ∧ h ≤ 9223372036854775807) (hx : -9223372036854775808 ≤ ex ∧ ex ≤ 9223372036854775807) :
    Calls Tryz.prog 90 #[.int .u8 100, .agg #[.int .i64 h, .int .i64 ex, .bool dr, .int .i64 pe, .int .i64 li, .int .i64 ba, .bool he, .bool tl, .bool tr]] w fun e w' => e = .returned (.bool (mayB 100 h ex dr pe li ba he tl tr)) ∧ Below w.heap.size w w' := by
  go_enter Tryz.func90, Tryz.ntmps90
  go_wp2
  all_goals
    go_returns
    refine ⟨ret_bool ?_, by go_grown⟩
    go_light
    first
      | (simp [mayB, levelB, closedB, belowB, reachB, *]; done)
      | (simp [mayB, levelB, closedB, belowB, reachB, *]; omega)

set_option maxHeartbeats 4000000 in
theorem may_108 (h ex : Int) (dr : Bool) (pe li ba : Int) (he tl tr : Bool) (w : World) (hh : -9223372036854775808 ≤ h ∧ h ≤ 9223372036854775807) (hx : -9223372036854775808 ≤ ex ∧ ex ≤ 9223372036854775807) :
    Calls Tryz.prog 90 #[.int .u8 108, .agg #[.int .i64 h, .int .i64 ex, .bool dr, .int .i64 pe, .int .i64 li, .int .i64 ba, .bool he, .bool tl, .bool tr]] w fun e w' => e = .returned (.bool (mayB 108 h ex dr pe li ba he tl tr)) ∧ Below w.heap.size w w' := by
  go_enter Tryz.func90, Tryz.ntmps90
  go_wp2
  all_goals
    go_returns
    refine ⟨ret_bool ?_, by go_grown⟩
    go_light
    first
      | (simp [mayB, levelB, closedB, belowB, reachB, *]; done)
      | (simp [mayB, levelB, closedB, belowB, reachB, *]; omega)
      | (cases tl <;> (rw [Bool.eq_iff_iff]; simp [mayB, levelB, reachB]; omega))
      | (simp only [wrap64] at *; cases tl <;> (rw [Bool.eq_iff_iff]; simp [mayB, levelB, reachB]; omega))

set_option maxHeartbeats 4000000 in
theorem may_114 (h ex : Int) (dr : Bool) (pe li ba : Int) (he tl tr : Bool) (w : World) (hh : -9223372036854775808 ≤ h ∧ h ≤ 9223372036854775807) (hx : -9223372036854775808 ≤ ex ∧ ex ≤ 9223372036854775807) :
    Calls Tryz.prog 90 #[.int .u8 114, .agg #[.int .i64 h, .int .i64 ex, .bool dr, .int .i64 pe, .int .i64 li, .int .i64 ba, .bool he, .bool tl, .bool tr]] w fun e w' => e = .returned (.bool (mayB 114 h ex dr pe li ba he tl tr)) ∧ Below w.heap.size w w' := by
  go_enter Tryz.func90, Tryz.ntmps90
  go_wp2
  all_goals
    go_returns
    refine ⟨ret_bool ?_, by go_grown⟩
    go_light
    first
      | (simp [mayB, levelB, closedB, belowB, reachB, *]; done)
      | (simp [mayB, levelB, closedB, belowB, reachB, *]; omega)
      | (cases tr <;> (rw [Bool.eq_iff_iff]; simp [mayB, levelB, reachB]; omega))
      | (simp only [wrap64] at *; cases tr <;> (rw [Bool.eq_iff_iff]; simp [mayB, levelB, reachB]; omega))

set_option maxHeartbeats 4000000 in
theorem may_103 (h ex : Int) (dr : Bool) (pe li ba : Int) (he tl tr : Bool) (w : World) (hh : -9223372036854775808 ≤ h ∧ h ≤ 9223372036854775807) (hx : -9223372036854775808 ≤ ex ∧ ex ≤ 9223372036854775807) :
    Calls Tryz.prog 90 #[.int .u8 103, .agg #[.int .i64 h, .int .i64 ex, .bool dr, .int .i64 pe, .int .i64 li, .int .i64 ba, .bool he, .bool tl, .bool tr]] w fun e w' => e = .returned (.bool (mayB 103 h ex dr pe li ba he tl tr)) ∧ Below w.heap.size w w' := by
  go_enter Tryz.func90, Tryz.ntmps90
  go_wp2
  all_goals
    go_returns
    refine ⟨ret_bool ?_, by go_grown⟩
    go_light
    first
      | (simp [mayB, levelB, closedB, belowB, reachB, *]; done)
      | (simp [mayB, levelB, closedB, belowB, reachB, *]; omega)

set_option maxHeartbeats 4000000 in
theorem may_112 (h ex : Int) (dr : Bool) (pe li ba : Int) (he tl tr : Bool) (w : World) (hh : -9223372036854775808 ≤ h ∧ h ≤ 9223372036854775807) (hx : -9223372036854775808 ≤ ex ∧ ex ≤ 9223372036854775807) :
    Calls Tryz.prog 90 #[.int .u8 112, .agg #[.int .i64 h, .int .i64 ex, .bool dr, .int .i64 pe, .int .i64 li, .int .i64 ba, .bool he, .bool tl, .bool tr]] w fun e w' => e = .returned (.bool (mayB 112 h ex dr pe li ba he tl tr)) ∧ Below w.heap.size w w' := by
  go_enter Tryz.func90, Tryz.ntmps90
  go_wp2
  all_goals
    go_returns
    refine ⟨ret_bool ?_, by go_grown⟩
    go_light
    first
      | (simp [mayB, levelB, closedB, belowB, reachB, *]; done)
      | (simp [mayB, levelB, closedB, belowB, reachB, *]; omega)

set_option maxHeartbeats 4000000 in
theorem may_111 (h ex : Int) (dr : Bool) (pe li ba : Int) (he tl tr : Bool) (w : World) (hh : -9223372036854775808 ≤ h ∧ h ≤ 9223372036854775807) (hx : -9223372036854775808 ≤ ex ∧ ex ≤ 9223372036854775807) :
    Calls Tryz.prog 90 #[.int .u8 111, .agg #[.int .i64 h, .int .i64 ex, .bool dr, .int .i64 pe, .int .i64 li, .int .i64 ba, .bool he, .bool tl, .bool tr]] w fun e w' => e = .returned (.bool (mayB 111 h ex dr pe li ba he tl tr)) ∧ Below w.heap.size w w' := by
  go_enter Tryz.func90, Tryz.ntmps90
  go_wp2
  all_goals
    go_returns
    refine ⟨ret_bool ?_, by go_grown⟩
    go_light
    first
      | (simp [mayB, levelB, closedB, belowB, reachB, *]; done)
      | (simp [mayB, levelB, closedB, belowB, reachB, *]; omega)

set_option maxHeartbeats 4000000 in
theorem may_99 (h ex : Int) (dr : Bool) (pe li ba : Int) (he tl tr : Bool) (w : World) (hh : -9223372036854775808 ≤ h ∧ h ≤ 9223372036854775807) (hx : -9223372036854775808 ≤ ex ∧ ex ≤ 9223372036854775807) :
    Calls Tryz.prog 90 #[.int .u8 99, .agg #[.int .i64 h, .int .i64 ex, .bool dr, .int .i64 pe, .int .i64 li, .int .i64 ba, .bool he, .bool tl, .bool tr]] w fun e w' => e = .returned (.bool (mayB 99 h ex dr pe li ba he tl tr)) ∧ Below w.heap.size w w' := by
  go_enter Tryz.func90, Tryz.ntmps90
  go_wp2
  all_goals
    go_returns
    refine ⟨ret_bool ?_, by go_grown⟩
    go_light
    first
      | (simp [mayB, levelB, closedB, belowB, reachB, *]; done)
      | (simp [mayB, levelB, closedB, belowB, reachB, *]; omega)

set_option maxHeartbeats 4000000 in
theorem may_110 (h ex : Int) (dr : Bool) (pe li ba : Int) (he tl tr : Bool) (w : World) (hh : -9223372036854775808 ≤ h ∧ h ≤ 9223372036854775807) (hx : -9223372036854775808 ≤ ex ∧ ex ≤ 9223372036854775807) :
    Calls Tryz.prog 90 #[.int .u8 110, .agg #[.int .i64 h, .int .i64 ex, .bool dr, .int .i64 pe, .int .i64 li, .int .i64 ba, .bool he, .bool tl, .bool tr]] w fun e w' => e = .returned (.bool (mayB 110 h ex dr pe li ba he tl tr)) ∧ Below w.heap.size w w' := by
  go_enter Tryz.func90, Tryz.ntmps90
  go_wp2
  all_goals
    go_returns
    refine ⟨ret_bool ?_, by go_grown⟩
    go_light
    first
      | (simp [mayB, levelB, closedB, belowB, reachB, *]; done)
      | (simp [mayB, levelB, closedB, belowB, reachB, *]; omega)

set_option maxHeartbeats 4000000 in
theorem may_120 (h ex : Int) (dr : Bool) (pe li ba : Int) (he tl tr : Bool) (w : World) (hh : -9223372036854775808 ≤ h ∧ h ≤ 9223372036854775807) (hx : -9223372036854775808 ≤ ex ∧ ex ≤ 9223372036854775807) :
    Calls Tryz.prog 90 #[.int .u8 120, .agg #[.int .i64 h, .int .i64 ex, .bool dr, .int .i64 pe, .int .i64 li, .int .i64 ba, .bool he, .bool tl, .bool tr]] w fun e w' => e = .returned (.bool (mayB 120 h ex dr pe li ba he tl tr)) ∧ Below w.heap.size w w' := by
  go_enter Tryz.func90, Tryz.ntmps90
  go_wp2
  all_goals
    go_returns
    refine ⟨ret_bool ?_, by go_grown⟩
    go_light
    first
      | (simp [mayB, levelB, closedB, belowB, reachB, *]; done)
      | (simp [mayB, levelB, closedB, belowB, reachB, *]; omega)

set_option maxHeartbeats 4000000 in
theorem may_other (c h ex : Int) (dr : Bool) (pe li ba : Int) (he tl tr : Bool) (w : World) (hh : -9223372036854775808 ≤ h ∧ h ≤ 9223372036854775807)
    (n45 : (c == 45) = false) (n117 : (c == 117) = false) (n100 : (c == 100) = false) (n108 : (c == 108) = false) (n114 : (c == 114) = false) (n103 : (c == 103) = false) (n112 : (c == 112) = false) (n111 : (c == 111) = false) (n99 : (c == 99) = false) (n110 : (c == 110) = false) (n120 : (c == 120) = false) :
    Calls Tryz.prog 90 #[.int .u8 c, .agg #[.int .i64 h, .int .i64 ex, .bool dr, .int .i64 pe, .int .i64 li, .int .i64 ba, .bool he, .bool tl, .bool tr]] w fun e w' => e = .returned (.bool (mayB c h ex dr pe li ba he tl tr)) ∧ Below w.heap.size w w' := by
  have K : Hid (∀ h dr, mayB c h ex dr pe li ba he tl tr = false) := by
    intro h dr
    simp only [beq_eq_false_iff_ne, ne_eq] at *
    simp [mayB, n45, n117, n100, n108, n114, n103, n112, n111, n99, n110, n120]
  go_enter Tryz.func90, Tryz.ntmps90
  go_wp2
  all_goals
    go_returns
    exact ⟨ret_bool (K.out _ _).symm, by go_grown⟩

theorem may_any (c h ex : Int) (dr : Bool) (pe li ba : Int) (he tl tr : Bool) (w : World) (hh : IntKind.i64.has h) (hx : IntKind.i64.has ex) :
    Calls Tryz.prog 90 #[.int .u8 c, .agg #[.int .i64 h, .int .i64 ex, .bool dr, .int .i64 pe, .int .i64 li, .int .i64 ba, .bool he, .bool tl, .bool tr]] w fun e w' => e = .returned (.bool (mayB c h ex dr pe li ba he tl tr)) ∧ Below w.heap.size w w' := by
  have hh := i64_bounds hh
  have hx := i64_bounds hx
  by_cases n45 : c = 45
  · subst n45; exact may_45 h ex dr pe li ba he tl tr w hh hx
  by_cases n117 : c = 117
  · subst n117; exact may_117 h ex dr pe li ba he tl tr w hh hx
  by_cases n100 : c = 100
  · subst n100; exact may_100 h ex dr pe li ba he tl tr w hh hx
  by_cases n108 : c = 108
  · subst n108; exact may_108 h ex dr pe li ba he tl tr w hh hx
  by_cases n114 : c = 114
  · subst n114; exact may_114 h ex dr pe li ba he tl tr w hh hx
  by_cases n103 : c = 103
  · subst n103; exact may_103 h ex dr pe li ba he tl tr w hh hx
  by_cases n112 : c = 112
  · subst n112; exact may_112 h ex dr pe li ba he tl tr w hh hx
  by_cases n111 : c = 111
  · subst n111; exact may_111 h ex dr pe li ba he tl tr w hh hx
  by_cases n99 : c = 99
  · subst n99; exact may_99 h ex dr pe li ba he tl tr w hh hx
  by_cases n110 : c = 110
  · subst n110; exact may_110 h ex dr pe li ba he tl tr w hh hx
  by_cases n120 : c = 120
  · subst n120; exact may_120 h ex dr pe li ba he tl tr w hh hx
  exact may_other c h ex dr pe li ba he tl tr w hh (by simpa using n45) (by simpa using n117) (by simpa using n100) (by simpa using n108) (by simpa using n114) (by simpa using n103) (by simpa using n112) (by simpa using n111) (by simpa using n99) (by simpa using n110) (by simpa using n120)

end Go.Proofs.YtopgllmjeliklaaGreatDoor
