/- What a statement's input names: a list of acts that came in: how it lies in memory; is it light? -/
import Derived.Test.YtmojjjikaaclpaaSizes
namespace Go.Proofs.Ytmojjjikaaclpaa
open Go.ChangeShapes Go.WideShapes Go.ChangeAt Go.RowKit
set_option maxRecDepth 100000
set_option linter.unusedSimpArgs false
set_option linter.unusedVariables false

namespace Ac
/-- An act, cell by cell. -/
structure ActC where
  kind : ByteArray
  a : Int
  b : Int
  c0 : Int
  c1 : Int
  c2 : Int
  c3 : Int
  s : ByteArray
  k : Int
  last : Int
  sa : Option Addr
  sl : Nat
  sc : Nat
  ja : Option Addr
  jl : Nat
  jc : Nat

def ActC.vals (x : ActC) : Array Value := #[.string x.kind, .int .i64 x.a, .int .i64 x.b, .int .i64 x.c0, .int .i64 x.c1, .int .i64 x.c2, .int .i64 x.c3, .string x.s, .int .u64 x.k, .int .i64 x.last, .slice x.sa x.sl x.sc, .slice x.ja x.jl x.jc]
def ActC.none : ActC := ⟨.empty, 0, 0, 0, 0, 0, 0, .empty, 0, 0, .none, 0, 0, .none, 0, 0⟩
/-- What is sure of an act's cells. -/
structure ActC.Ok (x : ActC) : Prop where
  a : (Lit.int .i64 x.a).wf = true
  kind : x.kind.size ≤ maxLen
  s : x.s.size ≤ maxLen
  sl : x.sl ≤ maxLen
  jl : x.jl ≤ maxLen

/-- A list of acts lies in memory. -/
def ActsAt (W : World) (v : Value) (len : Nat) (f : Nat → ActC) : Prop :=
  ∃ (a : Option Addr) (cap : Nat), v = .slice a len cap ∧ len ≤ cap ∧ cap ≤ maxLen ∧ (∀ i, i < len → (f i).Ok) ∧
    (0 < len → ∃ b off, a = some ⟨b, off, .none⟩ ∧ b < W.heap.size ∧ ∀ i, i < len → ∀ j, j < 12 → W.cell? ⟨b, off + i * 12 + j, .none⟩ = (f i).vals[j]?)

theorem ActsAt.below {W W' : World} {v : Value} {len : Nat} {f : Nat → ActC} (h : ActsAt W v len f) (hb : Below W.heap.size W W') : ActsAt W' v len f := by
  obtain ⟨a, cap, hv, hl, hm, hk, hc⟩ := h
  refine ⟨a, cap, hv, hl, hm, hk, fun h0 => ?_⟩
  obtain ⟨b, off, ha, hlt, hcell⟩ := hc h0
  exact ⟨b, off, ha, Nat.lt_of_lt_of_le hlt hb.size, fun i hi j hj => (hb.cell (p := ⟨b, _, .none⟩) hlt).trans (hcell i hi j hj)⟩

theorem slice_len {H : Type} {enc : TypeId × Value → H} {w : World} {base : Nat} {spare : Nat → Bool} {held : Bool} {t e : TypeId} {fuel : Nat} {cs : List Value} {y : DataW H × List MemPlace} (ht : Try.prog.underlying t = some (.slice e))
    (hf : DataW.trod enc Try.prog w base spare held fuel t cs = some y) : ∃ a l c, cs = [.slice a l c] ∧ l ≤ maxLen := by
  rcases DataW.trod_slice ht hf with ⟨rfl, _⟩ | ⟨a, l, c, _, _, _, _, rfl, _, _, h1, h2, _⟩
  · exact ⟨_, _, _, rfl, Nat.zero_le _⟩
  · exact ⟨_, _, _, rfl, Nat.le_trans h1 h2⟩

theorem act_elem {H : Type} {enc : TypeId × Value → H} {w : World} {base : Nat} {spare : Nat → Bool} {held : Bool} {n : Nat} {cs : List Value} {y : DataW H × List MemPlace}
    (h : DataW.trod enc Try.prog w base spare held n 45 cs = some y) (hl : cs.length = 12) : ∃ x : ActC, cs = x.vals.toList ∧ x.Ok := by
  have k1 : Try.prog.cellsOf 3 = 1 := by kernel_rfl
  have k2 : Try.prog.cellsOf 9 = 1 := by kernel_rfl
  have k3 : Try.prog.cellsOf 38 = 4 := by kernel_rfl
  have k4 : Try.prog.cellsOf 39 = 1 := by kernel_rfl
  have k5 : Try.prog.cellsOf 43 = 3 := by kernel_rfl
  have k6 : Try.prog.cellsOf 36 = 3 := by kernel_rfl
  have k7 : Try.prog.cellsOf 40 = 1 := by kernel_rfl
  have k8 : Try.prog.cellsOf 41 = 1 := by kernel_rfl
  obtain ⟨xs, m, _, _, _, hxl, hf⟩ := DataW.trod_struct Try.underlying45 h
  match xs, hxl with
  | [y0, y1, y2, y3, y4, y5, y6], _ =>
    match cs, hl with
    | [e0, e1, e2, e3, e4, e5, e6, e7, e8, e9, e10, e11], _ =>
      have f0 := hf 0 _ rfl; have f1 := hf 1 _ rfl; have f2 := hf 2 _ rfl; have f3 := hf 3 _ rfl; have f4 := hf 4 _ rfl; have f5 := hf 5 _ rfl; have f6 := hf 6 _ rfl
      simp [k1, k2, k3, k4, k5] at f0 f1 f2 f3 f4 f5 f6
      obtain ⟨kind, g0, _, w0⟩ := DataW.trod_string Try.underlying9 f0
      obtain ⟨a, g1, _, w1⟩ := DataW.trod_int Try.underlying3 f1
      obtain ⟨b, g2, _, w2⟩ := DataW.trod_int Try.underlying3 f2
      obtain ⟨s, g4, _, w4⟩ := DataW.trod_string Try.underlying9 f4
      obtain ⟨k, g5, _, w5⟩ := DataW.trod_int Try.underlying39 f5
      obtain ⟨u0, u1, m2, _, _, c0, c1⟩ := trod_struct2 Try.underlying38 f3
      simp [k1, k6] at c0 c1
      obtain ⟨c0', q0, _, _⟩ := DataW.trod_int Try.underlying3 c0
      obtain ⟨v0, v1, v2, m3, _, _, d0, d1, d2⟩ := Deep.trod_struct3 Try.underlying36 c1
      simp [k1] at d0 d1 d2
      obtain ⟨c1', q1, _, _⟩ := DataW.trod_int Try.underlying3 d0
      obtain ⟨c2', q2, _, _⟩ := DataW.trod_int Try.underlying3 d1
      obtain ⟨c3', q3, _, _⟩ := DataW.trod_int Try.underlying3 d2
      obtain ⟨b0, b1, b2, m4, _, _, l0, l1, l2⟩ := Deep.trod_struct3 Try.underlying43 f6
      simp [k1, k7, k8] at l0 l1 l2
      obtain ⟨last, r0, _, _⟩ := DataW.trod_int Try.underlying3 l0
      obtain ⟨sa, sl, sc, r1, hsl⟩ := slice_len Try.underlying40 l1
      obtain ⟨ja, jl, jc, r2, hjl⟩ := slice_len Try.underlying41 l2
      simp at g0 g1 g2 g4 g5 q0 q1 q2 q3 r0 r1 r2
      subst g0 g1 g2 g4 g5 q0 q1 q2 q3 r0 r1 r2
      exact ⟨⟨kind, a, b, c0', c1', c2', c3', s, k, last, sa, sl, sc, ja, jl, jc⟩, rfl, ⟨w1, w0, w4, hsl, hjl⟩⟩

theorem open_acts {H : Type} {enc : TypeId × Value → H} {W : World} {b0 : Nat} {v : Value} {d : DataW H} {p : List MemPlace} (hv : Value.okWide Try.prog W .any b0 22 v)
    (h : DataW.Trod enc Try.prog W 0 (fun _ => true) true 22 v d p) (hlt : ∀ x ∈ p, x.block < W.heap.size) : ∃ len f, ActsAt W v len f := by
  obtain ⟨a0, len0, cap0, rfl⟩ := okWide_slice Try.underlying22 hv
  obtain ⟨fuel, hf⟩ := h
  have ce : Try.prog.cellsOf 45 = 12 := by kernel_rfl
  rcases Deep.open_slice Try.underlying22 (by simpa [Value.cells] using hf) with ⟨hcs, _⟩ | ⟨a, len, cap, m, n, D, Pl, hcs, _, hl, hm, hmm, hx, hel⟩
  · simp at hcs
    obtain ⟨rfl, rfl, rfl⟩ := hcs
    exact ⟨0, fun _ => ActC.none, .none, 0, rfl, Nat.le_refl _, Nat.zero_le _, fun i h => absurd h (Nat.not_lt_zero _), fun h => absurd h (Nat.lt_irrefl _)⟩
  · simp at hcs hmm
    obtain ⟨rfl, rfl, rfl⟩ := hcs
    have each : ∀ i, i < len0 → ∃ q : ActC, q.Ok ∧ ∀ j, j < 12 → W.cell? (a.add (i * 12 + j)) = q.vals[j]? := by
      intro i hi
      obtain ⟨cs', h1, h2⟩ := hel i (by omega)
      rw [ce] at h1
      obtain ⟨_, hlen, hcell⟩ := World.cells?_some h1
      obtain ⟨x, hx, hok⟩ := act_elem h2 hlen
      refine ⟨x, hok, fun j hj => ?_⟩
      have e := hcell j (by omega)
      rw [Deep.add_add] at e
      rw [e, hx]
      simp
    have hin : Inhabited ActC := ⟨ActC.none⟩
    obtain ⟨f, hq⟩ := Deep.choose_lt each
    refine ⟨len0, f, some a, cap0, rfl, hl, hm, fun i hi => (hq i hi).1, fun h0 => ?_⟩
    have hs : a.spot = .none := by
      have := cell_spot (v := .string (f 0).kind) ((hq 0 h0).2 0 (by omega))
      simpa [Addr.add] using this
    obtain ⟨b, off, sp⟩ := a
    simp only at hs
    subst hs
    have hmem : MemPlace.cell b off ∈ p := by
      simp only [Prod.mk.injEq] at hx
      rw [hx.2]
      refine List.mem_append_left _ ?_
      simp only [MemPlace.row, List.mem_map, List.mem_range]
      exact ⟨0, by rw [ce]; omega, by simp⟩
    refine ⟨b, off, rfl, hlt _ hmem, fun i hi j hj => ?_⟩
    have ad : ∀ k, (Addr.add ⟨b, off, .none⟩ k) = ⟨b, off + k, .none⟩ := by
      intro k
      unfold Addr.add
      split
      · rename_i h; subst h; rfl
      · rfl
    have := (hq i hi).2 j hj
    rw [ad] at this
    rw [Nat.add_assoc]
    exact this

/-- What is known of acts that are light. -/
def Light (len : Nat) (f : Nat → ActC) (most : Int) : Prop := (len : Int) ≤ most ∧ ∀ i, i < len → (f i).s.size ≤ 100 ∧ (f i).sl ≤ 20 ∧ (f i).jl ≤ 12

def LightPost (len : Nat) (f : Nat → ActC) (most : Int) (w : World) (e : Ending) (w' : World) : Prop := ∃ b, e = .returned (.bool b) ∧ (b = true → Light len f most) ∧ w' = w

set_option maxHeartbeats 1000000 in
theorem light_any (v : Value) (len : Nat) (f : Nat → ActC) (most : Int) (w : World) (hs : ActsAt w v len f) :
    Calls Try.prog 5 #[v, .int .i64 most] w fun e w' => LightPost len f most w e w' := by
  obtain ⟨a, cap, rfl, hl, hm, hok, hc⟩ := hs
  unfold maxLen at hm
  have HC : Hid _ := hc
  have HO : Hid _ := hok
  clear hc hok
  by_cases hmost : most < (len : Int)
  · go_enter Try.func5, Try.ntmps5
    go_wp2
    go_returns
    exact ⟨false, rfl, fun h => absurd h (by simp), rfl⟩
  · have HM : Hid ((len : Int) ≤ most) := by show _ ≤ _; omega
    go_enter Try.func5, Try.ntmps5
    go_wp2_with fail
    go_loopw [5] (fun i wr => ∃ k : Nat, k ≤ len ∧ i = .int .i64 k ∧ Hid (∀ j, j < k → (f j).s.size ≤ 100 ∧ (f j).sl ≤ 20 ∧ (f j).jl ≤ 12) ∧ wr = w) (fun i _ => len - (intOf i).toNat)
    case atStart => exact ⟨0, Nat.zero_le _, rfl, fun j hj => absurd hj (Nat.not_lt_zero _), rfl⟩
    case round =>
      obtain ⟨k, hk, rfl, HF, rfl⟩ := hrel
      by_cases hlt : k < len
      · obtain ⟨b, off, ha, hb, hcell⟩ := HC.out (by omega)
        have hOk := HO.out k hlt
        have c7 := hcell k hlt 7 (by omega)
        have c10 := hcell k hlt 10 (by omega)
        have c11 := hcell k hlt 11 (by omega)
        simp [ActC.vals] at c7 c10 c11
        have l1 := hOk.s; have l2 := hOk.sl; have l3 := hOk.jl
        unfold maxLen at l1 l2 l3
        clear hcell hOk
        subst ha
        go_wp2
        all_goals first
          | (go_returns; exact ⟨false, rfl, fun h => absurd h (by simp), rfl⟩)
          | (refine ⟨⟨k + 1, by omega, by simp, fun j hj => ?_, trivial⟩, by simp [intOf]; omega⟩
             by_cases hjk : j = k
             · subst hjk; omega
             · exact HF.out j (by omega))
      · go_wp2
        go_returns
        exact ⟨true, rfl, fun _ => ⟨HM.out, fun i hi => HF.out i (by omega)⟩, rfl⟩

end Ac
end Go.Proofs.Ytmojjjikaaclpaa
