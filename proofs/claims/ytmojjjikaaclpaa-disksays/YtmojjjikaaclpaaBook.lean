/- Chapter 6: a book that came in: how it lies in memory; contracts for the laws of stage 2. -/
import Derived.Test.YtmojjjikaaclpaaSizes
namespace Go.Proofs.Ytmojjjikaaclpaa
open Go.ChangeShapes Go.WideShapes Go.ChangeAt Go.RowKit
set_option maxRecDepth 100000
set_option linter.unusedSimpArgs false
set_option linter.unusedVariables false

namespace Bk
/-- A stay, number by number. -/
structure Stay where
  t : Int
  id : Int
  a : Int
  b : Int
  c : Int
  x : Int
  y : Int
  z : Int
deriving DecidableEq, Inhabited

/-- A job. -/
structure Job where
  t : Int
  f : Bool
deriving DecidableEq, Inhabited

def Stay.enc (s : Stay) : List Value := [.int .i64 s.t, .int .i64 s.id, .int .i64 s.a, .int .i64 s.b, .int .i64 s.c, .int .i64 s.x, .int .i64 s.y, .int .i64 s.z]
def Job.enc (j : Job) : List Value := [.int .i64 j.t, .bool j.f]

/-- A list of structs of k cells lies in memory. -/
def RowsAt {α : Type} [Inhabited α] (W : World) (a : Option Addr) (cap k : Nat) (enc : α → List Value) (zs : List α) : Prop :=
  zs.length ≤ cap ∧ cap ≤ maxLen ∧ (0 < zs.length → ∃ b off, a = some ⟨b, off, none⟩ ∧ b < W.heap.size ∧ ∀ j, j < zs.length → ∀ i v, (enc zs[j]!)[i]? = some v → W.cell? ⟨b, off + j * k + i, none⟩ = some v)

theorem RowsAt.below {α : Type} [Inhabited α] {W W' : World} {a : Option Addr} {cap k : Nat} {enc : α → List Value} {zs : List α} (h : RowsAt W a cap k enc zs) (hb : Below W.heap.size W W') : RowsAt W' a cap k enc zs := by
  obtain ⟨hl, hm, hc⟩ := h
  refine ⟨hl, hm, fun h0 => ?_⟩
  obtain ⟨b, off, ha, hlt, hcell⟩ := hc h0
  exact ⟨b, off, ha, Nat.lt_of_lt_of_le hlt hb.size, fun j hj i v hv => (hb.cell (p := ⟨b, _, none⟩) hlt).trans (hcell j hj i v hv)⟩

theorem add_none (b off k : Nat) : (Addr.add ⟨b, off, none⟩ k) = ⟨b, off + k, none⟩ := by
  unfold Addr.add
  split
  · rename_i h; subst h; rfl
  · rfl

/-- A list that came in, of elements that read as so many cells. -/
theorem open_rows {α : Type} [Inhabited α] {H : Type} {enc0 : TypeId × Value → H} {W : World} {t e : TypeId} {k : Nat} {enc : α → List Value} {cs : List Value} {fuel : Nat} {y : DataW H × List MemPlace} (ht : Try.prog.underlying t = some (.slice e)) (ce : Try.prog.cellsOf e = k) (k0 : 0 < k)
    (he : ∀ (n : Nat) (cs : List Value) (y : DataW H × List MemPlace), DataW.trod enc0 Try.prog W 0 (fun _ => true) true n e cs = some y → cs.length = k → ∃ x : α, cs = enc x)
    (hf : DataW.trod enc0 Try.prog W 0 (fun _ => true) true fuel t cs = some y) (hlt : ∀ x ∈ y.2, x.block < W.heap.size) : ∃ a cap zs, cs = [.slice a zs.length cap] ∧ RowsAt W a cap k enc zs := by
  rcases Deep.open_slice ht hf with ⟨hcs, _⟩ | ⟨a, len, cap, m, n, D, Pl, hcs, _, hl, hm, hmm, hx, hel⟩
  · exact ⟨none, 0, [], hcs, Nat.le_refl _, Nat.zero_le _, fun h => absurd h (Nat.lt_irrefl _)⟩
  · have hmm' : m = cap := by simpa using hmm
    have each : ∀ i, i < len → ∃ q : α, (enc q).length = k ∧ ∀ j v, (enc q)[j]? = some v → W.cell? (a.add (i * k + j)) = some v := by
      intro i hi
      obtain ⟨cs', h1, h2⟩ := hel i (by omega)
      rw [ce] at h1
      obtain ⟨_, hlen, hcell⟩ := World.cells?_some h1
      obtain ⟨x, rfl⟩ := he _ _ _ h2 hlen
      refine ⟨x, hlen, fun j v hj => ?_⟩
      have hjk : j < k := by rw [← hlen]; exact (List.getElem?_eq_some_iff.1 hj).1
      have e0 := hcell j (by omega)
      rw [Deep.add_add] at e0
      rw [e0, hj]
    obtain ⟨f, hq⟩ := Deep.choose_lt each
    have hget : ∀ j, j < len → (List.ofFn (fun i : Fin len => f i.1))[j]! = f j := fun j hj => by
      rw [getElem!_pos _ _ (by simpa using hj)]; simp
    refine ⟨some a, cap, List.ofFn (fun i : Fin len => f i.1), by rw [hcs]; simp, by simpa using hl, hm, fun h0 => ?_⟩
    simp only [List.length_ofFn] at h0 ⊢
    have hk := (hq 0 h0).1
    have hs : a.spot = none := by
      have hv : ∃ v, (enc (f 0))[0]? = some v := ⟨_, List.getElem?_eq_getElem (by omega)⟩
      obtain ⟨v, hv⟩ := hv
      have := cell_spot ((hq 0 h0).2 0 v hv)
      simpa [Addr.add] using this
    obtain ⟨b, off, sp⟩ := a
    simp only at hs
    subst hs
    have hmem : MemPlace.cell b off ∈ y.2 := by
      rw [hx]
      refine List.mem_append_left _ ?_
      simp only [MemPlace.row, List.mem_map, List.mem_range]
      exact ⟨0, by rw [ce, hmm']; exact Nat.mul_pos (by omega) k0, by simp⟩
    refine ⟨b, off, rfl, hlt _ hmem, fun j hj i v hv => ?_⟩
    rw [hget j hj] at hv
    have := (hq j hj).2 i v hv
    rw [add_none] at this
    rw [Nat.add_assoc]
    exact this

theorem stay_elem {H : Type} {enc : TypeId × Value → H} {w : World} {base : Nat} {spare : Nat → Bool} {held : Bool} {n : Nat} {cs : List Value} {y : DataW H × List MemPlace}
    (h : DataW.trod enc Try.prog w base spare held n 102 cs = some y) (hl : cs.length = 8) : ∃ x : Stay, cs = x.enc := by
  have k1 : Try.prog.cellsOf 3 = 1 := by kernel_rfl
  have k3 : Try.prog.cellsOf 38 = 4 := by kernel_rfl
  have k6 : Try.prog.cellsOf 36 = 3 := by kernel_rfl
  have k7 : Try.prog.cellsOf 100 = 3 := by kernel_rfl
  obtain ⟨y0, y1, y2, k, _, _, h0, h1, h2⟩ := Deep.trod_struct3 Try.underlying102 h
  match cs, hl with
  | [e0, e1, e2, e3, e4, e5, e6, e7], _ =>
    simp [k1, k3, k7] at h0 h1 h2
    obtain ⟨t, g0, _, _⟩ := DataW.trod_int Try.underlying3 h0
    obtain ⟨u0, u1, m2, _, _, c0, c1⟩ := trod_struct2 Try.underlying38 h1
    simp [k1, k6] at c0 c1
    obtain ⟨id, q0, _, _⟩ := DataW.trod_int Try.underlying3 c0
    obtain ⟨v0, v1, v2, m3, _, _, d0, d1, d2⟩ := Deep.trod_struct3 Try.underlying36 c1
    simp [k1] at d0 d1 d2
    obtain ⟨a, q1, _, _⟩ := DataW.trod_int Try.underlying3 d0
    obtain ⟨b, q2, _, _⟩ := DataW.trod_int Try.underlying3 d1
    obtain ⟨c, q3, _, _⟩ := DataW.trod_int Try.underlying3 d2
    obtain ⟨v3, v4, v5, m4, _, _, p0, p1, p2⟩ := Deep.trod_struct3 Try.underlying100 h2
    simp [k1] at p0 p1 p2
    obtain ⟨x, r1, _, _⟩ := DataW.trod_int Try.underlying3 p0
    obtain ⟨y, r2, _, _⟩ := DataW.trod_int Try.underlying3 p1
    obtain ⟨z, r3, _, _⟩ := DataW.trod_int Try.underlying3 p2
    simp at g0 q0 q1 q2 q3 r1 r2 r3
    subst g0 q0 q1 q2 q3 r1 r2 r3
    exact ⟨⟨t, id, a, b, c, x, y, z⟩, rfl⟩

theorem job_elem {H : Type} {enc : TypeId × Value → H} {w : World} {base : Nat} {spare : Nat → Bool} {held : Bool} {n : Nat} {cs : List Value} {y : DataW H × List MemPlace}
    (h : DataW.trod enc Try.prog w base spare held n 104 cs = some y) (hl : cs.length = 2) : ∃ x : Job, cs = x.enc := by
  have k1 : Try.prog.cellsOf 3 = 1 := by kernel_rfl
  have k2 : Try.prog.cellsOf 4 = 1 := by kernel_rfl
  obtain ⟨u0, u1, m2, _, _, c0, c1⟩ := trod_struct2 Try.underlying104 h
  match cs, hl with
  | [e0, e1], _ =>
    simp [k1, k2] at c0 c1
    obtain ⟨t, g0, _, _⟩ := DataW.trod_int Try.underlying3 c0
    obtain ⟨f, g1, _⟩ := DataW.trod_bool Try.underlying4 c1
    simp at g0 g1
    subst g0 g1
    exact ⟨⟨t, f⟩, rfl⟩

/-- A book, as it stands as a value; and its two lists in memory. -/
structure Book where
  last : Int
  sa : Option Addr
  sc : Nat
  ja : Option Addr
  jc : Nat
  stays : List Stay
  jobs : List Job

def Book.val (b : Book) : Value := .agg #[.int .i64 b.last, .slice b.sa b.stays.length b.sc, .slice b.ja b.jobs.length b.jc]
def Book.At (b : Book) (W : World) : Prop := RowsAt W b.sa b.sc 8 Stay.enc b.stays ∧ RowsAt W b.ja b.jc 2 Job.enc b.jobs
theorem Book.At.below {b : Book} {W W' : World} (h : b.At W) (hb : Below W.heap.size W W') : b.At W' := ⟨h.1.below hb, h.2.below hb⟩

theorem open_book {H : Type} {enc : TypeId × Value → H} {W : World} {b0 : Nat} {v : Value} {d : DataW H} {p : List MemPlace} (hv : Value.okWide Try.prog W .any b0 43 v)
    (h : DataW.Trod enc Try.prog W 0 (fun _ => true) true 43 v d p) (hlt : ∀ x ∈ p, x.block < W.heap.size) : ∃ b : Book, v = b.val ∧ b.At W ∧ IntKind.i64.has b.last := by
  obtain ⟨cs, rfl, hs, hh⟩ := val_struct (ts := [3, 40, 41]) Try.underlying43 (by kernel_rfl) (by kernel_rfl) hv
  obtain ⟨c0, c1, c2, rfl⟩ := array_of_size3 hs
  obtain ⟨last, rfl, wl⟩ := cell_int Try.underlying3 (hh 0 _ _ rfl rfl)
  obtain ⟨fuel, hf⟩ := h
  have k1 : Try.prog.cellsOf 3 = 1 := by kernel_rfl
  have k2 : Try.prog.cellsOf 40 = 1 := by kernel_rfl
  have k3 : Try.prog.cellsOf 41 = 1 := by kernel_rfl
  obtain ⟨y0, y1, y2, k, he, hp, h0, h1, h2⟩ := Deep.trod_struct3 Try.underlying43 hf
  simp [k1, k2, k3, Value.cells] at h0 h1 h2
  simp only [Prod.mk.injEq] at he
  obtain ⟨sa, sc, stays, e1, r1⟩ := open_rows (enc := Stay.enc) (k := 8) Try.underlying40 (by kernel_rfl) (by omega) (fun _ _ _ h hl => stay_elem h hl) h1 (fun x hx => hlt x (by rw [he.2]; simp [hx]))
  obtain ⟨ja, jc, jobs, e2, r2⟩ := open_rows (enc := Job.enc) (k := 2) Try.underlying41 (by kernel_rfl) (by omega) (fun _ _ _ h hl => job_elem h hl) h2 (fun x hx => hlt x (by rw [he.2]; simp [hx]))
  simp only [List.cons.injEq, and_true] at e1 e2
  subst e1 e2
  exact ⟨⟨last, sa, sc, ja, jc, stays, jobs⟩, rfl, ⟨r1, r2⟩, wl⟩
end Bk
end Go.Proofs.Ytmojjjikaaclpaa
