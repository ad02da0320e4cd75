/- Chapter 1: a list of sizes that came in: how it lies in memory; what the check of levels answers (A2); contracts for the laws. -/
import Derived.Test.YtopgllmjeliklaaGreatDoorJShelf
import Derived.Deep.Slices
import Derived.Deep.Strs
namespace Go.Proofs.YtopgllmjeliklaaGreatDoor
open Go.ChangeShapes Go.WideShapes Go.ChangeAt Go.RowKit
set_option maxRecDepth 100000
set_option linter.unusedSimpArgs false
set_option linter.unusedVariables false

/-- A list of sizes lies in memory: its length, and each size by its number. -/
def SizesAt (W : World) (v : Value) (len : Nat) (f : Nat → Int × Int × Int) : Prop :=
  ∃ (a : Option Addr) (cap : Nat), v = .slice a len cap ∧ len ≤ cap ∧ cap ≤ maxLen ∧
    (0 < len → ∃ b off, a = some ⟨b, off, none⟩ ∧ b < W.heap.size ∧ ∀ i, i < len →
      W.cell? ⟨b, off + i * 3, none⟩ = some (.int .i64 (f i).1) ∧ W.cell? ⟨b, off + i * 3 + 1, none⟩ = some (.int .i64 (f i).2.1) ∧ W.cell? ⟨b, off + i * 3 + 2, none⟩ = some (.int .i64 (f i).2.2))

theorem SizesAt.below {W W' : World} {v : Value} {len : Nat} {f : Nat → Int × Int × Int} (h : SizesAt W v len f) (hb : Below W.heap.size W W') : SizesAt W' v len f := by
  obtain ⟨a, cap, hv, hl, hm, hc⟩ := h
  refine ⟨a, cap, hv, hl, hm, fun h0 => ?_⟩
  obtain ⟨b, off, ha, hlt, hcell⟩ := hc h0
  refine ⟨b, off, ha, Nat.lt_of_lt_of_le hlt hb.size, fun i hi => ?_⟩
  obtain ⟨c0, c1, c2⟩ := hcell i hi
  exact ⟨(hb.cell (p := ⟨b, _, none⟩) hlt).trans c0, (hb.cell (p := ⟨b, _, none⟩) hlt).trans c1, (hb.cell (p := ⟨b, _, none⟩) hlt).trans c2⟩

theorem cell_spot {w : World} {a : Addr} {v : Value} (h : w.cell? a = some v) : a.spot = none := by
  unfold World.cell? at h
  cases hs : a.spot with
  | none => rfl
  | some s =>
    simp [hs] at h
    split at h <;> cases h

theorem size_elem {H : Type} {enc : TypeId × Value → H} {w : World} {base : Nat} {spare : Nat → Bool} {held : Bool} {n : Nat} {cs : List Value} {y : DataW H × List MemPlace}
    (h : DataW.trod enc Tryz.prog w base spare held n 32 cs = some y) (hl : cs.length = 3) : ∃ x y z, cs = [.int .i64 x, .int .i64 y, .int .i64 z] := by
  obtain ⟨y0, y1, y2, k, _, _, h0, h1, h2⟩ := Deep.trod_struct3 Tryz.underlying32 h
  match cs, hl with
  | [c0, c1, c2], _ =>
    have k3 : Tryz.prog.cellsOf 3 = 1 := by kernel_rfl
    obtain ⟨x, e0, _, _⟩ := DataW.trod_int Tryz.underlying3 h0
    obtain ⟨y, e1, _, _⟩ := DataW.trod_int Tryz.underlying3 h1
    obtain ⟨z, e2, _, _⟩ := DataW.trod_int Tryz.underlying3 h2
    simp [k3] at e0 e1 e2
    exact ⟨x, y, z, by rw [e0, e1, e2]⟩

theorem open_sizes {H : Type} {enc : TypeId × Value → H} {W : World} {b0 : Nat} {v : Value} {d : DataW H} {p : List MemPlace} (hv : Value.okWide Tryz.prog W .any b0 22 v)
    (h : DataW.Trod enc Tryz.prog W 0 (fun _ => true) true 22 v d p) (hlt : ∀ x ∈ p, x.block < W.heap.size) : ∃ len f, SizesAt W v len f := by
  obtain ⟨a0, len0, cap0, rfl⟩ := okWide_slice Tryz.underlying22 hv
  obtain ⟨fuel, hf⟩ := h
  have ce : Tryz.prog.cellsOf 32 = 3 := by kernel_rfl
  rcases Deep.open_slice Tryz.underlying22 (by simpa [Value.cells] using hf) with ⟨hcs, _⟩ | ⟨a, len, cap, m, n, D, Pl, hcs, _, hl, hm, hmm, hx, hel⟩
  · simp at hcs
    obtain ⟨rfl, rfl, rfl⟩ := hcs
    exact ⟨0, fun _ => (0, 0, 0), none, 0, rfl, Nat.le_refl _, Nat.zero_le _, fun h => absurd h (Nat.lt_irrefl _)⟩
  · simp at hcs hmm
    obtain ⟨rfl, rfl, rfl⟩ := hcs
    have each : ∀ i, i < len0 → ∃ q : Int × Int × Int, W.cell? (a.add (i * 3)) = some (.int .i64 q.1) ∧ W.cell? (a.add (i * 3 + 1)) = some (.int .i64 q.2.1) ∧ W.cell? (a.add (i * 3 + 2)) = some (.int .i64 q.2.2) := by
      intro i hi
      obtain ⟨cs', h1, h2⟩ := hel i (by omega)
      rw [ce] at h1
      obtain ⟨_, hlen, hcell⟩ := World.cells?_some h1
      obtain ⟨x, y, z, rfl⟩ := size_elem h2 hlen
      have e0 := hcell 0 (by omega)
      have e1 := hcell 1 (by omega)
      have e2 := hcell 2 (by omega)
      rw [Deep.add_add] at e0 e1 e2
      exact ⟨(x, y, z), by simpa using e0, by simpa using e1, by simpa using e2⟩
    obtain ⟨f, hq⟩ := Deep.choose_lt each
    refine ⟨len0, f, some a, cap0, rfl, hl, hm, fun h0 => ?_⟩
    have hs : a.spot = none := by
      have := cell_spot (hq 0 h0).1
      simpa [Addr.add] using this
    obtain ⟨b, off, sp⟩ := a
    simp only at hs
    subst hs
    have hmem : MemPlace.cell b off ∈ p := by
      simp only [Prod.mk.injEq] at hx
      rw [hx.2]
      refine List.mem_append_left _ ?_
      simp only [MemPlace.row, List.mem_map, List.mem_range]
      exact ⟨0, by rw [ce]; omega, by simp⟩
    refine ⟨b, off, rfl, hlt _ hmem, fun i hi => ?_⟩
    obtain ⟨c0, c1, c2⟩ := hq i hi
    have ad : ∀ k, (Addr.add ⟨b, off, none⟩ k) = ⟨b, off + k, none⟩ := by
      intro k
      unfold Addr.add
      split
      · rename_i h; subst h; rfl
      · rfl
    rw [ad] at c0 c1 c2
    exact ⟨c0, by rw [Nat.add_assoc]; exact c1, by rw [Nat.add_assoc]; exact c2⟩

/-- What is wrong with one level, beside the last one: 0, 1, 3. -/
def levelN (s l : Int × Int × Int) : Int := if sizeB s.1 s.2.1 s.2.2 = true then (if fitsB s.1 s.2.1 s.2.2 l.1 l.2.1 l.2.2 = true then 0 else 3) else 1
/-- The first fault of so many levels from i on. -/
def levelsFrom (f : Nat → Int × Int × Int) (l : Int × Int × Int) : Nat → Nat → Int
  | 0, _ => 0
  | n + 1, i => if levelN (f i) l = 0 then levelsFrom f l n (i + 1) else levelN (f i) l
def levelsN (len : Nat) (f : Nat → Int × Int × Int) : Int := if 1 ≤ len ∧ len ≤ 4 then levelsFrom f (f (len - 1)) len 0 else 2

theorem within_any' (n l m : Int) (w : World) : Calls Tryz.prog 63 #[.int .i64 n, .int .i64 l, .int .i64 m] w fun e w' => e = .returned (.bool (decide (l ≤ n ∧ n ≤ m))) ∧ w = w' :=
  (within_any n l m w).mono fun e w' h => ⟨h.1, h.2.symm⟩

set_option maxHeartbeats 400000 in
theorem check_many (v : Value) (len : Nat) (f : Nat → Int × Int × Int) (w : World) (hs : SizesAt w v len f) (hn : ¬ (1 ≤ len ∧ len ≤ 4)) :
    Calls Tryz.prog 45 #[v] w fun e w' => e = .returned (errV (levelsN len f)) ∧ Below w.heap.size w w' := by
  obtain ⟨a, cap, rfl, hl, hm, _⟩ := hs
  unfold maxLen at hm
  have K : Hid (levelsN len f = 2) := by show _ = _; simp [levelsN, hn]
  have hd : decide ((1 : Int) ≤ (len : Int) ∧ (len : Int) ≤ 4) = false := by simp only [decide_eq_false_iff_not]; omega
  clear hn
  go_enter Tryz.func45, Tryz.ntmps45
  go_wp2_with (go_at_call 63; refine (within_any _ _ _ _).mono ?_; rw [hd]; rintro e w' ⟨rfl, rfl⟩)
  go_returns
  exact ⟨by rw [K.out]; rfl, by go_grown⟩

set_option maxHeartbeats 1000000 in
theorem check_few (b off len cap : Nat) (f : Nat → Int × Int × Int) (w : World) (h1 : 1 ≤ len) (h4 : len ≤ 4) (hb : b < w.heap.size)
    (hc : ∀ i, i < len → w.cell? ⟨b, off + i * 3, none⟩ = some (.int .i64 (f i).1) ∧ w.cell? ⟨b, off + i * 3 + 1, none⟩ = some (.int .i64 (f i).2.1) ∧ w.cell? ⟨b, off + i * 3 + 2, none⟩ = some (.int .i64 (f i).2.2)) :
    Calls Tryz.prog 45 #[.slice (some ⟨b, off, none⟩) len cap] w fun e w' => e = .returned (errV (levelsN len f)) ∧ Below w.heap.size w w' := by
  have HC : Hid _ := hc
  clear hc
  have hd : decide ((1 : Int) ≤ (len : Int) ∧ (len : Int) ≤ 4) = true := by simp only [decide_eq_true_eq]; omega
  obtain ⟨l0, l1, l2⟩ := HC.out (len - 1) (by omega)
  have L : Hid (levelsN len f = levelsFrom f (f (len - 1)) len 0) := by show _ = _; simp [levelsN, h1, h4]
  have bl := hb
  generalize hl : f (len - 1) = l at *
  have HL : Hid (f (len - 1) = l) := hl
  clear hl
  go_enter Tryz.func45, Tryz.ntmps45
  go_wp2_with (go_at_call 63; refine (within_any' _ _ _ _).mono ?_; rw [hd]; rintro e wx ⟨rfl, hwx⟩; subst hwx)
  clear l0 l1 l2 hd
  go_loopw [20] (fun i wr => ∃ k : Nat, k ≤ len ∧ i = .int .i64 k ∧ Hid (levelsFrom f l len 0 = levelsFrom f l (len - k) k) ∧ Below w.heap.size w wr ∧ w.heap.size < wr.heap.size ∧ (∀ o, wr.cell? ⟨w.heap.size, o, none⟩ = (#[.int .i64 l.1, .int .i64 l.2.1, .int .i64 l.2.2] : Array Value)[o]?))
    (fun i _ => len - (intOf i).toNat)
  case atStart => exact ⟨0, Nat.zero_le _, rfl, rfl, B.new1 _ _, by simp, B.row_new _ _ _⟩
  case round =>
    obtain ⟨k, hk, rfl, HF, hB, hz, hrow⟩ := hrel
    by_cases hlt : k < len
    · obtain ⟨c0, c1, c2⟩ := HC.out k hlt
      rw [← hB.cell (p := ⟨b, _, none⟩) bl] at c0 c1 c2
      have hs : Hid (levelsFrom f l (len - k) k = if levelN (f k) l = 0 then levelsFrom f l (len - (k + 1)) (k + 1) else levelN (f k) l) := by
        show _ = _
        rw [show len - k = (len - (k + 1)) + 1 from by omega]
        rfl
      generalize hfk : f k = s at *
      have HK : Hid (f k = s) := hfk
      clear hfk
      cases hsz : sizeB s.1 s.2.1 s.2.2
      · have HN : Hid (levelN s l = 1) := by show _ = _; simp [levelN, hsz]
        have HS : Hid (sizeB s.1 s.2.1 s.2.2 = false) := hsz
        clear hsz
        go_wp2_with fail
        refine (checkSize_any _ _ _ _).mono ?_
        rintro e w1 ⟨rfl, hb1⟩
        rw [HS.out, faultN_f, errV_ne (by decide)]
        go_wp2
        go_returns
        refine ⟨?_, B.next (hB.alloc (Nat.le_of_lt hz) _) hb1 (by simp; omega)⟩
        rw [L.out, HF.out, hs.out, HN.out]
        rfl
      · have HS : Hid (sizeB s.1 s.2.1 s.2.2 = true) := hsz
        clear hsz
        cases hft : fitsB s.1 s.2.1 s.2.2 l.1 l.2.1 l.2.2
        · have HN : Hid (levelN s l = 3) := by show _ = _; simp [levelN, HS.out, hft]
          have HT : Hid (fitsB s.1 s.2.1 s.2.2 l.1 l.2.1 l.2.2 = false) := hft
          clear hft
          go_wp2_with fail
          refine (checkSize_any _ _ _ _).mono ?_
          rintro e w1 ⟨rfl, hb1⟩
          rw [HS.out, faultN_t, errV0]
          have z1 : wr.heap.size + 1 ≤ w1.heap.size := by have := hb1.size; simp at this; omega
          have r1 := B.row hb1 (B.row_old _ hrow hz) (by simp; omega)
          have e1 := B.row hb1 (B.row_new wr _ _) (by simp)
          have B1 : Hid (Below w.heap.size w w1) := B.next (hB.alloc (Nat.le_of_lt hz) _) hb1 (by simp; omega)
          clear hb1 hrow
          go_wp2_with fail
          refine (fits_any _ _ _ _ _ _ _).mono ?_
          rintro e w2 ⟨rfl, hb2⟩
          rw [HT.out]
          go_wp2
          go_returns
          refine ⟨?_, B.next B1.out hb2 (by omega)⟩
          rw [L.out, HF.out, hs.out, HN.out]
          rfl
        · have HN : Hid (levelN s l = 0) := by show _ = _; simp [levelN, HS.out, hft]
          have HT : Hid (fitsB s.1 s.2.1 s.2.2 l.1 l.2.1 l.2.2 = true) := hft
          clear hft
          go_wp2_with fail
          refine (checkSize_any _ _ _ _).mono ?_
          rintro e w1 ⟨rfl, hb1⟩
          rw [HS.out, faultN_t, errV0]
          have z1 : wr.heap.size + 1 ≤ w1.heap.size := by have := hb1.size; simp at this; omega
          have r1 := B.row hb1 (B.row_old _ hrow hz) (by simp; omega)
          have e1 := B.row hb1 (B.row_new wr _ _) (by simp)
          have B1 : Hid (Below w.heap.size w w1) := B.next (hB.alloc (Nat.le_of_lt hz) _) hb1 (by simp; omega)
          clear hb1 hrow
          go_wp2_with fail
          refine (fits_any _ _ _ _ _ _ _).mono ?_
          rintro e w2 ⟨rfl, hb2⟩
          rw [HT.out]
          have z2 := hb2.size
          have r2 := B.row hb2 r1 (by omega)
          have B2 : Hid (Below w.heap.size w w2) := B.next B1.out hb2 (by omega)
          clear hb2 r1 e1 B1
          go_wp2
          go_roundw
          case rel => exact ⟨k + 1, by omega, by go_num, by show _ = _; rw [HF.out, hs.out, HN.out, if_pos rfl], B2.out, by omega, r2⟩
          case measure => simp [intOf]; omega
    · go_wp2
      go_returns
      refine ⟨?_, hB⟩
      rw [L.out, HF.out, show len - k = 0 from by omega]
      rfl

end Go.Proofs.YtopgllmjeliklaaGreatDoor

namespace Go.Proofs.YtopgllmjeliklaaGreatDoor
open Go.ChangeShapes Go.WideShapes Go.ChangeAt Go.RowKit
set_option maxRecDepth 100000
set_option linter.unusedSimpArgs false
set_option linter.unusedVariables false

namespace Bk
/-- A stay, number by number. -/
structure Stay where
  t : Int
  id : Int
  a : Int
  b : Int
  c : Int
  x : Int
  y : Int
  z : Int
deriving DecidableEq, Inhabited

/-- A job. -/
structure Job where
  t : Int
  f : Bool
deriving DecidableEq, Inhabited

def Stay.enc (s : Stay) : List Value := [.int .i64 s.t, .int .i64 s.id, .int .i64 s.a, .int .i64 s.b, .int .i64 s.c, .int .i64 s.x, .int .i64 s.y, .int .i64 s.z]
def Job.enc (j : Job) : List Value := [.int .i64 j.t, .bool j.f]

/-- A list of structs of k cells lies in memory. -/
def RowsAt {α : Type} [Inhabited α] (W : World) (a : Option Addr) (cap k : Nat) (enc : α → List Value) (zs : List α) : Prop :=
  zs.length ≤ cap ∧ cap ≤ maxLen ∧ (0 < zs.length → ∃ b off, a = some ⟨b, off, none⟩ ∧ b < W.heap.size ∧ ∀ j, j < zs.length → ∀ i v, (enc zs[j]!)[i]? = some v → W.cell? ⟨b, off + j * k + i, none⟩ = some v)

theorem RowsAt.below {α : Type} [Inhabited α] {W W' : World} {a : Option Addr} {cap k : Nat} {enc : α → List Value} {zs : List α} (h : RowsAt W a cap k enc zs) (hb : Below W.heap.size W W') : RowsAt W' a cap k enc zs := by
  obtain ⟨hl, hm, hc⟩ := h
  refine ⟨hl, hm, fun h0 => ?_⟩
  obtain ⟨b, off, ha, hlt, hcell⟩ := hc h0
  exact ⟨b, off, ha, Nat.lt_of_lt_of_le hlt hb.size, fun j hj i v hv => (hb.cell (p := ⟨b, _, none⟩) hlt).trans (hcell j hj i v hv)⟩

theorem add_none (b off k : Nat) : (Addr.add ⟨b, off, none⟩ k) = ⟨b, off + k, none⟩ := by
  unfold Addr.add
  split
  · rename_i h; subst h; rfl
  · rfl

/-- A list that came in, of elements that read as so many cells. -/
theorem open_rows {α : Type} [Inhabited α] {H : Type} {enc0 : TypeId × Value → H} {W : World} {t e : TypeId} {k : Nat} {enc : α → List Value} {cs : List Value} {fuel : Nat} {y : DataW H × List MemPlace} (ht : Tryz.prog.underlying t = some (.slice e)) (ce : Tryz.prog.cellsOf e = k) (k0 : 0 < k)
    (he : ∀ (n : Nat) (cs : List Value) (y : DataW H × List MemPlace), DataW.trod enc0 Tryz.prog W 0 (fun _ => true) true n e cs = some y → cs.length = k → ∃ x : α, cs = enc x)
    (hf : DataW.trod enc0 Tryz.prog W 0 (fun _ => true) true fuel t cs = some y) (hlt : ∀ x ∈ y.2, x.block < W.heap.size) : ∃ a cap zs, cs = [.slice a zs.length cap] ∧ RowsAt W a cap k enc zs := by
  rcases Deep.open_slice ht hf with ⟨hcs, _⟩ | ⟨a, len, cap, m, n, D, Pl, hcs, _, hl, hm, hmm, hx, hel⟩
  · exact ⟨none, 0, [], hcs, Nat.le_refl _, Nat.zero_le _, fun h => absurd h (Nat.lt_irrefl _)⟩
  · have hmm' : m = cap := by simpa using hmm
    have each : ∀ i, i < len → ∃ q : α, (enc q).length = k ∧ ∀ j v, (enc q)[j]? = some v → W.cell? (a.add (i * k + j)) = some v := by
      intro i hi
      obtain ⟨cs', h1, h2⟩ := hel i (by omega)
      rw [ce] at h1
      obtain ⟨_, hlen, hcell⟩ := World.cells?_some h1
      obtain ⟨x, rfl⟩ := he _ _ _ h2 hlen
      refine ⟨x, hlen, fun j v hj => ?_⟩
      have hjk : j < k := by rw [← hlen]; exact (List.getElem?_eq_some_iff.1 hj).1
      have e0 := hcell j (by omega)
      rw [Deep.add_add] at e0
      rw [e0, hj]
    obtain ⟨f, hq⟩ := Deep.choose_lt each
    have hget : ∀ j, j < len → (List.ofFn (fun i : Fin len => f i.1))[j]! = f j := fun j hj => by
      rw [getElem!_pos _ _ (by simpa using hj)]; simp
    refine ⟨some a, cap, List.ofFn (fun i : Fin len => f i.1), by rw [hcs]; simp, by simpa using hl, hm, fun h0 => ?_⟩
    simp only [List.length_ofFn] at h0 ⊢
    have hk := (hq 0 h0).1
    have hs : a.spot = none := by
      have hv : ∃ v, (enc (f 0))[0]? = some v := ⟨_, List.getElem?_eq_getElem (by omega)⟩
      obtain ⟨v, hv⟩ := hv
      have := cell_spot ((hq 0 h0).2 0 v hv)
      simpa [Addr.add] using this
    obtain ⟨b, off, sp⟩ := a
    simp only at hs
    subst hs
    have hmem : MemPlace.cell b off ∈ y.2 := by
      rw [hx]
      refine List.mem_append_left _ ?_
      simp only [MemPlace.row, List.mem_map, List.mem_range]
      exact ⟨0, by rw [ce, hmm']; exact Nat.mul_pos (by omega) k0, by simp⟩
    refine ⟨b, off, rfl, hlt _ hmem, fun j hj i v hv => ?_⟩
    rw [hget j hj] at hv
    have := (hq j hj).2 i v hv
    rw [add_none] at this
    rw [Nat.add_assoc]
    exact this

theorem stay_elem {H : Type} {enc : TypeId × Value → H} {w : World} {base : Nat} {spare : Nat → Bool} {held : Bool} {n : Nat} {cs : List Value} {y : DataW H × List MemPlace}
    (h : DataW.trod enc Tryz.prog w base spare held n 67 cs = some y) (hl : cs.length = 8) : ∃ x : Stay, cs = x.enc := by
  have k1 : Tryz.prog.cellsOf 3 = 1 := by kernel_rfl
  have k3 : Tryz.prog.cellsOf 34 = 4 := by kernel_rfl
  have k6 : Tryz.prog.cellsOf 32 = 3 := by kernel_rfl
  have k7 : Tryz.prog.cellsOf 65 = 3 := by kernel_rfl
  obtain ⟨y0, y1, y2, k, _, _, h0, h1, h2⟩ := Deep.trod_struct3 Tryz.underlying67 h
  match cs, hl with
  | [e0, e1, e2, e3, e4, e5, e6, e7], _ =>
    simp [k1, k3, k7] at h0 h1 h2
    obtain ⟨t, g0, _, _⟩ := DataW.trod_int Tryz.underlying3 h0
    obtain ⟨u0, u1, m2, _, _, c0, c1⟩ := trod_struct2 Tryz.underlying34 h1
    simp [k1, k6] at c0 c1
    obtain ⟨id, q0, _, _⟩ := DataW.trod_int Tryz.underlying3 c0
    obtain ⟨v0, v1, v2, m3, _, _, d0, d1, d2⟩ := Deep.trod_struct3 Tryz.underlying32 c1
    simp [k1] at d0 d1 d2
    obtain ⟨a, q1, _, _⟩ := DataW.trod_int Tryz.underlying3 d0
    obtain ⟨b, q2, _, _⟩ := DataW.trod_int Tryz.underlying3 d1
    obtain ⟨c, q3, _, _⟩ := DataW.trod_int Tryz.underlying3 d2
    obtain ⟨v3, v4, v5, m4, _, _, p0, p1, p2⟩ := Deep.trod_struct3 Tryz.underlying65 h2
    simp [k1] at p0 p1 p2
    obtain ⟨x, r1, _, _⟩ := DataW.trod_int Tryz.underlying3 p0
    obtain ⟨y, r2, _, _⟩ := DataW.trod_int Tryz.underlying3 p1
    obtain ⟨z, r3, _, _⟩ := DataW.trod_int Tryz.underlying3 p2
    simp at g0 q0 q1 q2 q3 r1 r2 r3
    subst g0 q0 q1 q2 q3 r1 r2 r3
    exact ⟨⟨t, id, a, b, c, x, y, z⟩, rfl⟩

theorem job_elem {H : Type} {enc : TypeId × Value → H} {w : World} {base : Nat} {spare : Nat → Bool} {held : Bool} {n : Nat} {cs : List Value} {y : DataW H × List MemPlace}
    (h : DataW.trod enc Tryz.prog w base spare held n 88 cs = some y) (hl : cs.length = 2) : ∃ x : Job, cs = x.enc := by
  have k1 : Tryz.prog.cellsOf 3 = 1 := by kernel_rfl
  have k2 : Tryz.prog.cellsOf 4 = 1 := by kernel_rfl
  obtain ⟨u0, u1, m2, _, _, c0, c1⟩ := trod_struct2 Tryz.underlying88 h
  match cs, hl with
  | [e0, e1], _ =>
    simp [k1, k2] at c0 c1
    obtain ⟨t, g0, _, _⟩ := DataW.trod_int Tryz.underlying3 c0
    obtain ⟨f, g1, _⟩ := DataW.trod_bool Tryz.underlying4 c1
    simp at g0 g1
    subst g0 g1
    exact ⟨⟨t, f⟩, rfl⟩

/-- A book, as it stands as a value; and its two lists in memory. -/
structure Book where
  last : Int
  sa : Option Addr
  sc : Nat
  ja : Option Addr
  jc : Nat
  stays : List Stay
  jobs : List Job

def Book.val (b : Book) : Value := .agg #[.int .i64 b.last, .slice b.sa b.stays.length b.sc, .slice b.ja b.jobs.length b.jc]
def Book.At (b : Book) (W : World) : Prop := RowsAt W b.sa b.sc 8 Stay.enc b.stays ∧ RowsAt W b.ja b.jc 2 Job.enc b.jobs
theorem Book.At.below {b : Book} {W W' : World} (h : b.At W) (hb : Below W.heap.size W W') : b.At W' := ⟨h.1.below hb, h.2.below hb⟩

theorem open_book {H : Type} {enc : TypeId × Value → H} {W : World} {b0 : Nat} {v : Value} {d : DataW H} {p : List MemPlace} (hv : Value.okWide Tryz.prog W .any b0 39 v)
    (h : DataW.Trod enc Tryz.prog W 0 (fun _ => true) true 39 v d p) (hlt : ∀ x ∈ p, x.block < W.heap.size) : ∃ b : Book, v = b.val ∧ b.At W ∧ IntKind.i64.has b.last := by
  obtain ⟨cs, rfl, hs, hh⟩ := val_struct (ts := [3, 36, 37]) Tryz.underlying39 (by kernel_rfl) (by kernel_rfl) hv
  obtain ⟨c0, c1, c2, rfl⟩ := array_of_size3 hs
  obtain ⟨last, rfl, wl⟩ := cell_int Tryz.underlying3 (hh 0 _ _ rfl rfl)
  obtain ⟨fuel, hf⟩ := h
  have k1 : Tryz.prog.cellsOf 3 = 1 := by kernel_rfl
  have k2 : Tryz.prog.cellsOf 36 = 1 := by kernel_rfl
  have k3 : Tryz.prog.cellsOf 37 = 1 := by kernel_rfl
  obtain ⟨y0, y1, y2, k, he, hp, h0, h1, h2⟩ := Deep.trod_struct3 Tryz.underlying39 hf
  simp [k1, k2, k3, Value.cells] at h0 h1 h2
  simp only [Prod.mk.injEq] at he
  obtain ⟨sa, sc, stays, e1, r1⟩ := open_rows (enc := Stay.enc) (k := 8) Tryz.underlying36 (by kernel_rfl) (by omega) (fun _ _ _ h hl => stay_elem h hl) h1 (fun x hx => hlt x (by rw [he.2]; simp [hx]))
  obtain ⟨ja, jc, jobs, e2, r2⟩ := open_rows (enc := Job.enc) (k := 2) Tryz.underlying37 (by kernel_rfl) (by omega) (fun _ _ _ h hl => job_elem h hl) h2 (fun x hx => hlt x (by rw [he.2]; simp [hx]))
  simp only [List.cons.injEq, and_true] at e1 e2
  subst e1 e2
  exact ⟨⟨last, sa, sc, ja, jc, stays, jobs⟩, rfl, ⟨r1, r2⟩, wl⟩
end Bk
end Go.Proofs.YtopgllmjeliklaaGreatDoor
