/- Cars Alike CarsPure HvL HsZ. -/
import Derived.Test.YtopgllmjeliklaaGreatDoorKHsX
set_option maxRecDepth 100000
set_option linter.unusedSimpArgs false
set_option linter.unusedVariables false
namespace Go.Proofs.YtopgllmjeliklaaGreatDoor
open Go.ChangeShapes Go.WideShapes Go.ChangeAt Go.RowKit Go.Maps
namespace Pl
open Ac
def ints (l : List Int) : List Value := l.map (Value.int .i64)
theorem ints_append (l m : List Int) : ints (l ++ m) = ints l ++ ints m := by simp [ints]
def carN (s : St) (m : Nat) : Int := carOf s.D (((m / 4 : Nat) : Int) + 1) ((m % 4 / 2 : Nat) : Int) ((m % 2 : Nat) : Int)
def headL (s : St) : List Int := (if s.li = 0 then [] else [s.li]) ++ (if s.ba = 0 then [] else [s.ba])
def carsTo (s : St) : Nat → List Int
 | 0 => headL s
 | m + 1 => if carN s m = 0 then carsTo s m else carsTo s m ++ [carN s m]
def carsL (s : St) : List Int := carsTo s 16
def IntsOwn (w w' : World) (v : Value) (l : List Int) : Prop := w'.ownsRow w.heap.size 3 1 v l.length (ints l) ∧ Below w.heap.size w w'
theorem IntsOwn.grown {w W w3 : World} {v v' : Value} {l : List Int} {x : Int} (h : IntsOwn w W v l) (ho : w3.ownsRow w.heap.size 3 1 v' (l.length + 1) (ints l ++ [.int .i64 x])) (hg : W.grownBy w3 v.ownBlock) : IntsOwn w w3 v' (l ++ [x]) := by
 refine ⟨?_, Below.grown h.2 hg h.2.size (fun k hk => (h.1.lt k hk).1)⟩
 rw [ints_append, List.length_append]; exact ho
end Pl
namespace Pl
open Ac
def IntsAt (w : World) (v : Value) (l : List Int) : Prop :=
 ∃ (ad : Option Addr) (cap : Nat), v = .slice ad l.length cap ∧ l.length ≤ cap ∧ cap ≤ maxLen ∧
  (0 < l.length → ∃ b off, ad = some ⟨b, off, none⟩ ∧ b < w.heap.size ∧ ∀ i, i < l.length → w.cell? ⟨b, off + i, none⟩ = some (.int .i64 (l.getD i 0)))
theorem count_take (l : List Int) (x : Int) (j : Nat) (hj : j < l.length) : (l.take (j + 1)).count x = (l.take j).count x + (if l.getD j 0 = x then 1 else 0) := by
 rw [List.take_add_one, List.getElem?_eq_getElem hj, List.count_append]; have : l.getD j 0 = l[j] := by simp [List.getD, List.getElem?_eq_getElem hj]
 rw [this]
 simp [List.count_cons]
def more (a b : List Int) (x : Int) (j : Nat) : Int := ((a.take j).count x : Int) - ((b.take j).count x : Int)
end Pl
namespace Pl
open Ac
def one (a x : Int) : Nat := if a = x then 1 else 0
def countN (g : Nat → Int) (x : Int) : Nat → Nat
 | 0 => 0
 | m + 1 => countN g x m + one (g m) x
def cnt (s : St) (x : Int) : Nat := one s.li x + one s.ba x + countN (carN s) x 16
theorem one_self (a : Int) : one a a = 1 := by simp [one]
theorem one_ne {a x : Int} (h : a ≠ x) : one a x = 0 := by simp [one, h]
theorem head_count (s : St) (x : Int) (hx : x ≠ 0) : (headL s).count x = one s.li x + one s.ba x := by
 unfold headL one
 by_cases h1 : s.li = 0 <;> by_cases h2 : s.ba = 0 <;> simp [h1, h2, List.count_cons] <;> (repeat' split) <;> simp_all <;> omega
theorem carsTo_count (s : St) (x : Int) (hx : x ≠ 0) : ∀ m, (carsTo s m).count x = one s.li x + one s.ba x + countN (carN s) x m
 | 0 => by simp [carsTo, countN, head_count s x hx]
 | m + 1 => by
   have ih := carsTo_count s x hx m; unfold carsTo countN
   split
   ·rename_i h
    rw [ih, h, one_ne (a := 0) (x := x) (by omega)]
    omega
   ·rw [List.count_append, ih]
    simp only [List.count_cons, List.count_nil, one, beq_iff_eq]
    omega
theorem carsTo_zero (s : St) : ∀ m, (carsTo s m).count 0 = 0
 | 0 => by
   unfold carsTo headL
   by_cases h1 : s.li = 0 <;> by_cases h2 : s.ba = 0 <;> simp [h1, h2, List.count_cons]
 | m + 1 => by
   unfold carsTo
   split
   ·exact carsTo_zero s m
   ·rename_i h
    rw [List.count_append, carsTo_zero s m]
    simp [List.count_cons, h]
theorem carsL_count (s : St) (x : Int) : (carsL s).count x = if x = 0 then 0 else cnt s x := by
 split
 ·rename_i h; subst h; exact carsTo_zero s 16
 ·rename_i h; exact carsTo_count s x h 16
theorem spot_idx {X Y Z : Int} (hX : 1 ≤ X ∧ X ≤ 4) (hY : 0 ≤ Y ∧ Y ≤ 1) (hZ : 0 ≤ Z ∧ Z ≤ 1) :
  ∃ m0, m0 < 16 ∧ (((m0 / 4 : Nat) : Int) + 1 = X ∧ ((m0 % 4 / 2 : Nat) : Int) = Y ∧ ((m0 % 2 : Nat) : Int) = Z) ∧ ∀ j, j ≠ m0 → ¬ (((j / 4 : Nat) : Int) + 1 = X ∧ ((j % 4 / 2 : Nat) : Int) = Y ∧ ((j % 2 : Nat) : Int) = Z) := by
 refine ⟨4 * (X - 1).toNat + 2 * Y.toNat + Z.toNat, by omega, by omega, fun j hj => by omega⟩
theorem countN_pos {g : Nat → Int} {x : Int} : ∀ m, 0 < countN g x m ↔ ∃ j, j < m ∧ g j = x
 | 0 => by simp [countN]
 | m + 1 => by
   have ih := countN_pos (g := g) (x := x) m; unfold countN one
   constructor
   ·intro h
    by_cases e : g m = x
    ·exact ⟨m, by omega, e⟩
    ·rw [if_neg e] at h
     obtain ⟨j, hj, e⟩ := ih.1 (by omega); exact ⟨j, by omega, e⟩
   ·rintro ⟨j, hj, e⟩
    by_cases em : j = m
    ·subst em; rw [if_pos e]; omega
    ·have := ih.2 ⟨j, by omega, e⟩; omega
theorem atB_pos {s : St} {x : Int} : atB s.D x = true ↔ 0 < countN (carN s) x 16 := by
 rw [countN_pos, atB_iff]
 constructor
 ·rintro ⟨X, Y, Z, ⟨h1, h2, h3⟩, e⟩
  obtain ⟨m0, hm, ⟨e1, e2, e3⟩, _⟩ := spot_idx h1 h2 h3; exact ⟨m0, hm, by unfold carN; rw [e1, e2, e3]; exact e⟩
 ·rintro ⟨j, hj, e⟩
  exact ⟨_, _, _, by omega, e⟩
theorem hasB_pos {s : St} {x : Int} (hx : x ≠ 0) : hasB s x = true ↔ 0 < cnt s x := by
 have := atB_pos (s := s) (x := x); unfold hasB cnt one; simp only [Bool.and_eq_true, bne_iff_ne, ne_eq, hx, not_false_eq_true, true_and, Bool.or_eq_true, beq_iff_eq, this]
 by_cases h1 : s.li = x <;> by_cases h2 : s.ba = x <;> simp [h1, h2] <;> omega
def Uniq (s : St) : Prop := ∀ x, x ≠ 0 → cnt s x ≤ 1
theorem cnt_arrive {s : St} (id x : Int) (hx : x ≠ 0) (ha : arriveB id s = true) : cnt (arriveS id s) x = cnt s x + one id x := by
 unfold arriveS; rw [if_pos ha]; simp only [arriveB, Bool.and_eq_true, beq_iff_eq] at ha; have : carN { s with ba := id } = carN s := rfl; simp only [cnt, this, ha.1.2]; rw [one_ne (a := 0) (by omega)]
 omega
theorem Uniq.arrive {s : St} (h : Uniq s) (id : Int) (ha : arriveB id s = true) : Uniq (arriveS id s) := fun x hx => by
 rw [cnt_arrive id x hx ha]; simp only [arriveB, Bool.and_eq_true, beq_iff_eq, Bool.not_eq_true'] at ha
 by_cases e : id = x
 ·subst e
  have hp := hasB_pos (s := s) hx; rw [ha.2] at hp
  simp at hp
  rw [hp, one_self]
  omega
 ·rw [one_ne e]; exact h x hx
theorem told {s : St} (hu : Uniq s) (k : Nat) (hk : k < (carsL s).length) : hasB s ((carsL s).getD k 0) = true ∧ ((carsL s).take k).contains ((carsL s).getD k 0) = false := by
 have h1 := count_take (carsL s) ((carsL s).getD k 0) k hk; rw [if_pos rfl] at h1; have h2 : ((carsL s).take (k + 1)).count ((carsL s).getD k 0) ≤ (carsL s).count ((carsL s).getD k 0) := (List.take_sublist (k + 1) (carsL s)).count_le _; rw [carsL_count] at h2; generalize (carsL s).getD k 0 = x at *
 by_cases hx : x = 0
 ·rw [if_pos hx] at h2; omega
 ·rw [if_neg hx] at h2
  have h3 := hu x hx; refine ⟨(hasB_pos hx).2 (by omega), ?_⟩; have h4 : ((carsL s).take k).count x = 0 := by omega
  rw [← Bool.not_eq_true, List.contains_iff_mem]; exact List.count_eq_zero.1 h4
end Pl
end Go.Proofs.YtopgllmjeliklaaGreatDoor
namespace Go.Proofs.YtopgllmjeliklaaGreatDoor
open Go.Shelf Go.Lib Go.ChangeShapes Go.WideShapes Go.ChangeAt Go.RowKit Go.Maps
namespace Hs
open Bk Lg Pl Dk Tx Tn Ac
theorem countN_one {g : Nat → Int} {x : Int} : ∀ m, (∀ i j, i < m → j < m → g i = x → g j = x → i = j) → countN g x m ≤ 1
 | 0, _ => by unfold countN; omega
 | m + 1, h => by
   unfold countN
   by_cases e : g m = x
   ·have : countN g x m = 0 := by
     rcases Nat.eq_zero_or_pos (countN g x m) with h0 | h0
     ·exact h0
     ·obtain ⟨j, hj, e'⟩ := (countN_pos m).1 h0
      have := h j m (by omega) (by omega) e' e
      omega
    rw [this]; unfold Pl.one
    split <;> omega
   ·rw [one_ne e]
    have := countN_one m (fun i j hi hj => h i j (by omega) (by omega))
    omega
theorem carN_in (j : Nat) (hj : j < 16) : InR (((j / 4 : Nat) : Int) + 1) ((j % 4 / 2 : Nat) : Int) ((j % 2 : Nat) : Int) := by
 unfold InR
 omega
theorem count_out (l : List Stay) (x : Int) (h : ∀ v ∈ l, v.id ≠ x) : (l.map (·.id)).count x = 0 := by
 rw [List.count_eq_zero]
 intro hm
 obtain ⟨v, hv, e⟩ := List.mem_map.1 hm; exact h v hv e
theorem count_in : ∀ (l : List Stay) (x : Int), l.Pairwise (fun a b => a.id ≠ b.id) → (∃ v ∈ l, v.id = x) → (l.map (·.id)).count x = 1
 | [], x, _, h => by obtain ⟨v, hv, _⟩ := h; cases hv
 | a :: l, x, h, hx => by
   rw [List.map_cons, List.count_cons]
   by_cases e : a.id = x
   ·rw [count_out l x fun v hv e' => List.rel_of_pairwise_cons h hv (by rw [e, e'])]
    simp [e]
   ·have e' : (a.id == x) = false := by simpa using e
    rw [e', count_in l x h.of_cons (by
     obtain ⟨v, hv, q⟩ := hx
     rcases List.mem_cons.1 hv with k | k
     ·rw [k] at q; exact absurd q e
     ·exact ⟨v, k, q⟩)]
    rfl
theorem Fin.home {m : Nat} {σ : Sg} (w : Wf m σ) (f : Fin σ) {v : Stay} (hv : v ∈ σ.b.stays) : carOf σ.s.D v.x v.y v.z = v.id := by
 have sf := w.sf; have co := w.wg.co; have hi := sf.i1 v hv
 have hsp : C σ.s m 1 0 = 0 := Classical.byContradiction fun h => by
  obtain ⟨p, _, _, _, q1, _⟩ := co.sp h; rw [f.js] at q1; cases q1
 rcases co.jb v hv with e | e | e | ⟨j, hj, _⟩
 ·exact e
 ·omega
 ·have := f.li; omega
 ·rw [f.js] at hj; cases hj
theorem Fin.spare {m : Nat} {σ : Sg} (w : Wf m σ) (f : Fin σ) : carOf σ.s.D m 1 0 = 0 := Classical.byContradiction fun h => by
 obtain ⟨p, _, _, _, q1, _⟩ := w.wg.co.sp h; rw [f.js] at q1; cases q1
theorem Fin.cars {m : Nat} {σ : Sg} (w : Wf m σ) (f : Fin σ) : (carsL σ.s).length = σ.b.stays.length := by
 have sf := w.sf; have co := w.wg.co
 have hp : σ.b.stays.Pairwise (fun a b => a.id ≠ b.id) := w.ok.s.pair.imp fun {a b} h => by
  have := h.2; unfold clash at this; simp only [Bool.or_eq_false_iff, beq_eq_false_iff_ne, ne_eq] at this; exact this.2
 have key : ∀ x, (carsL σ.s).count x = (σ.b.stays.map (·.id)).count x := fun x => by
  rw [carsL_count]
  by_cases h0 : x = 0
  ·rw [if_pos h0, count_out]
   intro v hv e
   have := sf.i1 v hv; omega
  ·rw [if_neg h0]
   have e1 : cnt σ.s x = countN (Pl.carN σ.s) x 16 := by
    unfold cnt; rw [f.li, f.ba, one_ne (a := 0) (by omega)]
    omega
   rw [e1]
   have hle : countN (Pl.carN σ.s) x 16 ≤ 1 := countN_one 16 fun i j hi hj ei ej => by
    have := co.u1 _ _ _ _ _ _ (carN_in i hi) (carN_in j hj) (by show Pl.carN σ.s i ≠ 0; rw [ei]; exact h0) (by show Pl.carN σ.s i = Pl.carN σ.s j; rw [ei, ej])
    omega
   have hpos : 0 < countN (Pl.carN σ.s) x 16 ↔ ∃ v ∈ σ.b.stays, v.id = x := by
    rw [countN_pos]
    constructor
    ·rintro ⟨j, hj, e⟩
     obtain ⟨v, hv, k, _⟩ := co.pl _ _ _ (carN_in j hj) (by show Pl.carN σ.s j ≠ 0; rw [e]; exact h0)
     exact ⟨v, hv, k.trans e⟩
    ·rintro ⟨v, hv, e⟩
     have hh := f.home w hv; obtain ⟨r1, r2, r3⟩ := (sf.r v hv).1; obtain ⟨m0, hm, ⟨e1, e2, e3⟩, _⟩ := spot_idx r1 r2 r3; exact ⟨m0, hm, by unfold Pl.carN; rw [e1, e2, e3, hh, e]⟩
   by_cases h : ∃ v ∈ σ.b.stays, v.id = x
   ·have := hpos.2 h
    rw [count_in _ _ hp h]; omega
   ·rw [count_out _ _ fun v hv e => h ⟨v, hv, e⟩]
    have : ¬ 0 < countN (Pl.carN σ.s) x 16 := fun k => h (hpos.1 k)
    omega
 have := (List.perm_iff_count.2 key).length_eq; rw [this, List.length_map]
end Hs
end Go.Proofs.YtopgllmjeliklaaGreatDoor
namespace Go.Proofs.YtopgllmjeliklaaGreatDoor
open Go.Shelf Go.Lib Go.ChangeShapes Go.WideShapes Go.ChangeAt Go.RowKit
namespace Hs
open Bk Lg Pl Dk Tx Tn Ac
structure Good7 (lv : List (Int × Int × Int)) (σ : Sg) : Prop where
 wf : Wf lv.length σ
 og : Og lv.length σ.gs
theorem Good7.start (f : Nat → Int × Int × Int) {len : Nat} (h1 : 1 ≤ len) (h4 : len ≤ 4) : Good7 (rowsOf f len) ⟨newS len, ⟨0, [], []⟩, []⟩ := by
 have e := rowsOf_len f len; refine ⟨by rw [e]; exact Wf.start h1 h4, Og.nil _⟩
theorem Good7.play {lv : List (Int × Int × Int)} {x : ActC} {σ σ' : Sg} (h : Good7 lv σ) (ok : BookOK σ'.b.last lv.length σ'.b.stays σ'.b.jobs) (hp : PlayR lv x σ σ') : Good7 lv σ' :=
 ⟨h.wf.play ok hp, Og.play h.wf h.og hp⟩
theorem Good7.tick {lv : List (Int × Int × Int)} {σ σ' : Sg} (h : Good7 lv σ) (t : TickR lv.length σ σ') : Good7 lv σ' :=
 ⟨h.wf.tick t, Og.tick h.wf h.og t⟩
theorem Good7.anew {lv : List (Int × Int × Int)} {σ : Sg} (h : Good7 lv σ) : Good7 lv ⟨σ.s, σ.b, []⟩ := ⟨h.wf.anew, Og.nil _⟩
end Hs
end Go.Proofs.YtopgllmjeliklaaGreatDoor
