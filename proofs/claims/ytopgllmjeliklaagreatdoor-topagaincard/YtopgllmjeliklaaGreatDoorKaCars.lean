/- Cars Alike CarsPure HvL Cars0 HsY HsZ. -/
import Derived.Test.YtopgllmjeliklaaGreatDoorKaHsX
set_option maxRecDepth 100000
set_option linter.unusedSimpArgs false
set_option linter.unusedVariables false
namespace Go.Proofs.YtopgllmjeliklaaGreatDoor
open Go.ChangeShapes Go.WideShapes Go.ChangeAt Go.RowKit Go.Maps
namespace Pl
open Ac
def ints (l : List Int) : List Value := l.map (Value.int .i64)
theorem ints_append (l m : List Int) : ints (l ++ m) = ints l ++ ints m := by simp [ints]
def carN (s : St) (m : Nat) : Int := carOf s.D (((m / 4 : Nat) : Int) + 1) ((m % 4 / 2 : Nat) : Int) ((m % 2 : Nat) : Int)
def headL (s : St) : List Int := (if s.li = 0 then [] else [s.li]) ++ (if s.ba = 0 then [] else [s.ba])
def carsTo (s : St) : Nat → List Int
 | 0 => headL s
 | m + 1 => if carN s m = 0 then carsTo s m else carsTo s m ++ [carN s m]
def carsL (s : St) : List Int := carsTo s 16
theorem headL_le (s : St) : (headL s).length ≤ 2 := by
 unfold headL
 split <;> split <;> simp
theorem carsTo_le (s : St) : ∀ m, (carsTo s m).length ≤ m + 2
 | 0 => headL_le s
 | m + 1 => by
   have := carsTo_le s m; unfold carsTo
   split
   ·omega
   ·simp; omega
theorem carN_at (s : St) (k j : Nat) (hj : j < 4) : carN s (4 * k + j) = carOf s.D ((k : Int) + 1) ((j / 2 : Nat) : Int) ((j % 2 : Nat) : Int) := by
 unfold carN; rw [show (4 * k + j) / 4 = k from by omega, show (4 * k + j) % 4 = j from by omega, show (4 * k + j) % 2 = j % 2 from by omega]
def IntsOwn (w w' : World) (v : Value) (l : List Int) : Prop := w'.ownsRow w.heap.size 3 1 v l.length (ints l) ∧ Below w.heap.size w w'
theorem IntsOwn.below {w wx W : World} {v : Value} {l : List Int} (h : IntsOwn w wx v l) (hb : Below wx.heap.size wx W) : IntsOwn w W v l :=
 ⟨owns_below h.1 hb, B.next h.2 hb h.2.size⟩
theorem IntsOwn.grown {w W w3 : World} {v v' : Value} {l : List Int} {x : Int} (h : IntsOwn w W v l) (ho : w3.ownsRow w.heap.size 3 1 v' (l.length + 1) (ints l ++ [.int .i64 x])) (hg : W.grownBy w3 v.ownBlock) : IntsOwn w w3 v' (l ++ [x]) := by
 refine ⟨?_, Below.grown h.2 hg h.2.size (fun k hk => (h.1.lt k hk).1)⟩
 rw [ints_append, List.length_append]; exact ho
theorem IntsOwn.nil {w W : World} (h : Below w.heap.size w W) : IntsOwn w W (.slice none 0 0) [] := ⟨World.ownsRow_nil _ _ _ _, h⟩
theorem Tryz.infoInt : (Tryz.prog.info? 3).map (fun i => (i.zero, i.size, i.bytes)) = some (some (.int .i64 0), 1, 8) := by kernel_rfl
end Pl
namespace Pl
open Ac
def IntsAt (w : World) (v : Value) (l : List Int) : Prop :=
 ∃ (ad : Option Addr) (cap : Nat), v = .slice ad l.length cap ∧ l.length ≤ cap ∧ cap ≤ maxLen ∧
  (0 < l.length → ∃ b off, ad = some ⟨b, off, none⟩ ∧ b < w.heap.size ∧ ∀ i, i < l.length → w.cell? ⟨b, off + i, none⟩ = some (.int .i64 (l.getD i 0)))
theorem IntsOwn.at {w w' : World} {v : Value} {l : List Int} (h : IntsOwn w w' v l) : IntsAt w' v l := by
 rcases h.1.2 with ⟨rfl, h0⟩ | ⟨g, cap, cur, rfl, hg, r⟩
 ·exact ⟨none, 0, by rw [h0], by omega, Nat.zero_le _, fun h => by omega⟩
 ·have hlt := (h.1.lt g rfl).2
  refine ⟨some ⟨g, 0, none⟩, cap, rfl, ?_, ?_, fun h0 => ⟨g, 0, rfl, hlt, fun i hi => ?_⟩⟩
  ·exact r.2.1
  ·exact r.2.2.1
  ·have := h.1.cells (g := g) rfl i (.int .i64 (l.getD i 0)) (by simp [ints, List.getD, List.getElem?_eq_getElem hi])
   have ad : (⟨g, 0, none⟩ : Addr).add i = ⟨g, 0 + i, none⟩ := by
    unfold Addr.add
    split
    ·rename_i h; subst h; rfl
    ·simp
   rw [ad] at this; exact this
def more (a b : List Int) (x : Int) (j : Nat) : Int := ((a.take j).count x : Int) - ((b.take j).count x : Int)
end Pl
namespace Pl
open Ac
def one (a x : Int) : Nat := if a = x then 1 else 0
def countN (g : Nat → Int) (x : Int) : Nat → Nat
 | 0 => 0
 | m + 1 => countN g x m + one (g m) x
def cnt (s : St) (x : Int) : Nat := one s.li x + one s.ba x + countN (carN s) x 16
theorem one_ne {a x : Int} (h : a ≠ x) : one a x = 0 := by simp [one, h]
theorem head_count (s : St) (x : Int) (hx : x ≠ 0) : (headL s).count x = one s.li x + one s.ba x := by
 unfold headL one
 by_cases h1 : s.li = 0 <;> by_cases h2 : s.ba = 0 <;> simp [h1, h2, List.count_cons] <;> (repeat' split) <;> simp_all <;> omega
theorem carsTo_count (s : St) (x : Int) (hx : x ≠ 0) : ∀ m, (carsTo s m).count x = one s.li x + one s.ba x + countN (carN s) x m
 | 0 => by simp [carsTo, countN, head_count s x hx]
 | m + 1 => by
   have ih := carsTo_count s x hx m; unfold carsTo countN
   split
   ·rename_i h
    rw [ih, h, one_ne (a := 0) (x := x) (by omega)]
    omega
   ·rw [List.count_append, ih]
    simp only [List.count_cons, List.count_nil, one, beq_iff_eq]
    omega
theorem carsTo_zero (s : St) : ∀ m, (carsTo s m).count 0 = 0
 | 0 => by
   unfold carsTo headL
   by_cases h1 : s.li = 0 <;> by_cases h2 : s.ba = 0 <;> simp [h1, h2, List.count_cons]
 | m + 1 => by
   unfold carsTo
   split
   ·exact carsTo_zero s m
   ·rename_i h
    rw [List.count_append, carsTo_zero s m]
    simp [List.count_cons, h]
theorem carsL_count (s : St) (x : Int) : (carsL s).count x = if x = 0 then 0 else cnt s x := by
 split
 ·rename_i h; subst h; exact carsTo_zero s 16
 ·rename_i h; exact carsTo_count s x h 16
theorem spot_idx {X Y Z : Int} (hX : 1 ≤ X ∧ X ≤ 4) (hY : 0 ≤ Y ∧ Y ≤ 1) (hZ : 0 ≤ Z ∧ Z ≤ 1) :
  ∃ m0, m0 < 16 ∧ (((m0 / 4 : Nat) : Int) + 1 = X ∧ ((m0 % 4 / 2 : Nat) : Int) = Y ∧ ((m0 % 2 : Nat) : Int) = Z) ∧ ∀ j, j ≠ m0 → ¬ (((j / 4 : Nat) : Int) + 1 = X ∧ ((j % 4 / 2 : Nat) : Int) = Y ∧ ((j % 2 : Nat) : Int) = Z) := by
 refine ⟨4 * (X - 1).toNat + 2 * Y.toNat + Z.toNat, by omega, by omega, fun j hj => by omega⟩
theorem countN_pos {g : Nat → Int} {x : Int} : ∀ m, 0 < countN g x m ↔ ∃ j, j < m ∧ g j = x
 | 0 => by simp [countN]
 | m + 1 => by
   have ih := countN_pos (g := g) (x := x) m; unfold countN one
   constructor
   ·intro h
    by_cases e : g m = x
    ·exact ⟨m, by omega, e⟩
    ·rw [if_neg e] at h
     obtain ⟨j, hj, e⟩ := ih.1 (by omega); exact ⟨j, by omega, e⟩
   ·rintro ⟨j, hj, e⟩
    by_cases em : j = m
    ·subst em; rw [if_pos e]; omega
    ·have := ih.2 ⟨j, by omega, e⟩; omega
def Uniq (s : St) : Prop := ∀ x, x ≠ 0 → cnt s x ≤ 1
end Pl
end Go.Proofs.YtopgllmjeliklaaGreatDoor
namespace Go.Proofs.YtopgllmjeliklaaGreatDoor
open Go.Shelf Go.Lib Go.ChangeShapes Go.WideShapes Go.ChangeAt Go.RowKit Go.Maps
namespace Hs
open Bk Lg Pl Dk Tx Tn Ac
theorem countN_one {g : Nat → Int} {x : Int} : ∀ m, (∀ i j, i < m → j < m → g i = x → g j = x → i = j) → countN g x m ≤ 1
 | 0, _ => by unfold countN; omega
 | m + 1, h => by
   unfold countN
   by_cases e : g m = x
   ·have : countN g x m = 0 := by
     rcases Nat.eq_zero_or_pos (countN g x m) with h0 | h0
     ·exact h0
     ·obtain ⟨j, hj, e'⟩ := (countN_pos m).1 h0
      have := h j m (by omega) (by omega) e' e
      omega
    rw [this]; unfold Pl.one
    split <;> omega
   ·rw [one_ne e]
    have := countN_one m (fun i j hi hj => h i j (by omega) (by omega))
    omega
theorem carN_in (j : Nat) (hj : j < 16) : InR (((j / 4 : Nat) : Int) + 1) ((j % 4 / 2 : Nat) : Int) ((j % 2 : Nat) : Int) := by
 unfold InR
 omega
theorem count_out (l : List Stay) (x : Int) (h : ∀ v ∈ l, v.id ≠ x) : (l.map (·.id)).count x = 0 := by
 rw [List.count_eq_zero]
 intro hm
 obtain ⟨v, hv, e⟩ := List.mem_map.1 hm; exact h v hv e
theorem count_in : ∀ (l : List Stay) (x : Int), l.Pairwise (fun a b => a.id ≠ b.id) → (∃ v ∈ l, v.id = x) → (l.map (·.id)).count x = 1
 | [], x, _, h => by obtain ⟨v, hv, _⟩ := h; cases hv
 | a :: l, x, h, hx => by
   rw [List.map_cons, List.count_cons]
   by_cases e : a.id = x
   ·rw [count_out l x fun v hv e' => List.rel_of_pairwise_cons h hv (by rw [e, e'])]
    simp [e]
   ·have e' : (a.id == x) = false := by simpa using e
    rw [e', count_in l x h.of_cons (by
     obtain ⟨v, hv, q⟩ := hx
     rcases List.mem_cons.1 hv with k | k
     ·rw [k] at q; exact absurd q e
     ·exact ⟨v, k, q⟩)]
    rfl
theorem Fin.home {m : Nat} {σ : Sg} (w : Wf m σ) (f : Fin σ) {v : Stay} (hv : v ∈ σ.b.stays) : carOf σ.s.D v.x v.y v.z = v.id := by
 have sf := w.sf; have co := w.wg.co; have hi := sf.i1 v hv
 have hsp : C σ.s m 1 0 = 0 := Classical.byContradiction fun h => by
  obtain ⟨p, _, _, _, q1, _⟩ := co.sp h; rw [f.js] at q1; cases q1
 rcases co.jb v hv with e | e | e | ⟨j, hj, _⟩
 ·exact e
 ·omega
 ·have := f.li; omega
 ·rw [f.js] at hj; cases hj
theorem Fin.spare {m : Nat} {σ : Sg} (w : Wf m σ) (f : Fin σ) : carOf σ.s.D m 1 0 = 0 := Classical.byContradiction fun h => by
 obtain ⟨p, _, _, _, q1, _⟩ := w.wg.co.sp h; rw [f.js] at q1; cases q1
theorem Fin.cars {m : Nat} {σ : Sg} (w : Wf m σ) (f : Fin σ) : (carsL σ.s).length = σ.b.stays.length := by
 have sf := w.sf; have co := w.wg.co
 have hp : σ.b.stays.Pairwise (fun a b => a.id ≠ b.id) := w.ok.s.pair.imp fun {a b} h => by
  have := h.2; unfold clash at this; simp only [Bool.or_eq_false_iff, beq_eq_false_iff_ne, ne_eq] at this; exact this.2
 have key : ∀ x, (carsL σ.s).count x = (σ.b.stays.map (·.id)).count x := fun x => by
  rw [carsL_count]
  by_cases h0 : x = 0
  ·rw [if_pos h0, count_out]
   intro v hv e
   have := sf.i1 v hv; omega
  ·rw [if_neg h0]
   have e1 : cnt σ.s x = countN (Pl.carN σ.s) x 16 := by
    unfold cnt; rw [f.li, f.ba, one_ne (a := 0) (by omega)]
    omega
   rw [e1]
   have hle : countN (Pl.carN σ.s) x 16 ≤ 1 := countN_one 16 fun i j hi hj ei ej => by
    have := co.u1 _ _ _ _ _ _ (carN_in i hi) (carN_in j hj) (by show Pl.carN σ.s i ≠ 0; rw [ei]; exact h0) (by show Pl.carN σ.s i = Pl.carN σ.s j; rw [ei, ej])
    omega
   have hpos : 0 < countN (Pl.carN σ.s) x 16 ↔ ∃ v ∈ σ.b.stays, v.id = x := by
    rw [countN_pos]
    constructor
    ·rintro ⟨j, hj, e⟩
     obtain ⟨v, hv, k, _⟩ := co.pl _ _ _ (carN_in j hj) (by show Pl.carN σ.s j ≠ 0; rw [e]; exact h0)
     exact ⟨v, hv, k.trans e⟩
    ·rintro ⟨v, hv, e⟩
     have hh := f.home w hv; obtain ⟨r1, r2, r3⟩ := (sf.r v hv).1; obtain ⟨m0, hm, ⟨e1, e2, e3⟩, _⟩ := spot_idx r1 r2 r3; exact ⟨m0, hm, by unfold Pl.carN; rw [e1, e2, e3, hh, e]⟩
   by_cases h : ∃ v ∈ σ.b.stays, v.id = x
   ·have := hpos.2 h
    rw [count_in _ _ hp h]; omega
   ·rw [count_out _ _ fun v hv e => h ⟨v, hv, e⟩]
    have : ¬ 0 < countN (Pl.carN σ.s) x 16 := fun k => h (hpos.1 k)
    omega
 have := (List.perm_iff_count.2 key).length_eq; rw [this, List.length_map]
end Hs
end Go.Proofs.YtopgllmjeliklaaGreatDoor
namespace Go.Proofs.YtopgllmjeliklaaGreatDoor
open Go.ChangeShapes Go.WideShapes Go.ChangeAt Go.RowKit Go.Maps
namespace Pl
open Ac
set_option maxHeartbeats 4000000 in
theorem cars0_any (pb mb n : Nat) (s : St) (w : World) (hp : IsP w pb mb n s) (iv : Inv s) (hl0 : s.li = 0) (hb0 : s.ba = 0) : Calls Tryz.prog 28 #[.pointer (some ⟨pb, 0, none⟩)] w fun e w' => ∃ v, e = .returned v ∧ IntsOwn w w' v (carsL s) := by
 obtain ⟨i0, hi, hi0, hi1, hi2⟩ := info_parts Tryz.infoInt; have HP : Hid (∀ w1, Below w.heap.size w w1 → IsP w1 pb mb n s) := fun w1 hb => hp.below hb
 have HSe : Hid (Calls Tryz.prog 19 #[.pointer (some ⟨pb, 0, none⟩)] w fun e w' => e = .returned (senseV s) ∧ Below w.heap.size w w') := sense_any pb mb n s w hp iv.ok
 have HV : Hid (senseV s = .agg #[.int .i64 s.h, .int .i64 s.ex, .bool s.op, .int .i64 s.pe, .int .i64 s.li, .int .i64 s.ba, .bool (carAtI s.D s.lv s.h s.ex != 0), .bool (carAtI s.D s.lv s.h (s.ex - 1) != 0), .bool (carAtI s.D s.lv s.h (s.ex + 1) != 0)]) := rfl; rw [HV.out] at HSe; have HC0 : Hid (∀ l, carsTo s 0 = l ↔ headL s = l) := fun l => Iff.rfl
 have HH : Hid (headL s = (if s.li = 0 then [] else [s.li]) ++ (if s.ba = 0 then [] else [s.ba])) := rfl
 have HST : Hid (∀ m, carsTo s (m + 1) = if carN s m = 0 then carsTo s m else carsTo s m ++ [carN s m]) := fun m => rfl
 have HLE : Hid (∀ m, (carsTo s m).length ≤ m + 2) := carsTo_le s
 have HAT : Hid (∀ (k j : Nat), k < 4 → j < 4 → ∀ w1, Below w.heap.size w w1 → Calls Tryz.prog 34 #[.pointer (some ⟨pb, 0, none⟩), .agg #[.int .i64 ((k : Int) + 1), .int .i64 ((j / 2 : Nat) : Int), .int .i64 ((j % 2 : Nat) : Int)]] w1 fun e w' => e = .returned (.int .i64 (carN s (4 * k + j))) ∧ Below w1.heap.size w1 w') := fun k j hk hj w1 hb => by
  rw [carN_at s k j hj]; exact at_any pb mb n s.D _ _ _ w1 (hp.below hb).c7 (hp.below hb).cars (wfI (by omega)) (wfI (by omega)) (wfI (by omega))
 have HL : Hid (carsL s = carsTo s 16) := rfl; rw [HL.out]; have HL0 : Hid (s.li = 0) := hl0; have HB0 : Hid (s.ba = 0) := hb0; clear HV hp iv hl0 hb0; generalize s.li = li at *; generalize s.ba = ba at *; generalize (carAtI s.D s.lv s.h s.ex != 0) = q1 at *; generalize (carAtI s.D s.lv s.h (s.ex - 1) != 0) = q2 at *; generalize (carAtI s.D s.lv s.h (s.ex + 1) != 0) = q3 at *; generalize s.h = h at *; generalize s.ex = ex at *; generalize s.op = op at *; generalize s.pe = pe at *; generalize carsTo s = C at *; generalize carN s = cN at *; have HC1 : Hid (C 0 = headL s) := (HC0.out _).2 rfl; clear HC0 HL; rw [HH.out] at HC1; clear HH; have kl : li = 0 := HL0.out; have kb : ba = 0 := HB0.out; clear HL0 HB0; subst kl; subst kb; simp only [if_true, if_false, List.nil_append, List.append_nil, List.singleton_append] at HC1
 go_enter Tryz.func28, Tryz.ntmps28
 go_wp2_with fail; refine HSe.out.mono ?_; rintro e w1 ⟨rfl, b1⟩; have O1 : Hid (IntsOwn w (w1.alloc (.cells #[.int .i64 h, .int .i64 ex, .bool op, .int .i64 pe, .int .i64 0, .int .i64 0, .bool q1, .bool q2, .bool q3] 46)) (.slice none 0 0) []) := IntsOwn.nil (b1.alloc b1.size _); clear b1 HSe; go_wp2_with fail; have O4 : Hid (IntsOwn w (w1.alloc (.cells #[.int .i64 h, .int .i64 ex, .bool op, .int .i64 pe, .int .i64 0, .int .i64 0, .bool q1, .bool q2, .bool q3] 46)) (.slice none 0 0) (C (4 * 0))) := by rw [show 4 * 0 = 0 from rfl, HC1.out]; exact O1.out
 clear O1 HC1
 go_loopg [4, 5] 4 (fun q v i wr => ∃ k : Nat, k + q = 4 ∧ i = .int .i64 ((k : Int) + 1) ∧ Hid (IntsOwn w wr v (C (4 * k))))
 case atStart => exact ⟨0, by omega, by simp, O4⟩
 case round =>
  obtain ⟨k, hk, rfl, PR⟩ := hrel; have HK : Hid (k + gk = 4) := hk; clear O4
  by_cases hlt : k < 4
  ·have i4 : ((k : Int) + 1) ≤ 4 := by omega
   go_wp2_with fail
   go_loopg [4, 6] 4 (fun q v i wr => ∃ j : Nat, j + q = 4 ∧ i = .int .i64 j ∧ Hid (IntsOwn w wr v (C (4 * k + j))))
   case atStart => exact ⟨0, by omega, rfl, PR⟩
   case round =>
    obtain ⟨j, hj, rfl, PI⟩ := hrel; have HJ : Hid (j + gk = 4) := hj
    by_cases hlj : j < 4
    ·have hat := fun w1 => HAT.out k j hlt hlj w1
     have hst := HST.out (4 * k + j); have hle := HLE.out (4 * k + j); have HST1 : Hid (C (4 * k + (j + 1)) = if cN (4 * k + j) = 0 then C (4 * k + j) else C (4 * k + j) ++ [cN (4 * k + j)]) := hst
     have HAT1 : Hid (∀ w1, Below w.heap.size w w1 → Calls Tryz.prog 34 #[.pointer (some ⟨pb, 0, none⟩), .agg #[.int .i64 ((k : Int) + 1), .int .i64 ((j / 2 : Nat) : Int), .int .i64 ((j % 2 : Nat) : Int)]] w1 fun e w' => e = .returned (.int .i64 (cN (4 * k + j))) ∧ Below w1.heap.size w1 w') := hat
     generalize cN (4 * k + j) = c at *; generalize C (4 * k + j) = L at *; clear hat hst hj; have hJ : j = 0 ∨ j = 1 ∨ j = 2 ∨ j = 3 := by omega
     rcases hJ with rfl | rfl | rfl | rfl
     ·go_wp2_with fail
      refine (HAT1.out _ PI.out.2).mono ?_; rintro e wa ⟨rfl, ba⟩; have PA : Hid (IntsOwn w wa u4 L) := PI.out.below ba; clear ba
      by_cases hc : c = 0
      ·have HCC : Hid (c = 0) := hc
       subst hc; go_wp2_with fail
       go_roundg (gk - 1)
       case measure => have := HJ.out; omega
       case rel => exact ⟨0 + 1, by have := HJ.out; omega, by go_num, by show IntsOwn _ _ _ _; rw [HST1.out, if_pos (by trivial)]; exact PA.out⟩
      ·have PB : Hid (IntsOwn w (wa.alloc (.cells #[.int .i64 c] 3)) u4 L) := PA.out.below (B.new1 _ _)
       have HCC : Hid (¬ c = 0) := hc
       go_wp2_with (first
        | (at_builtin; refine wpList_append_own _ rfl _ _ 56 rfl w.heap.size 3 i0 (.int .i64 0) 1 8 Tryz.underlying56 hi hi0 hi1 hi2 rfl (by decide) _ L.length (ints L) rfl PB.out.1 ⟨wa.heap.size, 0, none⟩ 1 1 [.int .i64 c] rfl rfl (news_new _ _ _ _ (by simp)) (ints_one [c]) (by unfold maxLen; first | omega | simp | (simp; omega)) (by first | omega | simp | (simp; omega)) (by have := (PB.out).2.size; first | omega | (simp at this ⊢; omega)) ?_
           intro v' w3 hown' hgrow3 hnil3
           have X : Hid (IntsOwn w w3 v' (L ++ [c])) := IntsOwn.grown PB.out hown' hgrow3; clear hown' hgrow3 hnil3))
       go_roundg (gk - 1)
       case measure => have := HJ.out; omega
       case rel => exact ⟨0 + 1, by have := HJ.out; omega, by go_num, by show IntsOwn _ _ _ _; rw [HST1.out, if_neg HCC.out]; exact X.out⟩
     ·go_wp2_with fail
      refine (HAT1.out _ PI.out.2).mono ?_; rintro e wa ⟨rfl, ba⟩; have PA : Hid (IntsOwn w wa u4 L) := PI.out.below ba; clear ba
      by_cases hc : c = 0
      ·have HCC : Hid (c = 0) := hc
       subst hc; go_wp2_with fail
       go_roundg (gk - 1)
       case measure => have := HJ.out; omega
       case rel => exact ⟨1 + 1, by have := HJ.out; omega, by go_num, by show IntsOwn _ _ _ _; rw [HST1.out, if_pos (by trivial)]; exact PA.out⟩
      ·have PB : Hid (IntsOwn w (wa.alloc (.cells #[.int .i64 c] 3)) u4 L) := PA.out.below (B.new1 _ _)
       have HCC : Hid (¬ c = 0) := hc
       go_wp2_with (first
        | (at_builtin; refine wpList_append_own _ rfl _ _ 56 rfl w.heap.size 3 i0 (.int .i64 0) 1 8 Tryz.underlying56 hi hi0 hi1 hi2 rfl (by decide) _ L.length (ints L) rfl PB.out.1 ⟨wa.heap.size, 0, none⟩ 1 1 [.int .i64 c] rfl rfl (news_new _ _ _ _ (by simp)) (ints_one [c]) (by unfold maxLen; first | omega | simp | (simp; omega)) (by first | omega | simp | (simp; omega)) (by have := (PB.out).2.size; first | omega | (simp at this ⊢; omega)) ?_
           intro v' w3 hown' hgrow3 hnil3
           have X : Hid (IntsOwn w w3 v' (L ++ [c])) := IntsOwn.grown PB.out hown' hgrow3; clear hown' hgrow3 hnil3))
       go_roundg (gk - 1)
       case measure => have := HJ.out; omega
       case rel => exact ⟨1 + 1, by have := HJ.out; omega, by go_num, by show IntsOwn _ _ _ _; rw [HST1.out, if_neg HCC.out]; exact X.out⟩
     ·go_wp2_with fail
      refine (HAT1.out _ PI.out.2).mono ?_; rintro e wa ⟨rfl, ba⟩; have PA : Hid (IntsOwn w wa u4 L) := PI.out.below ba; clear ba
      by_cases hc : c = 0
      ·have HCC : Hid (c = 0) := hc
       subst hc; go_wp2_with fail
       go_roundg (gk - 1)
       case measure => have := HJ.out; omega
       case rel => exact ⟨2 + 1, by have := HJ.out; omega, by go_num, by show IntsOwn _ _ _ _; rw [HST1.out, if_pos (by trivial)]; exact PA.out⟩
      ·have PB : Hid (IntsOwn w (wa.alloc (.cells #[.int .i64 c] 3)) u4 L) := PA.out.below (B.new1 _ _)
       have HCC : Hid (¬ c = 0) := hc
       go_wp2_with (first
        | (at_builtin; refine wpList_append_own _ rfl _ _ 56 rfl w.heap.size 3 i0 (.int .i64 0) 1 8 Tryz.underlying56 hi hi0 hi1 hi2 rfl (by decide) _ L.length (ints L) rfl PB.out.1 ⟨wa.heap.size, 0, none⟩ 1 1 [.int .i64 c] rfl rfl (news_new _ _ _ _ (by simp)) (ints_one [c]) (by unfold maxLen; first | omega | simp | (simp; omega)) (by first | omega | simp | (simp; omega)) (by have := (PB.out).2.size; first | omega | (simp at this ⊢; omega)) ?_
           intro v' w3 hown' hgrow3 hnil3
           have X : Hid (IntsOwn w w3 v' (L ++ [c])) := IntsOwn.grown PB.out hown' hgrow3; clear hown' hgrow3 hnil3))
       go_roundg (gk - 1)
       case measure => have := HJ.out; omega
       case rel => exact ⟨2 + 1, by have := HJ.out; omega, by go_num, by show IntsOwn _ _ _ _; rw [HST1.out, if_neg HCC.out]; exact X.out⟩
     ·go_wp2_with fail
      refine (HAT1.out _ PI.out.2).mono ?_; rintro e wa ⟨rfl, ba⟩; have PA : Hid (IntsOwn w wa u4 L) := PI.out.below ba; clear ba
      by_cases hc : c = 0
      ·have HCC : Hid (c = 0) := hc
       subst hc; go_wp2_with fail
       go_roundg (gk - 1)
       case measure => have := HJ.out; omega
       case rel => exact ⟨3 + 1, by have := HJ.out; omega, by go_num, by show IntsOwn _ _ _ _; rw [HST1.out, if_pos (by trivial)]; exact PA.out⟩
      ·have PB : Hid (IntsOwn w (wa.alloc (.cells #[.int .i64 c] 3)) u4 L) := PA.out.below (B.new1 _ _)
       have HCC : Hid (¬ c = 0) := hc
       go_wp2_with (first
        | (at_builtin; refine wpList_append_own _ rfl _ _ 56 rfl w.heap.size 3 i0 (.int .i64 0) 1 8 Tryz.underlying56 hi hi0 hi1 hi2 rfl (by decide) _ L.length (ints L) rfl PB.out.1 ⟨wa.heap.size, 0, none⟩ 1 1 [.int .i64 c] rfl rfl (news_new _ _ _ _ (by simp)) (ints_one [c]) (by unfold maxLen; first | omega | simp | (simp; omega)) (by first | omega | simp | (simp; omega)) (by have := (PB.out).2.size; first | omega | (simp at this ⊢; omega)) ?_
           intro v' w3 hown' hgrow3 hnil3
           have X : Hid (IntsOwn w w3 v' (L ++ [c])) := IntsOwn.grown PB.out hown' hgrow3; clear hown' hgrow3 hnil3))
       go_roundg (gk - 1)
       case measure => have := HJ.out; omega
       case rel => exact ⟨3 + 1, by have := HJ.out; omega, by go_num, by show IntsOwn _ _ _ _; rw [HST1.out, if_neg HCC.out]; exact X.out⟩
    ·have hj4 : j = 4 := by omega
     subst hj4; go_wp2
     go_roundg (4 - (k + 1))
     case measure => have := HK.out; omega
     case rel => exact ⟨k + 1, by omega, by go_num, by show IntsOwn _ _ _ _; rw [show 4 * (k + 1) = 4 * k + 4 from by omega]; exact PI.out⟩
  ·have hk4 : k = 4 := by omega
   subst hk4; go_wp2; go_returns; exact ⟨_, rfl, PR.out⟩
end Pl
end Go.Proofs.YtopgllmjeliklaaGreatDoor
namespace Go.Proofs.YtopgllmjeliklaaGreatDoor
open Go.Shelf Go.Lib Go.ChangeShapes Go.WideShapes Go.ChangeAt Go.RowKit
namespace Hs
open Bk Lg Pl Dk Tx Tn Ac
set_option maxHeartbeats 8000000 in
theorem ended_any (base pb mb db sb hb n len : Nat) (f : Nat → Int × Int × Int) (lvv : Value) (σ : Sg) (w : World) (h : HX w base pb mb db sb hb (rowsOf f len) σ n) (hs : SizesAt w lvv len f) (wf : Wf len σ) (fi : Fin σ) :
  Calls Tryz.prog 18 #[lvv, .pointer (some ⟨pb, 0, none⟩), .pointer (some ⟨hb, 0, none⟩)] w fun e w' => e = .returned (.bool true) ∧ Below w.heap.size w w' := by
 have hm := wf.m14; obtain ⟨s, b, gs⟩ := σ; obtain ⟨last, ss, js⟩ := b; have hjs : js = [] := fi.js; subst hjs; have hdn := wf.wg.ge.dn fi.op
 have HSE : Hid (∀ W, Below w.heap.size w W → Calls Tryz.prog 19 #[.pointer (some ⟨pb, 0, none⟩)] W fun e w' => (∃ x3 q1 q2 q3, e = .returned (.agg #[.int .i64 0, .int .i64 0, .bool true, .int .i64 x3, .int .i64 0, .int .i64 0, .bool q1, .bool q2, .bool q3])) ∧ Below W.heap.size W w') := fun W hB => (sense_any pb mb n s W (h.below hB).p (h.below hB).iv.ok).mono (by
  rintro e w' ⟨rfl, hb'⟩; have e1 : senseV s = .agg #[.int .i64 s.h, .int .i64 s.ex, .bool s.op, .int .i64 s.pe, .int .i64 s.li, .int .i64 s.ba, .bool (carAtI s.D s.lv s.h s.ex != 0), .bool (carAtI s.D s.lv s.h (s.ex - 1) != 0), .bool (carAtI s.D s.lv s.h (s.ex + 1) != 0)] := rfl; generalize (carAtI s.D s.lv s.h s.ex != 0) = z1 at e1; generalize (carAtI s.D s.lv s.h (s.ex - 1) != 0) = z2 at e1; generalize (carAtI s.D s.lv s.h (s.ex + 1) != 0) = z3 at e1; rw [show s.h = 0 from hdn.1, show s.ex = 0 from hdn.2, show s.op = true from fi.op, show s.li = 0 from fi.li, show s.ba = 0 from fi.ba] at e1
  rw [e1]; exact ⟨⟨_, _, _, _, rfl⟩, hb'⟩)
 have HHU : Hid (∀ W, Below w.heap.size w W → Calls Tryz.prog 24 #[.pointer (some ⟨pb, 0, none⟩)] W fun e w' => e = .returned (.bool false) ∧ w' = W) := fun W hB => by
  have := hurt_any pb s.hu W (h.below hB).p.c9
  rwa [show s.hu = false from wf.wg.nv.hu] at this
 have HSP : Hid (∀ W, Below w.heap.size w W → Calls Tryz.prog 34 #[.pointer (some ⟨pb, 0, none⟩), .agg #[.int .i64 len, .int .i64 1, .int .i64 0]] W fun e w' => e = .returned (.int .i64 0) ∧ Below W.heap.size W w') := fun W hB => by
  have := at_any pb mb n s.D len 1 0 W (h.below hB).p.c7 (h.below hB).p.cars (wfI (by omega)) (wfI (by omega)) (wfI (by omega))
  rwa [show carOf s.D len 1 0 = 0 from fi.spare wf] at this
 have HAT : Hid (∀ k, k < ss.length → ∀ W, Below w.heap.size w W → Calls Tryz.prog 34 #[.pointer (some ⟨pb, 0, none⟩), .agg #[.int .i64 ss[k]!.x, .int .i64 ss[k]!.y, .int .i64 ss[k]!.z]] W fun e w' => e = .returned (.int .i64 ss[k]!.id) ∧ Below W.heap.size W w') := fun k hk W hB => by
  have hv : ss[k]! ∈ ss := by rw [getElem!_pos ss k hk]; exact List.getElem_mem hk
  have hr := (wf.sf.r _ hv).1; have hr' := wfR hr; have := at_any pb mb n s.D ss[k]!.x ss[k]!.y ss[k]!.z W (h.below hB).p.c7 (h.below hB).p.cars hr'.1 hr'.2.1 hr'.2.2
  rwa [show carOf s.D ss[k]!.x ss[k]!.y ss[k]!.z = ss[k]!.id from fi.home wf hv] at this
 have HCA : Hid (∀ W, Below w.heap.size w W → Calls Tryz.prog 28 #[.pointer (some ⟨pb, 0, none⟩)] W fun e w' => (∃ a c, e = .returned (.slice a ss.length c)) ∧ Below W.heap.size W w') := fun W hB => (cars0_any pb mb n s W (h.below hB).p (h.below hB).iv fi.li fi.ba).mono (by
  rintro e w' ⟨v, rfl, ho⟩; obtain ⟨a, c, rfl, _⟩ := ho.at
  refine ⟨⟨a, c, ?_⟩, ho.2⟩; rw [show (carsL s).length = ss.length from fi.cars wf])
 have HBK := hidd (bookX2 h); have h16 : ss.length ≤ 16 := wf.ok.fewS; obtain ⟨la, lc, rfl, _⟩ := hs; simp only [List.length_nil] at HBK; clear h wf fi hdn hm
 go_enter Tryz.func18, Tryz.ntmps18
 go_wp2_with fail; refine HBK.out.mono ?_; rintro e w1 ⟨sa, sc, ja, jc, rfl, hat, b1⟩; have B1 : Hid (∀ o, Below w.heap.size w (w1.alloc o)) := fun o => B.next b1 (B.new1 w1 o) b1.size
 have HAT1 : Hid (Book.At ⟨last, sa, sc, ja, jc, ss, []⟩ w1) := hat
 have HSE1 := hidd (fun o => HSE.out _ (B1.out o))
 clear HBK HSE b1 hat
 go_wp2_with fail; refine (HSE1.out _).mono ?_; rintro e w2 ⟨⟨x3, q1, q2, q3, rfl⟩, b2⟩; obtain ⟨BB, hBB⟩ : ∃ BB, w1.heap.size = BB := ⟨_, rfl⟩
 have XB : Hid (BkAt (w1.alloc (.cells #[.int .i64 last, .slice sa ss.length sc, .slice ja 0 jc] 39)) w1.heap.size sa ja sc jc ⟨last, ss, []⟩) := ⟨Blk.new _ _ _, HAT1.out.below (B.new1 _ _)⟩
 have X2 : Hid (∀ o, Below w.heap.size w (w2.alloc o) ∧ BkAt (w2.alloc o) BB sa ja sc jc ⟨last, ss, []⟩) := fun o => by
  rw [← hBB]; exact ⟨B.next (B1.out _) (B.next b2 (B.new1 w2 o) b2.size) (B1.out _).size, XB.out.below (B.next b2 (B.new1 w2 o) b2.size)⟩
 simp only [hBB]; clear HSE1 b2 hBB XB B1 HAT1; have rb : ∀ o j, (w2.alloc o).cell? ⟨BB, j, none⟩ = #[.int .i64 last, .slice sa ss.length sc, .slice ja 0 jc][j]? := fun o j => (X2.out o).2.k.cell j
 go_wp2_with fail; refine (HHU.out _ (X2.out _).1).mono ?_; rintro e w3 ⟨rfl, rfl⟩; go_wp2_with fail; refine (spare_any _ _).mono ?_; rintro e w4 ⟨rfl, b4⟩; have X4 : Hid (Below w.heap.size w w4 ∧ BkAt w4 BB sa ja sc jc ⟨last, ss, []⟩) := ⟨B.next (X2.out _).1 b4 (X2.out _).1.size, (X2.out _).2.below b4⟩; have HS4 := hidd (HSP.out w4 X4.out.1); clear HHU HSP X2 rb b4; go_wp2_with fail; refine HS4.out.mono ?_; rintro e w5 ⟨rfl, b5⟩; have X5 : Hid (Below w.heap.size w w5 ∧ BkAt w5 BB sa ja sc jc ⟨last, ss, []⟩) := ⟨B.next X4.out.1 b5 X4.out.1.size, X4.out.2.below b5⟩; clear HS4 X4 b5; go_wp2_with fail
 go_loopg [9] ss.length (fun q i wr => ∃ (k : Nat), k + q = ss.length ∧ i = .int .i64 k ∧ Hid (Below w.heap.size w wr ∧ BkAt wr BB sa ja sc jc ⟨last, ss, []⟩))
 case atStart => exact ⟨0, by omega, rfl, X5⟩
 case round =>
  clear X5; obtain ⟨k, hk, rfl, XR⟩ := hrel; have HK : Hid (k + gk = ss.length) := hk; have rB := XR.out.2.k.cell; clear hk
  by_cases hlk : k < ss.length
  ·have hlk' : (k : Int) < (ss.length : Int) := by omega
   obtain ⟨sg, soff, rfl, _⟩ := XR.out.2.stay k hlk
   have hcj : ∀ p : BelowW wr, ∀ j u, (Stay.enc ss[k]!)[j]? = some u → p.wd.cell? ⟨sg, soff + k * 8 + j, none⟩ = some u := fun p => by
    obtain ⟨g', o', e, hc⟩ := (XR.out.2.below p.hb).stay k hlk; injection e with e; injection e with e1 e2 _; subst e1 e2; exact hc
   have c1 : ∀ p : BelowW wr, p.wd.cell? ⟨sg, soff + k * 8 + 1, none⟩ = some (.int .i64 ss[k]!.id) := fun p => hcj p 1 _ rfl
   have c5 : ∀ p : BelowW wr, p.wd.cell? ⟨sg, soff + k * 8 + 5, none⟩ = some (.int .i64 ss[k]!.x) := fun p => hcj p 5 _ rfl
   have c6 : ∀ p : BelowW wr, p.wd.cell? ⟨sg, soff + k * 8 + 6, none⟩ = some (.int .i64 ss[k]!.y) := fun p => hcj p 6 _ rfl
   have c7 : ∀ p : BelowW wr, p.wd.cell? ⟨sg, soff + k * 8 + 7, none⟩ = some (.int .i64 ss[k]!.z) := fun p => hcj p 7 _ rfl
   have f1 := fun p : BelowW wr => (XR.out.2.below p.hb).k.cell 1
   have HA1 : Hid (∀ p : BelowW wr, Calls Tryz.prog 34 #[.pointer (some ⟨pb, 0, none⟩), .agg #[.int .i64 ss[k]!.x, .int .i64 ss[k]!.y, .int .i64 ss[k]!.z]] p.wd fun e w' => e = .returned (.int .i64 ss[k]!.id) ∧ Below p.wd.heap.size p.wd w') := fun p => HAT.out k hlk p.wd (B.next XR.out.1 p.hb XR.out.1.size)
   clear hcj; generalize ss[k]!.id = vi at *; generalize ss[k]!.x = vx at *; generalize ss[k]!.y = vy at *; generalize ss[k]!.z = vz at *; go_wp2_with fail; refine wp_region_below (by kernel_rfl) (by kernel_rfl) ?_
   repeat (go_big_quiet_step (first | (go_at_call 34; with_reducible exact Calls.wof (HA1.out _))))
   refine wpQuiet_nil ?_; rintro wz ⟨⟨_, NZ⟩, rfl⟩; have XZ : Hid (Below w.heap.size w wz ∧ BkAt wz BB (some ⟨sg, soff, none⟩) ja sc jc ⟨last, ss, []⟩) := ⟨B.next XR.out.1 NZ XR.out.1.size, XR.out.2.below NZ⟩; clear c1 c5 c6 c7 f1 HA1 NZ rB; go_wp2
   go_roundg (ss.length - (k + 1))
   case measure => have := HK.out; omega
   case rel => exact ⟨k + 1, by have := HK.out; omega, by go_num, XZ⟩
  ·have hlk' : ¬ (k : Int) < (ss.length : Int) := by omega
   have HCR : Hid (∀ W, Below wr.heap.size wr W → Calls Tryz.prog 28 #[.pointer (some ⟨pb, 0, none⟩)] W fun e w' => (∃ a c, e = .returned (.slice a ss.length c)) ∧ Below W.heap.size W w') := fun W hB => HCA.out W (B.next XR.out.1 hB XR.out.1.size)
   have HBR : Hid (∀ W, Below wr.heap.size wr W → Below w.heap.size w W) := fun W hB => B.next XR.out.1 hB XR.out.1.size
   have r1 : ∀ W, Below wr.heap.size wr W → W.cell? ⟨BB, 1, none⟩ = some (.slice sa ss.length sc) := fun W hB => (XR.out.2.below hB).k.cell 1
   clear HCA HAT XR; have D0 : Hid (Below wr.heap.size wr wr.drew) := (Below.refl _ _).drew; have rd := r1 wr.drew D0.out; go_wp2_with fail
   go_region_with (go_at_call 28; refine (HCR.out _ D0.out).mono ?_; rintro e w6 ⟨⟨ca, cc, rfl⟩, b6⟩; have HQ6 : Hid (Below wr.heap.size wr w6) := B.next D0.out b6 D0.out.size; have r6 := r1 w6 HQ6.out)
   all_goals (go_wp2; go_returns; exact ⟨B.ret_bool (by simp), HBR.out _ HQ6.out⟩)
end Hs
namespace Hs
open Bk Lg Pl Dk Tx Tn Ac
structure Good7 (lv : List (Int × Int × Int)) (σ : Sg) : Prop where
 wf : Wf lv.length σ
 og : Og lv.length σ.gs
theorem Good7.start (f : Nat → Int × Int × Int) {len : Nat} (h1 : 1 ≤ len) (h4 : len ≤ 4) : Good7 (rowsOf f len) ⟨newS len, ⟨0, [], []⟩, []⟩ := by
 have e := rowsOf_len f len; refine ⟨by rw [e]; exact Wf.start h1 h4, Og.nil _⟩
theorem Good7.play {lv : List (Int × Int × Int)} {x : ActC} {σ σ' : Sg} (h : Good7 lv σ) (ok : BookOK σ'.b.last lv.length σ'.b.stays σ'.b.jobs) (hp : PlayR lv x σ σ') : Good7 lv σ' :=
 ⟨h.wf.play ok hp, Og.play h.wf h.og hp⟩
theorem Good7.tick {lv : List (Int × Int × Int)} {σ σ' : Sg} (h : Good7 lv σ) (t : TickR lv.length σ σ') : Good7 lv σ' :=
 ⟨h.wf.tick t, Og.tick h.wf h.og t⟩
theorem Good7.anew {lv : List (Int × Int × Int)} {σ : Sg} (h : Good7 lv σ) : Good7 lv ⟨σ.s, σ.b, []⟩ := ⟨h.wf.anew, Og.nil _⟩
end Hs
end Go.Proofs.YtopgllmjeliklaaGreatDoor
