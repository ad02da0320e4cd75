/- TopStay: no car is lost, whatever is done (B2 to B4). -/
import Derived.Test.YticjjnmmedmbiaaCarsPure
import Derived.Deep.CutRange
import Derived.Deep.CutBlock
import Derived.Deep.DeepCutAuto
import Derived.Deep.LoopGhost
namespace Go.Proofs.Yticjjnmmedmbiaa
open Go.ChangeShapes Go.WideShapes Go.ChangeAt Go.RowKit Go.Maps
set_option maxRecDepth 100000
set_option linter.unusedSimpArgs false
set_option linter.unusedVariables false

namespace Pl
open Ac
/-- What the switch leaves: the machine, and a list of the cars that ought to be there. -/
def SW (w wx : World) (pb mb n : Nat) (v : Value) : Prop :=
  ∃ (s : St) (l : List Int), IsP wx pb mb n s ∧ Inv s ∧ Uniq s ∧ IntsAt wx v l ∧ (∀ x, l.count x = if x = 0 then 0 else cnt s x) ∧ Below w.heap.size w wx

theorem row_turn {w w2 : World} {base e size n pb mb : Nat} {v : Value} {xs : List Value} (h : w.ownsRow base e size v n xs) (t : Turn pb mb w w2) (h1 : pb < base) (h2 : mb < base) : w2.ownsRow base e size v n xs := by
  refine ⟨h.1, h.2.elim Or.inl (fun ⟨g, cap, cur, hv, hg, hh, r⟩ => Or.inr ⟨g, cap, cur, hv, hg, ?_, r⟩)⟩
  rw [t.block g (Array.getElem?_eq_some_iff.1 hh).1 (by omega) (by omega)]
  exact hh
theorem IsP.grown {w w2 : World} {pb mb n : Nat} {s : St} {row : Option Nat} (h : IsP w pb mb n s) (hg : w.grownBy w2 row) (h1 : some pb ≠ row) (h2 : some mb ≠ row) : IsP w2 pb mb n s :=
  ⟨(hg.block pb h.lt h1).trans h.row, World.ownsMap.kept h.cars hg h2⟩
theorem at_row {w : World} {base : Nat} {v : Value} {l : List Int} (h : w.ownsRow base 3 1 v l.length (ints l)) : IntsAt w v l := by
  rcases h.2 with ⟨rfl, h0⟩ | ⟨g, cap, cur, rfl, hg, r⟩
  · exact ⟨none, 0, by rw [h0], by omega, Nat.zero_le _, fun h => by omega⟩
  · have hlt := (h.lt g rfl).2
    refine ⟨some ⟨g, 0, none⟩, cap, rfl, r.2.1, r.2.2.1, fun h0 => ⟨g, 0, rfl, hlt, fun i hi => ?_⟩⟩
    have := h.cells (g := g) rfl i (.int .i64 (l.getD i 0)) (by simp [ints, List.getD, List.getElem?_eq_getElem hi])
    have ad : (⟨g, 0, none⟩ : Addr).add i = ⟨g, 0 + i, none⟩ := by
      unfold Addr.add
      split
      · rename_i h; subst h; rfl
      · simp
    rw [ad] at this
    exact this

theorem arriveE_t {id : Int} {s : St} (h : arriveB id s = true) : arriveE id s = .nilIface := by
  simp only [arriveB, Bool.and_eq_true, decide_eq_true_eq, beq_iff_eq, Bool.not_eq_true'] at h
  unfold arriveE
  rw [if_pos h.1.1.1, if_pos ⟨h.1.1.2, h.1.2⟩, if_neg (by simp [h.2])]
theorem arriveE_f {id : Int} {s : St} (h : arriveB id s = false) : ∃ n : Int, arriveE id s = .iface 97 (.int .i64 n) := by
  unfold arriveE
  split
  · rename_i h1
    split
    · rename_i h2
      split
      · exact ⟨6, errV_ne (by decide)⟩
      · rename_i h3
        simp [arriveB, h1, h2.1, h2.2] at h
        exact absurd h h3
    · exact ⟨7, errV_ne (by decide)⟩
  · exact ⟨1, errV_ne (by decide)⟩
theorem count_arrive {s : St} {id : Int} (ha : arriveB id s = true) (y : Int) : (carsL s ++ [id]).count y = if y = 0 then 0 else cnt (arriveS id s) y := by
  have h1 : id ≠ 0 := by simp only [arriveB, Bool.and_eq_true, decide_eq_true_eq] at ha; omega
  rw [List.count_append, carsL_count]
  split
  · rename_i h; subst h; simp [List.count_cons, h1]
  · rename_i h; rw [cnt_arrive id y h ha]; simp [List.count_cons, one]
theorem count_leave {s : St} (hu : Uniq s) (hl : leaveB s = true) (y : Int) : ((carsL s).filter (fun z => z != s.ba)).count y = if y = 0 then 0 else cnt (leaveS s) y := by
  by_cases e : y = s.ba
  · subst e
    have h0 : s.ba ≠ 0 := by simp only [leaveB, Bool.and_eq_true, bne_iff_ne] at hl; exact hl.2
    have h1 := cnt_leave s.ba h0 hl
    have h2 := hu s.ba h0
    rw [one_self] at h1
    rw [if_neg h0, List.count_eq_zero.2 (by simp)]
    omega
  · rw [List.count_filter (by simp [e]), carsL_count]
    split
    · rfl
    · rename_i h
      have := cnt_leave y h hl
      rw [one_ne (fun h => e h.symm)] at this
      omega
theorem bay_told {s : St} (hl : leaveB s = true) : (carsL s).contains s.ba = true := by
  have h0 : s.ba ≠ 0 := by simp only [leaveB, Bool.and_eq_true, bne_iff_ne] at hl; exact hl.2
  rw [List.contains_iff_mem, ← List.count_pos_iff, carsL_count, if_neg h0]
  unfold cnt
  rw [one_self]
  omega
theorem filter_take (l : List Int) (x : Int) (j : Nat) (hj : j < l.length) : (l.take (j + 1)).filter (fun z => z != x) = if (l.getD j 0 == x) = true then (l.take j).filter (fun z => z != x) else (l.take j).filter (fun z => z != x) ++ [l.getD j 0] := by
  have h1 : l.getD j 0 = l[j] := by simp [List.getD, List.getElem?_eq_getElem hj]
  rw [List.take_add_one, List.getElem?_eq_getElem hj, List.filter_append, h1]
  by_cases e : l[j] = x <;> simp [e]

/-- While the cars that stay are gathered. -/
structure RS (w wx : World) (base pb mb n : Nat) (s : St) (v v4 : Value) (L F : List Int) : Prop where
  row : wx.ownsRow base 3 1 v F.length (ints F)
  p : IsP wx pb mb n s
  at4 : ∃ (ad : Option Addr) (cap : Nat), v4 = .slice ad L.length cap ∧ L.length ≤ cap ∧ cap ≤ maxLen ∧ (0 < L.length → ∃ b off, ad = some ⟨b, off, none⟩ ∧ b < base ∧ ∀ i, i < L.length → wx.cell? ⟨b, off + i, none⟩ = some (.int .i64 (L.getD i 0)))
  below : Below w.heap.size w wx
  base1 : base ≤ wx.heap.size
  base2 : w.heap.size ≤ base
  pb : pb < base
  mb : mb < base
theorem RS.alloc {w wx : World} {base pb mb n : Nat} {s : St} {v v4 : Value} {L F : List Int} (h : RS w wx base pb mb n s v v4 L F) (o : Obj) : RS w (wx.alloc o) base pb mb n s v v4 L F := by
  refine ⟨h.row.alloc o, h.p.below (B.new1 _ _), ?_, h.below.alloc (Nat.le_trans h.base2 h.base1) o, by have := h.base1; simp; omega, h.base2, h.pb, h.mb⟩
  obtain ⟨ad, cap, e, a1, a2, hc⟩ := h.at4
  refine ⟨ad, cap, e, a1, a2, fun h0 => ?_⟩
  obtain ⟨b, off, ha, hlt, hcell⟩ := hc h0
  exact ⟨b, off, ha, hlt, fun i hi => (B.cell (B.new1 wx o) b _ (Nat.lt_of_lt_of_le hlt h.base1)).trans (hcell i hi)⟩
theorem RS.grown {w wx w3 : World} {base pb mb n : Nat} {s : St} {v v' v4 : Value} {L F : List Int} {x : Int} (h : RS w wx base pb mb n s v v4 L F) (ho : w3.ownsRow base 3 1 v' (F.length + 1) (ints F ++ [.int .i64 x])) (hg : wx.grownBy w3 v.ownBlock) : RS w w3 base pb mb n s v' v4 L (F ++ [x]) := by
  have hb : ∀ k, v.ownBlock = some k → base ≤ k := fun k hk => (h.row.lt k hk).1
  have b1 := h.base1; have b2 := h.base2; have p1 := h.pb; have p2 := h.mb
  refine ⟨by rw [ints_append, List.length_append]; exact ho, h.p.grown hg (fun e => by have := hb _ e.symm; omega) (fun e => by have := hb _ e.symm; omega), ?_, Below.grown h.below hg (by omega) (fun k hk => by have := hb k hk; omega), Nat.le_trans b1 hg.size, b2, p1, p2⟩
  obtain ⟨ad, cap, e, a1, a2, hc⟩ := h.at4
  refine ⟨ad, cap, e, a1, a2, fun h0 => ?_⟩
  obtain ⟨b, off, ha, hlt, hcell⟩ := hc h0
  exact ⟨b, off, ha, hlt, fun i hi => (World.cell?_of_block (w := wx) (hg.block b (by omega) (fun e => by have := hb _ e.symm; omega))).trans (hcell i hi)⟩

set_option maxHeartbeats 8000000 in
theorem topStay_run (lv : Int) (v : Value) (len : Nat) (f : Nat → ActC) (w : World) (hs : ActsAt w v len f) :
    Calls Try.prog 11 #[.int .i64 lv, v] w fun e w' => e = .returned (.bool true) ∧ Below w.heap.size w w' := by
  obtain ⟨i0, hi, hi0, hi1, hi2⟩ := info_parts Try.infoInt
  have HS : Hid (ActsAt w v len f) := hs
  obtain ⟨a, cap, rfl, hl, hm, hok, hcc⟩ := hs
  clear hok hcc
  unfold maxLen at hm
  go_enter Try.func11, Try.ntmps11
  go_wp2_with fail
  refine (moved_any w).mono ?_
  rintro e w1 ⟨rfl, b1⟩
  have B1 : Hid (Below w.heap.size w w1) := b1
  clear b1
  go_wp2_with fail
  refine (light_any _ len f 150 w1 (HS.out.below B1.out)).mono ?_
  rintro e w2 ⟨b, rfl, hli, hw⟩
  subst hw
  have HL : Hid (b = true → Light len f 150) := hli
  clear hli
  cases b
  · go_wp2
    go_returns
    exact ⟨rfl, B1.out⟩
  have h150 : len ≤ 150 := by have := (HL.out rfl).1; omega
  clear HL
  go_wp2_with fail
  by_cases hlv : 1 ≤ lv ∧ lv ≤ 4
  · refine (new_any lv w2 hlv.1 hlv.2).mono ?_
    rintro e w3 ⟨rfl, p3, b3⟩
    have z2 : w.heap.size ≤ w2.heap.size := B1.out.size
    have B3 : Hid (Below w.heap.size w w3) := B.next B1.out b3 z2
    have P3 : Hid (IsP w3 (w2.heap.size + 1) w2.heap.size 0 (newS lv)) := p3
    have I3 : Hid (Inv (newS lv)) := Inv.new hlv.1 hlv.2
    clear p3 b3 hlv B1
    generalize hmb : w2.heap.size = mb at *
    generalize hpb : mb + 1 = pb at *
    have hpb' : w.heap.size ≤ pb := by omega
    clear hpb hmb
    go_wp2_with fail
    go_loopg [8] len (fun q i wr => ∃ (k : Nat) (s : St), k + q = len ∧ i = .int .i64 k ∧ Hid (IsP wr pb mb k s) ∧ Hid (Inv s) ∧ Hid (Uniq s) ∧ Hid (Below w.heap.size w wr))
    case atStart => exact ⟨0, _, by omega, rfl, P3, I3, Uniq.new lv, B3⟩
    case round =>
      obtain ⟨k, s, hk, rfl, HP, HI, HU, HB⟩ := hrel
      have HK : Hid (k + gk = len) := hk
      by_cases hlt : k < len
      · obtain ⟨a', cap', ev, _, _, _, hc⟩ := HS.out.below HB.out
        cases ev
        obtain ⟨b, off, rfl, hb, hcell⟩ := hc (by omega)
        have c0 := hcell k hlt 0 (by omega); have c1 := hcell k hlt 1 (by omega); have c2 := hcell k hlt 2 (by omega); have c3 := hcell k hlt 3 (by omega)
        have c4 := hcell k hlt 4 (by omega); have c5 := hcell k hlt 5 (by omega); have c6 := hcell k hlt 6 (by omega); have c7 := hcell k hlt 7 (by omega)
        have c8 := hcell k hlt 8 (by omega); have c9 := hcell k hlt 9 (by omega); have c10 := hcell k hlt 10 (by omega); have c11 := hcell k hlt 11 (by omega)
        have hbw : b < w.heap.size := by
          obtain ⟨_, _, e2, _, _, _, h2⟩ := HS.out
          cases e2
          obtain ⟨_, _, e3, h3, _⟩ := h2 (by omega)
          cases e3
          exact h3
        generalize f k = x at c0 c1 c2 c3 c4 c5 c6 c7 c8 c9 c10 c11
        simp [ActC.vals] at c0 c1 c2 c3 c4 c5 c6 c7 c8 c9 c10 c11
        clear hcell hc
        have hkm : k < maxLen := by unfold maxLen; omega
        have HCa : Hid (∀ w1 n s, IsP w1 pb mb n s → Inv s → Calls Try.prog 61 #[.pointer (some ⟨pb, 0, none⟩)] w1 fun e w' => ∃ v, e = .returned v ∧ IntsOwn w1 w' v (carsL s)) := fun w1 n s hp iv => cars_any pb mb n s w1 hp iv
        have zp := HP.out.lt
        have zm := HP.out.ltm
        go_wp2_with fail
        refine (HCa.out _ k s HP.out HI.out).mono ?_
        rintro e w4 ⟨v4, rfl, o4⟩
        have O4 : Hid (IntsOwn wr w4 v4 (carsL s)) := o4
        have P4 : Hid (IsP w4 pb mb k s) := HP.out.below o4.2
        have B4 : Hid (Below w.heap.size w w4) := B.next HB.out o4.2 HB.out.size
        have z4 := o4.2.size
        replace c0 : w4.cell? ⟨b, off + k * 12, none⟩ = some (.string x.kind) := (B.cell o4.2 b _ hb).trans c0
        replace c1 : w4.cell? ⟨b, off + k * 12 + 1, none⟩ = some (.int .i64 x.a) := (B.cell o4.2 b _ hb).trans c1
        replace c2 : w4.cell? ⟨b, off + k * 12 + 2, none⟩ = some (.int .i64 x.b) := (B.cell o4.2 b _ hb).trans c2
        replace c3 : w4.cell? ⟨b, off + k * 12 + 3, none⟩ = some (.int .i64 x.c0) := (B.cell o4.2 b _ hb).trans c3
        replace c4 : w4.cell? ⟨b, off + k * 12 + 4, none⟩ = some (.int .i64 x.c1) := (B.cell o4.2 b _ hb).trans c4
        replace c5 : w4.cell? ⟨b, off + k * 12 + 5, none⟩ = some (.int .i64 x.c2) := (B.cell o4.2 b _ hb).trans c5
        replace c6 : w4.cell? ⟨b, off + k * 12 + 6, none⟩ = some (.int .i64 x.c3) := (B.cell o4.2 b _ hb).trans c6
        replace c7 : w4.cell? ⟨b, off + k * 12 + 7, none⟩ = some (.string x.s) := (B.cell o4.2 b _ hb).trans c7
        replace c8 : w4.cell? ⟨b, off + k * 12 + 8, none⟩ = some (.int .u64 x.k) := (B.cell o4.2 b _ hb).trans c8
        replace c9 : w4.cell? ⟨b, off + k * 12 + 9, none⟩ = some (.int .i64 x.last) := (B.cell o4.2 b _ hb).trans c9
        replace c10 : w4.cell? ⟨b, off + k * 12 + 10, none⟩ = some (.slice x.sa x.sl x.sc) := (B.cell o4.2 b _ hb).trans c10
        replace c11 : w4.cell? ⟨b, off + k * 12 + 11, none⟩ = some (.slice x.ja x.jl x.jc) := (B.cell o4.2 b _ hb).trans c11
        clear o4
        go_upto_block 2 with fail
        go_cut [9] (fun s9 wx => Hid (SW w wx pb mb (k + 1) s9))
        case first =>
          have hwr : w.heap.size ≤ wr.heap.size := HB.out.size
          have hln : (carsL s).length ≤ 18 := carsTo_le s 16
          cases ka : (x.kind.toList == [97, 114, 114, 105, 118, 101])
          · cases kl : (x.kind.toList == [108, 101, 97, 118, 101])
            · have HO : Hid (∀ w1, IsP w1 pb mb k s → Calls Try.prog 65 #[.pointer (some ⟨pb, 0, none⟩), .agg #[.string x.kind, .int .i64 x.a, .int .i64 x.b, .int .i64 x.c0, .int .i64 x.c1, .int .i64 x.c2, .int .i64 x.c3, .string x.s, .int .u64 x.k, .int .i64 x.last, .slice x.sa x.sl x.sc, .slice x.ja x.jl x.jc]] w1 fun e w' => e = .returned (.tuple #[]) ∧ IsP w' pb mb (k + 1) (outS x s) ∧ Turn pb mb w1 w') := fun w1 hp => out_any pb mb k s x w1 hp HI.out hkm
              have HX : Hid (Inv (outS x s) ∧ Uniq (outS x s) ∧ ∀ y, (carsL s).count y = if y = 0 then 0 else cnt (outS x s) y) := ⟨HI.out.out x, HU.out.of (fun y hy => cnt_out HI.out x y hy ka kl), fun y => by
                rw [carsL_count]
                split
                · rfl
                · rename_i hy; exact (cnt_out HI.out x y hy ka kl).symm⟩
              generalize outS x s = s2 at HO HX
              go_wp2_with fail
              refine (HO.out _ P4.out).mono ?_
              rintro e w5 ⟨rfl, p5, t5⟩
              have B5 : Hid (Below w.heap.size w w5) := turn_new B4.out t5 (by omega) (by omega) B4.out.size
              have A5 : Hid (IntsAt w5 v4 (carsL s)) := at_row (row_turn O4.out.1 t5 zp zm)
              have P5 : Hid (IsP w5 pb mb (k + 1) s2) := p5
              clear p5 t5 HO
              go_wp2_with fail
              go_meet
              case rel => exact ⟨s2, carsL s, P5.out, HX.out.1, HX.out.2.1, A5.out, HX.out.2.2, B5.out⟩
            · have HLv : Hid (Calls Try.prog 63 #[.pointer (some ⟨pb, 0, none⟩)] w4 fun e w' => e = .returned (leaveV s) ∧ IsP w' pb mb k (leaveS s) ∧ Turn pb mb w4 w') := leave_any pb mb k s w4 P4.out
              have HX0 : Hid (leaveV s = .tuple #[.int .i64 (if leaveB s = true then s.ba else 0), if leaveB s = true then .nilIface else errV 7]) := rfl
              rw [HX0.out] at HLv
              cases hlb : leaveB s with
              | false =>
                simp only [hlb, Bool.false_eq_true, if_false] at HLv
                rw [errV_ne (by decide), show leaveS s = s from by simp [leaveS, hlb]] at HLv
                go_wp2_with fail
                refine HLv.out.mono ?_
                rintro e w5 ⟨rfl, p5, t5⟩
                have B5 : Hid (Below w.heap.size w w5) := turn_new B4.out t5 (by omega) (by omega) B4.out.size
                have A5 : Hid (IntsAt w5 v4 (carsL s)) := at_row (row_turn O4.out.1 t5 zp zm)
                have P5 : Hid (IsP w5 pb mb (k + 1) s) := p5.mono
                clear p5 t5 HLv
                go_wp2_with fail
                go_meet
                case rel => exact ⟨s, carsL s, P5.out, HI.out, HU.out, A5.out, carsL_count s, B5.out⟩
              | true =>
                simp only [hlb, if_true] at HLv
                have HBT : Hid ((carsL s).contains s.ba = true) := bay_told hlb
                have HCL : Hid (∀ y, ((carsL s).filter (fun z => z != s.ba)).count y = if y = 0 then 0 else cnt (leaveS s) y) := fun y => count_leave HU.out hlb y
                have HI2 : Hid (Inv (leaveS s)) := HI.out.leave
                have HU2 : Hid (Uniq (leaveS s)) := fun y hy => by have := cnt_leave y hy hlb; have := HU.out y hy; omega
                generalize leaveS s = s2 at HLv HCL HI2 HU2
                generalize s.ba = id at HLv HBT HCL
                generalize hL : carsL s = L at *
                clear hL hlb HX0
                go_wp2_with fail
                refine HLv.out.mono ?_
                rintro e w5 ⟨rfl, p5, t5⟩
                have B5 : Hid (Below w.heap.size w w5) := turn_new B4.out t5 (by omega) (by omega) B4.out.size
                have A5 : Hid (IntsAt w5 v4 L) := at_row (row_turn O4.out.1 t5 zp zm)
                have P5 : Hid (IsP w5 pb mb (k + 1) s2) := p5.mono
                have zz5 : pb < w5.heap.size ∧ mb < w5.heap.size ∧ w.heap.size ≤ w5.heap.size := ⟨by have := t5.size; omega, by have := t5.size; omega, B5.out.size⟩
                clear p5 t5 HLv
                go_wp2_with fail
                refine (hasL_any v4 L id w5 A5.out).mono ?_
                rw [HBT.out]
                rintro e w6 ⟨rfl, b6⟩
                have R6 : Hid (RS w w6 w6.heap.size pb mb (k + 1) s2 (.slice none 0 0) v4 L ((L.take 0).filter (fun z => z != id))) := by
                  obtain ⟨ad, cp, e, a1, a2, hc⟩ := A5.out.below b6
                  have zb := b6.size
                  exact ⟨World.ownsRow_nil _ _ _ _, P5.out.below b6, ⟨ad, cp, e, a1, a2, hc⟩, B.next B5.out b6 B5.out.size, Nat.le_refl _, by omega, by omega, by omega⟩
                generalize hbase : w6.heap.size = base at R6
                clear b6 hbase A5 P5
                obtain ⟨ad4, cp4, e4, a41, a42, _⟩ := R6.out.at4
                subst e4
                unfold maxLen at a42
                go_wp2_with fail
                go_loopg [12, 13] L.length (fun q vv i wx => ∃ j : Nat, j + q = L.length ∧ i = .int .i64 j ∧ Hid (RS w wx base pb mb (k + 1) s2 vv (.slice ad4 L.length cp4) L ((L.take j).filter (fun z => z != id))))
                case atStart => exact ⟨0, by omega, rfl, R6⟩
                case round =>
                  obtain ⟨j, hj, rfl, PR⟩ := hrel
                  have HJ : Hid (j + gk = L.length) := hj
                  by_cases hlj : j < L.length
                  · obtain ⟨ad5, cp5, e5, _, _, hc5⟩ := PR.out.at4
                    cases e5
                    obtain ⟨b5, o5, rfl, hb5, hcl5⟩ := hc5 (by omega)
                    have d1 := hcl5 j hlj
                    have hft := filter_take L id j hlj
                    have HFT : Hid ((L.take (j + 1)).filter (fun z => z != id) = if (L.getD j 0 == id) = true then (L.take j).filter (fun z => z != id) else (L.take j).filter (fun z => z != id) ++ [L.getD j 0]) := hft
                    have hfl : ((L.take j).filter (fun z => z != id)).length ≤ 18 := Nat.le_trans (List.length_filter_le _ _) (by rw [List.length_take]; omega)
                    generalize (L.take j).filter (fun z => z != id) = F at *
                    generalize L.getD j 0 = Y at *
                    clear hft hcl5 hc5 hj
                    cases hy : (Y == id)
                    · have HYY : Hid ((Y == id) = false) := hy
                      have hy' : ¬ Y = id := by simpa using hy
                      have PB : Hid (RS w (wr.alloc (.cells #[.int .i64 Y] 3)) base pb mb (k + 1) s2 u12 (.slice (some ⟨b5, o5, none⟩) L.length cp4) L F) := PR.out.alloc _
                      have zbase := PR.out.base1
                      go_wp2_with (first
                        | (at_builtin; refine wpList_append_own _ rfl _ _ 86 rfl base 3 i0 (.int .i64 0) 1 8 Try.underlying86 hi hi0 hi1 hi2 rfl (by decide) _ F.length (ints F) rfl PB.out.row ⟨wr.heap.size, 0, none⟩ 1 1 [.int .i64 Y] rfl rfl (news_new _ _ _ _ (by simp)) (ints_one [Y]) (by unfold maxLen; omega) (by omega) (by simp; omega) ?_
                           intro v' w7 hown' hgrow3 hnil3
                           have X : Hid (RS w w7 base pb mb (k + 1) s2 v' (.slice (some ⟨b5, o5, none⟩) L.length cp4) L (F ++ [Y])) := PB.out.grown hown' hgrow3
                           clear hown' hgrow3 hnil3))
                      go_roundg (gk - 1)
                      case measure => have := HJ.out; omega
                      case rel => exact ⟨j + 1, by have := HJ.out; omega, by go_num, by show RS _ _ _ _ _ _ _ _ _ _ _; rw [HFT.out, HYY.out]; exact X.out⟩
                    · have HYY : Hid ((Y == id) = true) := hy
                      have hy' : Y = id := by simpa using hy
                      subst hy'
                      go_wp2_with fail
                      go_roundg (gk - 1)
                      case measure => have := HJ.out; omega
                      case rel => exact ⟨j + 1, by have := HJ.out; omega, by go_num, by show RS _ _ _ _ _ _ _ _ _ _ _; rw [HFT.out]; simp; exact PR.out⟩
                  · have hjj : j = L.length := by omega
                    subst hjj
                    rw [List.take_length] at PR
                    go_wp2_with fail
                    go_meet
                    case rel => exact ⟨s2, _, PR.out.p, HI2.out, HU2.out, at_row PR.out.row, HCL.out, PR.out.below⟩
          · have HAr : Hid (Calls Try.prog 62 #[.pointer (some ⟨pb, 0, none⟩), .int .i64 x.a] w4 fun e w' => e = .returned (arriveE x.a s) ∧ IsP w' pb mb k (arriveS x.a s) ∧ Turn pb mb w4 w') := arrive_any pb mb k s x.a w4 P4.out HI.out
            cases hab : arriveB x.a s with
            | false =>
              obtain ⟨n, hn⟩ := arriveE_f hab
              rw [hn, show arriveS x.a s = s from by simp [arriveS, hab]] at HAr
              clear hn hab
              go_wp2_with fail
              refine HAr.out.mono ?_
              rintro e w5 ⟨rfl, p5, t5⟩
              have B5 : Hid (Below w.heap.size w w5) := turn_new B4.out t5 (by omega) (by omega) B4.out.size
              have A5 : Hid (IntsAt w5 v4 (carsL s)) := at_row (row_turn O4.out.1 t5 zp zm)
              have P5 : Hid (IsP w5 pb mb (k + 1) s) := p5.mono
              clear p5 t5 HAr
              go_wp2_with fail
              go_meet
              case rel => exact ⟨s, carsL s, P5.out, HI.out, HU.out, A5.out, carsL_count s, B5.out⟩
            | true =>
              rw [arriveE_t hab] at HAr
              have HCT : Hid (∀ y, (carsL s ++ [x.a]).count y = if y = 0 then 0 else cnt (arriveS x.a s) y) := fun y => count_arrive hab y
              have HI2 : Hid (Inv (arriveS x.a s)) := HI.out.arrive x.a
              have HU2 : Hid (Uniq (arriveS x.a s)) := HU.out.arrive x.a hab
              generalize arriveS x.a s = s2 at *
              generalize hL : carsL s = L at *
              clear hL hab
              go_wp2_with fail
              refine HAr.out.mono ?_
              rintro e w5 ⟨rfl, p5, t5⟩
              have B5 : Hid (Below w.heap.size w w5) := turn_new B4.out t5 (by omega) (by omega) B4.out.size
              have d1 : w5.cell? ⟨b, off + k * 12 + 1, none⟩ = some (.int .i64 x.a) := (World.cell?_of_block (t5.block b (by omega) (by omega) (by omega))).trans c1
              have R5 : Hid ((w5.alloc (.cells #[.int .i64 x.a] 3)).ownsRow wr.heap.size 3 1 v4 L.length (ints L)) := (row_turn O4.out.1 t5 zp zm).alloc _
              have P5 : Hid (IsP (w5.alloc (.cells #[.int .i64 x.a] 3)) pb mb (k + 1) s2) := p5.mono.below (B.new1 _ _)
              have B5a : Hid (Below w.heap.size w (w5.alloc (.cells #[.int .i64 x.a] 3))) := B5.out.alloc B5.out.size _
              have zz5 : wr.heap.size ≤ w5.heap.size := Nat.le_trans z4 t5.size
              clear p5 t5 HAr
              go_wp2_with (first
                | (at_builtin; refine wpList_append_own _ rfl _ _ 86 rfl wr.heap.size 3 i0 (.int .i64 0) 1 8 Try.underlying86 hi hi0 hi1 hi2 rfl (by decide) _ L.length (ints L) rfl R5.out ⟨w5.heap.size, 0, none⟩ 1 1 [.int .i64 x.a] rfl rfl (news_new _ _ _ _ (by simp)) (ints_one [x.a]) (by unfold maxLen; omega) (by omega) (by simp; omega) ?_
                   intro v' w7 hown' hgrow3 hnil3
                   have X1 : Hid (IntsAt w7 v' (L ++ [x.a])) := at_row (by rw [ints_append, List.length_append]; exact hown')
                   have X2 : Hid (IsP w7 pb mb (k + 1) s2) := P5.out.grown hgrow3 (fun e => by have := (R5.out.lt pb e.symm).1; omega) (fun e => by have := (R5.out.lt mb e.symm).1; omega)
                   have X3 : Hid (Below w.heap.size w w7) := Below.grown B5a.out hgrow3 (by simp; omega) (fun k hk => by have := (R5.out.lt k hk).1; omega)
                   clear hown' hgrow3 hnil3))
              go_meet
              case rel => exact ⟨s2, L ++ [x.a], X2.out, HI2.out, HU2.out, X1.out, HCT.out, X3.out⟩
        case rest =>
          obtain ⟨s2, l, p5, iv5, hu5, at5, hc5, b5⟩ := Hid.out hcut
          have P5 : Hid (IsP wc pb mb (k + 1) s2) := p5
          have I5 : Hid (Inv s2) := iv5
          have U5 : Hid (Uniq s2) := hu5
          have A5 : Hid (IntsAt wc u9 l) := at5
          have B5 : Hid (Below w.heap.size w wc) := b5
          have C5 : Hid ((carsL s2).length = l.length ∧ ∀ x, (carsL s2).count x = l.count x) := alike_of hc5
          have T5 : Hid (∀ j, j < (carsL s2).length → hasB s2 ((carsL s2).getD j 0) = true ∧ ((carsL s2).take j).contains ((carsL s2).getD j 0) = false) := fun j hj => told hu5 j hj
          have L5 : Hid ((carsL s2).length ≤ 18) := carsTo_le s2 16
          clear p5 iv5 hu5 at5 hc5 b5 hcut O4 P4 B4 HP HI HU HB c0 c1 c2 c3 c4 c5 c6 c7 c8 c9 c10 c11
          go_wp2_with fail
          refine (HCa.out _ (k + 1) s2 P5.out I5.out).mono ?_
          rintro e w6 ⟨v6, rfl, o6⟩
          have A6 : Hid (IntsAt w6 v6 (carsL s2)) := o6.at
          have A6b : Hid (IntsAt w6 u9 l) := A5.out.below o6.2
          have P6 : Hid (IsP w6 pb mb (k + 1) s2) := P5.out.below o6.2
          have B6 : Hid (Below w.heap.size w w6) := B.next B5.out o6.2 B5.out.size
          clear o6 A5 P5 B5
          generalize carsL s2 = L at *
          go_wp2_with fail
          refine (alike_any v6 u9 L l w6 A6.out A6b.out C5.out.1 C5.out.2 (by have := L5.out; omega)).mono ?_
          rintro e w7 ⟨rfl, b7⟩
          have A7 : Hid (IntsAt w7 v6 L) := A6.out.below b7
          have P7 : Hid (IsP w7 pb mb (k + 1) s2) := P6.out.below b7
          have B7 : Hid (Below w.heap.size w w7) := B.next B6.out b7 B6.out.size
          clear b7 A6 A6b P6 B6 C5
          obtain ⟨ad6, cp6, e6, a61, a62, _⟩ := A7.out
          subst e6
          unfold maxLen at a62
          go_wp2_with fail
          go_loopg [15] L.length (fun q i wx => ∃ j : Nat, j + q = L.length ∧ i = .int .i64 j ∧ Hid (IntsAt wx (.slice ad6 L.length cp6) L) ∧ Hid (IsP wx pb mb (k + 1) s2) ∧ Hid (Below w.heap.size w wx))
          case atStart => exact ⟨0, by omega, rfl, A7, P7, B7⟩
          case round =>
            obtain ⟨j, hj, rfl, AR, PR, BR⟩ := hrel
            have HJ : Hid (j + gk = L.length) := hj
            by_cases hlj : j < L.length
            · obtain ⟨ad7, cp7, e7, a71, a72, hc7⟩ := AR.out
              cases e7
              obtain ⟨b7, o7, rfl, hb7, hcl7⟩ := hc7 (by omega)
              have d1 := hcl7 j hlj
              obtain ⟨t1, t2⟩ := T5.out j hlj
              have HTa : Hid (∀ w1, Below wr.heap.size wr w1 → IntsAt w1 (.slice (some ⟨b7, o7, none⟩) j cp6) (L.take j)) := fun w1 hb1 => by
                have hlt : (L.take j).length = j := by rw [List.length_take]; omega
                refine ⟨_, cp6, by rw [hlt], by omega, a72, fun h0 => ⟨b7, o7, rfl, Nat.lt_of_lt_of_le hb7 hb1.size, fun i hi => ?_⟩⟩
                rw [hlt] at hi
                rw [B.cell hb1 b7 _ hb7, hcl7 i (by omega)]
                simp [List.getD, List.getElem?_take, hi]
              have HHa : Hid (∀ w1, IsP w1 pb mb (k + 1) s2 → Calls Try.prog 42 #[.pointer (some ⟨pb, 0, none⟩), .int .i64 (L.getD j 0)] w1 fun e w' => e = .returned (.bool true) ∧ Below w1.heap.size w1 w') := fun w1 hp => by have := has_any pb mb (k + 1) s2 (L.getD j 0) w1 hp I5.out; rwa [t1] at this
              have HHl : Hid (∀ w1, Below wr.heap.size wr w1 → Calls Try.prog 64 #[.slice (some ⟨b7, o7, none⟩) j cp6, .int .i64 (L.getD j 0)] w1 fun e w' => e = .returned (.bool false) ∧ Below w1.heap.size w1 w') := fun w1 hb1 => by have := hasL_any (.slice (some ⟨b7, o7, none⟩) j cp6) (L.take j) (L.getD j 0) w1 (HTa.out w1 hb1); rwa [t2] at this
              generalize L.getD j 0 = X at *
              clear t1 t2 hcl7 hc7 hj HTa
              have sb0 : (0 : Int) ≤ (j : Int) := by omega
              have sb1 : (j : Int) ≤ (cp6 : Int) := by omega
              have sb2 : ¬ ((cp6 : Int) < (j : Int)) := by omega
              go_wp2_with fail
              go_region_held3 (fun wx => wx.cell? ⟨b7, o7 + j, none⟩ = some (.int .i64 X)) (go_keep)
                (first
                  | (go_at_call 42; refine (HHa.out _ PR.out.drew).mono ?_; rintro e wa ⟨rfl, hba⟩
                     have Za : Hid (Below wr.heap.size wr wa) := B.next (Below.refl _ _).drew hba (Nat.le_refl _)
                     have s7 : wa.cell? ⟨b7, o7 + j, none⟩ = some (.int .i64 X) := (B.cell hba b7 _ hb7).trans d1
                     clear hba)
                  | (go_at_call 64; refine (HHl.out _ Za.out).mono ?_; rintro e wb ⟨rfl, hbb⟩
                     have Zb : Hid (Below wr.heap.size wr wb) := B.next Za.out hbb Za.out.size
                     have t7 : wb.cell? ⟨b7, o7 + j, none⟩ = some (.int .i64 X) := (B.cell Zb.out b7 _ hb7).trans d1
                     clear hbb))
              all_goals go_wp2_with fail
              all_goals go_roundg (gk - 1)
              all_goals first
                | (have := HJ.out; omega)
                | exact ⟨j + 1, by have := HJ.out; omega, by go_num, AR.out.below Zb.out, PR.out.below Zb.out, B.next BR.out Zb.out BR.out.size⟩
            · have hjj : j = L.length := by omega
              subst hjj
              go_wp2_with fail
              go_roundg (len - (k + 1))
              case measure => have := HK.out; omega
              case rel => exact ⟨k + 1, s2, by have := HK.out; omega, by go_num, PR, I5, U5, BR⟩
      · go_wp2
        go_returns
        exact ⟨rfl, HB.out⟩
  · refine (new_bad lv w2 hlv).mono ?_
    rw [errV_ne (by decide)]
    rintro e w3 ⟨rfl, rfl⟩
    go_wp2
    go_returns
    exact ⟨rfl, B1.out⟩

end Pl
end Go.Proofs.Yticjjnmmedmbiaa
