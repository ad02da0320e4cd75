/- Chapter 8: the document's disk: Flush, Restart; contracts for the law of stage 3. -/
import Derived.Test.YtmojjjikaaclpaaRDiskB
import Derived.BigRegion
namespace Go.Proofs.Ytmojjjikaaclpaa
open Go.Shelf Go.Lib Go.ChangeShapes Go.WideShapes Go.ChangeAt Go.RowKit
set_option maxRecDepth 100000
set_option linter.unusedSimpArgs false
set_option linter.unusedVariables false

namespace Dk
open Bk
theorem RDV.setW {w : World} {base rb : Nat} {vk vn vw : Value} {kept now : List ByteArray} {wait : List Wt} {fuse : Int} {down : Bool} (h : RDV w base rb vk vn vw kept now wait fuse down) : RDV (w.setCell ⟨rb, 2, none⟩ (.slice none 0 0)) base rb vk vn (.slice none 0 0) kept now [] fuse down ∧ RFr base w (w.setCell ⟨rb, 2, none⟩ (.slice none 0 0)) :=
  ⟨⟨h.d.set 2 _, ownSet2 h.k h.d (by decide) _ _, ownSet2 h.n h.d (by decide) _ _, Or.inl ⟨rfl, rfl⟩, h.ne, h.hb⟩, RFr.set h.d (Or.inr (Or.inr rfl)) h.hb _ _⟩
theorem RDV.setF {w : World} {base rb : Nat} {vk vn vw : Value} {kept now : List ByteArray} {wait : List Wt} {fuse : Int} {down : Bool} (h : RDV w base rb vk vn vw kept now wait fuse down) (f : Int) : RDV (w.setCell ⟨rb, 3, none⟩ (.int .i64 f)) base rb vk vn vw kept now wait f down ∧ RFr base w (w.setCell ⟨rb, 3, none⟩ (.int .i64 f)) :=
  ⟨⟨h.d.set 3 _, ownSet2 h.k h.d (by decide) _ _, ownSet2 h.n h.d (by decide) _ _, ownSet2 h.t h.d (by decide) _ _, h.ne, h.hb⟩, RFr.set h.d (Or.inr (Or.inr rfl)) h.hb _ _⟩
theorem RDV.setD {w : World} {base rb : Nat} {vk vn vw : Value} {kept now : List ByteArray} {wait : List Wt} {fuse : Int} {down : Bool} (h : RDV w base rb vk vn vw kept now wait fuse down) (q : Bool) : RDV (w.setCell ⟨rb, 4, none⟩ (.bool q)) base rb vk vn vw kept now wait fuse q ∧ RFr base w (w.setCell ⟨rb, 4, none⟩ (.bool q)) :=
  ⟨⟨h.d.set 4 _, ownSet2 h.k h.d (by decide) _ _, ownSet2 h.n h.d (by decide) _ _, ownSet2 h.t h.d (by decide) _ _, h.ne, h.hb⟩, RFr.set h.d (Or.inr (Or.inr rfl)) h.hb _ _⟩
theorem run_copyS (a : Option Addr) (cap : Nat) (l : List ByteArray) (w : World) (h : RowsAt w a cap 1 strW l) (hl : l.length ≤ 1000) :
    ∃ a' c' w', AppD Try.prog 54 54 (.slice none 0 0) (.slice a l.length cap) w (.slice a' l.length c') w' ∧ OwnAt w' w.heap.size 9 1 strW (.slice a' l.length c') l ∧ w.grownBy w' none := by
  obtain ⟨i, hi, hz, hs, hb⟩ := strI
  obtain ⟨v', w', hr, ho, hg⟩ := run_rows (P := Try.prog) (T := 54) (e := 9) (i0 := i) (z := .string ByteArray.empty) (k := 1) (bytes := 16) (enc := strW) strW_len strW_one 54 (by kernel_rfl) hi hz hs hb rfl (by decide) (by decide) a cap l w h hl
  obtain ⟨a', c', rfl, _⟩ := ho.rows
  exact ⟨a', c', w', ⟨hr.run⟩, ho, hg⟩
theorem below_grown {w w' : World} (hg : w.grownBy w' none) : Below w.heap.size w w' := ⟨hg.os, hg.tape, hg.output, hg.size, fun k hk => hg.block k hk (by simp)⟩
theorem RDV.copyNK {w : World} {base rb : Nat} {vk vw : Value} {an : Option Addr} {cn : Nat} {kept now : List ByteArray} {wait : List Wt} {fuse : Int} {down : Bool} (h : RDV w base rb vk (.slice an now.length cn) vw kept now wait fuse down) (hbw : base ≤ w.heap.size) (hl : now.length ≤ 1000) :
    ∃ a' c' w9, AppD Try.prog 54 54 (.slice none 0 0) (.slice an now.length cn) w (.slice a' now.length c') w9 ∧ w9.cell? ⟨rb, 0, none⟩ = some vk ∧ w9.frozen? ⟨rb, 0, none⟩ = false ∧ RDV (w9.setCell ⟨rb, 0, none⟩ (.slice a' now.length c')) base rb (.slice a' now.length c') (.slice an now.length cn) vw now now wait fuse down ∧ RFr base w (w9.setCell ⟨rb, 0, none⟩ (.slice a' now.length c')) := by
  obtain ⟨a, c, e, hr⟩ := h.n.rows
  cases e
  obtain ⟨a', c', w9, h9, o9, g9⟩ := run_copyS an cn now w hr hl
  have hb9 := below_grown g9
  have h2 := h.below hb9
  refine ⟨a', c', w9, h9, h2.d.cell 0, h2.d.free 0, ⟨h2.d.set 0 _, ownSet2 (o9.base hbw) h2.d (by decide) _ _, ownSet2 h2.n h2.d (by decide) _ _, ownSet2 h2.t h2.d (by decide) _ _, fun g e e2 => ?_, h.hb⟩, (RFr.of_below hb9 hbw).trans (RFr.set h2.d (Or.inr (Or.inr rfl)) h.hb _ _)⟩
  have h3 := (ownLt o9 g e).1
  have h4 := (ownLt h.n g e2).2.1
  omega
theorem RDV.copyKN {w : World} {base rb : Nat} {vn vw : Value} {ak : Option Addr} {ck : Nat} {kept now : List ByteArray} {wait : List Wt} {fuse : Int} {down : Bool} (h : RDV w base rb (.slice ak kept.length ck) vn vw kept now wait fuse down) (hbw : base ≤ w.heap.size) (hl : kept.length ≤ 1000) :
    ∃ a' c' w9, AppD Try.prog 54 54 (.slice none 0 0) (.slice ak kept.length ck) w (.slice a' kept.length c') w9 ∧ w9.cell? ⟨rb, 1, none⟩ = some vn ∧ w9.frozen? ⟨rb, 1, none⟩ = false ∧ RDV (w9.setCell ⟨rb, 1, none⟩ (.slice a' kept.length c')) base rb (.slice ak kept.length ck) (.slice a' kept.length c') vw kept kept wait fuse down ∧ RFr base w (w9.setCell ⟨rb, 1, none⟩ (.slice a' kept.length c')) := by
  obtain ⟨a, c, e, hr⟩ := h.k.rows
  cases e
  obtain ⟨a', c', w9, h9, o9, g9⟩ := run_copyS ak ck kept w hr hl
  have hb9 := below_grown g9
  have h2 := h.below hb9
  refine ⟨a', c', w9, h9, h2.d.cell 1, h2.d.free 1, ⟨h2.d.set 1 _, ownSet2 h2.k h2.d (by decide) _ _, ownSet2 (o9.base hbw) h2.d (by decide) _ _, ownSet2 h2.t h2.d (by decide) _ _, fun g e e2 => ?_, h.hb⟩, (RFr.of_below hb9 hbw).trans (RFr.set h2.d (Or.inr (Or.inr rfl)) h.hb _ _)⟩
  have h3 := (ownLt o9 g e2).1
  have h4 := (ownLt h.k g e).2.1
  omega
def RFPost (base rb : Nat) (kept now : List ByteArray) (wait : List Wt) (fuse : Int) (down : Bool) (w : World) (e : Ending) (w' : World) : Prop :=
  (rdown fuse down = true ∧ e = .returned (.int .i64 9) ∧ RFr base w w' ∧ RD w' base rb kept now wait (rfuse fuse down) true) ∨
  (rdown fuse down = false ∧ e = .returned (.int .i64 0) ∧ RFr base w w' ∧ RD w' base rb now now [] (rfuse fuse down) false)

set_option maxHeartbeats 4000000 in
theorem rdflush_any (base rb : Nat) (kept now : List ByteArray) (wait : List Wt) (fuse : Int) (down : Bool) (w : World) (h : RD w base rb kept now wait fuse down) (hbase : base ≤ w.heap.size) (hf : fuse ≤ 9223372036854775807) (hn : now.length ≤ 1000) :
    Calls Try.prog 15 #[.pointer (some ⟨rb, 0, none⟩)] w (RFPost base rb kept now wait fuse down w) := by
  have H1 : Hid (rdown fuse down = true → ∀ w', RFr base w w' → RD w' base rb kept now wait (rfuse fuse down) true → RFPost base rb kept now wait fuse down w (.returned (.int .i64 9)) w') := fun e2 w' h1 h2 => Or.inl ⟨e2, rfl, h1, h2⟩
  have H2 : Hid (rdown fuse down = false → ∀ w', RFr base w w' → RD w' base rb now now [] (rfuse fuse down) false → RFPost base rb kept now wait fuse down w (.returned (.int .i64 0)) w') := fun e2 w' h1 h2 => Or.inr ⟨e2, rfl, h1, h2⟩
  have HST : Hid (Calls Try.prog 24 #[.pointer (some ⟨rb, 0, none⟩)] w fun e w' => e = .returned (.int .i64 (rstepN fuse down)) ∧ RD w' base rb kept now wait (rfuse fuse down) (rdown fuse down) ∧ RFr base w w') := rdstep_any base rb kept now wait fuse down w h hf
  have HSN : Hid (rstepN fuse down = if rdown fuse down = true then 9 else 0) := rstep_down _ _
  generalize RFPost base rb kept now wait fuse down w = PP at *
  generalize rfuse fuse down = fuse2 at *
  generalize rdown fuse down = dn at *
  generalize rstepN fuse down = sn at *
  clear h
  go_enter Try.func15, Try.ntmps15
  go_wp2_with fail
  refine HST.out.mono ?_
  rintro e w1 ⟨rfl, hR1, hF1⟩
  have X1 : Hid (RD w1 base rb kept now wait fuse2 dn ∧ RFr base w w1) := ⟨hR1, hF1⟩
  clear hR1 hF1 HST
  cases dn
  case true =>
    obtain rfl : sn = 9 := HSN.out
    have HF := H1.out rfl w1 X1.out.2 X1.out.1
    clear H1 H2 X1 HSN
    go_wp2
    exact HF
  obtain rfl : sn = 0 := HSN.out
  have HP : Hid (∀ w', RFr base w w' → RD w' base rb now now [] fuse2 false → PP (.returned (.int .i64 0)) w') := H2.out rfl
  have hb1 : base ≤ w1.heap.size := Nat.le_trans hbase X1.out.2.b.size
  obtain ⟨vk, vn, vw, hv⟩ := X1.out.1.v
  obtain ⟨an, cn, rfl, _⟩ := hv.n.rows
  have rd := hv.d.cell
  obtain ⟨a', c', w9, h9, r9, f9, hY, hYF⟩ := hv.copyNK hb1 hn
  have HRA : Hid (AppD Try.prog 54 54 (.slice none 0 0) (.slice an now.length cn) w1 (.slice a' now.length c') w9) := h9
  obtain ⟨aw, cw, rfl, _⟩ := hv.t.rows
  obtain ⟨w10, hw10⟩ : ∃ w10, w9.setCell ⟨rb, 0, none⟩ (.slice a' now.length c') = w10 := ⟨_, rfl⟩
  rw [hw10] at hY hYF
  have r10 : w10.cell? ⟨rb, 2, none⟩ = some (.slice aw wait.length cw) := hY.d.cell 2
  have f10 := hY.d.free 2
  have HF : Hid (PP (.returned (.int .i64 0)) (w10.setCell ⟨rb, 2, none⟩ (.slice none 0 0))) := HP.out _ (X1.out.2.trans (hYF.trans hY.setW.2)) hY.setW.1.rd
  clear H1 H2 HSN HP hv hY hYF X1 h9
  go_wp2_with (at_builtin; refine wpList_appD rfl _ _ _ rfl _ _ rfl rfl _ _ HRA.out ?_)
  exact HF.out

/-- What is kept of what was written, the first j of them. -/
def rsT (K : Int) (wait : List Wt) (kept : List ByteArray) : Nat → List ByteArray
  | 0 => kept
  | j + 1 => if keepB K ((j % 64 : Nat) : Int) = true then (rsT K wait kept j).set wait[j]!.at_.toNat wait[j]!.s else rsT K wait kept j
theorem rsT_len (K : Int) (wait : List Wt) (kept : List ByteArray) : ∀ j, (rsT K wait kept j).length = kept.length
  | 0 => rfl
  | j + 1 => by
    unfold rsT
    split
    · rw [List.length_set, rsT_len K wait kept j]
    · exact rsT_len K wait kept j

set_option maxHeartbeats 8000000 in
theorem rdrestart_any (base rb : Nat) (kept now : List ByteArray) (wait : List Wt) (fuse : Int) (down : Bool) (K : Int) (w : World) (h : RD w base rb kept now wait fuse down) (hbase : base ≤ w.heap.size) (hn : kept.length ≤ 1000) (hwl : wait.length ≤ 1000) (hat : ∀ x ∈ wait, 0 ≤ x.at_ ∧ x.at_ < kept.length) :
    Calls Try.prog 18 #[.pointer (some ⟨rb, 0, none⟩), .int .u64 K] w fun e w' => e = .returned (.tuple #[]) ∧ RFr base w w' ∧ RD w' base rb (rsT K wait kept wait.length) (rsT K wait kept wait.length) [] (-1) false := by
  have HP : Hid (∀ w', RFr base w w' → RD w' base rb (rsT K wait kept wait.length) (rsT K wait kept wait.length) [] (-1) false → (fun (e : Ending) (w' : World) => e = .returned (.tuple #[]) ∧ RFr base w w' ∧ RD w' base rb (rsT K wait kept wait.length) (rsT K wait kept wait.length) [] (-1) false) (.returned (.tuple #[])) w') := fun w' a b => ⟨rfl, a, b⟩
  generalize (fun (e : Ending) (w' : World) => e = .returned (.tuple #[]) ∧ RFr base w w' ∧ RD w' base rb (rsT K wait kept wait.length) (rsT K wait kept wait.length) [] (-1) false) = PP at *
  have HAT : Hid (∀ x ∈ wait, 0 ≤ x.at_ ∧ x.at_ < kept.length) := hat
  have N0 : Hid (RD w base rb (rsT K wait kept 0) now wait fuse down ∧ RFr base w w) := ⟨h, RFr.refl _ _⟩
  clear h hat
  go_enter Try.func18, Try.ntmps18
  go_wp2_with fail
  go_loopg [4] wait.length (fun gg s4 wr => ∃ j : Nat, j ≤ wait.length ∧ wait.length - j ≤ gg ∧ s4 = .int .i64 j ∧ Hid (RD wr base rb (rsT K wait kept j) now wait fuse down ∧ RFr base w wr))
  case atStart => exact ⟨0, Nat.zero_le _, by omega, rfl, N0⟩
  case round =>
    clear N0
    obtain ⟨j, hj, hg, rfl, M⟩ := hrel
    obtain ⟨vk, vn, vw, hv⟩ := M.out.1.v
    obtain ⟨aw, cw, rfl, hrw⟩ := hv.t.rows
    have rd := hv.d.cell
    have hbr : base ≤ wr.heap.size := Nat.le_trans hbase M.out.2.b.size
    by_cases hlt : j < wait.length
    · have hltz : (j : Int) < (wait.length : Int) := by omega
      obtain ⟨bw, ow, rfl, hbw, hcw⟩ := hrw.2.2 (by omega)
      have cw0 := hcw j hlt 0 _ rfl
      have cw1 := hcw j hlt 1 _ rfl
      simp only [Nat.add_zero] at cw0
      have HW := HAT.out wait[j]! (by rw [getElem!_pos wait j hlt]; exact List.getElem_mem hlt)
      have HRS : Hid (rsT K wait kept (j + 1) = if keepB K ((j % 64 : Nat) : Int) = true then (rsT K wait kept j).set wait[j]!.at_.toNat wait[j]!.s else rsT K wait kept j) := rfl
      have hkl := rsT_len K wait kept j
      generalize wait[j]! = x at *
      obtain ⟨xa, xs⟩ := x
      simp only at HW HRS cw0 cw1
      obtain ⟨i, rfl⟩ : ∃ i : Nat, xa = (i : Int) := ⟨xa.toNat, by omega⟩
      have hi : i < kept.length := by omega
      rw [Int.toNat_natCast] at HRS
      generalize rsT K wait kept j = L at *
      have hiL : i < L.length := by omega
      have hiz : (i : Int) < (L.length : Int) := by omega
      obtain ⟨g, cap, cur, rfl, hgb, hkb, hlc, hm, hcs, hir⟩ := hv.k.resolve_left (fun e => by have := e.2; rw [this] at hiL; simp at hiL)
      unfold maxLen at hm
      obtain ⟨o, ho⟩ : ∃ o, cur[i]? = some o := ⟨_, Array.getElem?_eq_getElem (by omega)⟩
      have cg : wr.cell? ⟨g, i, none⟩ = some o := (hkb.cell i).trans ho
      have fg := hkb.free i
      have hgr : g ≠ rb := fun e => by
        subst e
        exact absurd (blk_typeD hkb hv.d) (by decide)
      have XY : Hid (keepB K ((j % 64 : Nat) : Int) = true → RD (wr.setCell ⟨g, i, none⟩ (.string xs)) base rb (rsT K wait kept (j + 1)) now wait fuse down ∧ RFr base w (wr.setCell ⟨g, i, none⟩ (.string xs))) := fun hq => by
        rw [HRS.out, if_pos hq]
        refine ⟨(RDV.mk (vk := .slice (some ⟨g, 0, none⟩) L.length cap) (hv.d.other hgr _ _) (ownRow hgb hkb hlc hm hcs hir i hiL xs) (hv.n.grown (grown_set wr g i _) (fun q e e' => ?_)) (ownSet2 hv.t hkb (by decide) _ _) hv.ne hv.hb).rd, M.out.2.trans (RFr.set hkb (Or.inl rfl) hgb _ _)⟩
        injection e' with e'
        subst e'
        exact hv.ne _ rfl e
      have XN : Hid (keepB K ((j % 64 : Nat) : Int) = false → RD wr base rb (rsT K wait kept (j + 1)) now wait fuse down ∧ RFr base w wr) := fun hq => by
        rw [HRS.out, if_neg (by rw [hq]; decide)]
        exact M.out
      have e1 : IntKind.u64.wrap (j : Int) = (j : Int) := by rw [IntKind.wrap_u64]; omega
      have e2 : (j : Int).tmod 64 = ((j % 64 : Nat) : Int) := by rw [Int.tmod_eq_emod_of_nonneg (by omega)]; omega
      have HKB : Hid (keepB K ((j % 64 : Nat) : Int) = (bits BinOp.and IntKind.u64 (K / 2 ^ (j % 64)) 1 == 1)) := by show _ = _; unfold keepB; rw [Int.toNat_natCast]
      clear hv hkb hir hcs ho M HP HRS HAT hrw hcw hlc hm
      cases hq : (bits BinOp.and IntKind.u64 (K / 2 ^ (j % 64)) 1 == 1)
      · have X := XN.out (by rw [HKB.out, hq])
        have X : Hid (RD wr base rb (rsT K wait kept (j + 1)) now wait fuse down ∧ RFr base w wr) := X
        clear XN XY HKB cw0 cw1 cg fg
        go_wp2
        go_roundg (wait.length - (j + 1))
        case measure => omega
        case rel => exact ⟨j + 1, by omega, by omega, by go_num, X⟩
      · have X : Hid (RD (wr.setCell ⟨g, i, none⟩ (.string xs)) base rb (rsT K wait kept (j + 1)) now wait fuse down ∧ RFr base w (wr.setCell ⟨g, i, none⟩ (.string xs))) := XY.out (by rw [HKB.out, hq])
        have X2 : Hid (RD (wr.setCell ⟨g, i, none⟩ (.string xs)).drew base rb (rsT K wait kept (j + 1)) now wait fuse down ∧ RFr base w (wr.setCell ⟨g, i, none⟩ (.string xs)).drew) := ⟨X.out.1.below (Below.refl _ _).drew, X.out.2.trans (RFr.of_below (Below.refl _ _).drew (Nat.le_trans hbase X.out.2.b.size))⟩
        clear XN XY HKB X
        go_wp2_with fail
        go_region
        all_goals go_wp2
        all_goals go_roundg (wait.length - (j + 1))
        case measure => omega
        case rel => exact ⟨j + 1, by omega, by omega, by go_num, X2⟩
    · have hltz : ¬ (j : Int) < (wait.length : Int) := by omega
      have hje : j = wait.length := by omega
      subst hje
      have hkl := rsT_len K wait kept wait.length
      generalize rsT K wait kept wait.length = L at *
      obtain ⟨ak, ck, rfl, _⟩ := hv.k.rows
      obtain ⟨a', c', w9, h9, r9, f9, hY, hYF⟩ := hv.copyKN hbr (by omega)
      have HRA : Hid (AppD Try.prog 54 54 (.slice none 0 0) (.slice ak L.length ck) wr (.slice a' L.length c') w9) := h9
      obtain ⟨an, cn, hvn, _⟩ := hv.n.rows
      subst hvn
      obtain ⟨w10, hw10⟩ : ∃ w10, w9.setCell ⟨rb, 1, none⟩ (.slice a' L.length c') = w10 := ⟨_, rfl⟩
      rw [hw10] at hY hYF
      obtain ⟨w11, hw11⟩ : ∃ w11, w10.setCell ⟨rb, 2, none⟩ (.slice none 0 0) = w11 := ⟨_, rfl⟩
      obtain ⟨w12, hw12⟩ : ∃ w12, w11.setCell ⟨rb, 4, none⟩ (.bool false) = w12 := ⟨_, rfl⟩
      have h11 := hY.setW
      rw [hw11] at h11
      have h12 := h11.1.setD false
      rw [hw12] at h12
      have h13 := h12.1.setF (-1)
      have r10 := hY.d.cell
      have g10 := hY.d.free
      have r11 := h11.1.d.cell
      have g11 := h11.1.d.free
      have r12 := h12.1.d.cell
      have g12 := h12.1.d.free
      have HF : Hid (PP (.returned (.tuple #[])) (w12.setCell ⟨rb, 3, none⟩ (.int .i64 (-1)))) := HP.out _ (M.out.2.trans (hYF.trans (h11.2.trans (h12.2.trans h13.2)))) h13.1.rd
      clear HP HAT hv hY hYF M h9 h11 h12 h13 hrw hkl
      go_wp2_with (at_builtin; refine wpList_appD rfl _ _ _ rfl _ _ rfl rfl _ _ HRA.out ?_)
      refine bodyPost_end (v := .tuple #[]) (by simp [results, Try.results18]; try rfl) rfl ?_
      exact HF.out

end Dk
end Go.Proofs.Ytmojjjikaaclpaa
