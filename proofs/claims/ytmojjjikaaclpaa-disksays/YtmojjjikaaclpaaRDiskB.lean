/- Chapter 8: the document's disk: Write, Flush; contracts for the law of stage 3. -/
import Derived.Test.YtmojjjikaaclpaaRDiskA
import Derived.Test.YtmojjjikaaclpaaRAppA
namespace Go.Proofs.Ytmojjjikaaclpaa
open Go.Shelf Go.Lib Go.ChangeShapes Go.WideShapes Go.ChangeAt Go.RowKit
set_option maxRecDepth 100000
set_option linter.unusedSimpArgs false
set_option linter.unusedVariables false

namespace Dk
open Bk
/-- An append's run, at the operation. -/
theorem wpList_appD {P : Program} {ops : Array Oper} {rest : List Oper} {op : Oper} {a : Act} {w : World} {Q : Exit → Act → World → Prop} (hgd : op.guard = none) (s x : Operand) (t : TypeId) (hop : op.op = Op.call { callee := Callee.builtin Builtin.append, args := #[s, x], argTypes := #[t, t] })
    (v1 v2 : Value) (h1 : a.eval s = v1) (h2 : a.eval x = v2) (v' : Value) (w' : World) (hr : AppD P t op.type v1 v2 w v' w') (h : wpList P ops Q rest (a.put op.dst v') w') : wpList P ops Q (op :: rest) a w := by
  refine wpList_plain hgd fun _ hK => ?_
  have hrun := hr.run
  unfold Oper.wp
  simp [execOp, hop, resolve, invoke, builtin, h1, h2, hrun, Result.andThen]
  exact hK _ _ h
/-- A row of an own list is another. -/
theorem ownRow {w : World} {base g cap : Nat} {cur : Array Value} {l : List ByteArray} {T : TypeId} (hg : base ≤ g) (hk : Blk w g cur T) (hc : l.length ≤ cap) (hm : cap ≤ maxLen) (hs : cur.size = cap * 1) (hr : InRows cur 1 strW l) (i : Nat) (hi : i < l.length) (s : ByteArray) :
    OwnAt (w.setCell ⟨g, i, none⟩ (.string s)) base T 1 strW (.slice (some ⟨g, 0, none⟩) l.length cap) (l.set i s) := by
  refine Or.inr ⟨g, cap, _, by rw [List.length_set], hg, hk.set i _, by rw [List.length_set]; exact hc, hm, by simpa using hs, fun j hj c u hu => ?_⟩
  rw [List.length_set] at hj
  have hc0 : c < 1 := (List.getElem?_eq_some_iff.1 hu).1
  obtain rfl : c = 0 := by omega
  have e : (l.set i s)[j]! = if i = j then s else l[j]! := by
    rw [getElem!_pos (l.set i s) j (by simpa using hj), List.getElem_set]
    by_cases e : i = j
    · rw [if_pos e, if_pos e]
    · rw [if_neg e, if_neg e, getElem!_pos l j hj]
  rw [e] at hu
  rw [Nat.mul_one, Nat.add_zero, Array.getElem?_setIfInBounds]
  by_cases e : i = j
  · subst e
    rw [if_pos rfl] at hu
    rw [if_pos rfl, if_pos (by omega)]
    exact hu
  · rw [if_neg e] at hu
    rw [if_neg e]
    have := hr j hj 0 u hu
    rw [Nat.mul_one, Nat.add_zero] at this
    exact this
def okW (n : Nat) (x : Int) (S : ByteArray) : Bool := hasN n x && decide (S.size ≤ 64)
def padS (S : ByteArray) : ByteArray := S ++ strN (64 - S.size)
def RWPost (base rb : Nat) (kept now : List ByteArray) (wait : List Wt) (fuse : Int) (down : Bool) (x : Int) (S : ByteArray) (w : World) (e : Ending) (w' : World) : Prop :=
  (okW now.length x S = false ∧ e = .returned (.int .i64 1) ∧ w' = w) ∨
  (okW now.length x S = true ∧ rdown fuse down = true ∧ e = .returned (.int .i64 9) ∧ RFr base w w' ∧ RD w' base rb kept now wait (rfuse fuse down) true) ∨
  (okW now.length x S = true ∧ rdown fuse down = false ∧ e = .returned (.int .i64 0) ∧ RFr base w w' ∧ RD w' base rb kept (now.set x.toNat (padS S)) (wait ++ [⟨x, padS S⟩]) (rfuse fuse down) false)
theorem rstep_down (fuse : Int) (down : Bool) : rstepN fuse down = if rdown fuse down = true then 9 else 0 := by
  unfold rstepN rdown
  cases down
  · simp only [Bool.false_eq_true, if_false, Bool.false_or, beq_iff_eq]
  · rfl

set_option maxHeartbeats 4000000 in
theorem rdwrite_any (base rb : Nat) (kept now : List ByteArray) (wait : List Wt) (fuse : Int) (down : Bool) (x : Int) (S : ByteArray) (w : World) (h : RD w base rb kept now wait fuse down) (hbase : base ≤ w.heap.size) (hf : fuse ≤ 9223372036854775807) (hn : now.length ≤ 1000) (hw : wait.length ≤ 900) (hS : S.size ≤ maxLen) :
    Calls Try.prog 11 #[.pointer (some ⟨rb, 0, none⟩), .int .i64 x, .string S] w (RWPost base rb kept now wait fuse down x S w) := by
  unfold maxLen at hS
  have H0 : Hid (okW now.length x S = false → RWPost base rb kept now wait fuse down x S w (.returned (.int .i64 1)) w) := fun e => Or.inl ⟨e, rfl, rfl⟩
  have H1 : Hid (okW now.length x S = true → rdown fuse down = true → ∀ w', RFr base w w' → RD w' base rb kept now wait (rfuse fuse down) true → RWPost base rb kept now wait fuse down x S w (.returned (.int .i64 9)) w') := fun e1 e2 w' h1 h2 => Or.inr (Or.inl ⟨e1, e2, rfl, h1, h2⟩)
  have H2 : Hid (okW now.length x S = true → rdown fuse down = false → ∀ w', RFr base w w' → RD w' base rb kept (now.set x.toNat (padS S)) (wait ++ [⟨x, padS S⟩]) (rfuse fuse down) false → RWPost base rb kept now wait fuse down x S w (.returned (.int .i64 0)) w') := fun e1 e2 w' h1 h2 => Or.inr (Or.inr ⟨e1, e2, rfl, h1, h2⟩)
  have HST : Hid (Calls Try.prog 24 #[.pointer (some ⟨rb, 0, none⟩)] w fun e w' => e = .returned (.int .i64 (rstepN fuse down)) ∧ RD w' base rb kept now wait (rfuse fuse down) (rdown fuse down) ∧ RFr base w w') := rdstep_any base rb kept now wait fuse down w h hf
  have HSN : Hid (rstepN fuse down = if rdown fuse down = true then 9 else 0) := rstep_down _ _
  obtain ⟨vk, vn, vw, hv⟩ := h.v
  obtain ⟨an, cn, rfl, _⟩ := hv.n.rows
  have rd := hv.d.cell
  generalize RWPost base rb kept now wait fuse down x S w = PP at *
  generalize rfuse fuse down = fuse2 at *
  generalize rdown fuse down = dn at *
  generalize rstepN fuse down = sn at *
  have HK : Hid (okW now.length x S = (hasN now.length x && decide (S.size ≤ 64))) := rfl
  clear h hv
  by_cases hx0 : x < 0
  · have HF := H0.out (by rw [HK.out]; simp [hasN]; omega)
    clear H0 H1 H2 HST HK HSN
    go_enter Try.func11, Try.ntmps11
    go_wp2
    exact HF
  by_cases hx1 : (now.length : Int) ≤ x
  · have HF := H0.out (by rw [HK.out]; simp [hasN]; omega)
    clear H0 H1 H2 HST HK HSN
    go_enter Try.func11, Try.ntmps11
    go_wp2
    exact HF
  by_cases hs : 64 < S.size
  · have HF := H0.out (by rw [HK.out, decide_eq_false (by omega), Bool.and_false])
    have hsz : (64 : Int) < (S.size : Int) := by omega
    clear H0 H1 H2 HST HK HSN
    go_enter Try.func11, Try.ntmps11
    go_wp2
    exact HF
  have hsz : ¬ (64 : Int) < (S.size : Int) := by omega
  obtain ⟨i, rfl⟩ : ∃ i : Nat, x = (i : Int) := ⟨x.toNat, by omega⟩
  have hi : i < now.length := by omega
  have hiz : (i : Int) < (now.length : Int) := by omega
  have hok : okW now.length (i : Int) S = true := by rw [HK.out, decide_eq_true (by omega), Bool.and_true]; simp [hasN]; omega
  have H1' : Hid (dn = true → ∀ w', RFr base w w' → RD w' base rb kept now wait fuse2 true → PP (.returned (.int .i64 9)) w') := H1.out hok
  have H2' : Hid (dn = false → ∀ w', RFr base w w' → RD w' base rb kept (now.set i (padS S)) (wait ++ [⟨(i : Int), padS S⟩]) fuse2 false → PP (.returned (.int .i64 0)) w') := H2.out hok
  have e64 : IntKind.i64.wrap (64 - (S.size : Int)) = ((64 - S.size : Nat) : Int) := by rw [IntKind.wrap_i64]; omega
  have HNG : Hid (∀ W, Calls Try.prog 20 #[.int .i64 ((64 - S.size : Nat) : Int)] W fun e w' => e = .returned (.string (strN (64 - S.size))) ∧ Below W.heap.size W w') := fun W => noughts_any (64 - S.size) (by omega) W
  have HPS : Hid (S ++ strN (64 - S.size) = padS S) := rfl
  have hcat : ¬ S.size + (strN (64 - S.size)).size > 9223372036854775807 := by rw [strN_size]; omega
  clear H0 H1 H2 HK hok
  go_enter Try.func11, Try.ntmps11
  go_wp2_with fail
  refine HST.out.mono ?_
  rintro e w1 ⟨rfl, hR1, hF1⟩
  have X1 : Hid (RD w1 base rb kept now wait fuse2 dn ∧ RFr base w w1) := ⟨hR1, hF1⟩
  clear hR1 hF1 HST rd
  cases dn
  case true =>
    obtain rfl : sn = 9 := HSN.out
    have HF := H1'.out rfl w1 X1.out.2 X1.out.1
    clear H1' H2' X1 HNG HPS HSN
    go_wp2
    exact HF
  obtain rfl : sn = 0 := HSN.out
  have HP : Hid (∀ w', RFr base w w' → RD w' base rb kept (now.set i (padS S)) (wait ++ [⟨(i : Int), padS S⟩]) fuse2 false → PP (.returned (.int .i64 0)) w') := H2'.out rfl
  have hpe := HPS.out
  generalize strN (64 - S.size) = SN at *
  generalize padS S = P at *
  clear H1' H2' HSN HPS
  go_wp2_with fail
  refine (HNG.out w1).mono ?_
  rintro e w2 ⟨rfl, b2⟩
  have hb1 : base ≤ w1.heap.size := Nat.le_trans hbase X1.out.2.b.size
  have X2 : Hid (RD w2 base rb kept now wait fuse2 false ∧ RFr base w w2) := ⟨X1.out.1.below b2, X1.out.2.trans (RFr.of_below b2 hb1)⟩
  clear b2 X1 HNG hb1
  obtain ⟨vk, vn2, vw2, hv⟩ := X2.out.1.v
  obtain ⟨g, cap, cur, rfl, hg, hkb, hlc, hm, hcs, hir⟩ := hv.n.resolve_left (fun e => by have := e.2; rw [this] at hi; simp at hi)
  have rd := hv.d.cell
  obtain ⟨o, ho⟩ : ∃ o, cur[i]? = some o := ⟨_, Array.getElem?_eq_getElem (by omega)⟩
  have cg : w2.cell? ⟨g, i, none⟩ = some o := (hkb.cell i).trans ho
  have fg := hkb.free i
  have X3 : Hid (RDV (w2.setCell ⟨g, i, none⟩ (.string P)) base rb vk (.slice (some ⟨g, 0, none⟩) now.length cap) vw2 kept (now.set i P) wait fuse2 false ∧ RFr base w (w2.setCell ⟨g, i, none⟩ (.string P))) := by
    have hgr : g ≠ rb := fun e => by
      subst e
      exact absurd (blk_typeD hkb hv.d) (by decide)
    refine ⟨⟨hv.d.other hgr _ _, hv.k.grown (grown_set w2 g i _) (fun q e e' => ?_), ownRow hg hkb hlc hm hcs hir i hi P, ownSet2 hv.t hkb (by decide) _ _, hv.ne, hv.hb⟩, X2.out.2.trans (RFr.set hkb (Or.inl rfl) hg _ _)⟩
    injection e' with e'
    subst e'
    exact hv.ne _ e rfl
  obtain ⟨aw, cw, rfl, _⟩ := hv.t.rows
  obtain ⟨w3, hw3⟩ : ∃ w3, w2.setCell ⟨g, i, none⟩ (.string P) = w3 := ⟨_, rfl⟩
  rw [hw3] at X3
  have hb3 : base ≤ w3.heap.size := Nat.le_trans hbase X3.out.2.b.size
  clear hv hkb hcs hir ho hlc hm
  unfold maxLen at *
  have hcl : now.length ≤ cap ∧ cap ≤ 2 ^ 63 - 1 := by
    rcases X3.out.1.n with ⟨e, _⟩ | ⟨g', cap', cur', e, _, _, h1, h2, _⟩
    · cases e
    · injection e with e1 e2 e3
      subst e3
      rw [List.length_set] at h1
      exact ⟨h1, h2⟩
  have hcl1 := hcl.1
  have hcl2 := hcl.2
  clear hcl
  obtain ⟨WA, g2, c2, w9, hWA, HRA, ra2, ra3, ra9, fa9, Y⟩ := X3.out.1.appW hb3 (by omega) (i : Int) P w3 (Below.refl _ _)
  have ra1 : w3.cell? ⟨rb, 2, none⟩ = some (.slice aw wait.length cw) := X3.out.1.d.cell 2
  have YF : Hid (∀ W, W = w9.setCell ⟨rb, 2, none⟩ (.slice (some ⟨g2, 0, none⟩) (wait.length + 1) c2) → PP (.returned (.int .i64 0)) W) := fun W e => by
    rw [e]
    exact HP.out _ (X3.out.2.trans Y.out.2) Y.out.1.rd
  clear HP X2 X3 Y ra2
  go_wp2_with (at_builtin; refine wpList_appD rfl _ _ _ rfl _ _ rfl rfl _ _ HRA.out ?_)
  exact YF.out _ rfl

end Dk
end Go.Proofs.Ytmojjjikaaclpaa
