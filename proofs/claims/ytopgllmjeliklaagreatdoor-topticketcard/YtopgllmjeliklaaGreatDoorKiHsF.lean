/- HsF ViewD ViewE. -/
import Derived.Test.YtopgllmjeliklaaGreatDoorKiHsE
import Derived.Test.YtopgllmjeliklaaGreatDoorKiGuardA
set_option maxRecDepth 100000
set_option linter.unusedSimpArgs false
set_option linter.unusedVariables false
namespace Go.Proofs.YtopgllmjeliklaaGreatDoor
open Go.Shelf Go.Lib Go.ChangeShapes Go.WideShapes Go.ChangeAt Go.RowKit
namespace Hs
open Bk Lg Pl Dk Tx
def followS : List (Int × Int) → St → List (Int × Int) × St
 | [], s => ([], s)
 | g :: l, s => if nextS g s = 45 then followS l s else if mayS (nextS g s) s = true then (g :: l, stepS (nextS g s) s) else ([], s)
theorem HouseS.le {w : World} {base pb mb n n' db sb L hb : Nat} {secs : List Sec} {armed : Bool} {left : Int} {lv : List (Int × Int × Int)} {s : St} {b : PB} {gs : List (Int × Int)} (h : HouseS w base pb mb n db sb L hb secs armed left lv s b gs) (hn : n ≤ n') : HouseS w base pb mb n' db sb L hb secs armed left lv s b gs :=
 ⟨h.h, h.p.le hn, h.iv, h.l, h.hpb, h.hmb, h.hhb, h.hsz, h.n1, h.n4, h.ok⟩
def FollowPost (base pb mb n db sb L hb : Nat) (secs : List Sec) (armed : Bool) (left : Int) (lv : List (Int × Int × Int)) (b : PB) (R : List (Int × Int) × St) (w : World) (e : Ending) (w' : World) : Prop :=
 e = .returned (.tuple #[]) ∧ HouseS w' base pb mb (n + 1) db sb L hb secs armed left lv R.2 b R.1 ∧ HFr base w w'
set_option maxHeartbeats 4000000 in
theorem follow_any (base pb mb n db sb L hb : Nat) (secs : List Sec) (armed : Bool) (left : Int) (lv : List (Int × Int × Int)) (s : St) (b : PB) (gs : List (Int × Int)) (w : World) (h : HouseS w base pb mb n db sb L hb secs armed left lv s b gs) (hn : n < maxLen) :
  Calls Tryz.prog 54 #[.pointer (some ⟨hb, 0, none⟩)] w (FollowPost base pb mb n db sb L hb secs armed left lv b (followS gs s) w) := by
 obtain ⟨R, HR⟩ : ∃ R, Hid (followS gs s = R) := ⟨_, rfl⟩
 rw [HR.out]; have HFIN : Hid (∀ w', HouseS w' base pb mb (n + 1) db sb L hb secs armed left lv R.2 b R.1 → HFr base w w' → FollowPost base pb mb n db sb L hb secs armed left lv b R w (.returned (.tuple #[])) w') := fun w' h1 h2 => ⟨rfl, h1, h2⟩
 generalize FollowPost base pb mb n db sb L hb secs armed left lv b R w = PP at *; have iv := h.iv; have HSe : Hid (Calls Tryz.prog 19 #[.pointer (some ⟨pb, 0, none⟩)] w fun e w' => e = .returned (senseV s) ∧ Below w.heap.size w w') := sense_any pb mb n s w h.p iv.ok
 have HNx : Hid (∀ K N w1, Calls Tryz.prog 89 #[.agg #[.int .i64 K, .int .i64 N], senseV s] w1 fun e w' => e = .returned (.tuple #[.int .u8 (nextS (K, N) s), .bool (nextS (K, N) s == 45)]) ∧ Below w1.heap.size w1 w') := fun K N w1 => next_any K N s.h s.ex s.op s.pe s.li s.ba _ _ _ w1
 have HMa : Hid (∀ w1 c, Calls Tryz.prog 90 #[.int .u8 c, senseV s] w1 fun e w' => e = .returned (.bool (mayS c s)) ∧ Below w1.heap.size w1 w') := fun w1 c => may_sense c s iv w1
 have HSt : Hid (∀ w1 c, IsP w1 pb mb n s → Calls Tryz.prog 74 #[.pointer (some ⟨pb, 0, none⟩), .int .u8 c] w1 fun e w' => e = .returned (.tuple #[]) ∧ IsP w' pb mb (n + 1) (stepS c s) ∧ Turn pb mb w1 w') := fun w1 c hp => step_any pb mb n s c w1 hp iv.ok (by omega) iv.wf iv.st.2
 have HV1 : Hid (senseV s = .agg #[.int .i64 s.h, .int .i64 s.ex, .bool s.op, .int .i64 s.pe, .int .i64 s.li, .int .i64 s.ba, .bool (carAtI s.D s.lv s.h s.ex != 0), .bool (carAtI s.D s.lv s.h (s.ex - 1) != 0), .bool (carAtI s.D s.lv s.h (s.ex + 1) != 0)]) := rfl; have HI2 : Hid (∀ c, Inv (stepS c s)) := fun c => iv.step c
 have HH : Hid (HouseS w base pb mb n db sb L hb secs armed left lv s b gs) := h; obtain ⟨vl, vg, hH, _, _⟩ := h.h; have r0 := hH.cell; clear iv h hH; rw [HV1.out] at HSe HNx HMa; clear HV1; generalize (carAtI s.D s.lv s.h s.ex != 0) = q1 at *; generalize (carAtI s.D s.lv s.h (s.ex - 1) != 0) = q2 at *; generalize (carAtI s.D s.lv s.h (s.ex + 1) != 0) = q3 at *; generalize s.li = li at *; generalize s.ba = ba at *; generalize s.h = h at *; generalize s.ex = ex at *; generalize s.op = op at *; generalize s.pe = pe at *
 go_enter Tryz.func54, Tryz.ntmps54
 go_wp2_with fail; refine HSe.out.mono ?_; rintro e w1 ⟨rfl, b1⟩; obtain ⟨w2, hw2⟩ : ∃ w2, w1.alloc (.cells #[.int .i64 h, .int .i64 ex, .bool op, .int .i64 pe, .int .i64 li, .int .i64 ba, .bool q1, .bool q2, .bool q3] 46) = w2 := ⟨_, rfl⟩
 obtain ⟨SB, hSB⟩ : ∃ SB, w1.heap.size = SB := ⟨_, rfl⟩
 have N2 : Hid (Below w.heap.size w w2 ∧ Blk w2 SB #[.int .i64 h, .int .i64 ex, .bool op, .int .i64 pe, .int .i64 li, .int .i64 ba, .bool q1, .bool q2, .bool q3] 46) := by
  show _ ∧ _
  rw [← hw2, ← hSB]; exact ⟨B.next b1 (B.new1 _ _) b1.size, Blk.new _ _ _⟩
 have H2 : Hid (HouseS w2 base pb mb n db sb L hb secs armed left lv s b gs ∧ HFr base w w2) := ⟨HH.out.below N2.out.1, HFr.of_below N2.out.1 HH.out.hsz⟩; have S2 : Hid (Blk w2 SB #[.int .i64 h, .int .i64 ex, .bool op, .int .i64 pe, .int .i64 li, .int .i64 ba, .bool q1, .bool q2, .bool q3] 46) := N2.out.2; clear HSe HH r0 b1 N2; go_wp2_with fail
 (try simp only [hw2, hSB])
 clear hw2 hSB
 go_loopg [3, 4] gs.length (fun q c d wr => ∃ l : List (Int × Int), l.length = q ∧ Hid (HouseS wr base pb mb n db sb L hb secs armed left lv s b l) ∧ Hid (HFr base w wr) ∧ Hid (Blk wr SB #[.int .i64 h, .int .i64 ex, .bool op, .int .i64 pe, .int .i64 li, .int .i64 ba, .bool q1, .bool q2, .bool q3] 46) ∧ Hid (followS l s = R))
 case atStart => exact ⟨gs, rfl, H2.out.1, H2.out.2, S2, HR⟩
 case round =>
  clear H2 S2 HR; obtain ⟨l0, hl0, HH, HF, HS, HR⟩ := hrel; obtain ⟨vl, vg, hH, _, hG⟩ := HH.out.h
  cases l0 with
  | nil =>
    obtain ⟨ad, cap, hv, _⟩ := hG; simp only [List.length_nil] at hv; subst hv; have r := hH.cell; have HE : Hid (R = ([], s)) := HR.out.symm; have HQ : Hid (PP (.returned (.tuple #[])) wr) := HFIN.out wr (by rw [HE.out]; exact HH.out.le (Nat.le_succ n)) HF.out; clear HE HR HFIN HH HF HS HNx HMa HSt HI2 hH; go_wp2; go_returns; exact HQ.out
  | cons g0 l =>
    obtain ⟨K, N⟩ := g0; obtain ⟨ad, cap, hv, hl1, hl2, hl3, hc⟩ := id hG; subst hv; obtain ⟨g, off, rfl, _, hcap, hT⟩ := GoalsH.tail hG; obtain ⟨g', off', cur, e, hk, hcell⟩ := hc (by simp); injection e with e; injection e with e1 e2 _; subst e1 e2; simp only [List.length_cons] at hl1 hl2 hcell hl0 hH; have k0 := (hcell 0 (by omega)).1; have k1 := (hcell 0 (by omega)).2
    simp at k0 k1
    have HS9 : Hid (∀ W, Below wr.heap.size wr W → W.cell? ⟨hb, 3, none⟩ = some (.slice (some ⟨g, off, none⟩) (l.length + 1) cap) ∧ W.cell? ⟨g, off, none⟩ = some (.int .i64 K) ∧ W.cell? ⟨g, off + 1, none⟩ = some (.int .i64 N) ∧ W.cell? ⟨SB, 0, none⟩ = some (.int .i64 h) ∧ W.cell? ⟨SB, 1, none⟩ = some (.int .i64 ex) ∧ W.cell? ⟨SB, 2, none⟩ = some (.bool op) ∧ W.cell? ⟨SB, 3, none⟩ = some (.int .i64 pe) ∧ W.cell? ⟨SB, 4, none⟩ = some (.int .i64 li) ∧ W.cell? ⟨SB, 5, none⟩ = some (.int .i64 ba) ∧ W.cell? ⟨SB, 6, none⟩ = some (.bool q1) ∧ W.cell? ⟨SB, 7, none⟩ = some (.bool q2) ∧ W.cell? ⟨SB, 8, none⟩ = some (.bool q3)) := fun W hB => by
     have a1 := hH.below hB; have a2 := hk.below hB; have a3 := HS.out.below hB; refine ⟨a1.cell 3, (a2.cell off).trans k0, (a2.cell (off + 1)).trans k1, a3.cell 0, a3.cell 1, a3.cell 2, a3.cell 3, a3.cell 4, a3.cell 5, a3.cell 6, a3.cell 7, a3.cell 8⟩
    have D0 : Hid (Below wr.heap.size wr wr.drew) := (Below.refl _ _).drew; have r := hH.cell; have HT : Hid (GoalsH wr (.slice (some ⟨g, off + 2, none⟩) l.length (cap - 1)) l) := hT; have hm : cap ≤ 1152921504606846975 ∨ True := Or.inr trivial; have lc : (0 : Int) < ((l.length + 1 : Nat) : Int) := by omega
    have lc2 : (1 : Int) ≤ (cap : Int) := by omega
    have HFol : Hid (R = if nextS (K, N) s = 45 then followS l s else if mayS (nextS (K, N) s) s = true then ((K, N) :: l, stepS (nextS (K, N) s) s) else ([], s)) := HR.out.symm
    have HNx2 := hidd (HNx.out K N); clear HR HNx hc hcell hG hT; generalize nextS (K, N) s = C at *; have HL0 : Hid (l.length + 1 = gk) := hl0; clear hl0
    go_upto_region 2 with fail
    go_region_held3 (fun W => W.cell? ⟨hb, 3, none⟩ = some (.slice (some ⟨g, off, none⟩) (l.length + 1) cap) ∧ W.cell? ⟨g, off, none⟩ = some (.int .i64 K) ∧ W.cell? ⟨g, off + 1, none⟩ = some (.int .i64 N) ∧ W.cell? ⟨SB, 0, none⟩ = some (.int .i64 h) ∧ W.cell? ⟨SB, 1, none⟩ = some (.int .i64 ex) ∧ W.cell? ⟨SB, 2, none⟩ = some (.bool op) ∧ W.cell? ⟨SB, 3, none⟩ = some (.int .i64 pe) ∧ W.cell? ⟨SB, 4, none⟩ = some (.int .i64 li) ∧ W.cell? ⟨SB, 5, none⟩ = some (.int .i64 ba) ∧ W.cell? ⟨SB, 6, none⟩ = some (.bool q1) ∧ W.cell? ⟨SB, 7, none⟩ = some (.bool q2) ∧ W.cell? ⟨SB, 8, none⟩ = some (.bool q3)) (first | with_reducible exact HS9.out _ D0.out | with_reducible exact HS9.out _ B6.out | fail)
     (first
       | (go_at_call 89; refine (HNx2.out _).mono ?_; rintro e w6 ⟨rfl, b6⟩; have B6 : Hid (Below wr.heap.size wr w6) := B.next D0.out b6 D0.out.size; clear b6))
    have H6 : Hid (HouseS w6 base pb mb n db sb L hb secs armed left lv s b ((K, N) :: l)) := HH.out.below B6.out; have F6 : Hid (HFr base w w6) := HF.out.trans (HFr.of_below B6.out HH.out.hsz); have S6 : Hid (Blk w6 SB #[.int .i64 h, .int .i64 ex, .bool op, .int .i64 pe, .int .i64 li, .int .i64 ba, .bool q1, .bool q2, .bool q3] 46) := HS.out.below B6.out; have HT6 : Hid (GoalsH w6 (.slice (some ⟨g, off + 2, none⟩) l.length (cap - 1)) l) := HT.out.far fun _ _ hk => hk.below B6.out
    have hH6 := hH.below B6.out; have r6 := hH6.cell; have f6 := hH6.free; have rS := S6.out.cell; clear HH HF HS HT B6 HS9 D0 HNx2 hk k0 k1 r
    by_cases hC : C = 45
    ·subst hC
     have HQ : Hid (followS l s = R) := by
      have := HFol.out; rw [if_pos rfl] at this; exact this.symm
     have hT0 : Hid (l.length = 0 → GoalsH w6 (.slice (some ⟨g, off, none⟩) l.length 0) l) := fun h0 => ⟨_, 0, rfl, by omega, by omega, by unfold maxLen; omega, fun h => by omega⟩
     have HG1 : Hid (∀ v, GoalsH w6 v l → HouseS (w6.setCell ⟨hb, 3, none⟩ v) base pb mb n db sb L hb secs armed left lv s b l ∧ HFr base w (w6.setCell ⟨hb, 3, none⟩ v) ∧ Blk (w6.setCell ⟨hb, 3, none⟩ v) SB #[.int .i64 h, .int .i64 ex, .bool op, .int .i64 pe, .int .i64 li, .int .i64 ba, .bool q1, .bool q2, .bool q3] 46) := fun v hv => by
      obtain ⟨a1, a2⟩ := H6.out.goals hv; exact ⟨a1, F6.out.trans a2, a2.far _ _ _ (by decide) (by decide) (by decide) (by decide) (by decide) (by decide) S6.out⟩
     clear HFol HMa HSt HI2 HFIN H6 F6 S6 rS hH hH6; go_wp2_with fail
     all_goals go_roundg (gk - 1)
     all_goals first
      | (have := HL0.out; omega)
      | exact ⟨l, by have := HL0.out; omega, (HG1.out _ HT6.out).1, (HG1.out _ HT6.out).2.1, (HG1.out _ HT6.out).2.2, HQ⟩
      | exact ⟨l, by have := HL0.out; omega, (HG1.out _ (hT0.out (by omega))).1, (HG1.out _ (hT0.out (by omega))).2.1, (HG1.out _ (hT0.out (by omega))).2.2, HQ⟩
    ·have hC' : (C == 45) = false := by simpa using hC
     have HQ : Hid (R = if mayS C s = true then ((K, N) :: l, stepS C s) else ([], s)) := by
      have := HFol.out
      rwa [if_neg hC] at this
     clear HFol hC; go_wp2_with fail; refine (HMa.out _ C).mono ?_; rintro e w7 ⟨rfl, b7⟩; have H7 : Hid (HouseS w7 base pb mb n db sb L hb secs armed left lv s b ((K, N) :: l)) := H6.out.below b7; have F7 : Hid (HFr base w w7) := F6.out.trans (HFr.of_below b7 H6.out.hsz); have hH7 := hH6.below b7; have r7 := hH7.cell; have f7 := hH7.free; have HI3 := hidd (HI2.out C); have HSt3 := hidd (fun w1 => HSt.out w1 C)
     clear H6 F6 S6 HT6 HMa HI2 HSt b7 rS r6 f6 hH hH6; generalize mayS C s = m at *; generalize stepS C s = s2 at *
     cases m
     ·have HE : Hid (R = ([], s)) := by have := HQ.out; show _ = _; simpa using this
      have HP : Hid (PP (.returned (.tuple #[])) (w7.setCell ⟨hb, 3, none⟩ (.slice none 0 0))) := by
       obtain ⟨a1, a2⟩ := H7.out.goals (GoalsH.nil w7); exact HFIN.out _ (by rw [HE.out]; exact a1.le (Nat.le_succ n)) (F7.out.trans a2)
      clear HE HQ HFIN H7 F7 HI3 HSt3 hH7; go_wp2; go_returns; exact HP.out
     ·have HE : Hid (R = ((K, N) :: l, s2)) := by have := HQ.out; show _ = _; simpa using this
      have HSt4 := hidd (HSt3.out w7 H7.out.p); clear HQ HSt3; go_wp2_with fail; refine HSt4.out.mono ?_; rintro e w8 ⟨rfl, p8, t8⟩; have HP : Hid (PP (.returned (.tuple #[])) w8) := HFIN.out _ (by rw [HE.out]; exact H7.out.turned t8 p8 HI3.out) (F7.out.trans (HFr.of_turn H7.out.p H7.out.hpb H7.out.hmb H7.out.hsz t8)); clear HE HFIN H7 F7 HI3 HSt4 hH7 p8 t8 r7 f7; go_wp2; go_returns; exact HP.out
end Hs
namespace Tn
open Bk Pl
def sIn (v : Stay) : Prop := 1 ≤ v.x ∧ v.x ≤ 4 ∧ 0 ≤ v.y ∧ v.y ≤ 1 ∧ 0 ≤ v.z ∧ v.z ≤ 1
theorem carO_mem {b : Book} {id : Int} {x : Stay} (h : carO b id = some x) : x ∈ b.stays := List.mem_of_find?_eq_some h
def unloadO (D : DataW Unit) (ba : Int) (bz : Bool) (jt : Int) (jf : Bool) (vs : Stay) (sx sy sz : Int) : Option Stay → List (Int × Int)
 | none => gGive
 | some x => if ((jt == x.t && jf == true) && ba == 0) = true then gGive else if ((x.z == 1 && carOf D x.x x.y 0 != 0) || blocksO D bz jf vs (some x)) = true then gThere 4 sx sy sz else gThere 4 x.x x.y x.z
def unloadG (b : Book) (s : St) (bz : Bool) (jt : Int) (jf : Bool) (vs : Stay) (sx sy sz : Int) : List (Int × Int) := unloadO s.D s.ba bz jt jf vs sx sy sz (carO b s.li)
set_option maxHeartbeats 8000000 in
theorem vunload_any (vb pb mb n : Nat) (s : St) (b : Book) (q1 q2 q3 bz : Bool) (jt : Int) (jf : Bool) (vs : Stay) (sx sy sz : Int) (w : World) (h : ViewAt w vb pb mb n s b q1 q2 q3 bz jt jf vs) (hs : sOk vs) (hsx : 1 ≤ sx ∧ sx ≤ 4) (hsz : 0 ≤ sz ∧ sz ≤ 1) (hst : ∀ x ∈ b.stays, sIn x) :
  Calls Tryz.prog 79 #[.pointer (some ⟨vb, 0, none⟩), .agg #[.int .i64 sx, .int .i64 sy, .int .i64 sz]] w fun e w' => ∃ v, e = .returned v ∧ Goals w' v (unloadG b s bz jt jf vs sx sy sz) ∧ Below w.heap.size w w' := by
 have HSO : Hid (∀ wx, Below w.heap.size w wx → Calls Tryz.prog 114 #[.pointer (some ⟨vb, 0, none⟩), .int .i64 s.li] wx (StayPost b s.li wx)) := fun wx hx => vstayOf_any vb pb mb n s b q1 q2 q3 bz jt jf vs s.li wx (h.next hx)
 have HBL : Hid (∀ wx, Below w.heap.size w wx → Calls Tryz.prog 80 #[.pointer (some ⟨vb, 0, none⟩), .int .i64 s.li] wx fun e w' => e = .returned (.bool (blocksB b s bz jf vs s.li)) ∧ Below wx.heap.size wx w') := fun wx hx => vblocks_any vb pb mb n s b q1 q2 q3 bz jt jf vs s.li wx (h.next hx) hs
 have HAX : Hid (∀ x : Stay, sIn x → ∀ wx, Below w.heap.size w wx → Calls Tryz.prog 34 #[.pointer (some ⟨pb, 0, none⟩), .agg #[.int .i64 x.x, .int .i64 x.y, .int .i64 0]] wx fun e w' => e = .returned (.int .i64 (carOf s.D x.x x.y 0)) ∧ Below wx.heap.size wx w') := fun x hx wx hb => vat_any vb pb mb n s b q1 q2 q3 bz jt jf vs x.x x.y 0 wx (h.next hb) ⟨Int.le_trans (by decide) hx.1, hx.2.1⟩ ⟨hx.2.2.1, hx.2.2.2.1⟩ (by decide)
 have HV : Hid (∀ wx, Below w.heap.size w wx → Blk wx vb (vArr b s pb q1 q2 q3 bz jt jf vs) 135) := fun wx hx => h.v.below hx
 have HST : Hid (∀ x, carO b s.li = some x → sIn x) := fun x hx => hst x (carO_mem hx)
 have KU : Hid (unloadG b s bz jt jf vs sx sy sz = unloadO s.D s.ba bz jt jf vs sx sy sz (carO b s.li)) := rfl; have KBL : Hid (blocksB b s bz jf vs s.li = blocksO s.D bz jf vs (carO b s.li)) := rfl; have HP : Hid (∀ v w', Goals w' v (unloadG b s bz jt jf vs sx sy sz) → Below w.heap.size w w' → ∃ v', Ending.returned v = .returned v' ∧ Goals w' v' (unloadG b s bz jt jf vs sx sy sz) ∧ Below w.heap.size w w') := fun v w' h1 h2 => ⟨v, rfl, h1, h2⟩
 generalize hPP : (fun (e : Ending) (w' : World) => ∃ v, e = .returned v ∧ Goals w' v (unloadG b s bz jt jf vs sx sy sz) ∧ Below w.heap.size w w') = PP
 have HP2 : Hid (∀ v w', Goals w' v (unloadG b s bz jt jf vs sx sy sz) → Below w.heap.size w w' → PP (.returned v) w') := fun v w' h1 h2 => by rw [← hPP]; exact HP.out v w' h1 h2
 clear hPP HP; have HP := HP2; clear HP2; rw [KU.out] at HP; rw [KBL.out] at HBL; clear KU KBL h hst; obtain ⟨w0, hw0⟩ : ∃ w0, w.alloc (.cells #[.int .i64 sx, .int .i64 sy, .int .i64 sz] 65) = w0 := ⟨_, rfl⟩
 have N0 : Hid (Below w.heap.size w w0 ∧ Blk w0 w.heap.size #[.int .i64 sx, .int .i64 sy, .int .i64 sz] 65) := by
  show _ ∧ _
  rw [← hw0]; exact ⟨B.new1 _ _, Blk.new _ _ _⟩
 have rv := (HV.out _ N0.out.1).cell; unfold vArr at rv
 go_enter Tryz.func79, Tryz.ntmps79
 go_wp2_with fail; clear hw0 rv; refine (HSO.out _ N0.out.1).mono ?_; rintro e w1 ⟨rfl, b1⟩; have N1 : Hid (Below w.heap.size w w1 ∧ Blk w1 w.heap.size #[.int .i64 sx, .int .i64 sy, .int .i64 sz] 65) := ⟨B.next N0.out.1 b1 N0.out.1.size, N0.out.2.below b1⟩; clear b1 N0 HSO; obtain ⟨o, ho⟩ : ∃ o, carO b s.li = o := ⟨_, rfl⟩
 rw [ho] at HP HBL HST ⊢; clear ho
 cases o with
 | none =>
   simp only [stayA, Option.isSome]; simp only [unloadO] at HP; clear HBL HST HAX; obtain ⟨w3, hw3⟩ : ∃ w3, w1.alloc (.cells #[.int .i64 0, .int .i64 0, .int .i64 0, .int .i64 0, .int .i64 0, .int .i64 0, .int .i64 0, .int .i64 0] 67) = w3 := ⟨_, rfl⟩
   obtain ⟨sb, hsb⟩ : ∃ sb, w1.heap.size = sb := ⟨_, rfl⟩
   have N3 : Hid (Below w.heap.size w w3 ∧ Blk w3 sb #[.int .i64 0, .int .i64 0, .int .i64 0, .int .i64 0, .int .i64 0, .int .i64 0, .int .i64 0, .int .i64 0] 67) := by
    show _ ∧ _
    rw [← hw3]; exact ⟨N1.out.1.alloc N1.out.1.size _, Blk.new1 hsb.symm _ _⟩
   have HW3 : Hid (w1.alloc (.cells #[.int .i64 0, .int .i64 0, .int .i64 0, .int .i64 0, .int .i64 0, .int .i64 0, .int .i64 0, .int .i64 0] 67) = w3) := hw3; clear hw3 N1
   go_upto_region 2 with fail
   simp only [HW3.out, hsb]; clear HW3 hsb; have HVC : Hid (∀ p : BelowW w3, Blk p.wd vb (vArr b s pb q1 q2 q3 bz jt jf vs) 135) := fun p => HV.out _ (B.next N3.out.1 p.hb N3.out.1.size)
   have v16 := fun p : BelowW w3 => (HVC.out p).cell 16
   have v17 := fun p : BelowW w3 => (HVC.out p).cell 17
   simp only [vArr] at v16 v17; have x0 := fun p : BelowW w3 => (N3.out.2.below p.hb).cell 0
   have e1 := eqJ_run jt 0 jf true; have g1 := eqJ_guard jt 0 jf true; generalize (jt == 0 && jf == true) = qw at e1; refine wp_region_below (by kernel_rfl) (by kernel_rfl) ?_
   repeat (go_big_quiet_step (fail))
   refine wpQuiet_nil ?_; rintro wb ⟨⟨_, NQ⟩, rfl⟩; have N4 : Hid (Below w.heap.size w wb ∧ True) := ⟨B.next N3.out.1 NQ N3.out.1.size, trivial⟩; clear v16 v17 x0 e1 g1 HVC N3 NQ; go_wp2_with fail; refine (giveOut_any _).mono ?_; rintro e w2 ⟨v, rfl, ho⟩; have X : Hid (Goals w2 v gGive ∧ Below w.heap.size w w2) := ⟨Or.inr (ho.at (by decide) (by decide)), B.next N4.out.1 ho.2 N4.out.1.size⟩; clear ho; go_wp2; exact HP.out _ _ X.out.1 X.out.2
 | some x =>
   simp only [stayA, Option.isSome]; have hin : sIn x := HST.out x rfl; obtain ⟨hx1, hx4, hy0, hy1, hz0, hz1⟩ := hin; have HAT : Hid (∀ wx, Below w.heap.size w wx → Calls Tryz.prog 34 #[.pointer (some ⟨pb, 0, none⟩), .agg #[.int .i64 x.x, .int .i64 x.y, .int .i64 0]] wx fun e w' => e = .returned (.int .i64 (carOf s.D x.x x.y 0)) ∧ Below wx.heap.size wx w') := HAX.out x (HST.out x rfl)
   have HFR : Hid (∀ wx, Calls Tryz.prog 98 #[.agg #[.int .i64 x.x, .int .i64 x.y, .int .i64 x.z]] wx fun e w' => e = .returned (.agg #[.int .i64 x.x, .int .i64 x.y, .int .i64 0]) ∧ Below wx.heap.size wx w') := fun wx => front_any _ _ _ wx
   clear HST HAX; obtain ⟨bo, hbo⟩ : ∃ bo, blocksO s.D bz jf vs (some x) = bo := ⟨_, rfl⟩
   rw [hbo] at HBL; obtain ⟨cv, hcv⟩ : ∃ cv, carOf s.D x.x x.y 0 = cv := ⟨_, rfl⟩
   rw [hcv] at HAT; obtain ⟨qw, hqw⟩ : ∃ qw, (jt == x.t && jf == true) = qw := ⟨_, rfl⟩
   have HP3 : Hid (∀ v w', Goals w' v (if (qw && s.ba == 0) = true then gGive else if ((x.z == 1 && cv != 0) || bo) = true then gThere 4 sx sy sz else gThere 4 x.x x.y x.z) → Below w.heap.size w w' → PP (.returned v) w') := by
    have := HP.out; simp only [unloadO, hbo, hcv, hqw] at this; exact this
   clear HP hbo hcv; have HP := HP3; clear HP3; obtain ⟨w3, hw3⟩ : ∃ w3, w1.alloc (.cells #[.int .i64 x.t, .int .i64 x.id, .int .i64 x.a, .int .i64 x.b, .int .i64 x.c, .int .i64 x.x, .int .i64 x.y, .int .i64 x.z] 67) = w3 := ⟨_, rfl⟩
   obtain ⟨sb, hsb⟩ : ∃ sb, w1.heap.size = sb := ⟨_, rfl⟩
   have N3 : Hid (Below w.heap.size w w3 ∧ Blk w3 w.heap.size #[.int .i64 sx, .int .i64 sy, .int .i64 sz] 65 ∧ Blk w3 sb #[.int .i64 x.t, .int .i64 x.id, .int .i64 x.a, .int .i64 x.b, .int .i64 x.c, .int .i64 x.x, .int .i64 x.y, .int .i64 x.z] 67) := by
    show _ ∧ _ ∧ _
    rw [← hw3]; exact ⟨N1.out.1.alloc N1.out.1.size _, N1.out.2.old _, Blk.new1 hsb.symm _ _⟩
   have HW3 : Hid (w1.alloc (.cells #[.int .i64 x.t, .int .i64 x.id, .int .i64 x.a, .int .i64 x.b, .int .i64 x.c, .int .i64 x.x, .int .i64 x.y, .int .i64 x.z] 67) = w3) := hw3; clear hw3 N1
   go_upto_region 2 with fail
   simp only [HW3.out, hsb]; clear HW3 hsb; have HVC : Hid (∀ p : BelowW w3, Blk p.wd vb (vArr b s pb q1 q2 q3 bz jt jf vs) 135) := fun p => HV.out _ (B.next N3.out.1 p.hb N3.out.1.size)
   have v16 := fun p : BelowW w3 => (HVC.out p).cell 16
   have v17 := fun p : BelowW w3 => (HVC.out p).cell 17
   simp only [vArr] at v16 v17; have x0 := fun p : BelowW w3 => (N3.out.2.2.below p.hb).cell 0
   have e1 := eqJ_run jt x.t jf true; have g1 := eqJ_guard jt x.t jf true; rw [hqw] at e1; clear hqw; refine wp_region_below (by kernel_rfl) (by kernel_rfl) ?_
   repeat (go_big_quiet_step (fail))
   refine wpQuiet_nil ?_; rintro wb ⟨⟨_, NQ⟩, rfl⟩; have N4 : Hid (Below w.heap.size w wb ∧ Blk wb w.heap.size #[.int .i64 sx, .int .i64 sy, .int .i64 sz] 65 ∧ Blk wb sb #[.int .i64 x.t, .int .i64 x.id, .int .i64 x.a, .int .i64 x.b, .int .i64 x.c, .int .i64 x.x, .int .i64 x.y, .int .i64 x.z] 67) := ⟨B.next N3.out.1 NQ N3.out.1.size, N3.out.2.1.below NQ, N3.out.2.2.below NQ⟩; clear v16 v17 x0 e1 g1 HVC N3 NQ; obtain ⟨qg, hqg⟩ : ∃ qg, (qw && s.ba == 0) = qg := ⟨_, rfl⟩
   rw [hqg] at HP
   go_upto_region 3 with fail
   go_cut [39] (fun s39 wx => s39 = .bool qg ∧ Hid (Below w.heap.size w wx ∧ Blk wx w.heap.size #[.int .i64 sx, .int .i64 sy, .int .i64 sz] 65 ∧ Blk wx sb #[.int .i64 x.t, .int .i64 x.id, .int .i64 x.a, .int .i64 x.b, .int .i64 x.c, .int .i64 x.x, .int .i64 x.y, .int .i64 x.z] 67))
   case first =>
    have rv := (HV.out _ N4.out.1).cell; unfold vArr at rv
    cases qw
    ·obtain rfl : false = qg := by rw [← hqg]; rfl
     go_wp2
     go_meet
     exact ⟨rfl, N4⟩
    ·cases hb0 : (s.ba == 0)
     ·obtain rfl : false = qg := by rw [← hqg, hb0]; rfl
      go_wp2
      go_meet
      exact ⟨rfl, N4⟩
     ·obtain rfl : true = qg := by rw [← hqg, hb0]; rfl
      go_wp2
      go_meet
      exact ⟨rfl, N4⟩
   case rest =>
   clear N4 hqg; obtain ⟨rfl, N4⟩ := hcut
   cases qg
   case true =>
    simp only [if_true] at HP; go_wp2_with fail; refine (giveOut_any _).mono ?_; rintro e w2 ⟨v, rfl, ho⟩; have X : Hid (Goals w2 v gGive ∧ Below w.heap.size w w2) := ⟨Or.inr (ho.at (by decide) (by decide)), B.next N4.out.1 ho.2 N4.out.1.size⟩; clear ho; go_wp2; exact HP.out _ _ X.out.1 X.out.2
   simp only [Bool.false_eq_true, if_false] at HP; obtain ⟨qs, hqs⟩ : ∃ qs, (x.z == 1 && cv != 0) = qs := ⟨_, rfl⟩
   rw [hqs] at HP
   go_upto_region 5 with fail
   go_cut [8] (fun s8 wx => s8 = .bool qs ∧ Hid (Below w.heap.size w wx ∧ Blk wx w.heap.size #[.int .i64 sx, .int .i64 sy, .int .i64 sz] 65 ∧ Blk wx sb #[.int .i64 x.t, .int .i64 x.id, .int .i64 x.a, .int .i64 x.b, .int .i64 x.c, .int .i64 x.x, .int .i64 x.y, .int .i64 x.z] 67))
   case first =>
    have HAQ : Hid (∀ p : BelowW wc, Calls Tryz.prog 34 #[.pointer (some ⟨pb, 0, none⟩), .agg #[.int .i64 x.x, .int .i64 x.y, .int .i64 0]] p.wd fun e w' => e = .returned (.int .i64 cv) ∧ Below p.wd.heap.size p.wd w') := fun p => HAT.out _ (B.next N4.out.1 p.hb N4.out.1.size)
    have HVC : Hid (∀ p : BelowW wc, Blk p.wd vb (vArr b s pb q1 q2 q3 bz jt jf vs) 135) := fun p => HV.out _ (B.next N4.out.1 p.hb N4.out.1.size)
    have v12 := fun p : BelowW wc => (HVC.out p).cell 12
    simp only [vArr] at v12; have x5 := fun p : BelowW wc => (N4.out.2.2.below p.hb).cell 5
    have x6 := fun p : BelowW wc => (N4.out.2.2.below p.hb).cell 6
    have x7 := fun p : BelowW wc => (N4.out.2.2.below p.hb).cell 7
    clear HVC HV HAT HBL
    cases c1 : (x.z == 1)
    ·obtain rfl : false = qs := by rw [← hqs, c1]; rfl
     refine wp_region_below (by kernel_rfl) (by kernel_rfl) ?_
     repeat (go_big_quiet_step (first | (go_at_call 34; exact Calls.wof (HAQ.out _)) | (go_at_call 98; exact Calls.wof (HFR.out _))))
     refine wpQuiet_nil ?_; rintro wb ⟨⟨_, NQ⟩, rfl⟩; go_wp2
     go_meet
     exact ⟨rfl, B.next N4.out.1 NQ N4.out.1.size, N4.out.2.1.below NQ, N4.out.2.2.below NQ⟩
    ·rw [c1, Bool.true_and] at hqs
     refine wp_region_below (by kernel_rfl) (by kernel_rfl) ?_
     repeat (go_big_quiet_step (first | (go_at_call 34; exact Calls.wof (HAQ.out _)) | (go_at_call 98; exact Calls.wof (HFR.out _))))
     refine wpQuiet_nil ?_; rintro wb ⟨⟨_, NQ⟩, rfl⟩; go_wp2
     go_meet
     exact ⟨rfl, B.next N4.out.1 NQ N4.out.1.size, N4.out.2.1.below NQ, N4.out.2.2.below NQ⟩
   case rest =>
   clear N4 hqs; obtain ⟨rfl, N4⟩ := hcut
   cases qs
   case true =>
    simp only [Bool.true_or, if_true] at HP; have rs := N4.out.2.1.cell; go_wp2_with fail; clear rs; refine (bring_any sx sy sz _ hsx.1 hsx.2 hsz.1 hsz.2).mono ?_; rintro e w2 ⟨v, rfl, ho, hb2⟩; have X : Hid (Goals w2 v (gThere 4 sx sy sz) ∧ Below w.heap.size w w2) := ⟨Or.inr ho, B.next N4.out.1 hb2 N4.out.1.size⟩; clear ho hb2; go_wp2; exact HP.out _ _ X.out.1 X.out.2
   simp only [Bool.false_or] at HP; have rv := (HV.out _ N4.out.1).cell; unfold vArr at rv; go_wp2_with fail; clear rv; refine (HBL.out _ N4.out.1).mono ?_; rintro e w5 ⟨rfl, b5⟩; have N5 : Hid (Below w.heap.size w w5 ∧ Blk w5 w.heap.size #[.int .i64 sx, .int .i64 sy, .int .i64 sz] 65 ∧ Blk w5 sb #[.int .i64 x.t, .int .i64 x.id, .int .i64 x.a, .int .i64 x.b, .int .i64 x.c, .int .i64 x.x, .int .i64 x.y, .int .i64 x.z] 67) := ⟨B.next N4.out.1 b5 N4.out.1.size, N4.out.2.1.below b5, N4.out.2.2.below b5⟩; clear b5 N4 HBL
   cases bo
   ·simp only [Bool.false_eq_true, if_false] at HP
    have rs := N5.out.2.2.cell; go_wp2_with fail; clear rs; refine (bring_any x.x x.y x.z _ hx1 hx4 hz0 hz1).mono ?_; rintro e w2 ⟨v, rfl, ho, hb2⟩; have X : Hid (Goals w2 v (gThere 4 x.x x.y x.z) ∧ Below w.heap.size w w2) := ⟨Or.inr ho, B.next N5.out.1 hb2 N5.out.1.size⟩; clear ho hb2; go_wp2; exact HP.out _ _ X.out.1 X.out.2
   ·simp only [if_true] at HP
    have rs := N5.out.2.1.cell; go_wp2_with fail; clear rs; refine (bring_any sx sy sz _ hsx.1 hsx.2 hsz.1 hsz.2).mono ?_; rintro e w2 ⟨v, rfl, ho, hb2⟩; have X : Hid (Goals w2 v (gThere 4 sx sy sz) ∧ Below w.heap.size w w2) := ⟨Or.inr ho, B.next N5.out.1 hb2 N5.out.1.size⟩; clear ho hb2; go_wp2; exact HP.out _ _ X.out.1 X.out.2
end Tn
namespace Tn
open Bk Pl
def FetchP (s : St) (vs : Stay) (l : List (Int × Int)) : Prop :=
 if s.ba ≠ 0 then l = welG s else if s.op = true then l = [(5, 0)] else
 ∃ x y z ok, WhereP s.D vs.id x y z ok ∧ ((ok = false ∧ l = []) ∨ (ok = true ∧ l = if (z == 1 && carOf s.D x y 0 != 0) = true then gThere 3 x y 0 else gThere 3 x y z))
theorem where_in {D : DataW Unit} {lv : Int} (hD : DOk lv D) (hl : lv ≤ 4) {id x y z : Int} (h : WhereP D id x y z true) : (1 ≤ x ∧ x ≤ 4) ∧ (0 ≤ y ∧ y ≤ 1) ∧ (0 ≤ z ∧ z ≤ 1) := by
 rcases h with ⟨_, h1, h2, wx, wy, wz⟩ | ⟨h, _⟩
 ·obtain ⟨x', y', z', e, a1, a2, a3, _⟩ := hD.keys _ h1
  obtain ⟨rfl, rfl, rfl⟩ := pk_inj wx wy wz (wfI (by omega)) (wfI (by omega)) (wfI (by omega)) e; exact ⟨⟨a1.1, by omega⟩, a2, a3⟩
 ·cases h
set_option maxHeartbeats 8000000 in
theorem vfetch_any (vb pb mb n : Nat) (s : St) (b : Book) (q1 q2 q3 bz : Bool) (jt : Int) (jf : Bool) (vs : Stay) (w : World) (h : ViewAt w vb pb mb n s b q1 q2 q3 bz jt jf vs) (iv : Inv s) :
  Calls Tryz.prog 85 #[.pointer (some ⟨vb, 0, none⟩)] w fun e w' => ∃ v l, e = .returned v ∧ FetchP s vs l ∧ Goals w' v l ∧ Below w.heap.size w w' := by
 have HWE : Hid (Calls Tryz.prog 82 #[.pointer (some ⟨vb, 0, none⟩)] w fun e w' => ∃ v, e = .returned v ∧ Goals w' v (welG s) ∧ Below w.heap.size w w') := vwelcome_any vb pb mb n s b q1 q2 q3 bz jt jf vs w h
 have HWH : Hid (∀ wx, Below w.heap.size w wx → Calls Tryz.prog 31 #[.pointer (some ⟨pb, 0, none⟩), .int .i64 vs.id] wx fun e w' => ∃ x y z b, e = .returned (.tuple #[.agg #[.int .i64 x, .int .i64 y, .int .i64 z], .bool b]) ∧ WhereP s.D vs.id x y z b ∧ Below wx.heap.size wx w') := fun wx hx => where_any pb mb n s vs.id wx (h.p.below hx)
 have HAX : Hid (∀ x y, (1 ≤ x ∧ x ≤ 4) → (0 ≤ y ∧ y ≤ 1) → ∀ wx, Below w.heap.size w wx → Calls Tryz.prog 34 #[.pointer (some ⟨pb, 0, none⟩), .agg #[.int .i64 x, .int .i64 y, .int .i64 0]] wx fun e w' => e = .returned (.int .i64 (carOf s.D x y 0)) ∧ Below wx.heap.size wx w') := fun x y hx hy wx hb => vat_any vb pb mb n s b q1 q2 q3 bz jt jf vs x y 0 wx (h.next hb) ⟨Int.le_trans (by decide) hx.1, hx.2⟩ hy (by decide)
 have HV : Hid (∀ wx, Below w.heap.size w wx → Blk wx vb (vArr b s pb q1 q2 q3 bz jt jf vs) 135) := fun wx hx => h.v.below hx
 have HIN : Hid (∀ x y z, WhereP s.D vs.id x y z true → (1 ≤ x ∧ x ≤ 4) ∧ (0 ≤ y ∧ y ≤ 1) ∧ (0 ≤ z ∧ z ≤ 1)) := fun x y z hw => where_in iv.D iv.ok.lv4 hw
 have rv := h.v.cell; unfold vArr at rv; clear h; generalize hPP : (fun (e : Ending) (w' : World) => ∃ v l, e = .returned v ∧ FetchP s vs l ∧ Goals w' v l ∧ Below w.heap.size w w') = PP
 have HP0 : Hid (∀ v l w', FetchP s vs l → Goals w' v l → Below w.heap.size w w' → PP (.returned v) w') := fun v l w' h1 h2 h3 => by rw [← hPP]; exact ⟨v, l, rfl, h1, h2, h3⟩
 clear hPP
 go_enter Tryz.func85, Tryz.ntmps85
 by_cases hba : s.ba = 0
 case neg =>
  have hbz : (s.ba != 0) = true := by simpa using hba
  have HP : Hid (∀ v w', Goals w' v (welG s) → Below w.heap.size w w' → PP (.returned v) w') := fun v w' h2 h3 => HP0.out v _ w' (by unfold FetchP; rw [if_pos hba]) h2 h3
  clear HP0 HIN; go_wp2_with fail; refine HWE.out.mono ?_; rintro e w2 ⟨v, rfl, ho, hb2⟩; have X : Hid (Goals w2 v (welG s) ∧ Below w.heap.size w w2) := ⟨ho, hb2⟩; clear ho hb2; go_wp2; exact HP.out _ _ X.out.1 X.out.2
 have hbz : (s.ba != 0) = false := by simpa using hba
 clear HWE
 cases hop : s.op
 case true =>
  rw [hop] at rv; have HP : Hid (∀ v w', Goals w' v [(5, 0)] → Below w.heap.size w w' → PP (.returned v) w') := fun v w' h2 h3 => HP0.out v _ w' (by unfold FetchP; rw [if_neg (by simp [hba]), if_pos hop]) h2 h3
  clear HP0 HIN hop; go_wp2; refine HP.out _ _ (Or.inr ⟨w.heap.size, 1, rfl, by simp, ⟨Nat.le_of_ble_eq_true rfl, Nat.le_refl _, by unfold maxLen; omega, _, Go.heap_alloc_new w _⟩, fun k hk => ?_⟩) (B.new1 _ _)
  obtain rfl : k = 0 := by simpa using hk
  simp
 rw [hop] at rv; have HP : Hid (∀ v l w', (∃ x y z ok, WhereP s.D vs.id x y z ok ∧ ((ok = false ∧ l = []) ∨ (ok = true ∧ l = if (z == 1 && carOf s.D x y 0 != 0) = true then gThere 3 x y 0 else gThere 3 x y z))) → Goals w' v l → Below w.heap.size w w' → PP (.returned v) w') := fun v l w' h1 h2 h3 => HP0.out v l w' (by unfold FetchP; rw [if_neg (by simp [hba]), if_neg (by simp [hop])]; exact h1) h2 h3
 clear HP0
 go_upto_region 5 with fail
 clear rv; have HS : Hid (∀ W, Below w.heap.size w W → W.cell? ⟨vb, 13, none⟩ = some (.func (.func 31) #[.pointer (some ⟨pb, 0, none⟩)] #[]) ∧ W.cell? ⟨vb, 19, none⟩ = some (.int .i64 vs.id)) := fun W hb => ⟨(HV.out W hb).cell 13, (HV.out W hb).cell 19⟩
 have D0 : Hid (Below w.heap.size w w.drew) := (Below.refl _ _).drew; obtain ⟨wz, hwz⟩ : ∃ wz, w.drew.alloc (.cells #[.int .i64 0, .int .i64 0, .int .i64 0] 65) = wz := ⟨_, rfl⟩
 have DZ : Hid (Below w.heap.size w wz ∧ Blk wz w.heap.size #[.int .i64 0, .int .i64 0, .int .i64 0] 65) := by
  show _ ∧ _
  rw [← hwz]; exact ⟨D0.out.alloc (Nat.le_refl _) _, Blk.new1 (w := w.drew) rfl _ _⟩
 go_region_held3 (fun W => W.cell? ⟨vb, 13, none⟩ = some (.func (.func 31) #[.pointer (some ⟨pb, 0, none⟩)] #[]) ∧ W.cell? ⟨vb, 19, none⟩ = some (.int .i64 vs.id)) (first | with_reducible exact HS.out _ D0.out | with_reducible exact HS.out _ DZ.out.1 | with_reducible exact HS.out _ BQ.out | with_reducible exact HS.out _ (BQ.out.alloc BQ.out.size _) | with_reducible exact HS.out _ BR.out.1 | with_reducible exact HS.out _ (((BR.out.1.setCell (p := ⟨w.heap.size, 0, none⟩) (Nat.le_refl _) _).setCell (p := ⟨w.heap.size, 1, none⟩) (Nat.le_refl _) _).setCell (p := ⟨w.heap.size, 2, none⟩) (Nat.le_refl _) _) | go_keep)
  (first
    | (go_at_call 31; refine (HWH.out w.drew D0.out).mono ?_; rintro e wq ⟨x, y, z, ok, rfl, hW, bq⟩; have BQ : Hid (Below w.heap.size w wq) := B.next D0.out bq D0.out.size; have HWP : Hid (WhereP s.D vs.id x y z ok) := hW; clear bq hW)
    | (go_at_call 31; refine (HWH.out wz DZ.out.1).mono ?_; rintro e wq ⟨x, y, z, ok, rfl, hW, bq⟩; have BR : Hid (Below w.heap.size w wq ∧ Blk wq w.heap.size #[.int .i64 0, .int .i64 0, .int .i64 0] 65) := ⟨B.next DZ.out.1 bq DZ.out.1.size, DZ.out.2.below bq⟩; have HWP : Hid (WhereP s.D vs.id x y z ok) := hW; have gz := BR.out.2.cell; have fz := BR.out.2.free; clear bq hW))
 ·clear hwz DZ HS D0 HWH
  obtain ⟨w5, hw5⟩ : ∃ w5, wq.alloc (.cells #[.int .i64 x, .int .i64 y, .int .i64 z] 65) = w5 := ⟨_, rfl⟩
  obtain ⟨xb, hxb⟩ : ∃ xb, wq.heap.size = xb := ⟨_, rfl⟩
  have N5 : Hid (Below w.heap.size w w5 ∧ Blk w5 xb #[.int .i64 x, .int .i64 y, .int .i64 z] 65) := by
   show _ ∧ _
   rw [← hw5]; exact ⟨BQ.out.alloc BQ.out.size _, Blk.new1 hxb.symm _ _⟩
  have HW5 : Hid (wq.alloc (.cells #[.int .i64 x, .int .i64 y, .int .i64 z] 65) = w5) := hw5; clear hw5 BQ; simp only [HW5.out, hxb]; clear HW5 hxb
  cases ok
  ·have rz : True := trivial
   go_wp2; exact HP.out _ [] _ ⟨x, y, z, false, HWP.out, Or.inl ⟨rfl, rfl⟩⟩ (Goals.nil _) N5.out.1
  obtain ⟨hx, hy, hz⟩ := HIN.out x y z HWP.out; obtain ⟨qs, hqs⟩ : ∃ qs, (z == 1 && carOf s.D x y 0 != 0) = qs := ⟨_, rfl⟩
  have HP4 : Hid (∀ v w', Goals w' v (if qs = true then gThere 3 x y 0 else gThere 3 x y z) → Below w.heap.size w w' → PP (.returned v) w') := fun v w' h1 h2 => HP.out v _ w' ⟨x, y, z, true, HWP.out, Or.inr ⟨rfl, by rw [hqs]⟩⟩ h1 h2
  have HAT : Hid (∀ wx, Below w.heap.size w wx → Calls Tryz.prog 34 #[.pointer (some ⟨pb, 0, none⟩), .agg #[.int .i64 x, .int .i64 y, .int .i64 0]] wx fun e w' => e = .returned (.int .i64 (carOf s.D x y 0)) ∧ Below wx.heap.size wx w') := HAX.out x y hx hy
  generalize carOf s.D x y 0 = cv at hqs HAT; clear HP HWP HAX HIN; have r5 := N5.out.2.cell; go_wp2_with fail; clear r5; refine (front_any x y z _).mono ?_; rintro e w6 ⟨rfl, b6⟩; obtain ⟨w7, hw7⟩ : ∃ w7, w6.alloc (.cells #[.int .i64 x, .int .i64 y, .int .i64 0] 65) = w7 := ⟨_, rfl⟩
  obtain ⟨fb, hfb⟩ : ∃ fb, w6.heap.size = fb := ⟨_, rfl⟩
  have N7 : Hid (Below w.heap.size w w7 ∧ Blk w7 xb #[.int .i64 x, .int .i64 y, .int .i64 z] 65 ∧ Blk w7 fb #[.int .i64 x, .int .i64 y, .int .i64 0] 65) := by
   show _ ∧ _ ∧ _
   rw [← hw7]; have b7 := B.next N5.out.1 b6 N5.out.1.size; exact ⟨b7.alloc b7.size _, (N5.out.2.below b6).old _, Blk.new1 hfb.symm _ _⟩
  have HW7 : Hid (w6.alloc (.cells #[.int .i64 x, .int .i64 y, .int .i64 0] 65) = w7) := hw7; clear hw7 N5 b6
  go_upto_region 9 with fail
  simp only [HW7.out, hfb]; clear HW7 hfb; have HAQ : Hid (∀ p : BelowW w7, Calls Tryz.prog 34 #[.pointer (some ⟨pb, 0, none⟩), .agg #[.int .i64 x, .int .i64 y, .int .i64 0]] p.wd fun e w' => e = .returned (.int .i64 cv) ∧ Below p.wd.heap.size p.wd w') := fun p => HAT.out _ (B.next N7.out.1 p.hb N7.out.1.size)
  have HVC : Hid (∀ p : BelowW w7, Blk p.wd vb (vArr b s pb q1 q2 q3 bz jt jf vs) 135) := fun p => HV.out _ (B.next N7.out.1 p.hb N7.out.1.size)
  have v12 := fun p : BelowW w7 => (HVC.out p).cell 12
  simp only [vArr] at v12; have x2 := fun p : BelowW w7 => (N7.out.2.1.below p.hb).cell 2
  have y0 := fun p : BelowW w7 => (N7.out.2.2.below p.hb).cell 0
  have y1 := fun p : BelowW w7 => (N7.out.2.2.below p.hb).cell 1
  have y2 := fun p : BelowW w7 => (N7.out.2.2.below p.hb).cell 2
  go_cut [50] (fun s50 wx => s50 = .bool qs ∧ Hid (Below w.heap.size w wx ∧ Blk wx xb #[.int .i64 x, .int .i64 y, .int .i64 z] 65 ∧ Blk wx fb #[.int .i64 x, .int .i64 y, .int .i64 0] 65))
  case first =>
   clear HVC HV HAT HP4
   cases c1 : (z == 1)
   ·obtain rfl : false = qs := by rw [← hqs, c1]; rfl
    refine wp_region_below (by kernel_rfl) (by kernel_rfl) ?_
    repeat (go_big_quiet_step (first | (go_at_call 34; exact Calls.wof (HAQ.out _))))
    refine wpQuiet_nil ?_; rintro wb ⟨⟨_, NQ⟩, rfl⟩; go_wp2
    go_meet
    exact ⟨rfl, B.next N7.out.1 NQ N7.out.1.size, N7.out.2.1.below NQ, N7.out.2.2.below NQ⟩
   ·rw [c1, Bool.true_and] at hqs
    refine wp_region_below (by kernel_rfl) (by kernel_rfl) ?_
    repeat (go_big_quiet_step (first | (go_at_call 34; exact Calls.wof (HAQ.out _))))
    refine wpQuiet_nil ?_; rintro wb ⟨⟨_, NQ⟩, rfl⟩; go_wp2
    go_meet
    exact ⟨congrArg Value.bool (by first | rfl | exact hqs), B.next N7.out.1 NQ N7.out.1.size, N7.out.2.1.below NQ, N7.out.2.2.below NQ⟩
  case rest =>
  clear N7 hqs v12 x2 y0 y1 y2 HAQ HVC; obtain ⟨rfl, N7⟩ := hcut
  cases qs
  ·simp only [Bool.false_eq_true, if_false] at HP4
   have HP : Hid (∀ v (l : List (Int × Int)) w', Goals w' v (gThere 3 x y z) → Below w.heap.size w w' → PP (.returned v) w') := fun v _ w' h1 h2 => HP4.out v w' h1 h2
   have rs := N7.out.2.1.cell; go_wp2_with fail; clear rs; refine (fetch_any x y z _ hx.1 hx.2 hz.1 hz.2).mono ?_; rintro e w2 ⟨v, rfl, ho, hb2⟩; have X : Hid (Goals w2 v (gThere 3 x y z) ∧ Below w.heap.size w w2) := ⟨Or.inr ho, B.next N7.out.1 hb2 N7.out.1.size⟩; clear ho hb2; go_wp2; exact HP.out _ [] _ X.out.1 X.out.2
  ·simp only [if_true] at HP4
   have HP : Hid (∀ v (l : List (Int × Int)) w', Goals w' v (gThere 3 x y 0) → Below w.heap.size w w' → PP (.returned v) w') := fun v _ w' h1 h2 => HP4.out v w' h1 h2
   have rs := N7.out.2.2.cell; go_wp2_with fail; clear rs; refine (fetch_any x y 0 _ hx.1 hx.2 (by decide) (by decide)).mono ?_; rintro e w2 ⟨v, rfl, ho, hb2⟩; have X : Hid (Goals w2 v (gThere 3 x y 0) ∧ Below w.heap.size w w2) := ⟨Or.inr ho, B.next N7.out.1 hb2 N7.out.1.size⟩; clear ho hb2; go_wp2; exact HP.out _ [] _ X.out.1 X.out.2
 ·clear hwz DZ HS D0 HWH
  obtain ⟨w5, hw5⟩ : ∃ w5, ((wq.setCell ⟨w.heap.size, 0, none⟩ (.int .i64 x)).setCell ⟨w.heap.size, 1, none⟩ (.int .i64 y)).setCell ⟨w.heap.size, 2, none⟩ (.int .i64 z) = w5 := ⟨_, rfl⟩
  obtain ⟨xb, hxb⟩ : ∃ xb, w.heap.size = xb := ⟨_, rfl⟩
  have N5 : Hid (Below w.heap.size w w5 ∧ Blk w5 xb #[.int .i64 x, .int .i64 y, .int .i64 z] 65) := by
   show _ ∧ _
   rw [← hw5, ← hxb]; exact ⟨((BR.out.1.setCell (p := ⟨w.heap.size, 0, none⟩) (Nat.le_refl _) _).setCell (p := ⟨w.heap.size, 1, none⟩) (Nat.le_refl _) _).setCell (p := ⟨w.heap.size, 2, none⟩) (Nat.le_refl _) _, ((BR.out.2.set 0 _).set 1 _).set 2 _⟩
  have HW5 : Hid (((wq.setCell ⟨w.heap.size, 0, none⟩ (.int .i64 x)).setCell ⟨w.heap.size, 1, none⟩ (.int .i64 y)).setCell ⟨w.heap.size, 2, none⟩ (.int .i64 z) = w5) := hw5; clear hw5 BR gz fz; simp only [HW5.out]; have HXB : Hid (w.heap.size = xb) := hxb; clear HW5 hxb
  cases ok
  ·have rz : True := trivial
   go_wp2; exact HP.out _ [] _ ⟨x, y, z, false, HWP.out, Or.inl ⟨rfl, rfl⟩⟩ (Goals.nil _) N5.out.1
  obtain ⟨hx, hy, hz⟩ := HIN.out x y z HWP.out; obtain ⟨qs, hqs⟩ : ∃ qs, (z == 1 && carOf s.D x y 0 != 0) = qs := ⟨_, rfl⟩
  have HP4 : Hid (∀ v w', Goals w' v (if qs = true then gThere 3 x y 0 else gThere 3 x y z) → Below w.heap.size w w' → PP (.returned v) w') := fun v w' h1 h2 => HP.out v _ w' ⟨x, y, z, true, HWP.out, Or.inr ⟨rfl, by rw [hqs]⟩⟩ h1 h2
  have HAT : Hid (∀ wx, Below w.heap.size w wx → Calls Tryz.prog 34 #[.pointer (some ⟨pb, 0, none⟩), .agg #[.int .i64 x, .int .i64 y, .int .i64 0]] wx fun e w' => e = .returned (.int .i64 (carOf s.D x y 0)) ∧ Below wx.heap.size wx w') := HAX.out x y hx hy
  generalize carOf s.D x y 0 = cv at hqs HAT; clear HP HWP HAX HIN; have r5 := N5.out.2.cell
  (try simp only [HXB.out])
  go_wp2_with fail; clear r5; refine (front_any x y z _).mono ?_; rintro e w6 ⟨rfl, b6⟩; obtain ⟨w7, hw7⟩ : ∃ w7, w6.alloc (.cells #[.int .i64 x, .int .i64 y, .int .i64 0] 65) = w7 := ⟨_, rfl⟩
  obtain ⟨fb, hfb⟩ : ∃ fb, w6.heap.size = fb := ⟨_, rfl⟩
  have N7 : Hid (Below w.heap.size w w7 ∧ Blk w7 xb #[.int .i64 x, .int .i64 y, .int .i64 z] 65 ∧ Blk w7 fb #[.int .i64 x, .int .i64 y, .int .i64 0] 65) := by
   show _ ∧ _ ∧ _
   rw [← hw7]; have b7 := B.next N5.out.1 b6 N5.out.1.size; exact ⟨b7.alloc b7.size _, (N5.out.2.below b6).old _, Blk.new1 hfb.symm _ _⟩
  have HW7 : Hid (w6.alloc (.cells #[.int .i64 x, .int .i64 y, .int .i64 0] 65) = w7) := hw7; clear hw7 N5 b6
  go_upto_region 9 with fail
  simp only [HW7.out, hfb]; clear HW7 hfb; have HAQ : Hid (∀ p : BelowW w7, Calls Tryz.prog 34 #[.pointer (some ⟨pb, 0, none⟩), .agg #[.int .i64 x, .int .i64 y, .int .i64 0]] p.wd fun e w' => e = .returned (.int .i64 cv) ∧ Below p.wd.heap.size p.wd w') := fun p => HAT.out _ (B.next N7.out.1 p.hb N7.out.1.size)
  have HVC : Hid (∀ p : BelowW w7, Blk p.wd vb (vArr b s pb q1 q2 q3 bz jt jf vs) 135) := fun p => HV.out _ (B.next N7.out.1 p.hb N7.out.1.size)
  have v12 := fun p : BelowW w7 => (HVC.out p).cell 12
  simp only [vArr] at v12; have x2 := fun p : BelowW w7 => (N7.out.2.1.below p.hb).cell 2
  have y0 := fun p : BelowW w7 => (N7.out.2.2.below p.hb).cell 0
  have y1 := fun p : BelowW w7 => (N7.out.2.2.below p.hb).cell 1
  have y2 := fun p : BelowW w7 => (N7.out.2.2.below p.hb).cell 2
  (try simp only [HXB.out])
  go_cut [50] (fun s50 wx => s50 = .bool qs ∧ Hid (Below w.heap.size w wx ∧ Blk wx xb #[.int .i64 x, .int .i64 y, .int .i64 z] 65 ∧ Blk wx fb #[.int .i64 x, .int .i64 y, .int .i64 0] 65))
  case first =>
   clear HVC HV HAT HP4
   cases c1 : (z == 1)
   ·obtain rfl : false = qs := by rw [← hqs, c1]; rfl
    refine wp_region_below (by kernel_rfl) (by kernel_rfl) ?_
    repeat (go_big_quiet_step (first | (go_at_call 34; exact Calls.wof (HAQ.out _))))
    refine wpQuiet_nil ?_; rintro wb ⟨⟨_, NQ⟩, rfl⟩; go_wp2
    go_meet
    exact ⟨rfl, B.next N7.out.1 NQ N7.out.1.size, N7.out.2.1.below NQ, N7.out.2.2.below NQ⟩
   ·rw [c1, Bool.true_and] at hqs
    refine wp_region_below (by kernel_rfl) (by kernel_rfl) ?_
    repeat (go_big_quiet_step (first | (go_at_call 34; exact Calls.wof (HAQ.out _))))
    refine wpQuiet_nil ?_; rintro wb ⟨⟨_, NQ⟩, rfl⟩; go_wp2
    go_meet
    exact ⟨congrArg Value.bool (by first | rfl | exact hqs), B.next N7.out.1 NQ N7.out.1.size, N7.out.2.1.below NQ, N7.out.2.2.below NQ⟩
  case rest =>
  clear N7 hqs v12 x2 y0 y1 y2 HAQ HVC; obtain ⟨rfl, N7⟩ := hcut
  cases qs
  ·simp only [Bool.false_eq_true, if_false] at HP4
   have HP : Hid (∀ v (l : List (Int × Int)) w', Goals w' v (gThere 3 x y z) → Below w.heap.size w w' → PP (.returned v) w') := fun v _ w' h1 h2 => HP4.out v w' h1 h2
   have rs := N7.out.2.1.cell; go_wp2_with fail; clear rs; refine (fetch_any x y z _ hx.1 hx.2 hz.1 hz.2).mono ?_; rintro e w2 ⟨v, rfl, ho, hb2⟩; have X : Hid (Goals w2 v (gThere 3 x y z) ∧ Below w.heap.size w w2) := ⟨Or.inr ho, B.next N7.out.1 hb2 N7.out.1.size⟩; clear ho hb2; go_wp2; exact HP.out _ [] _ X.out.1 X.out.2
  ·simp only [if_true] at HP4
   have HP : Hid (∀ v (l : List (Int × Int)) w', Goals w' v (gThere 3 x y 0) → Below w.heap.size w w' → PP (.returned v) w') := fun v _ w' h1 h2 => HP4.out v w' h1 h2
   have rs := N7.out.2.2.cell; go_wp2_with fail; clear rs; refine (fetch_any x y 0 _ hx.1 hx.2 (by decide) (by decide)).mono ?_; rintro e w2 ⟨v, rfl, ho, hb2⟩; have X : Hid (Goals w2 v (gThere 3 x y 0) ∧ Below w.heap.size w w2) := ⟨Or.inr ho, B.next N7.out.1 hb2 N7.out.1.size⟩; clear ho hb2; go_wp2; exact HP.out _ [] _ X.out.1 X.out.2
end Tn
end Go.Proofs.YtopgllmjeliklaaGreatDoor
