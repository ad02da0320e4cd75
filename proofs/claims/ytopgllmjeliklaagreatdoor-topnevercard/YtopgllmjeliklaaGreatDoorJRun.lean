/- A plan is followed, goal by goal, as it may be: contract of the laws' own function 'run'. -/
import Derived.Test.YtopgllmjeliklaaGreatDoorJHsE
import Derived.Test.YtopgllmjeliklaaGreatDoorJTopSafe
import Derived.Deep.LoopGhost
namespace Go.Proofs.YtopgllmjeliklaaGreatDoor
open Go.ChangeShapes Go.WideShapes Go.ChangeAt Go.RowKit Go.Maps
set_option maxRecDepth 100000
set_option linter.unusedSimpArgs false
set_option linter.unusedVariables false

namespace Pl
open Ac
/-- A list of goals lies in memory, apart from the machine. -/
def GoalsAt (pb mb : Nat) (w : World) (v : Value) (l : List (Int × Int)) : Prop :=
  ∃ (ad : Option Addr) (cap : Nat), v = .slice ad l.length cap ∧ l.length ≤ cap ∧ cap ≤ maxLen ∧
    (0 < l.length → ∃ b off, ad = some ⟨b, off, none⟩ ∧ b < w.heap.size ∧ b ≠ pb ∧ b ≠ mb ∧ ∀ i, i < l.length → w.cell? ⟨b, off + i * 2, none⟩ = some (.int .i64 (l.getD i (0, 0)).1) ∧ w.cell? ⟨b, off + i * 2 + 1, none⟩ = some (.int .i64 (l.getD i (0, 0)).2))
theorem GoalsAt.turn {pb mb : Nat} {w w' : World} {v : Value} {l : List (Int × Int)} (h : GoalsAt pb mb w v l) (t : Turn pb mb w w') : GoalsAt pb mb w' v l := by
  obtain ⟨ad, cap, hv, h1, h2, hc⟩ := h
  refine ⟨ad, cap, hv, h1, h2, fun h0 => ?_⟩
  obtain ⟨b, off, ha, hlt, hp, hm, hcell⟩ := hc h0
  exact ⟨b, off, ha, Nat.lt_of_lt_of_le hlt t.size, hp, hm, fun i hi => ⟨(World.cell?_of_block (t.block b hlt hp hm)).trans (hcell i hi).1, (World.cell?_of_block (t.block b hlt hp hm)).trans (hcell i hi).2⟩⟩
theorem IsP.le {w : World} {pb mb n n' : Nat} {s : St} (h : IsP w pb mb n s) (hn : n ≤ n') : IsP w pb mb n' s := ⟨h.row, World.ownsMap.mono h.cars hn⟩

def nextS (g : Int × Int) (s : St) : Int := nextC g.1 g.2 s.h s.ex s.op s.li
/-- So many ticks: what is left of the goals, and the machine. -/
def runS : Nat → List (Int × Int) → St → List (Int × Int) × St
  | 0, l, s => (l, s)
  | _ + 1, [], s => ([], s)
  | t + 1, g :: l, s => if nextS g s = 45 then runS t l s else runS t (g :: l) (guardS (nextS g s) s)
theorem runS_nil : ∀ t s, runS t [] s = ([], s)
  | 0, _ => rfl
  | _ + 1, _ => rfl
theorem Inv.run : ∀ t l {s : St}, Inv s → Inv (runS t l s).2
  | 0, _, _, h => h
  | _ + 1, [], _, h => h
  | t + 1, g :: l, s, h => by
    unfold runS
    split
    · exact Inv.run t l h
    · exact Inv.run t (g :: l) (h.guard _)

-- left out: this seat has not what it speaks of

end Pl
end Go.Proofs.YtopgllmjeliklaaGreatDoor

namespace Go.Proofs.YtopgllmjeliklaaGreatDoor
open Go.Shelf Go.Lib Go.ChangeShapes Go.WideShapes Go.ChangeAt Go.RowKit
set_option maxRecDepth 100000
set_option linter.unusedSimpArgs false
set_option linter.unusedVariables false

namespace Hs
open Bk Lg Pl Dk Tx
/-- The goals, followed by one step. -/
def followS : List (Int × Int) → St → List (Int × Int) × St
  | [], s => ([], s)
  | g :: l, s => if nextS g s = 45 then followS l s else if mayS (nextS g s) s = true then (g :: l, stepS (nextS g s) s) else ([], s)
theorem HouseS.le {w : World} {base pb mb n n' db sb L hb : Nat} {secs : List Sec} {armed : Bool} {left : Int} {lv : List (Int × Int × Int)} {s : St} {b : PB} {gs : List (Int × Int)} (h : HouseS w base pb mb n db sb L hb secs armed left lv s b gs) (hn : n ≤ n') : HouseS w base pb mb n' db sb L hb secs armed left lv s b gs :=
  ⟨h.h, h.p.le hn, h.iv, h.l, h.hpb, h.hmb, h.hhb, h.hsz, h.n1, h.n4, h.ok⟩
def FollowPost (base pb mb n db sb L hb : Nat) (secs : List Sec) (armed : Bool) (left : Int) (lv : List (Int × Int × Int)) (b : PB) (R : List (Int × Int) × St) (w : World) (e : Ending) (w' : World) : Prop :=
  e = .returned (.tuple #[]) ∧ HouseS w' base pb mb (n + 1) db sb L hb secs armed left lv R.2 b R.1 ∧ HFr base w w'

set_option maxHeartbeats 4000000 in
theorem follow_any (base pb mb n db sb L hb : Nat) (secs : List Sec) (armed : Bool) (left : Int) (lv : List (Int × Int × Int)) (s : St) (b : PB) (gs : List (Int × Int)) (w : World) (h : HouseS w base pb mb n db sb L hb secs armed left lv s b gs) (hn : n < maxLen) :
    Calls Tryz.prog 54 #[.pointer (some ⟨hb, 0, none⟩)] w (FollowPost base pb mb n db sb L hb secs armed left lv b (followS gs s) w) := by
  obtain ⟨R, HR⟩ : ∃ R, Hid (followS gs s = R) := ⟨_, rfl⟩
  rw [HR.out]
  have HFIN : Hid (∀ w', HouseS w' base pb mb (n + 1) db sb L hb secs armed left lv R.2 b R.1 → HFr base w w' → FollowPost base pb mb n db sb L hb secs armed left lv b R w (.returned (.tuple #[])) w') := fun w' h1 h2 => ⟨rfl, h1, h2⟩
  generalize FollowPost base pb mb n db sb L hb secs armed left lv b R w = PP at *
  have iv := h.iv
  have HSe : Hid (Calls Tryz.prog 19 #[.pointer (some ⟨pb, 0, none⟩)] w fun e w' => e = .returned (senseV s) ∧ Below w.heap.size w w') := sense_any pb mb n s w h.p iv.ok
  have HNx : Hid (∀ K N w1, Calls Tryz.prog 89 #[.agg #[.int .i64 K, .int .i64 N], senseV s] w1 fun e w' => e = .returned (.tuple #[.int .u8 (nextS (K, N) s), .bool (nextS (K, N) s == 45)]) ∧ Below w1.heap.size w1 w') := fun K N w1 => next_any K N s.h s.ex s.op s.pe s.li s.ba _ _ _ w1
  have HMa : Hid (∀ w1 c, Calls Tryz.prog 90 #[.int .u8 c, senseV s] w1 fun e w' => e = .returned (.bool (mayS c s)) ∧ Below w1.heap.size w1 w') := fun w1 c => may_sense c s iv w1
  have HSt : Hid (∀ w1 c, IsP w1 pb mb n s → Calls Tryz.prog 74 #[.pointer (some ⟨pb, 0, none⟩), .int .u8 c] w1 fun e w' => e = .returned (.tuple #[]) ∧ IsP w' pb mb (n + 1) (stepS c s) ∧ Turn pb mb w1 w') := fun w1 c hp => step_any pb mb n s c w1 hp iv.ok (by omega) iv.wf iv.st.2
  have HV1 : Hid (senseV s = .agg #[.int .i64 s.h, .int .i64 s.ex, .bool s.op, .int .i64 s.pe, .int .i64 s.li, .int .i64 s.ba, .bool (carAtI s.D s.lv s.h s.ex != 0), .bool (carAtI s.D s.lv s.h (s.ex - 1) != 0), .bool (carAtI s.D s.lv s.h (s.ex + 1) != 0)]) := rfl
  have HI2 : Hid (∀ c, Inv (stepS c s)) := fun c => iv.step c
  have HH : Hid (HouseS w base pb mb n db sb L hb secs armed left lv s b gs) := h
  obtain ⟨vl, vg, hH, _, _⟩ := h.h
  have r0 := hH.cell
  clear iv h hH
  rw [HV1.out] at HSe HNx HMa
  clear HV1
  generalize (carAtI s.D s.lv s.h s.ex != 0) = q1 at *
  generalize (carAtI s.D s.lv s.h (s.ex - 1) != 0) = q2 at *
  generalize (carAtI s.D s.lv s.h (s.ex + 1) != 0) = q3 at *
  generalize s.li = li at *
  generalize s.ba = ba at *
  generalize s.h = h at *
  generalize s.ex = ex at *
  generalize s.op = op at *
  generalize s.pe = pe at *
  go_enter Tryz.func54, Tryz.ntmps54
  go_wp2_with fail
  refine HSe.out.mono ?_
  rintro e w1 ⟨rfl, b1⟩
  obtain ⟨w2, hw2⟩ : ∃ w2, w1.alloc (.cells #[.int .i64 h, .int .i64 ex, .bool op, .int .i64 pe, .int .i64 li, .int .i64 ba, .bool q1, .bool q2, .bool q3] 46) = w2 := ⟨_, rfl⟩
  obtain ⟨SB, hSB⟩ : ∃ SB, w1.heap.size = SB := ⟨_, rfl⟩
  have N2 : Hid (Below w.heap.size w w2 ∧ Blk w2 SB #[.int .i64 h, .int .i64 ex, .bool op, .int .i64 pe, .int .i64 li, .int .i64 ba, .bool q1, .bool q2, .bool q3] 46) := by
    show _ ∧ _
    rw [← hw2, ← hSB]
    exact ⟨B.next b1 (B.new1 _ _) b1.size, Blk.new _ _ _⟩
  have H2 : Hid (HouseS w2 base pb mb n db sb L hb secs armed left lv s b gs ∧ HFr base w w2) := ⟨HH.out.below N2.out.1, HFr.of_below N2.out.1 HH.out.hsz⟩
  have S2 : Hid (Blk w2 SB #[.int .i64 h, .int .i64 ex, .bool op, .int .i64 pe, .int .i64 li, .int .i64 ba, .bool q1, .bool q2, .bool q3] 46) := N2.out.2
  clear HSe HH r0 b1 N2
  go_wp2_with fail
  (try simp only [hw2, hSB])
  clear hw2 hSB
  go_loopg [3, 4] gs.length (fun q c d wr => ∃ l : List (Int × Int), l.length = q ∧ Hid (HouseS wr base pb mb n db sb L hb secs armed left lv s b l) ∧ Hid (HFr base w wr) ∧ Hid (Blk wr SB #[.int .i64 h, .int .i64 ex, .bool op, .int .i64 pe, .int .i64 li, .int .i64 ba, .bool q1, .bool q2, .bool q3] 46) ∧ Hid (followS l s = R))
  case atStart => exact ⟨gs, rfl, H2.out.1, H2.out.2, S2, HR⟩
  case round =>
    clear H2 S2 HR
    obtain ⟨l0, hl0, HH, HF, HS, HR⟩ := hrel
    obtain ⟨vl, vg, hH, _, hG⟩ := HH.out.h
    cases l0 with
    | nil =>
      obtain ⟨ad, cap, hv, _⟩ := hG
      simp only [List.length_nil] at hv
      subst hv
      have r := hH.cell
      have HE : Hid (R = ([], s)) := HR.out.symm
      have HQ : Hid (PP (.returned (.tuple #[])) wr) := HFIN.out wr (by rw [HE.out]; exact HH.out.le (Nat.le_succ n)) HF.out
      clear HE HR HFIN HH HF HS HNx HMa HSt HI2 hH
      go_wp2
      go_returns
      exact HQ.out
    | cons g0 l =>
      obtain ⟨K, N⟩ := g0
      obtain ⟨ad, cap, hv, hl1, hl2, hl3, hc⟩ := id hG
      subst hv
      obtain ⟨g, off, rfl, _, hcap, hT⟩ := GoalsH.tail hG
      obtain ⟨g', off', cur, e, hk, hcell⟩ := hc (by simp)
      injection e with e
      injection e with e1 e2 _
      subst e1 e2
      simp only [List.length_cons] at hl1 hl2 hcell hl0 hH
      have k0 := (hcell 0 (by omega)).1
      have k1 := (hcell 0 (by omega)).2
      simp at k0 k1
      have HS9 : Hid (∀ W, Below wr.heap.size wr W → W.cell? ⟨hb, 3, none⟩ = some (.slice (some ⟨g, off, none⟩) (l.length + 1) cap) ∧ W.cell? ⟨g, off, none⟩ = some (.int .i64 K) ∧ W.cell? ⟨g, off + 1, none⟩ = some (.int .i64 N) ∧ W.cell? ⟨SB, 0, none⟩ = some (.int .i64 h) ∧ W.cell? ⟨SB, 1, none⟩ = some (.int .i64 ex) ∧ W.cell? ⟨SB, 2, none⟩ = some (.bool op) ∧ W.cell? ⟨SB, 3, none⟩ = some (.int .i64 pe) ∧ W.cell? ⟨SB, 4, none⟩ = some (.int .i64 li) ∧ W.cell? ⟨SB, 5, none⟩ = some (.int .i64 ba) ∧ W.cell? ⟨SB, 6, none⟩ = some (.bool q1) ∧ W.cell? ⟨SB, 7, none⟩ = some (.bool q2) ∧ W.cell? ⟨SB, 8, none⟩ = some (.bool q3)) := fun W hB => by
        have a1 := hH.below hB
        have a2 := hk.below hB
        have a3 := HS.out.below hB
        refine ⟨a1.cell 3, (a2.cell off).trans k0, (a2.cell (off + 1)).trans k1, a3.cell 0, a3.cell 1, a3.cell 2, a3.cell 3, a3.cell 4, a3.cell 5, a3.cell 6, a3.cell 7, a3.cell 8⟩
      have D0 : Hid (Below wr.heap.size wr wr.drew) := (Below.refl _ _).drew
      have r := hH.cell
      have HT : Hid (GoalsH wr (.slice (some ⟨g, off + 2, none⟩) l.length (cap - 1)) l) := hT
      have hm : cap ≤ 1152921504606846975 ∨ True := Or.inr trivial
      have lc : (0 : Int) < ((l.length + 1 : Nat) : Int) := by omega
      have lc2 : (1 : Int) ≤ (cap : Int) := by omega
      have HFol : Hid (R = if nextS (K, N) s = 45 then followS l s else if mayS (nextS (K, N) s) s = true then ((K, N) :: l, stepS (nextS (K, N) s) s) else ([], s)) := HR.out.symm
      have HNx2 := hidd (HNx.out K N)
      clear HR HNx hc hcell hG hT
      generalize nextS (K, N) s = C at *
      have HL0 : Hid (l.length + 1 = gk) := hl0
      clear hl0
      go_upto_region 2 with fail
      go_region_held3 (fun W => W.cell? ⟨hb, 3, none⟩ = some (.slice (some ⟨g, off, none⟩) (l.length + 1) cap) ∧ W.cell? ⟨g, off, none⟩ = some (.int .i64 K) ∧ W.cell? ⟨g, off + 1, none⟩ = some (.int .i64 N) ∧ W.cell? ⟨SB, 0, none⟩ = some (.int .i64 h) ∧ W.cell? ⟨SB, 1, none⟩ = some (.int .i64 ex) ∧ W.cell? ⟨SB, 2, none⟩ = some (.bool op) ∧ W.cell? ⟨SB, 3, none⟩ = some (.int .i64 pe) ∧ W.cell? ⟨SB, 4, none⟩ = some (.int .i64 li) ∧ W.cell? ⟨SB, 5, none⟩ = some (.int .i64 ba) ∧ W.cell? ⟨SB, 6, none⟩ = some (.bool q1) ∧ W.cell? ⟨SB, 7, none⟩ = some (.bool q2) ∧ W.cell? ⟨SB, 8, none⟩ = some (.bool q3)) (first | with_reducible exact HS9.out _ D0.out | with_reducible exact HS9.out _ B6.out | fail)
        (first
          | (go_at_call 89; refine (HNx2.out _).mono ?_; rintro e w6 ⟨rfl, b6⟩; have B6 : Hid (Below wr.heap.size wr w6) := B.next D0.out b6 D0.out.size; clear b6))
      have H6 : Hid (HouseS w6 base pb mb n db sb L hb secs armed left lv s b ((K, N) :: l)) := HH.out.below B6.out
      have F6 : Hid (HFr base w w6) := HF.out.trans (HFr.of_below B6.out HH.out.hsz)
      have S6 : Hid (Blk w6 SB #[.int .i64 h, .int .i64 ex, .bool op, .int .i64 pe, .int .i64 li, .int .i64 ba, .bool q1, .bool q2, .bool q3] 46) := HS.out.below B6.out
      have HT6 : Hid (GoalsH w6 (.slice (some ⟨g, off + 2, none⟩) l.length (cap - 1)) l) := HT.out.far fun _ _ hk => hk.below B6.out
      have hH6 := hH.below B6.out
      have r6 := hH6.cell
      have f6 := hH6.free
      have rS := S6.out.cell
      clear HH HF HS HT B6 HS9 D0 HNx2 hk k0 k1 r
      by_cases hC : C = 45
      · subst hC
        have HQ : Hid (followS l s = R) := by
          have := HFol.out
          rw [if_pos rfl] at this
          exact this.symm
        have hT0 : Hid (l.length = 0 → GoalsH w6 (.slice (some ⟨g, off, none⟩) l.length 0) l) := fun h0 => ⟨_, 0, rfl, by omega, by omega, by unfold maxLen; omega, fun h => by omega⟩
        have HG1 : Hid (∀ v, GoalsH w6 v l → HouseS (w6.setCell ⟨hb, 3, none⟩ v) base pb mb n db sb L hb secs armed left lv s b l ∧ HFr base w (w6.setCell ⟨hb, 3, none⟩ v) ∧ Blk (w6.setCell ⟨hb, 3, none⟩ v) SB #[.int .i64 h, .int .i64 ex, .bool op, .int .i64 pe, .int .i64 li, .int .i64 ba, .bool q1, .bool q2, .bool q3] 46) := fun v hv => by
          obtain ⟨a1, a2⟩ := H6.out.goals hv
          exact ⟨a1, F6.out.trans a2, a2.far _ _ _ (by decide) (by decide) (by decide) (by decide) (by decide) (by decide) S6.out⟩
        clear HFol HMa HSt HI2 HFIN H6 F6 S6 rS hH hH6
        go_wp2_with fail
        all_goals go_roundg (gk - 1)
        all_goals first
          | (have := HL0.out; omega)
          | exact ⟨l, by have := HL0.out; omega, (HG1.out _ HT6.out).1, (HG1.out _ HT6.out).2.1, (HG1.out _ HT6.out).2.2, HQ⟩
          | exact ⟨l, by have := HL0.out; omega, (HG1.out _ (hT0.out (by omega))).1, (HG1.out _ (hT0.out (by omega))).2.1, (HG1.out _ (hT0.out (by omega))).2.2, HQ⟩
      · have hC' : (C == 45) = false := by simpa using hC
        have HQ : Hid (R = if mayS C s = true then ((K, N) :: l, stepS C s) else ([], s)) := by
          have := HFol.out
          rwa [if_neg hC] at this
        clear HFol hC
        go_wp2_with fail
        refine (HMa.out _ C).mono ?_
        rintro e w7 ⟨rfl, b7⟩
        have H7 : Hid (HouseS w7 base pb mb n db sb L hb secs armed left lv s b ((K, N) :: l)) := H6.out.below b7
        have F7 : Hid (HFr base w w7) := F6.out.trans (HFr.of_below b7 H6.out.hsz)
        have hH7 := hH6.below b7
        have r7 := hH7.cell
        have f7 := hH7.free
        have HI3 := hidd (HI2.out C)
        have HSt3 := hidd (fun w1 => HSt.out w1 C)
        clear H6 F6 S6 HT6 HMa HI2 HSt b7 rS r6 f6 hH hH6
        generalize mayS C s = m at *
        generalize stepS C s = s2 at *
        cases m
        · have HE : Hid (R = ([], s)) := by have := HQ.out; show _ = _; simpa using this
          have HP : Hid (PP (.returned (.tuple #[])) (w7.setCell ⟨hb, 3, none⟩ (.slice none 0 0))) := by
            obtain ⟨a1, a2⟩ := H7.out.goals (GoalsH.nil w7)
            exact HFIN.out _ (by rw [HE.out]; exact a1.le (Nat.le_succ n)) (F7.out.trans a2)
          clear HE HQ HFIN H7 F7 HI3 HSt3 hH7
          go_wp2
          go_returns
          exact HP.out
        · have HE : Hid (R = ((K, N) :: l, s2)) := by have := HQ.out; show _ = _; simpa using this
          have HSt4 := hidd (HSt3.out w7 H7.out.p)
          clear HQ HSt3
          go_wp2_with fail
          refine HSt4.out.mono ?_
          rintro e w8 ⟨rfl, p8, t8⟩
          have HP : Hid (PP (.returned (.tuple #[])) w8) := HFIN.out _ (by rw [HE.out]; exact H7.out.turned t8 p8 HI3.out) (F7.out.trans (HFr.of_turn H7.out.p H7.out.hpb H7.out.hmb H7.out.hsz t8))
          clear HE HFIN H7 F7 HI3 HSt4 hH7 p8 t8 r7 f7
          go_wp2
          go_returns
          exact HP.out
end Hs
end Go.Proofs.YtopgllmjeliklaaGreatDoor
