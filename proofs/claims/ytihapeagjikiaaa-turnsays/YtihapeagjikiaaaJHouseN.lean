/- Chapter 10, the document's words: what is done next; contract for the laws. -/
import Derived.Test.YtihapeagjikiaaaJRDone
import Derived.Test.YtihapeagjikiaaaJHouseP
namespace Go.Proofs.Ytihapeagjikiaaa
open Go.Shelf Go.Lib Go.ChangeShapes Go.WideShapes Go.ChangeAt Go.RowKit
set_option maxRecDepth 100000
set_option linter.unusedSimpArgs false
set_option linter.unusedVariables false

namespace Tn
open Bk Pl
/-- The spare place, and the job, as they are laid. -/
structure RN (w0 wx : World) (sp jb : Nat) (lv : Nat) (jt : Int) (jf : Bool) : Prop where
  b : Below w0.heap.size w0 wx
  p : Blk wx sp #[.int .i64 lv, .int .i64 1, .int .i64 0] 38
  j : Blk wx jb #[.int .i64 jt, .bool jf] 32
theorem RN.next {w0 wx wy : World} {sp jb : Nat} {lv : Nat} {jt : Int} {jf : Bool} (h : RN w0 wx sp jb lv jt jf) (hb : Below wx.heap.size wx wy) : RN w0 wy sp jb lv jt jf := ⟨B.next h.b hb h.b.size, h.p.below hb, h.j.below hb⟩
theorem runload_eq (b : Book) (s : St) (bz : Bool) (jt : Int) (jf : Bool) (vs : Stay) (lv : Int) (hjf : bz = false → jf = false) : unloadG b s bz jt jf vs lv 1 0 = if (carO b s.li).isSome = true then (if (bz && jf && jt == ((carO b s.li).getD zS).t && s.ba == 0) = true then gGive else if (((carO b s.li).getD zS).z == 1 && carOf s.D ((carO b s.li).getD zS).x ((carO b s.li).getD zS).y 0 != 0) = true then gThere 4 lv 1 0 else if (bz && rblocksB s.D vs ((carO b s.li).getD zS) jf) = true then gThere 4 lv 1 0 else gThere 4 ((carO b s.li).getD zS).x ((carO b s.li).getD zS).y ((carO b s.li).getD zS).z) else gGive := by
  unfold unloadG
  cases hc : carO b s.li with
  | none => rfl
  | some x =>
    have hb := rblocks_eq (s := s) (bz := bz) (jf := jf) (vs := vs) hc
    unfold blocksB at hb
    rw [hc] at hb
    simp only [unloadO, Option.isSome_some, Option.getD_some, if_true]
    rw [hb]
    have e : (jt == x.t && jf == true) = (bz && jf && jt == x.t) := by
      cases bz
      · rw [hjf rfl]; simp
      · cases jf <;> simp
    rw [e]
    cases (bz && jf && jt == x.t && s.ba == 0) <;> cases (x.z == 1 && carOf s.D x.x x.y 0 != 0) <;> cases (bz && rblocksB s.D vs x jf) <;> rfl
theorem rspare_eq (b : Book) (s : St) (bz jf : Bool) (vs : Stay) (lv : Int) : spareB b s lv bz jf vs = (carOf s.D lv 1 0 != 0 && !((carO b (carOf s.D lv 1 0)).isSome && (bz && rblocksB s.D vs ((carO b (carOf s.D lv 1 0)).getD zS) jf))) := by
  unfold spareB
  cases hc : carO b (carOf s.D lv 1 0) with
  | none => unfold blocksB; rw [hc]; rfl
  | some x => rw [rblocks_eq hc]; rfl
theorem rwhere_in {s : St} {id x y z : Int} (h : RWhereP s id x y z true) : (1 ≤ x ∧ x ≤ 4) ∧ (0 ≤ y ∧ y ≤ 1) ∧ (0 ≤ z ∧ z ≤ 1) := by
  rcases h with ⟨_, _, m, h1, h2, _, rfl, rfl, rfl⟩ | ⟨h, _⟩
  · omega
  · cases h

set_option maxHeartbeats 8000000 in
theorem rnext_any (hb rb : Nat) (s : St) (b : Book) (la : Option Addr) (ll lc : Nat) (n : Nat) (w : World) (h : HouseAt w hb rb s b la ll lc) (iv : Inv s) (hok : BookOK b.last n b.stays b.jobs) (hn : n ≤ 4) (hll : 1 ≤ ll ∧ ll ≤ 4) :
    Calls Try.prog 51 #[.pointer (some ⟨hb, 0, none⟩)] w (RNextPost b s ll w) := by
  have HPL0 : Hid (∀ v l w', RNextL b s ll (vB b) (vJ b s).t (vJ b s).f (vS b s) l → Goals w' v l → Below w.heap.size w w' → RNextPost b s ll w (.returned (.tuple #[v, .agg #[.int .i64 0, .slice none 0 0, .slice none 0 0], .bool false])) w') := fun v l w' h1 h2 h3 => Or.inl ⟨v, l, rfl, h1, h2, h3⟩
  have HPC0 : Hid (∀ gone, ((vJ b s).f || gone) = ((vJ b s).f || !hasB s (vS b s).id) → NextC b s ll (vB b) (vJ b s).f (vS b s) → ∀ xs xj w', OwnBook w' w.heap.size xs xj (doneStays (vJ b s).t ((vJ b s).f || gone) b.stays) (doneJobs (vJ b s).t (vJ b s).f ((vJ b s).f || gone) b.jobs) → Below w.heap.size w w' → RNextPost b s ll w (.returned (.tuple #[.slice none 0 0, .agg #[.int .i64 b.last, xs, xj], .bool true])) w') := fun gone e h xs xj w' h1 h2 => Or.inr ⟨h, xs, xj, rfl, by rw [← e]; exact h1, h2⟩
  have hst : ∀ x ∈ b.stays, sIn x := fun x hx => (stay_facts hok.s hn hx).2.2
  have HOK0 : Hid (sOk (vS b s)) := vS_ok b s hst
  have HVS : Hid (vB b = true → sIn (vS b s) ∧ (vS b s).id ≠ 0) := fun hb => by
    have hm := vS_mem b s hok hn (by simpa [vB] using hb)
    have := stay_facts hok.s hn hm
    exact ⟨this.2.2, by have := this.2.1; omega⟩
  have HJF : Hid (vB b = false → (vJ b s).f = false) := fun hb => by
    have : b.jobs = [] := by simpa [vB] using hb
    unfold vJ
    rw [if_pos this]
  have HIN : Hid (∀ id, (carO b id).isSome = true → sIn ((carO b id).getD zS)) := fun id hs => by
    cases hc : carO b id with
    | none => rw [hc] at hs; cases hs
    | some x => exact hst x (carO_mem hc)
  generalize RNextPost b s ll w = PP at *
  have HFI : Hid (∀ wx, Below w.heap.size w wx → Calls Try.prog 105 #[.pointer (some ⟨hb, 0, none⟩)] wx fun e w' => e = .returned (.tuple #[.agg #[.int .i64 (vJ b s).t, .bool (vJ b s).f], .bool (vB b)]) ∧ Below wx.heap.size wx w') := fun wx hx => by
    have := rfirst_any hb rb s b la ll lc wx (h.next hx)
    rw [rfirst_eq b s hok hn] at this
    exact this
  have HSL : Hid (∀ t c wx, Below w.heap.size w wx → Calls Try.prog 62 #[.agg #[.int .i64 b.last, .slice b.sa b.stays.length b.sc, .slice b.ja b.jobs.length b.jc], .int .i64 t, .int .i64 c] wx fun e w' => e = .returned (.tuple #[.agg #[.int .i64 ((stayO b t c).getD zS).t, .int .i64 ((stayO b t c).getD zS).id, .int .i64 ((stayO b t c).getD zS).a, .int .i64 ((stayO b t c).getD zS).b, .int .i64 ((stayO b t c).getD zS).c, .int .i64 ((stayO b t c).getD zS).x, .int .i64 ((stayO b t c).getD zS).y, .int .i64 ((stayO b t c).getD zS).z], .bool (stayO b t c).isSome]) ∧ Below wx.heap.size wx w') := fun t c wx hx => (rstayOf_any b t c wx (h.k.below hx)).mono (by
    rintro e w' ⟨rfl, hb'⟩
    exact ⟨by rw [stayA_eq], hb'⟩)
  have HBL : Hid (∀ (x : Stay) wx, Below w.heap.size w wx → Calls Try.prog 109 #[.pointer (some ⟨hb, 0, none⟩), .agg #[.int .i64 x.t, .int .i64 x.id, .int .i64 x.a, .int .i64 x.b, .int .i64 x.c, .int .i64 x.x, .int .i64 x.y, .int .i64 x.z], .agg #[.int .i64 (vJ b s).t, .bool (vJ b s).f]] wx fun e w' => e = .returned (.bool (rblocksB s.D (vS b s) x (vJ b s).f)) ∧ Below wx.heap.size wx w') := fun x wx hx => by
    have := rblocks_any hb rb s b la ll lc x (vJ b s).t (vJ b s).f wx (h.next hx) iv (by rw [vS_eq b s hok hn]; exact HOK0.out)
    rw [vS_eq b s hok hn] at this
    exact this
  have HAT : Hid (∀ x y z : Int, (0 ≤ x ∧ x ≤ 4) → (0 ≤ y ∧ y ≤ 1) → (0 ≤ z ∧ z ≤ 1) → ∀ wx, Below w.heap.size w wx → Calls Try.prog 107 #[.pointer (some ⟨rb, 0, none⟩), .agg #[.int .i64 x, .int .i64 y, .int .i64 z]] wx fun e w' => e = .returned (.int .i64 (carOf s.D x y z)) ∧ Below wx.heap.size wx w') := fun x y z h1 h2 h3 wx hx => rAt_any rb s x y z wx (h.r.below hx) iv (wfI (by omega)) (wfI (by omega)) (wfI (by omega))
  have HHA : Hid ((vS b s).id ≠ 0 → ∀ wx, Below w.heap.size w wx → Calls Try.prog 111 #[.pointer (some ⟨rb, 0, none⟩), .int .i64 (vS b s).id] wx fun e w' => e = .returned (.bool (hasB s (vS b s).id)) ∧ Below wx.heap.size wx w') := fun h0 wx hx => rhas_any rb s _ wx (h.r.below hx) h0
  have HWH : Hid ((vS b s).id ≠ 0 → ∀ wx, Below w.heap.size w wx → Calls Try.prog 113 #[.pointer (some ⟨rb, 0, none⟩), .int .i64 (vS b s).id] wx (RWherePost s (vS b s).id wx)) := fun h0 wx hx => rwhere_any rb s _ wx (h.r.below hx) h0
  have HDN : Hid (∀ (gone : Bool) wx, Below w.heap.size w wx → Calls Try.prog 23 #[.agg #[.int .i64 b.last, .slice b.sa b.stays.length b.sc, .slice b.ja b.jobs.length b.jc], .agg #[.int .i64 (vJ b s).t, .bool (vJ b s).f], .bool gone] wx fun e w' => ∃ xs xj, e = .returned (.agg #[.int .i64 b.last, xs, xj]) ∧ OwnBook w' wx.heap.size xs xj (doneStays (vJ b s).t ((vJ b s).f || gone) b.stays) (doneJobs (vJ b s).t (vJ b s).f ((vJ b s).f || gone) b.jobs) ∧ Below wx.heap.size wx w') := fun gone wx hx => rdone_any b (vJ b s).t (vJ b s).f gone wx (h.k.below hx) (Nat.le_trans hok.fewS (by decide)) (Nat.le_trans hok.fewJ (by decide))
  have HH : Hid (∀ wx, Below w.heap.size w wx → Blk wx hb #[.slice la ll lc, .pointer (some ⟨rb, 0, none⟩), .int .i64 b.last, .slice b.sa b.stays.length b.sc, .slice b.ja b.jobs.length b.jc, .slice none 0 0] 106) := fun wx hx => h.h.below hx
  have HR : Hid (∀ wx, Below w.heap.size w wx → IsR wx rb s) := fun wx hx => h.r.below hx
  have HHB : Hid (hb < w.heap.size) := h.h.lt
  have HLL : Hid (1 ≤ (ll : Int) ∧ (ll : Int) ≤ 4) := ⟨by omega, by omega⟩
  have hlm : ll ≤ 4 := hll.2
  have HSX0 : Hid (∀ c, stayO b 0 c = carO b c) := fun c => stayO_car b hok.s hn c
  have HSY0 : Hid ((stayO b (vJ b s).t 0).getD zS = vS b s) := vS_eq b s hok hn
  clear hok hst h iv
  obtain ⟨bz, hbz⟩ : ∃ bz, vB b = bz := ⟨_, rfl⟩
  obtain ⟨jv, hjv⟩ : ∃ jv, vJ b s = jv := ⟨_, rfl⟩
  obtain ⟨vs, hvs⟩ : ∃ vs, vS b s = vs := ⟨_, rfl⟩
  simp only [hbz, hjv, hvs] at HPL0 HPC0 HOK0 HVS HJF HFI HBL HHA HWH HDN HSY0
  obtain ⟨jt, jf⟩ := jv
  simp only at HPL0 HPC0 HOK0 HVS HJF HFI HBL HHA HWH HDN HSY0
  clear hbz hjv hvs
  have HSJ : Hid (∀ wx, Below w.heap.size w wx → Calls Try.prog 62 #[.agg #[.int .i64 b.last, .slice b.sa b.stays.length b.sc, .slice b.ja b.jobs.length b.jc], .int .i64 jt, .int .i64 0] wx fun e w' => e = .returned (.tuple #[.agg #[.int .i64 vs.t, .int .i64 vs.id, .int .i64 vs.a, .int .i64 vs.b, .int .i64 vs.c, .int .i64 vs.x, .int .i64 vs.y, .int .i64 vs.z], .bool (stayO b jt 0).isSome]) ∧ Below wx.heap.size wx w') := fun wx hx => by
    have := HSL.out jt 0 wx hx
    rw [HSY0.out] at this
    exact this
  clear HSY0
  obtain ⟨w0, hw0⟩ : ∃ w0, w.alloc (.cells #[.int .i64 0, .slice none 0 0, .slice none 0 0] 25) = w0 := ⟨_, rfl⟩
  have N0 : Hid (Below w.heap.size w w0 ∧ Blk w0 w.heap.size #[.int .i64 0, .slice none 0 0, .slice none 0 0] 25) := by
    show _ ∧ _
    rw [← hw0]
    exact ⟨B.new1 _ _, Blk.new _ _ _⟩
  have HW0 : Hid (∀ X, Below w0.heap.size w0 X → Below w.heap.size w X) := fun X hx => B.next N0.out.1 hx N0.out.1.size
  have rh := (HH.out w0 N0.out.1).cell
  go_enter Try.func51, Try.ntmps51
  generalize hQB : bodyPost Try.prog Try.f51 PP = QB
  have HQB : Hid (bodyPost Try.prog Try.f51 PP = QB) := hQB
  clear hQB
  go_wp2_with fail
  clear hw0 rh
  refine (rspare_any _ _).mono ?_
  rintro e w3 ⟨rfl, b3⟩
  obtain ⟨w4, hw4⟩ : ∃ w4, w3.alloc (.cells #[.int .i64 ll, .int .i64 1, .int .i64 0] 38) = w4 := ⟨_, rfl⟩
  obtain ⟨sp, hsp⟩ : ∃ sp, w3.heap.size = sp := ⟨_, rfl⟩
  have N4 : Hid (Below w0.heap.size w0 w4 ∧ Blk w4 sp #[.int .i64 ll, .int .i64 1, .int .i64 0] 38) := by
    show _ ∧ _
    rw [← hw4]
    exact ⟨b3.alloc b3.size _, Blk.new1 hsp.symm _ _⟩
  have HW4 : Hid (w3.alloc (.cells #[.int .i64 ll, .int .i64 1, .int .i64 0] 38) = w4) := hw4
  clear b3 hw4
  go_upto_region 3 with fail
  simp only [HW4.out, hsp]
  clear HW4 hsp
  go_wp2_with fail
  refine (HFI.out _ (HW0.out _ N4.out.1)).mono ?_
  rintro e w5 ⟨rfl, b5⟩
  obtain ⟨w6, hw6⟩ : ∃ w6, w5.alloc (.cells #[.int .i64 jt, .bool jf] 32) = w6 := ⟨_, rfl⟩
  obtain ⟨jb, hjb⟩ : ∃ jb, w5.heap.size = jb := ⟨_, rfl⟩
  have N6 : Hid (RN w0 w6 sp jb ll jt jf) := by
    show RN _ _ _ _ _ _ _
    rw [← hw6]
    have b6 := B.next N4.out.1 b5 N4.out.1.size
    exact ⟨b6.alloc b6.size _, (N4.out.2.below b5).old _, Blk.new1 hjb.symm _ _⟩
  have HJB : Hid (w.heap.size < jb) := by
    have h1 := (N0.out.2.below (B.next N4.out.1 b5 N4.out.1.size)).lt
    rw [hjb] at h1
    exact h1
  have HAB0 : Hid (w0.heap.size ≤ jb) := by
    have h1 := (B.next N4.out.1 b5 N4.out.1.size).size
    rw [hjb] at h1
    exact h1
  have HW6 : Hid (w5.alloc (.cells #[.int .i64 jt, .bool jf] 32) = w6) := hw6
  clear hw6 N4 b5 HFI
  go_upto_region 4 with fail
  simp only [HW6.out, hjb]
  clear HW6 hjb
  have HRET : Hid (∀ wx v l, Below w0.heap.size w0 wx → RNextL b s ll bz jt jf vs l → Goals wx v l → PP (.returned (.tuple #[v, .agg #[.int .i64 0, .slice none 0 0, .slice none 0 0], .bool false])) (((wx.setCell ⟨w.heap.size, 0, none⟩ (.int .i64 0)).setCell ⟨w.heap.size, 1, none⟩ (.slice none 0 0)).setCell ⟨w.heap.size, 2, none⟩ (.slice none 0 0))) := fun wx v l hb' hn hg =>
    HPL0.out v l _ hn (Goals.set3 hg (N0.out.2.below hb')) (below_set (below_set (below_set (HW0.out _ hb') (Nat.le_refl _) _ _) (Nat.le_refl _) _ _) (Nat.le_refl _) _ _)
  have rl : w6.cell? ⟨rb, 5, none⟩ = some (.int .i64 s.li) := (HR.out w6 (HW0.out _ N6.out.b)).cell 5
  by_cases hli : s.li = 0
  case neg =>
    have hlz : (s.li != 0) = true := by simpa using hli
    have KU : Hid (unloadG b s bz jt jf vs ll 1 0 = if (carO b s.li).isSome = true then (if (bz && jf && jt == ((carO b s.li).getD zS).t && s.ba == 0) = true then gGive else if (((carO b s.li).getD zS).z == 1 && carOf s.D ((carO b s.li).getD zS).x ((carO b s.li).getD zS).y 0 != 0) = true then gThere 4 ll 1 0 else if (bz && rblocksB s.D vs ((carO b s.li).getD zS) jf) = true then gThere 4 ll 1 0 else gThere 4 ((carO b s.li).getD zS).x ((carO b s.li).getD zS).y ((carO b s.li).getD zS).z) else gGive) := runload_eq b s bz jt jf vs ll HJF.out
    have HIX : Hid ((carO b s.li).isSome = true → sIn ((carO b s.li).getD zS)) := HIN.out s.li
    have HSX : Hid (∀ wx, Below w.heap.size w wx → Calls Try.prog 62 #[.agg #[.int .i64 b.last, .slice b.sa b.stays.length b.sc, .slice b.ja b.jobs.length b.jc], .int .i64 0, .int .i64 s.li] wx fun e w' => e = .returned (.tuple #[.agg #[.int .i64 ((carO b s.li).getD zS).t, .int .i64 ((carO b s.li).getD zS).id, .int .i64 ((carO b s.li).getD zS).a, .int .i64 ((carO b s.li).getD zS).b, .int .i64 ((carO b s.li).getD zS).c, .int .i64 ((carO b s.li).getD zS).x, .int .i64 ((carO b s.li).getD zS).y, .int .i64 ((carO b s.li).getD zS).z], .bool (carO b s.li).isSome]) ∧ Below wx.heap.size wx w') := fun wx hx => by
      have := HSL.out 0 s.li wx hx
      rw [HSX0.out] at this
      exact this
    obtain ⟨x, hx⟩ : ∃ x, (carO b s.li).getD zS = x := ⟨_, rfl⟩
    obtain ⟨kn, hkn⟩ : ∃ kn, (carO b s.li).isSome = kn := ⟨_, rfl⟩
    rw [hx, hkn] at KU HIX HSX
    clear hx hkn HSJ HSX0 HJF
    have HBW : Hid (∀ X, Below w6.heap.size w6 X → Below w.heap.size w X) := fun X hx => HW0.out X (B.next N6.out.b hx N6.out.b.size)
    have HS : Hid (∀ W, Below w6.heap.size w6 W → W.cell? ⟨hb, 2, none⟩ = some (.int .i64 b.last) ∧ W.cell? ⟨hb, 3, none⟩ = some (.slice b.sa b.stays.length b.sc) ∧ W.cell? ⟨hb, 4, none⟩ = some (.slice b.ja b.jobs.length b.jc) ∧ W.cell? ⟨rb, 5, none⟩ = some (.int .i64 s.li)) := fun W hx => ⟨(HH.out W (HBW.out W hx)).cell 2, (HH.out W (HBW.out W hx)).cell 3, (HH.out W (HBW.out W hx)).cell 4, (HR.out W (HBW.out W hx)).cell 5⟩
    have D0 : Hid (Below w6.heap.size w6 w6.drew) := (Below.refl _ _).drew
    obtain ⟨wz, hwz⟩ : ∃ wz, w6.drew.alloc (.cells #[.int .i64 0, .int .i64 0, .int .i64 0, .int .i64 0, .int .i64 0, .int .i64 0, .int .i64 0, .int .i64 0] 62) = wz := ⟨_, rfl⟩
    have DZ : Hid (Below w6.heap.size w6 wz ∧ Blk wz w6.heap.size #[.int .i64 0, .int .i64 0, .int .i64 0, .int .i64 0, .int .i64 0, .int .i64 0, .int .i64 0, .int .i64 0] 62) := by
      show _ ∧ _
      rw [← hwz]
      exact ⟨D0.out.alloc (Nat.le_refl _) _, Blk.new1 (w := w6.drew) rfl _ _⟩
    have HR8 : Hid (∀ W, Below w6.heap.size w6 W → (fun W : World => W.cell? ⟨hb, 2, none⟩ = some (.int .i64 b.last) ∧ W.cell? ⟨hb, 3, none⟩ = some (.slice b.sa b.stays.length b.sc) ∧ W.cell? ⟨hb, 4, none⟩ = some (.slice b.ja b.jobs.length b.jc) ∧ W.cell? ⟨rb, 5, none⟩ = some (.int .i64 s.li)) ((((((((W.setCell ⟨w6.heap.size, 0, none⟩ (.int .i64 x.t)).setCell ⟨w6.heap.size, 1, none⟩ (.int .i64 x.id)).setCell ⟨w6.heap.size, 2, none⟩ (.int .i64 x.a)).setCell ⟨w6.heap.size, 3, none⟩ (.int .i64 x.b)).setCell ⟨w6.heap.size, 4, none⟩ (.int .i64 x.c)).setCell ⟨w6.heap.size, 5, none⟩ (.int .i64 x.x)).setCell ⟨w6.heap.size, 6, none⟩ (.int .i64 x.y)).setCell ⟨w6.heap.size, 7, none⟩ (.int .i64 x.z))) := fun W hx => HS.out _ (below_set (below_set (below_set (below_set (below_set (below_set (below_set (below_set hx (Nat.le_refl _) _ _) (Nat.le_refl _) _ _) (Nat.le_refl _) _ _) (Nat.le_refl _) _ _) (Nat.le_refl _) _ _) (Nat.le_refl _) _ _) (Nat.le_refl _) _ _) (Nat.le_refl _) _ _)
    go_upto_region 5 with fail
    go_cut [9, 10] from 43 to 54 (fun s9 s10 wx => ∃ xb : Nat, s9 = .pointer (some ⟨xb, 0, none⟩) ∧ s10 = .bool kn ∧ Hid (RN w0 wx sp jb ll jt jf ∧ Blk wx xb #[.int .i64 x.t, .int .i64 x.id, .int .i64 x.a, .int .i64 x.b, .int .i64 x.c, .int .i64 x.x, .int .i64 x.y, .int .i64 x.z] 62))
    case first =>
      clear HPL0 HPC0 HRET KU HSL HBL HAT HHA HWH HDN HIX rl
      go_region_held3 (fun W => W.cell? ⟨hb, 2, none⟩ = some (.int .i64 b.last) ∧ W.cell? ⟨hb, 3, none⟩ = some (.slice b.sa b.stays.length b.sc) ∧ W.cell? ⟨hb, 4, none⟩ = some (.slice b.ja b.jobs.length b.jc) ∧ W.cell? ⟨rb, 5, none⟩ = some (.int .i64 s.li)) (first | with_reducible exact HS.out _ D0.out | with_reducible exact HS.out _ DZ.out.1 | with_reducible exact HS.out _ BQ.out | with_reducible exact HS.out _ (BQ.out.alloc BQ.out.size _) | with_reducible exact HS.out _ BR.out.1 | with_reducible exact HR8.out _ BR.out.1 | go_keep)
        (first
          | (go_at_call 62; refine (HSX.out w6.drew (HBW.out _ D0.out)).mono ?_; rintro e wq ⟨rfl, bq⟩; have BQ : Hid (Below w6.heap.size w6 wq) := B.next D0.out bq D0.out.size; clear bq)
          | (go_at_call 62; refine (HSX.out wz (HBW.out _ DZ.out.1)).mono ?_; rintro e wq ⟨rfl, bq⟩; have BR : Hid (Below w6.heap.size w6 wq ∧ Blk wq w6.heap.size #[.int .i64 0, .int .i64 0, .int .i64 0, .int .i64 0, .int .i64 0, .int .i64 0, .int .i64 0, .int .i64 0] 62) := ⟨B.next DZ.out.1 bq DZ.out.1.size, DZ.out.2.below bq⟩; have gz := BR.out.2.cell; have fz := BR.out.2.free; clear bq))
      · go_wp2
        go_meet
        exact ⟨_, rfl, rfl, N6.out.next (BQ.out.alloc BQ.out.size _), Blk.new _ _ _⟩
      · go_wp2
        go_meet
        exact ⟨_, rfl, rfl, N6.out.next (below_set (below_set (below_set (below_set (below_set (below_set (below_set (below_set BR.out.1 (Nat.le_refl _) _ _) (Nat.le_refl _) _ _) (Nat.le_refl _) _ _) (Nat.le_refl _) _ _) (Nat.le_refl _) _ _) (Nat.le_refl _) _ _) (Nat.le_refl _) _ _) (Nat.le_refl _) _ _), Blk.cast ((((((((BR.out.2.set 0 (.int .i64 x.t)).set 1 (.int .i64 x.id)).set 2 (.int .i64 x.a)).set 3 (.int .i64 x.b)).set 4 (.int .i64 x.c)).set 5 (.int .i64 x.x)).set 6 (.int .i64 x.y)).set 7 (.int .i64 x.z)) (by kernel_rfl)⟩
    case rest =>
    clear HS D0 hwz DZ HR8 HBW N6
    obtain ⟨xb, rfl, rfl, N7⟩ := hcut
    clear rl HSX
    cases kn
    · have hU : unloadG b s bz jt jf vs ll 1 0 = gGive := by rw [KU.out]; rfl
      have rg := N7.out.2.cell
      go_wp2_with fail
      clear rg
      refine (rgiveOut_any _).mono ?_
      rintro e w9 ⟨v, rfl, ho⟩
      have X : Hid (Below w0.heap.size w0 w9 ∧ RNextL b s ll bz jt jf vs (gGive) ∧ Goals w9 v (gGive)) := ⟨B.next N7.out.1.b ho.2 N7.out.1.b.size, Or.inl ⟨hli, hU.symm⟩, Or.inr (ho.at (Nat.zero_lt_succ _) (Nat.le_of_ble_eq_true rfl))⟩
      clear ho N7
      have gg := (N0.out.2.below X.out.1).cell
      have ff := (N0.out.2.below X.out.1).free
      obtain ⟨wF, hwF⟩ : ∃ wF, ((w9.setCell ⟨w.heap.size, 0, none⟩ (.int .i64 0)).setCell ⟨w.heap.size, 1, none⟩ (.slice none 0 0)).setCell ⟨w.heap.size, 2, none⟩ (.slice none 0 0) = wF := ⟨_, rfl⟩
      have XF : Hid (PP (.returned (.tuple #[v, .agg #[.int .i64 0, .slice none 0 0, .slice none 0 0], .bool false])) wF ∧ Blk wF w.heap.size #[.int .i64 0, .slice none 0 0, .slice none 0 0] 25) := by
        show _ ∧ _
        rw [← hwF]
        exact ⟨HRET.out _ _ _ X.out.1 X.out.2.1 X.out.2.2, Blk.cast ((((N0.out.2.below X.out.1).set 0 (.int .i64 0)).set 1 (.slice none 0 0)).set 2 (.slice none 0 0)) (by kernel_rfl)⟩
      clear X
      go_wp2
      (try simp only [Exit.inBlock, Exit.then])
      have gF := XF.out.2.cell
      rw [← HQB.out]
      refine bodyPost_ret (v := .tuple #[v, .agg #[.int .i64 0, .slice none 0 0, .slice none 0 0], .bool false]) (by simp [results, Try.results51, go_sem, gF]; try rfl) rfl ?_
      exact XF.out.1
    have HX : Hid (sIn x) := HIX.out rfl
    obtain ⟨qg, hqg⟩ : ∃ qg, (bz && jf && jt == x.t && s.ba == 0) = qg := ⟨_, rfl⟩
    have KG : Hid (qg = (bz && jf && jt == x.t && s.ba == 0)) := hqg.symm
    rw [hqg] at KU
    clear hqg HIX
    have rx := N7.out.2.cell
    have rj := N7.out.1.j.cell
    have rb6 : wc.cell? ⟨rb, 6, none⟩ = some (.int .i64 s.ba) := (HR.out wc (HW0.out _ N7.out.1.b)).cell 6
    go_upto_region 6 with fail
    go_cut [77] from 55 to 77 (fun s77 wx => s77 = .bool qg ∧ Hid (RN w0 wx sp jb ll jt jf ∧ Blk wx xb #[.int .i64 x.t, .int .i64 x.id, .int .i64 x.a, .int .i64 x.b, .int .i64 x.c, .int .i64 x.x, .int .i64 x.y, .int .i64 x.z] 62))
    case first =>
      clear HPL0 HPC0 HRET KU HSL HBL HAT HHA HWH HDN HIN HVS
      cases bz
      · go_wp2
        go_meet
        exact ⟨congrArg Value.bool (by rw [KG.out]; rfl), N7⟩
      cases jf
      · go_wp2
        go_meet
        exact ⟨congrArg Value.bool (by rw [KG.out]; rfl), N7⟩
      cases c1 : (jt == x.t)
      · rw [c1] at KG
        go_wp2
        go_meet
        exact ⟨congrArg Value.bool (by rw [KG.out]; rfl), N7⟩
      · rw [c1] at KG
        cases c2 : (s.ba == 0)
        · rw [c2] at KG
          go_wp2
          go_meet
          exact ⟨congrArg Value.bool (by rw [KG.out]; rfl), N7⟩
        · rw [c2] at KG
          go_wp2
          go_meet
          exact ⟨congrArg Value.bool (by rw [KG.out]; rfl), N7⟩
    case rest =>
    clear rx rj rb6 N7 KG
    obtain ⟨rfl, N7⟩ := hcut
    cases qg
    case true =>
      have hU : unloadG b s bz jt jf vs ll 1 0 = gGive := by rw [KU.out]; rfl
      go_wp2_with fail
      refine (rgiveOut_any _).mono ?_
      rintro e w9 ⟨v, rfl, ho⟩
      have X : Hid (Below w0.heap.size w0 w9 ∧ RNextL b s ll bz jt jf vs (gGive) ∧ Goals w9 v (gGive)) := ⟨B.next N7.out.1.b ho.2 N7.out.1.b.size, Or.inl ⟨hli, hU.symm⟩, Or.inr (ho.at (Nat.zero_lt_succ _) (Nat.le_of_ble_eq_true rfl))⟩
      clear ho N7
      have gg := (N0.out.2.below X.out.1).cell
      have ff := (N0.out.2.below X.out.1).free
      obtain ⟨wF, hwF⟩ : ∃ wF, ((w9.setCell ⟨w.heap.size, 0, none⟩ (.int .i64 0)).setCell ⟨w.heap.size, 1, none⟩ (.slice none 0 0)).setCell ⟨w.heap.size, 2, none⟩ (.slice none 0 0) = wF := ⟨_, rfl⟩
      have XF : Hid (PP (.returned (.tuple #[v, .agg #[.int .i64 0, .slice none 0 0, .slice none 0 0], .bool false])) wF ∧ Blk wF w.heap.size #[.int .i64 0, .slice none 0 0, .slice none 0 0] 25) := by
        show _ ∧ _
        rw [← hwF]
        exact ⟨HRET.out _ _ _ X.out.1 X.out.2.1 X.out.2.2, Blk.cast ((((N0.out.2.below X.out.1).set 0 (.int .i64 0)).set 1 (.slice none 0 0)).set 2 (.slice none 0 0)) (by kernel_rfl)⟩
      clear X
      go_wp2
      (try simp only [Exit.inBlock, Exit.then])
      have gF := XF.out.2.cell
      rw [← HQB.out]
      refine bodyPost_ret (v := .tuple #[v, .agg #[.int .i64 0, .slice none 0 0, .slice none 0 0], .bool false]) (by simp [results, Try.results51, go_sem, gF]; try rfl) rfl ?_
      exact XF.out.1
    obtain ⟨q2, hq2⟩ : ∃ q2, (x.z == 1 && carOf s.D x.x x.y 0 != 0) = q2 := ⟨_, rfl⟩
    have K2 : Hid (q2 = (x.z == 1 && carOf s.D x.x x.y 0 != 0)) := hq2.symm
    rw [hq2] at KU
    clear hq2
    have HAX : Hid (∀ wx, Below w.heap.size w wx → Calls Try.prog 107 #[.pointer (some ⟨rb, 0, none⟩), .agg #[.int .i64 x.x, .int .i64 x.y, .int .i64 0]] wx fun e w' => e = .returned (.int .i64 (carOf s.D x.x x.y 0)) ∧ Below wx.heap.size wx w') := HAT.out x.x x.y 0 ⟨Int.le_trans (by decide) HX.out.1, HX.out.2.1⟩ ⟨HX.out.2.2.1, HX.out.2.2.2.1⟩ (by decide)
    obtain ⟨cx, hcx⟩ : ∃ cx, carOf s.D x.x x.y 0 = cx := ⟨_, rfl⟩
    rw [hcx] at HAX K2
    clear hcx
    obtain ⟨w8, hw8⟩ : ∃ w8, wc.alloc (.cells #[.int .i64 x.x, .int .i64 x.y, .int .i64 0] 38) = w8 := ⟨_, rfl⟩
    obtain ⟨fb, hfb⟩ : ∃ fb, wc.heap.size = fb := ⟨_, rfl⟩
    have N8 : Hid (RN w0 w8 sp jb ll jt jf ∧ Blk w8 xb #[.int .i64 x.t, .int .i64 x.id, .int .i64 x.a, .int .i64 x.b, .int .i64 x.c, .int .i64 x.x, .int .i64 x.y, .int .i64 x.z] 62 ∧ Blk w8 fb #[.int .i64 x.x, .int .i64 x.y, .int .i64 0] 38) := by
      show _ ∧ _ ∧ _
      rw [← hw8]
      exact ⟨N7.out.1.next (B.new1 _ _), N7.out.2.old _, Blk.new1 hfb.symm _ _⟩
    have HW8 : Hid (wc.alloc (.cells #[.int .i64 x.x, .int .i64 x.y, .int .i64 0] 38) = w8) := hw8
    have rx := N7.out.2.cell
    clear hw8 N7
    go_upto_region 10 with fail
    simp only [HW8.out, hfb]
    clear HW8 hfb rx
    go_cut [92] from 82 to 92 (fun s92 wx => s92 = .bool q2 ∧ Hid (RN w0 wx sp jb ll jt jf ∧ Blk wx xb #[.int .i64 x.t, .int .i64 x.id, .int .i64 x.a, .int .i64 x.b, .int .i64 x.c, .int .i64 x.x, .int .i64 x.y, .int .i64 x.z] 62))
    case first =>
      clear HPL0 HPC0 HRET KU HSL HBL HAT HHA HWH HDN HIN HVS
      have rx := N8.out.2.1.cell
      have rf := N8.out.2.2.cell
      cases c1 : (x.z == 1)
      · rw [c1] at K2
        go_wp2
        go_meet
        exact ⟨congrArg Value.bool (by rw [K2.out]; rfl), N8.out.1, N8.out.2.1⟩
      · rw [c1] at K2
        go_wp2_with fail
        clear rx rf
        refine (HAX.out _ (HW0.out _ N8.out.1.b)).mono ?_
        rintro e w9 ⟨rfl, b9⟩
        have N9 : Hid (RN w0 w9 sp jb ll jt jf ∧ Blk w9 xb #[.int .i64 x.t, .int .i64 x.id, .int .i64 x.a, .int .i64 x.b, .int .i64 x.c, .int .i64 x.x, .int .i64 x.y, .int .i64 x.z] 62) := ⟨N8.out.1.next b9, N8.out.2.1.below b9⟩
        clear b9 N8
        go_wp2
        go_meet
        exact ⟨congrArg Value.bool (by rw [K2.out]; rfl), N9⟩
    case rest =>
    clear N8 K2 HAX
    obtain ⟨rfl, N7⟩ := hcut
    cases q2
    case true =>
      have hU : unloadG b s bz jt jf vs ll 1 0 = gThere 4 ll 1 0 := by rw [KU.out]; rfl
      have rs := N7.out.1.p.cell
      go_wp2_with fail
      clear rs
      refine (there_any ll 1 0 4 _ HLL.out.1 HLL.out.2 (by decide) (by decide)).mono ?_
      rintro e w9 ⟨v, rfl, ho⟩
      have X : Hid (Below w0.heap.size w0 w9 ∧ RNextL b s ll bz jt jf vs (gThere 4 ll 1 0) ∧ Goals w9 v (gThere 4 ll 1 0)) := ⟨B.next N7.out.1.b ho.2 N7.out.1.b.size, Or.inl ⟨hli, hU.symm⟩, Or.inr (ho.at (Nat.zero_lt_succ _) (Nat.le_of_ble_eq_true rfl))⟩
      clear ho N7
      have gg := (N0.out.2.below X.out.1).cell
      have ff := (N0.out.2.below X.out.1).free
      obtain ⟨wF, hwF⟩ : ∃ wF, ((w9.setCell ⟨w.heap.size, 0, none⟩ (.int .i64 0)).setCell ⟨w.heap.size, 1, none⟩ (.slice none 0 0)).setCell ⟨w.heap.size, 2, none⟩ (.slice none 0 0) = wF := ⟨_, rfl⟩
      have XF : Hid (PP (.returned (.tuple #[v, .agg #[.int .i64 0, .slice none 0 0, .slice none 0 0], .bool false])) wF ∧ Blk wF w.heap.size #[.int .i64 0, .slice none 0 0, .slice none 0 0] 25) := by
        show _ ∧ _
        rw [← hwF]
        exact ⟨HRET.out _ _ _ X.out.1 X.out.2.1 X.out.2.2, Blk.cast ((((N0.out.2.below X.out.1).set 0 (.int .i64 0)).set 1 (.slice none 0 0)).set 2 (.slice none 0 0)) (by kernel_rfl)⟩
      clear X
      go_wp2
      (try simp only [Exit.inBlock, Exit.then])
      have gF := XF.out.2.cell
      rw [← HQB.out]
      refine bodyPost_ret (v := .tuple #[v, .agg #[.int .i64 0, .slice none 0 0, .slice none 0 0], .bool false]) (by simp [results, Try.results51, go_sem, gF]; try rfl) rfl ?_
      exact XF.out.1
    cases bz
    · have hU : unloadG b s false jt jf vs ll 1 0 = gThere 4 x.x x.y x.z := by rw [KU.out]; rfl
      have rs := N7.out.2.cell
      go_wp2_with fail
      clear rs
      refine (there_any x.x x.y x.z 4 _ HX.out.1 HX.out.2.1 HX.out.2.2.2.2.1 HX.out.2.2.2.2.2).mono ?_
      rintro e w9 ⟨v, rfl, ho⟩
      have X : Hid (Below w0.heap.size w0 w9 ∧ RNextL b s ll false jt jf vs (gThere 4 x.x x.y x.z) ∧ Goals w9 v (gThere 4 x.x x.y x.z)) := ⟨B.next N7.out.1.b ho.2 N7.out.1.b.size, Or.inl ⟨hli, hU.symm⟩, Or.inr (ho.at (Nat.zero_lt_succ _) (Nat.le_of_ble_eq_true rfl))⟩
      clear ho N7
      have gg := (N0.out.2.below X.out.1).cell
      have ff := (N0.out.2.below X.out.1).free
      obtain ⟨wF, hwF⟩ : ∃ wF, ((w9.setCell ⟨w.heap.size, 0, none⟩ (.int .i64 0)).setCell ⟨w.heap.size, 1, none⟩ (.slice none 0 0)).setCell ⟨w.heap.size, 2, none⟩ (.slice none 0 0) = wF := ⟨_, rfl⟩
      have XF : Hid (PP (.returned (.tuple #[v, .agg #[.int .i64 0, .slice none 0 0, .slice none 0 0], .bool false])) wF ∧ Blk wF w.heap.size #[.int .i64 0, .slice none 0 0, .slice none 0 0] 25) := by
        show _ ∧ _
        rw [← hwF]
        exact ⟨HRET.out _ _ _ X.out.1 X.out.2.1 X.out.2.2, Blk.cast ((((N0.out.2.below X.out.1).set 0 (.int .i64 0)).set 1 (.slice none 0 0)).set 2 (.slice none 0 0)) (by kernel_rfl)⟩
      clear X
      go_wp2
      (try simp only [Exit.inBlock, Exit.then])
      have gF := XF.out.2.cell
      rw [← HQB.out]
      refine bodyPost_ret (v := .tuple #[v, .agg #[.int .i64 0, .slice none 0 0, .slice none 0 0], .bool false]) (by simp [results, Try.results51, go_sem, gF]; try rfl) rfl ?_
      exact XF.out.1
    have rx := N7.out.2.cell
    have rj := N7.out.1.j.cell
    go_wp2_with fail
    clear rx rj
    refine (HBL.out x _ (HW0.out _ N7.out.1.b)).mono ?_
    rintro e w8 ⟨rfl, b8⟩
    have N8 : Hid (RN w0 w8 sp jb ll jt jf ∧ Blk w8 xb #[.int .i64 x.t, .int .i64 x.id, .int .i64 x.a, .int .i64 x.b, .int .i64 x.c, .int .i64 x.x, .int .i64 x.y, .int .i64 x.z] 62) := ⟨N7.out.1.next b8, N7.out.2.below b8⟩
    clear b8 N7
    cases hq3 : rblocksB s.D vs x jf
    · have hU : unloadG b s true jt jf vs ll 1 0 = gThere 4 x.x x.y x.z := by rw [KU.out, hq3]; rfl
      have rs := N8.out.2.cell
      go_wp2_with fail
      clear rs
      refine (there_any x.x x.y x.z 4 _ HX.out.1 HX.out.2.1 HX.out.2.2.2.2.1 HX.out.2.2.2.2.2).mono ?_
      rintro e w9 ⟨v, rfl, ho⟩
      have X : Hid (Below w0.heap.size w0 w9 ∧ RNextL b s ll true jt jf vs (gThere 4 x.x x.y x.z) ∧ Goals w9 v (gThere 4 x.x x.y x.z)) := ⟨B.next N8.out.1.b ho.2 N8.out.1.b.size, Or.inl ⟨hli, hU.symm⟩, Or.inr (ho.at (Nat.zero_lt_succ _) (Nat.le_of_ble_eq_true rfl))⟩
      clear ho N8
      have gg := (N0.out.2.below X.out.1).cell
      have ff := (N0.out.2.below X.out.1).free
      obtain ⟨wF, hwF⟩ : ∃ wF, ((w9.setCell ⟨w.heap.size, 0, none⟩ (.int .i64 0)).setCell ⟨w.heap.size, 1, none⟩ (.slice none 0 0)).setCell ⟨w.heap.size, 2, none⟩ (.slice none 0 0) = wF := ⟨_, rfl⟩
      have XF : Hid (PP (.returned (.tuple #[v, .agg #[.int .i64 0, .slice none 0 0, .slice none 0 0], .bool false])) wF ∧ Blk wF w.heap.size #[.int .i64 0, .slice none 0 0, .slice none 0 0] 25) := by
        show _ ∧ _
        rw [← hwF]
        exact ⟨HRET.out _ _ _ X.out.1 X.out.2.1 X.out.2.2, Blk.cast ((((N0.out.2.below X.out.1).set 0 (.int .i64 0)).set 1 (.slice none 0 0)).set 2 (.slice none 0 0)) (by kernel_rfl)⟩
      clear X
      go_wp2
      (try simp only [Exit.inBlock, Exit.then])
      have gF := XF.out.2.cell
      rw [← HQB.out]
      refine bodyPost_ret (v := .tuple #[v, .agg #[.int .i64 0, .slice none 0 0, .slice none 0 0], .bool false]) (by simp [results, Try.results51, go_sem, gF]; try rfl) rfl ?_
      exact XF.out.1
    · have hU : unloadG b s true jt jf vs ll 1 0 = gThere 4 ll 1 0 := by rw [KU.out, hq3]; rfl
      have rs := N8.out.1.p.cell
      go_wp2_with fail
      clear rs
      refine (there_any ll 1 0 4 _ HLL.out.1 HLL.out.2 (by decide) (by decide)).mono ?_
      rintro e w9 ⟨v, rfl, ho⟩
      have X : Hid (Below w0.heap.size w0 w9 ∧ RNextL b s ll true jt jf vs (gThere 4 ll 1 0) ∧ Goals w9 v (gThere 4 ll 1 0)) := ⟨B.next N8.out.1.b ho.2 N8.out.1.b.size, Or.inl ⟨hli, hU.symm⟩, Or.inr (ho.at (Nat.zero_lt_succ _) (Nat.le_of_ble_eq_true rfl))⟩
      clear ho N8
      have gg := (N0.out.2.below X.out.1).cell
      have ff := (N0.out.2.below X.out.1).free
      obtain ⟨wF, hwF⟩ : ∃ wF, ((w9.setCell ⟨w.heap.size, 0, none⟩ (.int .i64 0)).setCell ⟨w.heap.size, 1, none⟩ (.slice none 0 0)).setCell ⟨w.heap.size, 2, none⟩ (.slice none 0 0) = wF := ⟨_, rfl⟩
      have XF : Hid (PP (.returned (.tuple #[v, .agg #[.int .i64 0, .slice none 0 0, .slice none 0 0], .bool false])) wF ∧ Blk wF w.heap.size #[.int .i64 0, .slice none 0 0, .slice none 0 0] 25) := by
        show _ ∧ _
        rw [← hwF]
        exact ⟨HRET.out _ _ _ X.out.1 X.out.2.1 X.out.2.2, Blk.cast ((((N0.out.2.below X.out.1).set 0 (.int .i64 0)).set 1 (.slice none 0 0)).set 2 (.slice none 0 0)) (by kernel_rfl)⟩
      clear X
      go_wp2
      (try simp only [Exit.inBlock, Exit.then])
      have gF := XF.out.2.cell
      rw [← HQB.out]
      refine bodyPost_ret (v := .tuple #[v, .agg #[.int .i64 0, .slice none 0 0, .slice none 0 0], .bool false]) (by simp [results, Try.results51, go_sem, gF]; try rfl) rfl ?_
      exact XF.out.1
  have hlz : (s.li != 0) = false := by simpa using hli
  have KS : Hid (spareB b s ll bz jf vs = (carOf s.D ll 1 0 != 0 && !((carO b (carOf s.D ll 1 0)).isSome && (bz && rblocksB s.D vs ((carO b (carOf s.D ll 1 0)).getD zS) jf)))) := rspare_eq b s bz jf vs ll
  have HAS : Hid (∀ wx, Below w.heap.size w wx → Calls Try.prog 107 #[.pointer (some ⟨rb, 0, none⟩), .agg #[.int .i64 ll, .int .i64 1, .int .i64 0]] wx fun e w' => e = .returned (.int .i64 (carOf s.D ll 1 0)) ∧ Below wx.heap.size wx w') := HAT.out ll 1 0 ⟨Int.le_trans (by decide) HLL.out.1, HLL.out.2⟩ (by decide) (by decide)
  obtain ⟨cs, hcs⟩ : ∃ cs, carOf s.D ll 1 0 = cs := ⟨_, rfl⟩
  rw [hcs] at KS HAS
  clear hcs
  have HSX : Hid (∀ wx, Below w.heap.size w wx → Calls Try.prog 62 #[.agg #[.int .i64 b.last, .slice b.sa b.stays.length b.sc, .slice b.ja b.jobs.length b.jc], .int .i64 0, .int .i64 cs] wx fun e w' => e = .returned (.tuple #[.agg #[.int .i64 ((carO b cs).getD zS).t, .int .i64 ((carO b cs).getD zS).id, .int .i64 ((carO b cs).getD zS).a, .int .i64 ((carO b cs).getD zS).b, .int .i64 ((carO b cs).getD zS).c, .int .i64 ((carO b cs).getD zS).x, .int .i64 ((carO b cs).getD zS).y, .int .i64 ((carO b cs).getD zS).z], .bool (carO b cs).isSome]) ∧ Below wx.heap.size wx w') := fun wx hx => by
    have := HSL.out 0 cs wx hx
    rw [HSX0.out] at this
    exact this
  obtain ⟨x, hx⟩ : ∃ x, (carO b cs).getD zS = x := ⟨_, rfl⟩
  obtain ⟨kn, hkn⟩ : ∃ kn, (carO b cs).isSome = kn := ⟨_, rfl⟩
  rw [hx, hkn] at KS HSX
  clear hx hkn HSX0 HJF HIN
  have rs := N6.out.p.cell
  go_wp2_with fail
  clear rs rl
  refine (HAS.out _ (HW0.out _ N6.out.b)).mono ?_
  rintro e w7 ⟨rfl, b7⟩
  have N7 : Hid (RN w0 w7 sp jb ll jt jf) := N6.out.next b7
  clear b7 N6
  by_cases hc : cs = 0
  · have hcz : (cs != 0) = false := by simpa using hc
    have hsq : spareB b s ll bz jf vs = false := by rw [KS.out, hcz]; rfl
    clear KS HSX HAS
    have HOP : Hid (w7.cell? ⟨rb, 3, none⟩ = some (.bool s.op)) := (HR.out w7 (HW0.out _ N7.out.b)).cell 3
    cases bz
    · have ro := HOP.out
      cases hop : s.op
      · rw [hop] at ro
        have hW : gWel = welG s := by unfold welG; rw [hop]; rfl
        go_wp2_with fail
        clear ro
        refine (rwelcome_any _).mono ?_
        rintro e w9 ⟨v, rfl, ho⟩
        have X : Hid (Below w0.heap.size w0 w9 ∧ RNextL b s ll false jt jf vs (gWel) ∧ Goals w9 v (gWel)) := ⟨B.next N7.out.b ho.2 N7.out.b.size, Or.inr (Or.inr (Or.inl ⟨hli, hsq, rfl, hW⟩)), Or.inr (ho.at (Nat.zero_lt_succ _) (Nat.le_of_ble_eq_true rfl))⟩
        clear ho N7
        have gg := (N0.out.2.below X.out.1).cell
        have ff := (N0.out.2.below X.out.1).free
        obtain ⟨wF, hwF⟩ : ∃ wF, ((w9.setCell ⟨w.heap.size, 0, none⟩ (.int .i64 0)).setCell ⟨w.heap.size, 1, none⟩ (.slice none 0 0)).setCell ⟨w.heap.size, 2, none⟩ (.slice none 0 0) = wF := ⟨_, rfl⟩
        have XF : Hid (PP (.returned (.tuple #[v, .agg #[.int .i64 0, .slice none 0 0, .slice none 0 0], .bool false])) wF ∧ Blk wF w.heap.size #[.int .i64 0, .slice none 0 0, .slice none 0 0] 25) := by
          show _ ∧ _
          rw [← hwF]
          exact ⟨HRET.out _ _ _ X.out.1 X.out.2.1 X.out.2.2, Blk.cast ((((N0.out.2.below X.out.1).set 0 (.int .i64 0)).set 1 (.slice none 0 0)).set 2 (.slice none 0 0)) (by kernel_rfl)⟩
        clear X
        go_wp2
        (try simp only [Exit.inBlock, Exit.then])
        have gF := XF.out.2.cell
        rw [← HQB.out]
        refine bodyPost_ret (v := .tuple #[v, .agg #[.int .i64 0, .slice none 0 0, .slice none 0 0], .bool false]) (by simp [results, Try.results51, go_sem, gF]; try rfl) rfl ?_
        exact XF.out.1
      · rw [hop] at ro
        have hW : [] = welG s := by unfold welG; rw [hop]; rfl
        have X : Hid (Below w0.heap.size w0 w7 ∧ RNextL b s ll false jt jf vs [] ∧ Goals w7 (.slice none 0 0) []) := ⟨N7.out.b, Or.inr (Or.inr (Or.inl ⟨hli, hsq, rfl, hW⟩)), Goals.nil _⟩
        have gg := (N0.out.2.below X.out.1).cell
        have ff := (N0.out.2.below X.out.1).free
        obtain ⟨wF, hwF⟩ : ∃ wF, ((w7.setCell ⟨w.heap.size, 0, none⟩ (.int .i64 0)).setCell ⟨w.heap.size, 1, none⟩ (.slice none 0 0)).setCell ⟨w.heap.size, 2, none⟩ (.slice none 0 0) = wF := ⟨_, rfl⟩
        have XF : Hid (PP (.returned (.tuple #[.slice none 0 0, .agg #[.int .i64 0, .slice none 0 0, .slice none 0 0], .bool false])) wF ∧ Blk wF w.heap.size #[.int .i64 0, .slice none 0 0, .slice none 0 0] 25) := by
          show _ ∧ _
          rw [← hwF]
          exact ⟨HRET.out _ _ _ X.out.1 X.out.2.1 X.out.2.2, Blk.cast ((((N0.out.2.below X.out.1).set 0 (.int .i64 0)).set 1 (.slice none 0 0)).set 2 (.slice none 0 0)) (by kernel_rfl)⟩
        clear X
        go_wp2
        (try simp only [Exit.inBlock, Exit.then])
        have gF := XF.out.2.cell
        rw [← HQB.out]
        refine bodyPost_ret (v := .tuple #[.slice none 0 0, .agg #[.int .i64 0, .slice none 0 0, .slice none 0 0], .bool false]) (by simp [results, Try.results51, go_sem, gF]; try rfl) rfl ?_
        exact XF.out.1
    clear HOP
    have HVI : Hid (sIn vs ∧ vs.id ≠ 0) := HVS.out (by simp)
    obtain ⟨kq, hkq⟩ : ∃ kq, (stayO b jt 0).isSome = kq := ⟨_, rfl⟩
    rw [hkq] at HSJ
    clear hkq
    have HBW : Hid (∀ X, Below w7.heap.size w7 X → Below w.heap.size w X) := fun X hx => HW0.out X (B.next N7.out.b hx N7.out.b.size)
    have HS : Hid (∀ W, Below w7.heap.size w7 W → W.cell? ⟨hb, 2, none⟩ = some (.int .i64 b.last) ∧ W.cell? ⟨hb, 3, none⟩ = some (.slice b.sa b.stays.length b.sc) ∧ W.cell? ⟨hb, 4, none⟩ = some (.slice b.ja b.jobs.length b.jc) ∧ W.cell? ⟨jb, 0, none⟩ = some (.int .i64 jt)) := fun W hx => ⟨(HH.out W (HBW.out W hx)).cell 2, (HH.out W (HBW.out W hx)).cell 3, (HH.out W (HBW.out W hx)).cell 4, (N7.out.j.below hx).cell 0⟩
    have D0 : Hid (Below w7.heap.size w7 w7.drew) := (Below.refl _ _).drew
    obtain ⟨wz, hwz⟩ : ∃ wz, w7.drew.alloc (.cells #[.int .i64 0, .int .i64 0, .int .i64 0, .int .i64 0, .int .i64 0, .int .i64 0, .int .i64 0, .int .i64 0] 62) = wz := ⟨_, rfl⟩
    have DZ : Hid (Below w7.heap.size w7 wz ∧ Blk wz w7.heap.size #[.int .i64 0, .int .i64 0, .int .i64 0, .int .i64 0, .int .i64 0, .int .i64 0, .int .i64 0, .int .i64 0] 62) := by
      show _ ∧ _
      rw [← hwz]
      exact ⟨D0.out.alloc (Nat.le_refl _) _, Blk.new1 (w := w7.drew) rfl _ _⟩
    have HR8 : Hid (∀ W, Below w7.heap.size w7 W → (fun W : World => W.cell? ⟨hb, 2, none⟩ = some (.int .i64 b.last) ∧ W.cell? ⟨hb, 3, none⟩ = some (.slice b.sa b.stays.length b.sc) ∧ W.cell? ⟨hb, 4, none⟩ = some (.slice b.ja b.jobs.length b.jc) ∧ W.cell? ⟨jb, 0, none⟩ = some (.int .i64 jt)) ((((((((W.setCell ⟨w7.heap.size, 0, none⟩ (.int .i64 vs.t)).setCell ⟨w7.heap.size, 1, none⟩ (.int .i64 vs.id)).setCell ⟨w7.heap.size, 2, none⟩ (.int .i64 vs.a)).setCell ⟨w7.heap.size, 3, none⟩ (.int .i64 vs.b)).setCell ⟨w7.heap.size, 4, none⟩ (.int .i64 vs.c)).setCell ⟨w7.heap.size, 5, none⟩ (.int .i64 vs.x)).setCell ⟨w7.heap.size, 6, none⟩ (.int .i64 vs.y)).setCell ⟨w7.heap.size, 7, none⟩ (.int .i64 vs.z))) := fun W hx => HS.out _ (below_set (below_set (below_set (below_set (below_set (below_set (below_set (below_set hx (Nat.le_refl _) _ _) (Nat.le_refl _) _ _) (Nat.le_refl _) _ _) (Nat.le_refl _) _ _) (Nat.le_refl _) _ _) (Nat.le_refl _) _ _) (Nat.le_refl _) _ _) (Nat.le_refl _) _ _)
    go_upto_region 28 with fail
    go_cut [16] from 146 to 155 (fun s16 wx => ∃ xb : Nat, s16 = .pointer (some ⟨xb, 0, none⟩) ∧ Hid (RN w0 wx sp jb ll jt jf ∧ Blk wx xb #[.int .i64 vs.t, .int .i64 vs.id, .int .i64 vs.a, .int .i64 vs.b, .int .i64 vs.c, .int .i64 vs.x, .int .i64 vs.y, .int .i64 vs.z] 62))
    case first =>
      clear HPL0 HPC0 HRET HSL HBL HAT HHA HWH HDN
      go_region_held3 (fun W => W.cell? ⟨hb, 2, none⟩ = some (.int .i64 b.last) ∧ W.cell? ⟨hb, 3, none⟩ = some (.slice b.sa b.stays.length b.sc) ∧ W.cell? ⟨hb, 4, none⟩ = some (.slice b.ja b.jobs.length b.jc) ∧ W.cell? ⟨jb, 0, none⟩ = some (.int .i64 jt)) (first | with_reducible exact HS.out _ D0.out | with_reducible exact HS.out _ DZ.out.1 | with_reducible exact HS.out _ BQ.out | with_reducible exact HS.out _ (BQ.out.alloc BQ.out.size _) | with_reducible exact HS.out _ BR.out.1 | with_reducible exact HR8.out _ BR.out.1 | go_keep)
        (first
          | (go_at_call 62; refine (HSJ.out w7.drew (HBW.out _ D0.out)).mono ?_; rintro e wq ⟨rfl, bq⟩; have BQ : Hid (Below w7.heap.size w7 wq) := B.next D0.out bq D0.out.size; clear bq)
          | (go_at_call 62; refine (HSJ.out wz (HBW.out _ DZ.out.1)).mono ?_; rintro e wq ⟨rfl, bq⟩; have BR : Hid (Below w7.heap.size w7 wq ∧ Blk wq w7.heap.size #[.int .i64 0, .int .i64 0, .int .i64 0, .int .i64 0, .int .i64 0, .int .i64 0, .int .i64 0, .int .i64 0] 62) := ⟨B.next DZ.out.1 bq DZ.out.1.size, DZ.out.2.below bq⟩; have gz := BR.out.2.cell; have fz := BR.out.2.free; clear bq))
      · go_wp2
        go_meet
        exact ⟨_, rfl, N7.out.next (BQ.out.alloc BQ.out.size _), Blk.new _ _ _⟩
      · go_wp2
        go_meet
        exact ⟨_, rfl, N7.out.next (below_set (below_set (below_set (below_set (below_set (below_set (below_set (below_set BR.out.1 (Nat.le_refl _) _ _) (Nat.le_refl _) _ _) (Nat.le_refl _) _ _) (Nat.le_refl _) _ _) (Nat.le_refl _) _ _) (Nat.le_refl _) _ _) (Nat.le_refl _) _ _) (Nat.le_refl _) _ _), Blk.cast ((((((((BR.out.2.set 0 (.int .i64 vs.t)).set 1 (.int .i64 vs.id)).set 2 (.int .i64 vs.a)).set 3 (.int .i64 vs.b)).set 4 (.int .i64 vs.c)).set 5 (.int .i64 vs.x)).set 6 (.int .i64 vs.y)).set 7 (.int .i64 vs.z)) (by kernel_rfl)⟩
    case rest =>
    clear HS D0 hwz DZ HR8 HBW N7
    obtain ⟨xb, rfl, NA⟩ := hcut
    clear HSJ HBL HSL
    obtain ⟨hq, hhq⟩ : ∃ hq, hasB s vs.id = hq := ⟨_, rfl⟩
    rw [hhq] at HHA HPC0
    have rx := NA.out.2.cell
    go_wp2_with fail
    clear rx
    refine (HHA.out HVI.out.2 _ (HW0.out _ NA.out.1.b)).mono ?_
    rintro e wB ⟨rfl, bB⟩
    have NB : Hid (RN w0 wB sp jb ll jt jf ∧ Blk wB xb #[.int .i64 vs.t, .int .i64 vs.id, .int .i64 vs.a, .int .i64 vs.b, .int .i64 vs.c, .int .i64 vs.x, .int .i64 vs.y, .int .i64 vs.z] 62) := ⟨NA.out.1.next bB, NA.out.2.below bB⟩
    clear bB NA HHA
    have rj := NB.out.1.j.cell
    cases jf
    · have rx := NB.out.2.cell
      go_wp2_with fail
      clear rx rj
      refine (HAT.out vs.x vs.y vs.z ⟨Int.le_trans (by decide) HVI.out.1.1, HVI.out.1.2.1⟩ ⟨HVI.out.1.2.2.1, HVI.out.1.2.2.2.1⟩ HVI.out.1.2.2.2.2 _ (HW0.out _ NB.out.1.b)).mono ?_
      rintro e wC ⟨rfl, bC⟩
      have NC : Hid (RN w0 wC sp jb ll jt false) := NB.out.1.next bC
      clear bC NB
      cases hc : (carOf s.D vs.x vs.y vs.z == vs.id)
      · have rb6 : wC.cell? ⟨rb, 6, none⟩ = some (.int .i64 s.ba) := (HR.out wC (HW0.out _ NC.out.b)).cell 6
        cases hb6 : (s.ba == vs.id)
        · cases hq
          · have hov : overB s false vs = true := by unfold overB; rw [hhq]; rfl
            clear HPL0 HRET
            have HPC : Hid (∀ xs xj w', OwnBook w' w.heap.size xs xj (doneStays jt (false || true) b.stays) (doneJobs jt false (false || true) b.jobs) → Below w.heap.size w w' → PP (.returned (.tuple #[.slice none 0 0, .agg #[.int .i64 b.last, xs, xj], .bool true])) w') := HPC0.out true rfl ⟨hli, hsq, rfl, hov⟩
            have HBW : Hid (∀ X, Below wC.heap.size wC X → Below w.heap.size w X) := fun X hx => HW0.out X (B.next NC.out.b hx NC.out.b.size)
            have HSB : Hid (∀ W, Below wC.heap.size wC W → W.cell? ⟨hb, 2, none⟩ = some (.int .i64 b.last) ∧ W.cell? ⟨hb, 3, none⟩ = some (.slice b.sa b.stays.length b.sc) ∧ W.cell? ⟨hb, 4, none⟩ = some (.slice b.ja b.jobs.length b.jc) ∧ W.cell? ⟨jb, 0, none⟩ = some (.int .i64 jt) ∧ W.cell? ⟨jb, 1, none⟩ = some (.bool false)) := fun W hx => ⟨(HH.out W (HBW.out W hx)).cell 2, (HH.out W (HBW.out W hx)).cell 3, (HH.out W (HBW.out W hx)).cell 4, (NC.out.j.below hx).cell 0, (NC.out.j.below hx).cell 1⟩
            have D0 : Hid (Below wC.heap.size wC wC.drew) := (Below.refl _ _).drew
            have HDD : Hid (∀ wx, Below w.heap.size w wx → Calls Try.prog 23 #[.agg #[.int .i64 b.last, .slice b.sa b.stays.length b.sc, .slice b.ja b.jobs.length b.jc], .agg #[.int .i64 jt, .bool false], .bool true] wx fun e w' => ∃ xs xj, e = .returned (.agg #[.int .i64 b.last, xs, xj]) ∧ OwnBook w' wx.heap.size xs xj (doneStays jt (false || true) b.stays) (doneJobs jt false (false || true) b.jobs) ∧ Below wx.heap.size wx w') := HDN.out true
            have HSZ : Hid (w.heap.size < wC.heap.size) := (N0.out.2.below NC.out.b).lt
            have HRB : Hid (∀ wx, Below wC.heap.size wC wx → Blk wx w.heap.size #[.int .i64 0, .slice none 0 0, .slice none 0 0] 25) := fun wx h => (N0.out.2.below NC.out.b).below h
            have HST3 : Hid (∀ wx, Below wC.heap.size wC wx → ∀ a c d : Value, (fun W : World => W.cell? ⟨hb, 2, none⟩ = some (.int .i64 b.last) ∧ W.cell? ⟨hb, 3, none⟩ = some (.slice b.sa b.stays.length b.sc) ∧ W.cell? ⟨hb, 4, none⟩ = some (.slice b.ja b.jobs.length b.jc) ∧ W.cell? ⟨jb, 0, none⟩ = some (.int .i64 jt) ∧ W.cell? ⟨jb, 1, none⟩ = some (.bool false)) (((wx.setCell ⟨w.heap.size, 0, none⟩ a).setCell ⟨w.heap.size, 1, none⟩ c).setCell ⟨w.heap.size, 2, none⟩ d)) := fun wx h a c d => by
              have n1 := HHB.out
              have n2 := HJB.out
              have hh := HH.out wx (HBW.out wx h)
              have hj := NC.out.j.below h
              have q1 := ((hh.other (c := w.heap.size) (by omega) 0 a).other (c := w.heap.size) (by omega) 1 c).other (c := w.heap.size) (by omega) 2 d
              have q2 := ((hj.other (c := w.heap.size) (by omega) 0 a).other (c := w.heap.size) (by omega) 1 c).other (c := w.heap.size) (by omega) 2 d
              exact ⟨q1.cell 2, q1.cell 3, q1.cell 4, q2.cell 0, q2.cell 1⟩
            generalize doneStays jt (false || true) b.stays = S2 at HPC HDD
            generalize doneJobs jt false (false || true) b.jobs = J2 at HPC HDD
            go_upto_region 37 with fail
            go_region_held3 (fun W => W.cell? ⟨hb, 2, none⟩ = some (.int .i64 b.last) ∧ W.cell? ⟨hb, 3, none⟩ = some (.slice b.sa b.stays.length b.sc) ∧ W.cell? ⟨hb, 4, none⟩ = some (.slice b.ja b.jobs.length b.jc) ∧ W.cell? ⟨jb, 0, none⟩ = some (.int .i64 jt) ∧ W.cell? ⟨jb, 1, none⟩ = some (.bool false)) (first | with_reducible exact HSB.out _ D0.out | with_reducible exact HSB.out _ BD.out | with_reducible exact HST3.out _ BD.out _ _ _ | go_keep)
              (first
                | (go_at_call 23; refine (HDD.out wC.drew (HBW.out _ D0.out)).mono ?_; rintro e wd ⟨xs, xj, rfl, ho, bd⟩; obtain ⟨a1, c1, hx1, _⟩ := ho.s.rows; obtain ⟨a2, c2, hx2, _⟩ := ho.j.rows; subst hx1 hx2; have BD : Hid (Below wC.heap.size wC wd) := B.next D0.out bd D0.out.size; have OD : Hid (OwnBook wd wC.drew.heap.size (.slice a1 S2.length c1) (.slice a2 J2.length c2) S2 J2) := ho; have gd := (HRB.out wd BD.out).cell; have fd := (HRB.out wd BD.out).free; clear ho bd))
            have HN1 : Hid (w.heap.size < wC.drew.heap.size) := Nat.lt_of_lt_of_le HSZ.out D0.out.size
            have HFIN : Hid (∀ a c d : Value, PP (.returned (.tuple #[.slice none 0 0, .agg #[.int .i64 b.last, .slice a1 S2.length c1, .slice a2 J2.length c2], .bool true])) (((wd.setCell ⟨w.heap.size, 0, none⟩ a).setCell ⟨w.heap.size, 1, none⟩ c).setCell ⟨w.heap.size, 2, none⟩ d)) := fun a c d =>
              HPC.out _ _ _ ⟨(((OD.out.s.set _ HN1.out).set _ HN1.out).set _ HN1.out).base (Nat.le_of_lt HN1.out), (((OD.out.j.set _ HN1.out).set _ HN1.out).set _ HN1.out).base (Nat.le_of_lt HN1.out), OD.out.ne⟩ (below_set (below_set (below_set (HBW.out _ BD.out) (Nat.le_refl _) _ _) (Nat.le_refl _) _ _) (Nat.le_refl _) _ _)
            go_wp2
            (try simp only [Exit.inBlock, Exit.then])
            rw [← HQB.out]
            refine bodyPost_ret (v := .tuple #[.slice none 0 0, .agg #[.int .i64 b.last, .slice a1 S2.length c1, .slice a2 J2.length c2], .bool true]) (by simp [results, Try.results51, go_sem, set3_0 gd, set3_1 gd, set3_2 gd]; try rfl) rfl ?_
            exact HFIN.out _ _ _
          · have hov : overB s false vs = false := by unfold overB; rw [hhq, hc]; rfl
            have hP : [] = putG s vs := by unfold putG; rw [hb6]; rfl
            have X : Hid (Below w0.heap.size w0 wC ∧ RNextL b s ll true jt false vs [] ∧ Goals wC (.slice none 0 0) []) := ⟨NC.out.b, Or.inr (Or.inr (Or.inr ⟨hli, hsq, rfl, hov, Or.inr ⟨rfl, hP⟩⟩)), Goals.nil _⟩
            have gg := (N0.out.2.below X.out.1).cell
            have ff := (N0.out.2.below X.out.1).free
            obtain ⟨wF, hwF⟩ : ∃ wF, ((wC.setCell ⟨w.heap.size, 0, none⟩ (.int .i64 0)).setCell ⟨w.heap.size, 1, none⟩ (.slice none 0 0)).setCell ⟨w.heap.size, 2, none⟩ (.slice none 0 0) = wF := ⟨_, rfl⟩
            have XF : Hid (PP (.returned (.tuple #[.slice none 0 0, .agg #[.int .i64 0, .slice none 0 0, .slice none 0 0], .bool false])) wF ∧ Blk wF w.heap.size #[.int .i64 0, .slice none 0 0, .slice none 0 0] 25) := by
              show _ ∧ _
              rw [← hwF]
              exact ⟨HRET.out _ _ _ X.out.1 X.out.2.1 X.out.2.2, Blk.cast ((((N0.out.2.below X.out.1).set 0 (.int .i64 0)).set 1 (.slice none 0 0)).set 2 (.slice none 0 0)) (by kernel_rfl)⟩
            clear X
            go_wp2
            (try simp only [Exit.inBlock, Exit.then])
            have gF := XF.out.2.cell
            rw [← HQB.out]
            refine bodyPost_ret (v := .tuple #[.slice none 0 0, .agg #[.int .i64 0, .slice none 0 0, .slice none 0 0], .bool false]) (by simp [results, Try.results51, go_sem, gF]; try rfl) rfl ?_
            exact XF.out.1
        · have hov : overB s false vs = false := by unfold overB; rw [has_bay HVI.out.2 (by simpa using hb6), hc]; rfl
          have hP : gTake = putG s vs := by unfold putG; rw [hb6]; rfl
          go_wp2_with fail
          clear rb6
          refine (rtakeIn_any _).mono ?_
          rintro e w9 ⟨v, rfl, ho⟩
          have X : Hid (Below w0.heap.size w0 w9 ∧ RNextL b s ll true jt false vs (gTake) ∧ Goals w9 v (gTake)) := ⟨B.next NC.out.b ho.2 NC.out.b.size, Or.inr (Or.inr (Or.inr ⟨hli, hsq, rfl, hov, Or.inr ⟨rfl, hP⟩⟩)), Or.inr (ho.at (Nat.zero_lt_succ _) (Nat.le_of_ble_eq_true rfl))⟩
          clear ho NC
          have gg := (N0.out.2.below X.out.1).cell
          have ff := (N0.out.2.below X.out.1).free
          obtain ⟨wF, hwF⟩ : ∃ wF, ((w9.setCell ⟨w.heap.size, 0, none⟩ (.int .i64 0)).setCell ⟨w.heap.size, 1, none⟩ (.slice none 0 0)).setCell ⟨w.heap.size, 2, none⟩ (.slice none 0 0) = wF := ⟨_, rfl⟩
          have XF : Hid (PP (.returned (.tuple #[v, .agg #[.int .i64 0, .slice none 0 0, .slice none 0 0], .bool false])) wF ∧ Blk wF w.heap.size #[.int .i64 0, .slice none 0 0, .slice none 0 0] 25) := by
            show _ ∧ _
            rw [← hwF]
            exact ⟨HRET.out _ _ _ X.out.1 X.out.2.1 X.out.2.2, Blk.cast ((((N0.out.2.below X.out.1).set 0 (.int .i64 0)).set 1 (.slice none 0 0)).set 2 (.slice none 0 0)) (by kernel_rfl)⟩
          clear X
          go_wp2
          (try simp only [Exit.inBlock, Exit.then])
          have gF := XF.out.2.cell
          rw [← HQB.out]
          refine bodyPost_ret (v := .tuple #[v, .agg #[.int .i64 0, .slice none 0 0, .slice none 0 0], .bool false]) (by simp [results, Try.results51, go_sem, gF]; try rfl) rfl ?_
          exact XF.out.1
      · have hhs : hq = true := hhq.symm.trans (has_home HVI.out.1 HVI.out.2 (by simpa using hc))
        have hov : overB s false vs = true := by unfold overB; rw [hc]; simp
        subst hhs
        clear HPL0 HRET
        have HPC : Hid (∀ xs xj w', OwnBook w' w.heap.size xs xj (doneStays jt (false || false) b.stays) (doneJobs jt false (false || false) b.jobs) → Below w.heap.size w w' → PP (.returned (.tuple #[.slice none 0 0, .agg #[.int .i64 b.last, xs, xj], .bool true])) w') := HPC0.out false rfl ⟨hli, hsq, rfl, hov⟩
        have HBW : Hid (∀ X, Below wC.heap.size wC X → Below w.heap.size w X) := fun X hx => HW0.out X (B.next NC.out.b hx NC.out.b.size)
        have HSB : Hid (∀ W, Below wC.heap.size wC W → W.cell? ⟨hb, 2, none⟩ = some (.int .i64 b.last) ∧ W.cell? ⟨hb, 3, none⟩ = some (.slice b.sa b.stays.length b.sc) ∧ W.cell? ⟨hb, 4, none⟩ = some (.slice b.ja b.jobs.length b.jc) ∧ W.cell? ⟨jb, 0, none⟩ = some (.int .i64 jt) ∧ W.cell? ⟨jb, 1, none⟩ = some (.bool false)) := fun W hx => ⟨(HH.out W (HBW.out W hx)).cell 2, (HH.out W (HBW.out W hx)).cell 3, (HH.out W (HBW.out W hx)).cell 4, (NC.out.j.below hx).cell 0, (NC.out.j.below hx).cell 1⟩
        have D0 : Hid (Below wC.heap.size wC wC.drew) := (Below.refl _ _).drew
        have HDD : Hid (∀ wx, Below w.heap.size w wx → Calls Try.prog 23 #[.agg #[.int .i64 b.last, .slice b.sa b.stays.length b.sc, .slice b.ja b.jobs.length b.jc], .agg #[.int .i64 jt, .bool false], .bool false] wx fun e w' => ∃ xs xj, e = .returned (.agg #[.int .i64 b.last, xs, xj]) ∧ OwnBook w' wx.heap.size xs xj (doneStays jt (false || false) b.stays) (doneJobs jt false (false || false) b.jobs) ∧ Below wx.heap.size wx w') := HDN.out false
        have HSZ : Hid (w.heap.size < wC.heap.size) := (N0.out.2.below NC.out.b).lt
        have HRB : Hid (∀ wx, Below wC.heap.size wC wx → Blk wx w.heap.size #[.int .i64 0, .slice none 0 0, .slice none 0 0] 25) := fun wx h => (N0.out.2.below NC.out.b).below h
        have HST3 : Hid (∀ wx, Below wC.heap.size wC wx → ∀ a c d : Value, (fun W : World => W.cell? ⟨hb, 2, none⟩ = some (.int .i64 b.last) ∧ W.cell? ⟨hb, 3, none⟩ = some (.slice b.sa b.stays.length b.sc) ∧ W.cell? ⟨hb, 4, none⟩ = some (.slice b.ja b.jobs.length b.jc) ∧ W.cell? ⟨jb, 0, none⟩ = some (.int .i64 jt) ∧ W.cell? ⟨jb, 1, none⟩ = some (.bool false)) (((wx.setCell ⟨w.heap.size, 0, none⟩ a).setCell ⟨w.heap.size, 1, none⟩ c).setCell ⟨w.heap.size, 2, none⟩ d)) := fun wx h a c d => by
          have n1 := HHB.out
          have n2 := HJB.out
          have hh := HH.out wx (HBW.out wx h)
          have hj := NC.out.j.below h
          have q1 := ((hh.other (c := w.heap.size) (by omega) 0 a).other (c := w.heap.size) (by omega) 1 c).other (c := w.heap.size) (by omega) 2 d
          have q2 := ((hj.other (c := w.heap.size) (by omega) 0 a).other (c := w.heap.size) (by omega) 1 c).other (c := w.heap.size) (by omega) 2 d
          exact ⟨q1.cell 2, q1.cell 3, q1.cell 4, q2.cell 0, q2.cell 1⟩
        generalize doneStays jt (false || false) b.stays = S2 at HPC HDD
        generalize doneJobs jt false (false || false) b.jobs = J2 at HPC HDD
        go_upto_region 33 with fail
        go_region_held3 (fun W => W.cell? ⟨hb, 2, none⟩ = some (.int .i64 b.last) ∧ W.cell? ⟨hb, 3, none⟩ = some (.slice b.sa b.stays.length b.sc) ∧ W.cell? ⟨hb, 4, none⟩ = some (.slice b.ja b.jobs.length b.jc) ∧ W.cell? ⟨jb, 0, none⟩ = some (.int .i64 jt) ∧ W.cell? ⟨jb, 1, none⟩ = some (.bool false)) (first | with_reducible exact HSB.out _ D0.out | with_reducible exact HSB.out _ BD.out | with_reducible exact HST3.out _ BD.out _ _ _ | go_keep)
          (first
            | (go_at_call 23; refine (HDD.out wC.drew (HBW.out _ D0.out)).mono ?_; rintro e wd ⟨xs, xj, rfl, ho, bd⟩; obtain ⟨a1, c1, hx1, _⟩ := ho.s.rows; obtain ⟨a2, c2, hx2, _⟩ := ho.j.rows; subst hx1 hx2; have BD : Hid (Below wC.heap.size wC wd) := B.next D0.out bd D0.out.size; have OD : Hid (OwnBook wd wC.drew.heap.size (.slice a1 S2.length c1) (.slice a2 J2.length c2) S2 J2) := ho; have gd := (HRB.out wd BD.out).cell; have fd := (HRB.out wd BD.out).free; clear ho bd))
        have HN1 : Hid (w.heap.size < wC.drew.heap.size) := Nat.lt_of_lt_of_le HSZ.out D0.out.size
        have HFIN : Hid (∀ a c d : Value, PP (.returned (.tuple #[.slice none 0 0, .agg #[.int .i64 b.last, .slice a1 S2.length c1, .slice a2 J2.length c2], .bool true])) (((wd.setCell ⟨w.heap.size, 0, none⟩ a).setCell ⟨w.heap.size, 1, none⟩ c).setCell ⟨w.heap.size, 2, none⟩ d)) := fun a c d =>
          HPC.out _ _ _ ⟨(((OD.out.s.set _ HN1.out).set _ HN1.out).set _ HN1.out).base (Nat.le_of_lt HN1.out), (((OD.out.j.set _ HN1.out).set _ HN1.out).set _ HN1.out).base (Nat.le_of_lt HN1.out), OD.out.ne⟩ (below_set (below_set (below_set (HBW.out _ BD.out) (Nat.le_refl _) _ _) (Nat.le_refl _) _ _) (Nat.le_refl _) _ _)
        go_wp2
        (try simp only [Exit.inBlock, Exit.then])
        rw [← HQB.out]
        refine bodyPost_ret (v := .tuple #[.slice none 0 0, .agg #[.int .i64 b.last, .slice a1 S2.length c1, .slice a2 J2.length c2], .bool true]) (by simp [results, Try.results51, go_sem, set3_0 gd, set3_1 gd, set3_2 gd]; try rfl) rfl ?_
        exact HFIN.out _ _ _
    · have NC : Hid (RN w0 wB sp jb ll jt true) := NB.out.1
      clear NB
      have rb6 : wB.cell? ⟨rb, 6, none⟩ = some (.int .i64 s.ba) := (HR.out wB (HW0.out _ NC.out.b)).cell 6
      have rb3 : wB.cell? ⟨rb, 3, none⟩ = some (.bool s.op) := (HR.out wB (HW0.out _ NC.out.b)).cell 3
      cases hb6 : (s.ba == vs.id)
      case true =>
        have hov : overB s true vs = true := by unfold overB; rw [hb6]; simp
        clear HPL0 HRET
        have HPC : Hid (∀ xs xj w', OwnBook w' w.heap.size xs xj (doneStays jt (true || false) b.stays) (doneJobs jt true (true || false) b.jobs) → Below w.heap.size w w' → PP (.returned (.tuple #[.slice none 0 0, .agg #[.int .i64 b.last, xs, xj], .bool true])) w') := HPC0.out false rfl ⟨hli, hsq, rfl, hov⟩
        have HBW : Hid (∀ X, Below wB.heap.size wB X → Below w.heap.size w X) := fun X hx => HW0.out X (B.next NC.out.b hx NC.out.b.size)
        have HSB : Hid (∀ W, Below wB.heap.size wB W → W.cell? ⟨hb, 2, none⟩ = some (.int .i64 b.last) ∧ W.cell? ⟨hb, 3, none⟩ = some (.slice b.sa b.stays.length b.sc) ∧ W.cell? ⟨hb, 4, none⟩ = some (.slice b.ja b.jobs.length b.jc) ∧ W.cell? ⟨jb, 0, none⟩ = some (.int .i64 jt) ∧ W.cell? ⟨jb, 1, none⟩ = some (.bool true)) := fun W hx => ⟨(HH.out W (HBW.out W hx)).cell 2, (HH.out W (HBW.out W hx)).cell 3, (HH.out W (HBW.out W hx)).cell 4, (NC.out.j.below hx).cell 0, (NC.out.j.below hx).cell 1⟩
        have D0 : Hid (Below wB.heap.size wB wB.drew) := (Below.refl _ _).drew
        have HDD : Hid (∀ wx, Below w.heap.size w wx → Calls Try.prog 23 #[.agg #[.int .i64 b.last, .slice b.sa b.stays.length b.sc, .slice b.ja b.jobs.length b.jc], .agg #[.int .i64 jt, .bool true], .bool false] wx fun e w' => ∃ xs xj, e = .returned (.agg #[.int .i64 b.last, xs, xj]) ∧ OwnBook w' wx.heap.size xs xj (doneStays jt (true || false) b.stays) (doneJobs jt true (true || false) b.jobs) ∧ Below wx.heap.size wx w') := HDN.out false
        have HSZ : Hid (w.heap.size < wB.heap.size) := (N0.out.2.below NC.out.b).lt
        have HRB : Hid (∀ wx, Below wB.heap.size wB wx → Blk wx w.heap.size #[.int .i64 0, .slice none 0 0, .slice none 0 0] 25) := fun wx h => (N0.out.2.below NC.out.b).below h
        have HST3 : Hid (∀ wx, Below wB.heap.size wB wx → ∀ a c d : Value, (fun W : World => W.cell? ⟨hb, 2, none⟩ = some (.int .i64 b.last) ∧ W.cell? ⟨hb, 3, none⟩ = some (.slice b.sa b.stays.length b.sc) ∧ W.cell? ⟨hb, 4, none⟩ = some (.slice b.ja b.jobs.length b.jc) ∧ W.cell? ⟨jb, 0, none⟩ = some (.int .i64 jt) ∧ W.cell? ⟨jb, 1, none⟩ = some (.bool true)) (((wx.setCell ⟨w.heap.size, 0, none⟩ a).setCell ⟨w.heap.size, 1, none⟩ c).setCell ⟨w.heap.size, 2, none⟩ d)) := fun wx h a c d => by
          have n1 := HHB.out
          have n2 := HJB.out
          have hh := HH.out wx (HBW.out wx h)
          have hj := NC.out.j.below h
          have q1 := ((hh.other (c := w.heap.size) (by omega) 0 a).other (c := w.heap.size) (by omega) 1 c).other (c := w.heap.size) (by omega) 2 d
          have q2 := ((hj.other (c := w.heap.size) (by omega) 0 a).other (c := w.heap.size) (by omega) 1 c).other (c := w.heap.size) (by omega) 2 d
          exact ⟨q1.cell 2, q1.cell 3, q1.cell 4, q2.cell 0, q2.cell 1⟩
        generalize doneStays jt (true || false) b.stays = S2 at HPC HDD
        generalize doneJobs jt true (true || false) b.jobs = J2 at HPC HDD
        go_upto_region 40 with fail
        go_region_held3 (fun W => W.cell? ⟨hb, 2, none⟩ = some (.int .i64 b.last) ∧ W.cell? ⟨hb, 3, none⟩ = some (.slice b.sa b.stays.length b.sc) ∧ W.cell? ⟨hb, 4, none⟩ = some (.slice b.ja b.jobs.length b.jc) ∧ W.cell? ⟨jb, 0, none⟩ = some (.int .i64 jt) ∧ W.cell? ⟨jb, 1, none⟩ = some (.bool true)) (first | with_reducible exact HSB.out _ D0.out | with_reducible exact HSB.out _ BD.out | with_reducible exact HST3.out _ BD.out _ _ _ | go_keep)
          (first
            | (go_at_call 23; refine (HDD.out wB.drew (HBW.out _ D0.out)).mono ?_; rintro e wd ⟨xs, xj, rfl, ho, bd⟩; obtain ⟨a1, c1, hx1, _⟩ := ho.s.rows; obtain ⟨a2, c2, hx2, _⟩ := ho.j.rows; subst hx1 hx2; have BD : Hid (Below wB.heap.size wB wd) := B.next D0.out bd D0.out.size; have OD : Hid (OwnBook wd wB.drew.heap.size (.slice a1 S2.length c1) (.slice a2 J2.length c2) S2 J2) := ho; have gd := (HRB.out wd BD.out).cell; have fd := (HRB.out wd BD.out).free; clear ho bd))
        have HN1 : Hid (w.heap.size < wB.drew.heap.size) := Nat.lt_of_lt_of_le HSZ.out D0.out.size
        have HFIN : Hid (∀ a c d : Value, PP (.returned (.tuple #[.slice none 0 0, .agg #[.int .i64 b.last, .slice a1 S2.length c1, .slice a2 J2.length c2], .bool true])) (((wd.setCell ⟨w.heap.size, 0, none⟩ a).setCell ⟨w.heap.size, 1, none⟩ c).setCell ⟨w.heap.size, 2, none⟩ d)) := fun a c d =>
          HPC.out _ _ _ ⟨(((OD.out.s.set _ HN1.out).set _ HN1.out).set _ HN1.out).base (Nat.le_of_lt HN1.out), (((OD.out.j.set _ HN1.out).set _ HN1.out).set _ HN1.out).base (Nat.le_of_lt HN1.out), OD.out.ne⟩ (below_set (below_set (below_set (HBW.out _ BD.out) (Nat.le_refl _) _ _) (Nat.le_refl _) _ _) (Nat.le_refl _) _ _)
        go_wp2
        (try simp only [Exit.inBlock, Exit.then])
        rw [← HQB.out]
        refine bodyPost_ret (v := .tuple #[.slice none 0 0, .agg #[.int .i64 b.last, .slice a1 S2.length c1, .slice a2 J2.length c2], .bool true]) (by simp [results, Try.results51, go_sem, set3_0 gd, set3_1 gd, set3_2 gd]; try rfl) rfl ?_
        exact HFIN.out _ _ _
      cases hq
      case false =>
        have hov : overB s true vs = true := by unfold overB; rw [hhq]; rfl
        clear HPL0 HRET
        have HPC : Hid (∀ xs xj w', OwnBook w' w.heap.size xs xj (doneStays jt (true || false) b.stays) (doneJobs jt true (true || false) b.jobs) → Below w.heap.size w w' → PP (.returned (.tuple #[.slice none 0 0, .agg #[.int .i64 b.last, xs, xj], .bool true])) w') := HPC0.out false rfl ⟨hli, hsq, rfl, hov⟩
        have HBW : Hid (∀ X, Below wB.heap.size wB X → Below w.heap.size w X) := fun X hx => HW0.out X (B.next NC.out.b hx NC.out.b.size)
        have HSB : Hid (∀ W, Below wB.heap.size wB W → W.cell? ⟨hb, 2, none⟩ = some (.int .i64 b.last) ∧ W.cell? ⟨hb, 3, none⟩ = some (.slice b.sa b.stays.length b.sc) ∧ W.cell? ⟨hb, 4, none⟩ = some (.slice b.ja b.jobs.length b.jc) ∧ W.cell? ⟨jb, 0, none⟩ = some (.int .i64 jt) ∧ W.cell? ⟨jb, 1, none⟩ = some (.bool true)) := fun W hx => ⟨(HH.out W (HBW.out W hx)).cell 2, (HH.out W (HBW.out W hx)).cell 3, (HH.out W (HBW.out W hx)).cell 4, (NC.out.j.below hx).cell 0, (NC.out.j.below hx).cell 1⟩
        have D0 : Hid (Below wB.heap.size wB wB.drew) := (Below.refl _ _).drew
        have HDD : Hid (∀ wx, Below w.heap.size w wx → Calls Try.prog 23 #[.agg #[.int .i64 b.last, .slice b.sa b.stays.length b.sc, .slice b.ja b.jobs.length b.jc], .agg #[.int .i64 jt, .bool true], .bool false] wx fun e w' => ∃ xs xj, e = .returned (.agg #[.int .i64 b.last, xs, xj]) ∧ OwnBook w' wx.heap.size xs xj (doneStays jt (true || false) b.stays) (doneJobs jt true (true || false) b.jobs) ∧ Below wx.heap.size wx w') := HDN.out false
        have HSZ : Hid (w.heap.size < wB.heap.size) := (N0.out.2.below NC.out.b).lt
        have HRB : Hid (∀ wx, Below wB.heap.size wB wx → Blk wx w.heap.size #[.int .i64 0, .slice none 0 0, .slice none 0 0] 25) := fun wx h => (N0.out.2.below NC.out.b).below h
        have HST3 : Hid (∀ wx, Below wB.heap.size wB wx → ∀ a c d : Value, (fun W : World => W.cell? ⟨hb, 2, none⟩ = some (.int .i64 b.last) ∧ W.cell? ⟨hb, 3, none⟩ = some (.slice b.sa b.stays.length b.sc) ∧ W.cell? ⟨hb, 4, none⟩ = some (.slice b.ja b.jobs.length b.jc) ∧ W.cell? ⟨jb, 0, none⟩ = some (.int .i64 jt) ∧ W.cell? ⟨jb, 1, none⟩ = some (.bool true)) (((wx.setCell ⟨w.heap.size, 0, none⟩ a).setCell ⟨w.heap.size, 1, none⟩ c).setCell ⟨w.heap.size, 2, none⟩ d)) := fun wx h a c d => by
          have n1 := HHB.out
          have n2 := HJB.out
          have hh := HH.out wx (HBW.out wx h)
          have hj := NC.out.j.below h
          have q1 := ((hh.other (c := w.heap.size) (by omega) 0 a).other (c := w.heap.size) (by omega) 1 c).other (c := w.heap.size) (by omega) 2 d
          have q2 := ((hj.other (c := w.heap.size) (by omega) 0 a).other (c := w.heap.size) (by omega) 1 c).other (c := w.heap.size) (by omega) 2 d
          exact ⟨q1.cell 2, q1.cell 3, q1.cell 4, q2.cell 0, q2.cell 1⟩
        generalize doneStays jt (true || false) b.stays = S2 at HPC HDD
        generalize doneJobs jt true (true || false) b.jobs = J2 at HPC HDD
        go_upto_region 40 with fail
        go_region_held3 (fun W => W.cell? ⟨hb, 2, none⟩ = some (.int .i64 b.last) ∧ W.cell? ⟨hb, 3, none⟩ = some (.slice b.sa b.stays.length b.sc) ∧ W.cell? ⟨hb, 4, none⟩ = some (.slice b.ja b.jobs.length b.jc) ∧ W.cell? ⟨jb, 0, none⟩ = some (.int .i64 jt) ∧ W.cell? ⟨jb, 1, none⟩ = some (.bool true)) (first | with_reducible exact HSB.out _ D0.out | with_reducible exact HSB.out _ BD.out | with_reducible exact HST3.out _ BD.out _ _ _ | go_keep)
          (first
            | (go_at_call 23; refine (HDD.out wB.drew (HBW.out _ D0.out)).mono ?_; rintro e wd ⟨xs, xj, rfl, ho, bd⟩; obtain ⟨a1, c1, hx1, _⟩ := ho.s.rows; obtain ⟨a2, c2, hx2, _⟩ := ho.j.rows; subst hx1 hx2; have BD : Hid (Below wB.heap.size wB wd) := B.next D0.out bd D0.out.size; have OD : Hid (OwnBook wd wB.drew.heap.size (.slice a1 S2.length c1) (.slice a2 J2.length c2) S2 J2) := ho; have gd := (HRB.out wd BD.out).cell; have fd := (HRB.out wd BD.out).free; clear ho bd))
        have HN1 : Hid (w.heap.size < wB.drew.heap.size) := Nat.lt_of_lt_of_le HSZ.out D0.out.size
        have HFIN : Hid (∀ a c d : Value, PP (.returned (.tuple #[.slice none 0 0, .agg #[.int .i64 b.last, .slice a1 S2.length c1, .slice a2 J2.length c2], .bool true])) (((wd.setCell ⟨w.heap.size, 0, none⟩ a).setCell ⟨w.heap.size, 1, none⟩ c).setCell ⟨w.heap.size, 2, none⟩ d)) := fun a c d =>
          HPC.out _ _ _ ⟨(((OD.out.s.set _ HN1.out).set _ HN1.out).set _ HN1.out).base (Nat.le_of_lt HN1.out), (((OD.out.j.set _ HN1.out).set _ HN1.out).set _ HN1.out).base (Nat.le_of_lt HN1.out), OD.out.ne⟩ (below_set (below_set (below_set (HBW.out _ BD.out) (Nat.le_refl _) _ _) (Nat.le_refl _) _ _) (Nat.le_refl _) _ _)
        go_wp2
        (try simp only [Exit.inBlock, Exit.then])
        rw [← HQB.out]
        refine bodyPost_ret (v := .tuple #[.slice none 0 0, .agg #[.int .i64 b.last, .slice a1 S2.length c1, .slice a2 J2.length c2], .bool true]) (by simp [results, Try.results51, go_sem, set3_0 gd, set3_1 gd, set3_2 gd]; try rfl) rfl ?_
        exact HFIN.out _ _ _
      have hov : overB s true vs = false := by unfold overB; rw [hhq, hb6]; rfl
      clear HPC0 HDN
      by_cases hba : s.ba = 0
      case neg =>
        have hbz : (s.ba != 0) = true := by simpa using hba
        cases hop : s.op
        · rw [hop] at rb3
          have hF : FetchQ s vs gWel := by unfold FetchQ welG; rw [if_pos hba, hop]; rfl
          go_wp2_with fail
          clear rb3 rb6 rj
          refine (rwelcome_any _).mono ?_
          rintro e w9 ⟨v, rfl, ho⟩
          have X : Hid (Below w0.heap.size w0 w9 ∧ RNextL b s ll true jt true vs (gWel) ∧ Goals w9 v (gWel)) := ⟨B.next NC.out.b ho.2 NC.out.b.size, Or.inr (Or.inr (Or.inr ⟨hli, hsq, rfl, hov, Or.inl ⟨rfl, hF⟩⟩)), Or.inr (ho.at (Nat.zero_lt_succ _) (Nat.le_of_ble_eq_true rfl))⟩
          clear ho NC
          have gg := (N0.out.2.below X.out.1).cell
          have ff := (N0.out.2.below X.out.1).free
          obtain ⟨wF, hwF⟩ : ∃ wF, ((w9.setCell ⟨w.heap.size, 0, none⟩ (.int .i64 0)).setCell ⟨w.heap.size, 1, none⟩ (.slice none 0 0)).setCell ⟨w.heap.size, 2, none⟩ (.slice none 0 0) = wF := ⟨_, rfl⟩
          have XF : Hid (PP (.returned (.tuple #[v, .agg #[.int .i64 0, .slice none 0 0, .slice none 0 0], .bool false])) wF ∧ Blk wF w.heap.size #[.int .i64 0, .slice none 0 0, .slice none 0 0] 25) := by
            show _ ∧ _
            rw [← hwF]
            exact ⟨HRET.out _ _ _ X.out.1 X.out.2.1 X.out.2.2, Blk.cast ((((N0.out.2.below X.out.1).set 0 (.int .i64 0)).set 1 (.slice none 0 0)).set 2 (.slice none 0 0)) (by kernel_rfl)⟩
          clear X
          go_wp2
          (try simp only [Exit.inBlock, Exit.then])
          have gF := XF.out.2.cell
          rw [← HQB.out]
          refine bodyPost_ret (v := .tuple #[v, .agg #[.int .i64 0, .slice none 0 0, .slice none 0 0], .bool false]) (by simp [results, Try.results51, go_sem, gF]; try rfl) rfl ?_
          exact XF.out.1
        · rw [hop] at rb3
          have hF : FetchQ s vs [] := by unfold FetchQ welG; rw [if_pos hba, hop]; rfl
          have X : Hid (Below w0.heap.size w0 wB ∧ RNextL b s ll true jt true vs [] ∧ Goals wB (.slice none 0 0) []) := ⟨NC.out.b, Or.inr (Or.inr (Or.inr ⟨hli, hsq, rfl, hov, Or.inl ⟨rfl, hF⟩⟩)), Goals.nil _⟩
          have gg := (N0.out.2.below X.out.1).cell
          have ff := (N0.out.2.below X.out.1).free
          obtain ⟨wF, hwF⟩ : ∃ wF, ((wB.setCell ⟨w.heap.size, 0, none⟩ (.int .i64 0)).setCell ⟨w.heap.size, 1, none⟩ (.slice none 0 0)).setCell ⟨w.heap.size, 2, none⟩ (.slice none 0 0) = wF := ⟨_, rfl⟩
          have XF : Hid (PP (.returned (.tuple #[.slice none 0 0, .agg #[.int .i64 0, .slice none 0 0, .slice none 0 0], .bool false])) wF ∧ Blk wF w.heap.size #[.int .i64 0, .slice none 0 0, .slice none 0 0] 25) := by
            show _ ∧ _
            rw [← hwF]
            exact ⟨HRET.out _ _ _ X.out.1 X.out.2.1 X.out.2.2, Blk.cast ((((N0.out.2.below X.out.1).set 0 (.int .i64 0)).set 1 (.slice none 0 0)).set 2 (.slice none 0 0)) (by kernel_rfl)⟩
          clear X
          go_wp2
          (try simp only [Exit.inBlock, Exit.then])
          have gF := XF.out.2.cell
          rw [← HQB.out]
          refine bodyPost_ret (v := .tuple #[.slice none 0 0, .agg #[.int .i64 0, .slice none 0 0, .slice none 0 0], .bool false]) (by simp [results, Try.results51, go_sem, gF]; try rfl) rfl ?_
          exact XF.out.1
      have hbz : (s.ba != 0) = false := by simpa using hba
      have HBA : Hid (s.ba = 0) := hba
      clear hba
      cases hop : s.op
      case true =>
        rw [hop] at rb3
        have hF : FetchQ s vs [(5, 0)] := by unfold FetchQ; rw [if_neg (by simp [HBA.out]), if_pos hop]
        obtain ⟨w9, hw9⟩ : ∃ w9, wB.alloc (.cells #[.int .i64 5, .int .i64 0] 177) = w9 := ⟨_, rfl⟩
        obtain ⟨gb, hgb⟩ : ∃ gb, wB.heap.size = gb := ⟨_, rfl⟩
        have X : Hid (Below w0.heap.size w0 w9 ∧ RNextL b s ll true jt true vs [(5, 0)] ∧ Goals w9 (.slice (some ⟨gb, 0, none⟩) 1 1) [(5, 0)]) := by
          show _ ∧ _ ∧ _
          refine ⟨by rw [← hw9]; exact NC.out.b.alloc NC.out.b.size _, Or.inr (Or.inr (Or.inr ⟨hli, hsq, rfl, hov, Or.inl ⟨rfl, hF⟩⟩)), Or.inr ⟨gb, 1, rfl, by rw [← hw9, ← hgb]; simp, by decide, fun k hk => ?_⟩⟩
          obtain rfl : k = 0 := by simpa using hk
          rw [← hw9, ← hgb]
          simp
        have gg := (N0.out.2.below X.out.1).cell
        have ff := (N0.out.2.below X.out.1).free
        obtain ⟨wF, hwF⟩ : ∃ wF, ((w9.setCell ⟨w.heap.size, 0, none⟩ (.int .i64 0)).setCell ⟨w.heap.size, 1, none⟩ (.slice none 0 0)).setCell ⟨w.heap.size, 2, none⟩ (.slice none 0 0) = wF := ⟨_, rfl⟩
        have XF : Hid (PP (.returned (.tuple #[.slice (some ⟨gb, 0, none⟩) 1 1, .agg #[.int .i64 0, .slice none 0 0, .slice none 0 0], .bool false])) wF ∧ Blk wF w.heap.size #[.int .i64 0, .slice none 0 0, .slice none 0 0] 25) := by
          show _ ∧ _
          rw [← hwF]
          exact ⟨HRET.out _ _ _ X.out.1 X.out.2.1 X.out.2.2, Blk.cast ((((N0.out.2.below X.out.1).set 0 (.int .i64 0)).set 1 (.slice none 0 0)).set 2 (.slice none 0 0)) (by kernel_rfl)⟩
        clear X
        go_wp2
        (try simp only [Exit.inBlock, Exit.then])
        have gF := XF.out.2.cell
        rw [← HQB.out]
        refine bodyPost_ret (v := .tuple #[.slice (some ⟨gb, 0, none⟩) 1 1, .agg #[.int .i64 0, .slice none 0 0, .slice none 0 0], .bool false]) (by simp [results, Try.results51, go_sem, gF]; try rfl) rfl ?_
        exact XF.out.1
      rw [hop] at rb3
      go_wp2_with fail
      clear rb3 rb6 rj
      refine (HWH.out HVI.out.2 _ (HW0.out _ NC.out.b)).mono ?_
      rintro e wD ⟨x, y, z, ok, rfl, hw, bD⟩
      have KF : Hid (∀ l, ((ok = false ∧ l = []) ∨ (ok = true ∧ l = if (z == 1 && carOf s.D x y 0 != 0) = true then gThere 3 x y 0 else gThere 3 x y z)) → RNextL b s ll true jt true vs l) := fun l hl => Or.inr (Or.inr (Or.inr ⟨hli, hsq, rfl, hov, Or.inl ⟨rfl, by unfold FetchQ; rw [if_neg (by simp [HBA.out]), if_neg (by simp [hop])]; exact ⟨x, y, z, ok, hw, hl⟩⟩⟩))
      obtain ⟨wE, hwE⟩ : ∃ wE, wD.alloc (.cells #[.int .i64 x, .int .i64 y, .int .i64 z] 38) = wE := ⟨_, rfl⟩
      obtain ⟨ab, hab⟩ : ∃ ab, wD.heap.size = ab := ⟨_, rfl⟩
      have NE : Hid (RN w0 wE sp jb ll jt true ∧ Blk wE ab #[.int .i64 x, .int .i64 y, .int .i64 z] 38) := by
        show _ ∧ _
        rw [← hwE]
        exact ⟨(NC.out.next bD).next (B.new1 _ _), Blk.new1 hab.symm _ _⟩
      have HAB : Hid (w0.heap.size ≤ ab) := by
        show _ ≤ _
        rw [← hab]
        exact Nat.le_trans NC.out.b.size bD.size
      have HWE : Hid (wD.alloc (.cells #[.int .i64 x, .int .i64 y, .int .i64 z] 38) = wE) := hwE
      clear hwE bD NC
      go_upto_region 48 with fail
      simp only [HWE.out, hab]
      clear HWE hab
      cases ok
      · clear hw
        have X : Hid (Below w0.heap.size w0 wE ∧ RNextL b s ll true jt true vs [] ∧ Goals wE (.slice none 0 0) []) := ⟨NE.out.1.b, KF.out [] (Or.inl ⟨rfl, rfl⟩), Goals.nil _⟩
        have gg := (N0.out.2.below X.out.1).cell
        have ff := (N0.out.2.below X.out.1).free
        obtain ⟨wF, hwF⟩ : ∃ wF, ((wE.setCell ⟨w.heap.size, 0, none⟩ (.int .i64 0)).setCell ⟨w.heap.size, 1, none⟩ (.slice none 0 0)).setCell ⟨w.heap.size, 2, none⟩ (.slice none 0 0) = wF := ⟨_, rfl⟩
        have XF : Hid (PP (.returned (.tuple #[.slice none 0 0, .agg #[.int .i64 0, .slice none 0 0, .slice none 0 0], .bool false])) wF ∧ Blk wF w.heap.size #[.int .i64 0, .slice none 0 0, .slice none 0 0] 25) := by
          show _ ∧ _
          rw [← hwF]
          exact ⟨HRET.out _ _ _ X.out.1 X.out.2.1 X.out.2.2, Blk.cast ((((N0.out.2.below X.out.1).set 0 (.int .i64 0)).set 1 (.slice none 0 0)).set 2 (.slice none 0 0)) (by kernel_rfl)⟩
        clear X
        go_wp2
        (try simp only [Exit.inBlock, Exit.then])
        have gF := XF.out.2.cell
        rw [← HQB.out]
        refine bodyPost_ret (v := .tuple #[.slice none 0 0, .agg #[.int .i64 0, .slice none 0 0, .slice none 0 0], .bool false]) (by simp [results, Try.results51, go_sem, gF]; try rfl) rfl ?_
        exact XF.out.1
      have HP3 : Hid ((1 ≤ x ∧ x ≤ 4) ∧ (0 ≤ y ∧ y ≤ 1) ∧ (0 ≤ z ∧ z ≤ 1)) := rwhere_in hw
      clear hw
      have HAX : Hid (∀ wx, Below w.heap.size w wx → Calls Try.prog 107 #[.pointer (some ⟨rb, 0, none⟩), .agg #[.int .i64 x, .int .i64 y, .int .i64 0]] wx fun e w' => e = .returned (.int .i64 (carOf s.D x y 0)) ∧ Below wx.heap.size wx w') := HAT.out x y 0 ⟨Int.le_trans (by decide) HP3.out.1.1, HP3.out.1.2⟩ HP3.out.2.1 (by decide)
      obtain ⟨cx, hcx⟩ : ∃ cx, carOf s.D x y 0 = cx := ⟨_, rfl⟩
      rw [hcx] at HAX KF
      clear hcx
      obtain ⟨q2, hq2⟩ : ∃ q2, (z == 1 && cx != 0) = q2 := ⟨_, rfl⟩
      have K2 : Hid (q2 = (z == 1 && cx != 0)) := hq2.symm
      rw [hq2] at KF
      clear hq2
      have HF : Hid (RNextL b s ll true jt true vs (if q2 = true then gThere 3 x y 0 else gThere 3 x y z)) := KF.out _ (Or.inr ⟨rfl, rfl⟩)
      clear KF
      obtain ⟨wF, hwF⟩ : ∃ wF, wE.alloc (.cells #[.int .i64 x, .int .i64 y, .int .i64 0] 38) = wF := ⟨_, rfl⟩
      obtain ⟨fb, hfb⟩ : ∃ fb, wE.heap.size = fb := ⟨_, rfl⟩
      have NF : Hid (RN w0 wF sp jb ll jt true ∧ Blk wF ab #[.int .i64 x, .int .i64 y, .int .i64 z] 38 ∧ Blk wF fb #[.int .i64 x, .int .i64 y, .int .i64 0] 38 ∧ w0.heap.size ≤ ab) := by
        show _ ∧ _ ∧ _ ∧ _
        rw [← hwF]
        exact ⟨NE.out.1.next (B.new1 _ _), NE.out.2.old _, Blk.new1 hfb.symm _ _, HAB.out⟩
      have HWF : Hid (wE.alloc (.cells #[.int .i64 x, .int .i64 y, .int .i64 0] 38) = wF) := hwF
      have re := NE.out.2.cell
      clear hwF NE
      go_upto_region 52 with fail
      simp only [HWF.out, hfb]
      clear HWF hfb re
      go_cut [248] from 239 to 248 (fun s248 wx => s248 = .bool q2 ∧ Hid (RN w0 wx sp jb ll jt true ∧ Blk wx ab #[.int .i64 x, .int .i64 y, .int .i64 z] 38 ∧ Blk wx fb #[.int .i64 x, .int .i64 y, .int .i64 0] 38 ∧ w0.heap.size ≤ ab))
      case first =>
        clear HPL0 HRET HF HAT
        have ra := NF.out.2.1.cell
        have rf := NF.out.2.2.1.cell
        cases c1 : (z == 1)
        · rw [c1] at K2
          go_wp2
          go_meet
          exact ⟨congrArg Value.bool (by rw [K2.out]; rfl), NF⟩
        · rw [c1] at K2
          go_wp2_with fail
          clear ra rf
          refine (HAX.out _ (HW0.out _ NF.out.1.b)).mono ?_
          rintro e wG ⟨rfl, bG⟩
          have NG : Hid (RN w0 wG sp jb ll jt true ∧ Blk wG ab #[.int .i64 x, .int .i64 y, .int .i64 z] 38 ∧ Blk wG fb #[.int .i64 x, .int .i64 y, .int .i64 0] 38 ∧ w0.heap.size ≤ ab) := ⟨NF.out.1.next bG, NF.out.2.1.below bG, NF.out.2.2.1.below bG, NF.out.2.2.2⟩
          clear bG NF
          go_wp2
          go_meet
          exact ⟨congrArg Value.bool (by rw [K2.out]; rfl), NG⟩
      case rest =>
      clear NF K2 HAX
      obtain ⟨rfl, NF⟩ := hcut
      cases q2
      · have HN : Hid (RNextL b s ll true jt true vs (gThere 3 x y z)) := HF.out
        have rs := NF.out.2.1.cell
        go_wp2_with fail
        clear rs
        refine (there_any x y z 3 _ HP3.out.1.1 HP3.out.1.2 HP3.out.2.2.1 HP3.out.2.2.2).mono ?_
        rintro e w9 ⟨v, rfl, ho⟩
        have X : Hid (Below w0.heap.size w0 w9 ∧ RNextL b s ll true jt true vs (gThere 3 x y z) ∧ Goals w9 v (gThere 3 x y z)) := ⟨B.next NF.out.1.b ho.2 NF.out.1.b.size, HN.out, Or.inr (ho.at (Nat.zero_lt_succ _) (Nat.le_of_ble_eq_true rfl))⟩
        clear ho NF
        have gg := (N0.out.2.below X.out.1).cell
        have ff := (N0.out.2.below X.out.1).free
        obtain ⟨wF, hwF⟩ : ∃ wF, ((w9.setCell ⟨w.heap.size, 0, none⟩ (.int .i64 0)).setCell ⟨w.heap.size, 1, none⟩ (.slice none 0 0)).setCell ⟨w.heap.size, 2, none⟩ (.slice none 0 0) = wF := ⟨_, rfl⟩
        have XF : Hid (PP (.returned (.tuple #[v, .agg #[.int .i64 0, .slice none 0 0, .slice none 0 0], .bool false])) wF ∧ Blk wF w.heap.size #[.int .i64 0, .slice none 0 0, .slice none 0 0] 25) := by
          show _ ∧ _
          rw [← hwF]
          exact ⟨HRET.out _ _ _ X.out.1 X.out.2.1 X.out.2.2, Blk.cast ((((N0.out.2.below X.out.1).set 0 (.int .i64 0)).set 1 (.slice none 0 0)).set 2 (.slice none 0 0)) (by kernel_rfl)⟩
        clear X
        go_wp2
        (try simp only [Exit.inBlock, Exit.then])
        have gF := XF.out.2.cell
        rw [← HQB.out]
        refine bodyPost_ret (v := .tuple #[v, .agg #[.int .i64 0, .slice none 0 0, .slice none 0 0], .bool false]) (by simp [results, Try.results51, go_sem, gF]; try rfl) rfl ?_
        exact XF.out.1
      · have HN : Hid (RNextL b s ll true jt true vs (gThere 3 x y 0)) := HF.out
        have ra := NF.out.2.1.cell
        have fa := NF.out.2.1.free
        have rs := NF.out.2.2.1.cell
        have NH : Hid (Below w0.heap.size w0 (((wc.setCell ⟨ab, 0, none⟩ (.int .i64 x)).setCell ⟨ab, 1, none⟩ (.int .i64 y)).setCell ⟨ab, 2, none⟩ (.int .i64 0))) := (below_set (below_set (below_set NF.out.1.b NF.out.2.2.2 _ _) NF.out.2.2.2 _ _) NF.out.2.2.2 _ _)
        go_wp2_with fail
        clear rs ra fa
        refine (there_any x y 0 3 _ HP3.out.1.1 HP3.out.1.2 (by decide) (by decide)).mono ?_
        rintro e w9 ⟨v, rfl, ho⟩
        have X : Hid (Below w0.heap.size w0 w9 ∧ RNextL b s ll true jt true vs (gThere 3 x y 0) ∧ Goals w9 v (gThere 3 x y 0)) := ⟨B.next NH.out ho.2 NH.out.size, HN.out, Or.inr (ho.at (Nat.zero_lt_succ _) (Nat.le_of_ble_eq_true rfl))⟩
        clear ho NF NH
        have gg := (N0.out.2.below X.out.1).cell
        have ff := (N0.out.2.below X.out.1).free
        obtain ⟨wF, hwF⟩ : ∃ wF, ((w9.setCell ⟨w.heap.size, 0, none⟩ (.int .i64 0)).setCell ⟨w.heap.size, 1, none⟩ (.slice none 0 0)).setCell ⟨w.heap.size, 2, none⟩ (.slice none 0 0) = wF := ⟨_, rfl⟩
        have XF : Hid (PP (.returned (.tuple #[v, .agg #[.int .i64 0, .slice none 0 0, .slice none 0 0], .bool false])) wF ∧ Blk wF w.heap.size #[.int .i64 0, .slice none 0 0, .slice none 0 0] 25) := by
          show _ ∧ _
          rw [← hwF]
          exact ⟨HRET.out _ _ _ X.out.1 X.out.2.1 X.out.2.2, Blk.cast ((((N0.out.2.below X.out.1).set 0 (.int .i64 0)).set 1 (.slice none 0 0)).set 2 (.slice none 0 0)) (by kernel_rfl)⟩
        clear X
        go_wp2
        (try simp only [Exit.inBlock, Exit.then])
        have gF := XF.out.2.cell
        rw [← HQB.out]
        refine bodyPost_ret (v := .tuple #[v, .agg #[.int .i64 0, .slice none 0 0, .slice none 0 0], .bool false]) (by simp [results, Try.results51, go_sem, gF]; try rfl) rfl ?_
        exact XF.out.1
  have hcz : (cs != 0) = true := by simpa using hc
  rw [hcz] at KS
  have HBW : Hid (∀ X, Below w7.heap.size w7 X → Below w.heap.size w X) := fun X hx => HW0.out X (B.next N7.out.b hx N7.out.b.size)
  have HS : Hid (∀ W, Below w7.heap.size w7 W → W.cell? ⟨hb, 2, none⟩ = some (.int .i64 b.last) ∧ W.cell? ⟨hb, 3, none⟩ = some (.slice b.sa b.stays.length b.sc) ∧ W.cell? ⟨hb, 4, none⟩ = some (.slice b.ja b.jobs.length b.jc) ∧ W.cell? ⟨sp, 0, none⟩ = some (.int .i64 ll) ∧ W.cell? ⟨sp, 1, none⟩ = some (.int .i64 1) ∧ W.cell? ⟨sp, 2, none⟩ = some (.int .i64 0)) := fun W hx => ⟨(HH.out W (HBW.out W hx)).cell 2, (HH.out W (HBW.out W hx)).cell 3, (HH.out W (HBW.out W hx)).cell 4, (N7.out.p.below hx).cell 0, (N7.out.p.below hx).cell 1, (N7.out.p.below hx).cell 2⟩
  have D0 : Hid (Below w7.heap.size w7 w7.drew) := (Below.refl _ _).drew
  obtain ⟨wz, hwz⟩ : ∃ wz, w7.drew.alloc (.cells #[.int .i64 0, .int .i64 0, .int .i64 0, .int .i64 0, .int .i64 0, .int .i64 0, .int .i64 0, .int .i64 0] 62) = wz := ⟨_, rfl⟩
  have DZ : Hid (Below w7.heap.size w7 wz ∧ Blk wz w7.heap.size #[.int .i64 0, .int .i64 0, .int .i64 0, .int .i64 0, .int .i64 0, .int .i64 0, .int .i64 0, .int .i64 0] 62) := by
    show _ ∧ _
    rw [← hwz]
    exact ⟨D0.out.alloc (Nat.le_refl _) _, Blk.new1 (w := w7.drew) rfl _ _⟩
  have HR8 : Hid (∀ W N, w7.heap.size ≤ N → Below w7.heap.size w7 W → (fun W : World => W.cell? ⟨hb, 2, none⟩ = some (.int .i64 b.last) ∧ W.cell? ⟨hb, 3, none⟩ = some (.slice b.sa b.stays.length b.sc) ∧ W.cell? ⟨hb, 4, none⟩ = some (.slice b.ja b.jobs.length b.jc) ∧ W.cell? ⟨sp, 0, none⟩ = some (.int .i64 ll) ∧ W.cell? ⟨sp, 1, none⟩ = some (.int .i64 1) ∧ W.cell? ⟨sp, 2, none⟩ = some (.int .i64 0)) ((((((((W.setCell ⟨N, 0, none⟩ (.int .i64 x.t)).setCell ⟨N, 1, none⟩ (.int .i64 x.id)).setCell ⟨N, 2, none⟩ (.int .i64 x.a)).setCell ⟨N, 3, none⟩ (.int .i64 x.b)).setCell ⟨N, 4, none⟩ (.int .i64 x.c)).setCell ⟨N, 5, none⟩ (.int .i64 x.x)).setCell ⟨N, 6, none⟩ (.int .i64 x.y)).setCell ⟨N, 7, none⟩ (.int .i64 x.z))) := fun W N hN hx => HS.out _ (below_set (below_set (below_set (below_set (below_set (below_set (below_set (below_set hx hN _ _) hN _ _) hN _ _) hN _ _) hN _ _) hN _ _) hN _ _) hN _ _)
  go_upto_region 18 with fail
  go_cut [13, 14] from 113 to 123 (fun s13 s14 wx => ∃ xb : Nat, s13 = .pointer (some ⟨xb, 0, none⟩) ∧ s14 = .bool kn ∧ Hid (RN w0 wx sp jb ll jt jf ∧ Blk wx xb #[.int .i64 x.t, .int .i64 x.id, .int .i64 x.a, .int .i64 x.b, .int .i64 x.c, .int .i64 x.x, .int .i64 x.y, .int .i64 x.z] 62))
  case first =>
    clear HPL0 HPC0 HRET KS HSL HBL HAT HHA HWH HDN HSJ
    go_region_held3 (fun W => W.cell? ⟨hb, 2, none⟩ = some (.int .i64 b.last) ∧ W.cell? ⟨hb, 3, none⟩ = some (.slice b.sa b.stays.length b.sc) ∧ W.cell? ⟨hb, 4, none⟩ = some (.slice b.ja b.jobs.length b.jc) ∧ W.cell? ⟨sp, 0, none⟩ = some (.int .i64 ll) ∧ W.cell? ⟨sp, 1, none⟩ = some (.int .i64 1) ∧ W.cell? ⟨sp, 2, none⟩ = some (.int .i64 0)) (first | with_reducible exact HS.out _ D0.out | with_reducible exact HS.out _ DZ.out.1 | with_reducible exact HS.out _ BA.out | with_reducible exact HS.out _ (BA.out.alloc BA.out.size _) | with_reducible exact HS.out _ BQ.out | with_reducible exact HS.out _ (BQ.out.alloc BQ.out.size _) | with_reducible exact HS.out _ BY.out.1 | with_reducible exact HS.out _ BB.out.1 | with_reducible exact HS.out _ BR.out.1 | with_reducible exact HR8.out _ _ BR.out.2.2 BR.out.1 | with_reducible exact HS.out _ BS.out.1 | with_reducible exact HR8.out _ _ BS.out.2.2 BS.out.1 | go_keep)
      (first
        | (go_at_call 107; refine (HAS.out w7.drew (HBW.out _ D0.out)).mono ?_; rintro e wa ⟨rfl, ba⟩; have BA : Hid (Below w7.heap.size w7 wa) := B.next D0.out ba D0.out.size; clear ba; obtain ⟨wy, hwy⟩ : ∃ wy, wa.alloc (.cells #[.int .i64 0, .int .i64 0, .int .i64 0, .int .i64 0, .int .i64 0, .int .i64 0, .int .i64 0, .int .i64 0] 62) = wy := ⟨_, rfl⟩; have BY : Hid (Below w7.heap.size w7 wy ∧ Blk wy wa.heap.size #[.int .i64 0, .int .i64 0, .int .i64 0, .int .i64 0, .int .i64 0, .int .i64 0, .int .i64 0, .int .i64 0] 62) := (by show _ ∧ _; rw [← hwy]; exact ⟨BA.out.alloc BA.out.size _, Blk.new _ _ _⟩))
        | (go_at_call 107; refine (HAS.out wz (HBW.out _ DZ.out.1)).mono ?_; rintro e wa ⟨rfl, ba⟩; have BB : Hid (Below w7.heap.size w7 wa ∧ Blk wa w7.heap.size #[.int .i64 0, .int .i64 0, .int .i64 0, .int .i64 0, .int .i64 0, .int .i64 0, .int .i64 0, .int .i64 0] 62) := ⟨B.next DZ.out.1 ba DZ.out.1.size, DZ.out.2.below ba⟩; clear ba)
        | (go_at_call 62; refine (HSX.out wa (HBW.out _ BA.out)).mono ?_; rintro e wq ⟨rfl, bq⟩; have BQ : Hid (Below w7.heap.size w7 wq) := B.next BA.out bq BA.out.size; clear bq)
        | (go_at_call 62; refine (HSX.out wy (HBW.out _ BY.out.1)).mono ?_; rintro e wq ⟨rfl, bq⟩; have BS : Hid (Below w7.heap.size w7 wq ∧ Blk wq wa.heap.size #[.int .i64 0, .int .i64 0, .int .i64 0, .int .i64 0, .int .i64 0, .int .i64 0, .int .i64 0, .int .i64 0] 62 ∧ w7.heap.size ≤ wa.heap.size) := ⟨B.next BY.out.1 bq BY.out.1.size, BY.out.2.below bq, BA.out.size⟩; have gz := BS.out.2.1.cell; have fz := BS.out.2.1.free; clear bq)
        | (go_at_call 62; refine (HSX.out wa (HBW.out _ BB.out.1)).mono ?_; rintro e wq ⟨rfl, bq⟩; have BR : Hid (Below w7.heap.size w7 wq ∧ Blk wq w7.heap.size #[.int .i64 0, .int .i64 0, .int .i64 0, .int .i64 0, .int .i64 0, .int .i64 0, .int .i64 0, .int .i64 0] 62 ∧ w7.heap.size ≤ w7.heap.size) := ⟨B.next BB.out.1 bq BB.out.1.size, BB.out.2.below bq, Nat.le_refl _⟩; have gz := BR.out.2.1.cell; have fz := BR.out.2.1.free; clear bq))
    all_goals (go_wp2; go_meet)
    all_goals first
      | exact ⟨_, rfl, rfl, N7.out.next (BQ.out.alloc BQ.out.size _), Blk.new _ _ _⟩
      | exact ⟨_, rfl, rfl, N7.out.next (below_set (below_set (below_set (below_set (below_set (below_set (below_set (below_set BS.out.1 BS.out.2.2 _ _) BS.out.2.2 _ _) BS.out.2.2 _ _) BS.out.2.2 _ _) BS.out.2.2 _ _) BS.out.2.2 _ _) BS.out.2.2 _ _) BS.out.2.2 _ _), Blk.cast ((((((((BS.out.2.1.set 0 (.int .i64 x.t)).set 1 (.int .i64 x.id)).set 2 (.int .i64 x.a)).set 3 (.int .i64 x.b)).set 4 (.int .i64 x.c)).set 5 (.int .i64 x.x)).set 6 (.int .i64 x.y)).set 7 (.int .i64 x.z)) (by kernel_rfl)⟩
      | exact ⟨_, rfl, rfl, N7.out.next (below_set (below_set (below_set (below_set (below_set (below_set (below_set (below_set BR.out.1 (Nat.le_refl _) _ _) (Nat.le_refl _) _ _) (Nat.le_refl _) _ _) (Nat.le_refl _) _ _) (Nat.le_refl _) _ _) (Nat.le_refl _) _ _) (Nat.le_refl _) _ _) (Nat.le_refl _) _ _), Blk.cast ((((((((BR.out.2.1.set 0 (.int .i64 x.t)).set 1 (.int .i64 x.id)).set 2 (.int .i64 x.a)).set 3 (.int .i64 x.b)).set 4 (.int .i64 x.c)).set 5 (.int .i64 x.x)).set 6 (.int .i64 x.y)).set 7 (.int .i64 x.z)) (by kernel_rfl)⟩
  case rest =>
  clear HS D0 hwz DZ HR8 HBW N7 HSX HAS
  obtain ⟨xb, rfl, rfl, N8⟩ := hcut
  cases kn
  · have hsq : spareB b s ll bz jf vs = true := by rw [KS.out]; rfl
    clear KS
    cases bz
    · have rs := N8.out.1.p.cell
      go_wp2_with fail
      clear rs
      refine (there_any ll 1 0 3 _ HLL.out.1 HLL.out.2 (by decide) (by decide)).mono ?_
      rintro e w9 ⟨v, rfl, ho⟩
      have X : Hid (Below w0.heap.size w0 w9 ∧ RNextL b s ll false jt jf vs (gThere 3 ll 1 0) ∧ Goals w9 v (gThere 3 ll 1 0)) := ⟨B.next N8.out.1.b ho.2 N8.out.1.b.size, Or.inr (Or.inl ⟨hli, hsq, rfl⟩), Or.inr (ho.at (Nat.zero_lt_succ _) (Nat.le_of_ble_eq_true rfl))⟩
      clear ho N8
      have gg := (N0.out.2.below X.out.1).cell
      have ff := (N0.out.2.below X.out.1).free
      obtain ⟨wF, hwF⟩ : ∃ wF, ((w9.setCell ⟨w.heap.size, 0, none⟩ (.int .i64 0)).setCell ⟨w.heap.size, 1, none⟩ (.slice none 0 0)).setCell ⟨w.heap.size, 2, none⟩ (.slice none 0 0) = wF := ⟨_, rfl⟩
      have XF : Hid (PP (.returned (.tuple #[v, .agg #[.int .i64 0, .slice none 0 0, .slice none 0 0], .bool false])) wF ∧ Blk wF w.heap.size #[.int .i64 0, .slice none 0 0, .slice none 0 0] 25) := by
        show _ ∧ _
        rw [← hwF]
        exact ⟨HRET.out _ _ _ X.out.1 X.out.2.1 X.out.2.2, Blk.cast ((((N0.out.2.below X.out.1).set 0 (.int .i64 0)).set 1 (.slice none 0 0)).set 2 (.slice none 0 0)) (by kernel_rfl)⟩
      clear X
      go_wp2
      (try simp only [Exit.inBlock, Exit.then])
      have gF := XF.out.2.cell
      rw [← HQB.out]
      refine bodyPost_ret (v := .tuple #[v, .agg #[.int .i64 0, .slice none 0 0, .slice none 0 0], .bool false]) (by simp [results, Try.results51, go_sem, gF]; try rfl) rfl ?_
      exact XF.out.1
    · have rs := N8.out.1.p.cell
      go_wp2_with fail
      clear rs
      refine (there_any ll 1 0 3 _ HLL.out.1 HLL.out.2 (by decide) (by decide)).mono ?_
      rintro e w9 ⟨v, rfl, ho⟩
      have X : Hid (Below w0.heap.size w0 w9 ∧ RNextL b s ll true jt jf vs (gThere 3 ll 1 0) ∧ Goals w9 v (gThere 3 ll 1 0)) := ⟨B.next N8.out.1.b ho.2 N8.out.1.b.size, Or.inr (Or.inl ⟨hli, hsq, rfl⟩), Or.inr (ho.at (Nat.zero_lt_succ _) (Nat.le_of_ble_eq_true rfl))⟩
      clear ho N8
      have gg := (N0.out.2.below X.out.1).cell
      have ff := (N0.out.2.below X.out.1).free
      obtain ⟨wF, hwF⟩ : ∃ wF, ((w9.setCell ⟨w.heap.size, 0, none⟩ (.int .i64 0)).setCell ⟨w.heap.size, 1, none⟩ (.slice none 0 0)).setCell ⟨w.heap.size, 2, none⟩ (.slice none 0 0) = wF := ⟨_, rfl⟩
      have XF : Hid (PP (.returned (.tuple #[v, .agg #[.int .i64 0, .slice none 0 0, .slice none 0 0], .bool false])) wF ∧ Blk wF w.heap.size #[.int .i64 0, .slice none 0 0, .slice none 0 0] 25) := by
        show _ ∧ _
        rw [← hwF]
        exact ⟨HRET.out _ _ _ X.out.1 X.out.2.1 X.out.2.2, Blk.cast ((((N0.out.2.below X.out.1).set 0 (.int .i64 0)).set 1 (.slice none 0 0)).set 2 (.slice none 0 0)) (by kernel_rfl)⟩
      clear X
      go_wp2
      (try simp only [Exit.inBlock, Exit.then])
      have gF := XF.out.2.cell
      rw [← HQB.out]
      refine bodyPost_ret (v := .tuple #[v, .agg #[.int .i64 0, .slice none 0 0, .slice none 0 0], .bool false]) (by simp [results, Try.results51, go_sem, gF]; try rfl) rfl ?_
      exact XF.out.1
  cases bz
  · have hsq : spareB b s ll false jf vs = true := by rw [KS.out]; rfl
    clear KS
    have rs := N8.out.1.p.cell
    go_wp2_with fail
    clear rs
    refine (there_any ll 1 0 3 _ HLL.out.1 HLL.out.2 (by decide) (by decide)).mono ?_
    rintro e w9 ⟨v, rfl, ho⟩
    have X : Hid (Below w0.heap.size w0 w9 ∧ RNextL b s ll false jt jf vs (gThere 3 ll 1 0) ∧ Goals w9 v (gThere 3 ll 1 0)) := ⟨B.next N8.out.1.b ho.2 N8.out.1.b.size, Or.inr (Or.inl ⟨hli, hsq, rfl⟩), Or.inr (ho.at (Nat.zero_lt_succ _) (Nat.le_of_ble_eq_true rfl))⟩
    clear ho N8
    have gg := (N0.out.2.below X.out.1).cell
    have ff := (N0.out.2.below X.out.1).free
    obtain ⟨wF, hwF⟩ : ∃ wF, ((w9.setCell ⟨w.heap.size, 0, none⟩ (.int .i64 0)).setCell ⟨w.heap.size, 1, none⟩ (.slice none 0 0)).setCell ⟨w.heap.size, 2, none⟩ (.slice none 0 0) = wF := ⟨_, rfl⟩
    have XF : Hid (PP (.returned (.tuple #[v, .agg #[.int .i64 0, .slice none 0 0, .slice none 0 0], .bool false])) wF ∧ Blk wF w.heap.size #[.int .i64 0, .slice none 0 0, .slice none 0 0] 25) := by
      show _ ∧ _
      rw [← hwF]
      exact ⟨HRET.out _ _ _ X.out.1 X.out.2.1 X.out.2.2, Blk.cast ((((N0.out.2.below X.out.1).set 0 (.int .i64 0)).set 1 (.slice none 0 0)).set 2 (.slice none 0 0)) (by kernel_rfl)⟩
    clear X
    go_wp2
    (try simp only [Exit.inBlock, Exit.then])
    have gF := XF.out.2.cell
    rw [← HQB.out]
    refine bodyPost_ret (v := .tuple #[v, .agg #[.int .i64 0, .slice none 0 0, .slice none 0 0], .bool false]) (by simp [results, Try.results51, go_sem, gF]; try rfl) rfl ?_
    exact XF.out.1
  have rx := N8.out.2.cell
  have rj := N8.out.1.j.cell
  go_wp2_with fail
  clear rx rj
  refine (HBL.out x _ (HW0.out _ N8.out.1.b)).mono ?_
  rintro e w9 ⟨rfl, b9⟩
  have N9 : Hid (RN w0 w9 sp jb ll jt jf) := N8.out.1.next b9
  clear b9 N8
  cases hq3 : rblocksB s.D vs x jf
  · have hsq : spareB b s ll true jf vs = true := by rw [KS.out, hq3]; rfl
    clear KS
    have rs := N9.out.p.cell
    go_wp2_with fail
    clear rs
    refine (there_any ll 1 0 3 _ HLL.out.1 HLL.out.2 (by decide) (by decide)).mono ?_
    rintro e wy ⟨v, rfl, ho⟩
    have X : Hid (Below w0.heap.size w0 wy ∧ RNextL b s ll true jt jf vs (gThere 3 ll 1 0) ∧ Goals wy v (gThere 3 ll 1 0)) := ⟨B.next N9.out.b ho.2 N9.out.b.size, Or.inr (Or.inl ⟨hli, hsq, rfl⟩), Or.inr (ho.at (Nat.zero_lt_succ _) (Nat.le_of_ble_eq_true rfl))⟩
    clear ho N9
    have gg := (N0.out.2.below X.out.1).cell
    have ff := (N0.out.2.below X.out.1).free
    obtain ⟨wF, hwF⟩ : ∃ wF, ((wy.setCell ⟨w.heap.size, 0, none⟩ (.int .i64 0)).setCell ⟨w.heap.size, 1, none⟩ (.slice none 0 0)).setCell ⟨w.heap.size, 2, none⟩ (.slice none 0 0) = wF := ⟨_, rfl⟩
    have XF : Hid (PP (.returned (.tuple #[v, .agg #[.int .i64 0, .slice none 0 0, .slice none 0 0], .bool false])) wF ∧ Blk wF w.heap.size #[.int .i64 0, .slice none 0 0, .slice none 0 0] 25) := by
      show _ ∧ _
      rw [← hwF]
      exact ⟨HRET.out _ _ _ X.out.1 X.out.2.1 X.out.2.2, Blk.cast ((((N0.out.2.below X.out.1).set 0 (.int .i64 0)).set 1 (.slice none 0 0)).set 2 (.slice none 0 0)) (by kernel_rfl)⟩
    clear X
    go_wp2
    (try simp only [Exit.inBlock, Exit.then])
    have gF := XF.out.2.cell
    rw [← HQB.out]
    refine bodyPost_ret (v := .tuple #[v, .agg #[.int .i64 0, .slice none 0 0, .slice none 0 0], .bool false]) (by simp [results, Try.results51, go_sem, gF]; try rfl) rfl ?_
    exact XF.out.1
  have hsq : spareB b s ll true jf vs = false := by rw [KS.out, hq3]; rfl
  clear KS hq3
  have HVI : Hid (sIn vs ∧ vs.id ≠ 0) := HVS.out (by simp)
  obtain ⟨kq, hkq⟩ : ∃ kq, (stayO b jt 0).isSome = kq := ⟨_, rfl⟩
  rw [hkq] at HSJ
  clear hkq
  have HBW : Hid (∀ X, Below w9.heap.size w9 X → Below w.heap.size w X) := fun X hx => HW0.out X (B.next N9.out.b hx N9.out.b.size)
  have HS : Hid (∀ W, Below w9.heap.size w9 W → W.cell? ⟨hb, 2, none⟩ = some (.int .i64 b.last) ∧ W.cell? ⟨hb, 3, none⟩ = some (.slice b.sa b.stays.length b.sc) ∧ W.cell? ⟨hb, 4, none⟩ = some (.slice b.ja b.jobs.length b.jc) ∧ W.cell? ⟨jb, 0, none⟩ = some (.int .i64 jt)) := fun W hx => ⟨(HH.out W (HBW.out W hx)).cell 2, (HH.out W (HBW.out W hx)).cell 3, (HH.out W (HBW.out W hx)).cell 4, (N9.out.j.below hx).cell 0⟩
  have D0 : Hid (Below w9.heap.size w9 w9.drew) := (Below.refl _ _).drew
  obtain ⟨wz, hwz⟩ : ∃ wz, w9.drew.alloc (.cells #[.int .i64 0, .int .i64 0, .int .i64 0, .int .i64 0, .int .i64 0, .int .i64 0, .int .i64 0, .int .i64 0] 62) = wz := ⟨_, rfl⟩
  have DZ : Hid (Below w9.heap.size w9 wz ∧ Blk wz w9.heap.size #[.int .i64 0, .int .i64 0, .int .i64 0, .int .i64 0, .int .i64 0, .int .i64 0, .int .i64 0, .int .i64 0] 62) := by
    show _ ∧ _
    rw [← hwz]
    exact ⟨D0.out.alloc (Nat.le_refl _) _, Blk.new1 (w := w9.drew) rfl _ _⟩
  have HR8 : Hid (∀ W, Below w9.heap.size w9 W → (fun W : World => W.cell? ⟨hb, 2, none⟩ = some (.int .i64 b.last) ∧ W.cell? ⟨hb, 3, none⟩ = some (.slice b.sa b.stays.length b.sc) ∧ W.cell? ⟨hb, 4, none⟩ = some (.slice b.ja b.jobs.length b.jc) ∧ W.cell? ⟨jb, 0, none⟩ = some (.int .i64 jt)) ((((((((W.setCell ⟨w9.heap.size, 0, none⟩ (.int .i64 vs.t)).setCell ⟨w9.heap.size, 1, none⟩ (.int .i64 vs.id)).setCell ⟨w9.heap.size, 2, none⟩ (.int .i64 vs.a)).setCell ⟨w9.heap.size, 3, none⟩ (.int .i64 vs.b)).setCell ⟨w9.heap.size, 4, none⟩ (.int .i64 vs.c)).setCell ⟨w9.heap.size, 5, none⟩ (.int .i64 vs.x)).setCell ⟨w9.heap.size, 6, none⟩ (.int .i64 vs.y)).setCell ⟨w9.heap.size, 7, none⟩ (.int .i64 vs.z))) := fun W hx => HS.out _ (below_set (below_set (below_set (below_set (below_set (below_set (below_set (below_set hx (Nat.le_refl _) _ _) (Nat.le_refl _) _ _) (Nat.le_refl _) _ _) (Nat.le_refl _) _ _) (Nat.le_refl _) _ _) (Nat.le_refl _) _ _) (Nat.le_refl _) _ _) (Nat.le_refl _) _ _)
  go_upto_region 28 with fail
  go_cut [16] from 146 to 155 (fun s16 wx => ∃ xb : Nat, s16 = .pointer (some ⟨xb, 0, none⟩) ∧ Hid (RN w0 wx sp jb ll jt jf ∧ Blk wx xb #[.int .i64 vs.t, .int .i64 vs.id, .int .i64 vs.a, .int .i64 vs.b, .int .i64 vs.c, .int .i64 vs.x, .int .i64 vs.y, .int .i64 vs.z] 62))
  case first =>
    clear HPL0 HPC0 HRET HSL HBL HAT HHA HWH HDN
    go_region_held3 (fun W => W.cell? ⟨hb, 2, none⟩ = some (.int .i64 b.last) ∧ W.cell? ⟨hb, 3, none⟩ = some (.slice b.sa b.stays.length b.sc) ∧ W.cell? ⟨hb, 4, none⟩ = some (.slice b.ja b.jobs.length b.jc) ∧ W.cell? ⟨jb, 0, none⟩ = some (.int .i64 jt)) (first | with_reducible exact HS.out _ D0.out | with_reducible exact HS.out _ DZ.out.1 | with_reducible exact HS.out _ BQ.out | with_reducible exact HS.out _ (BQ.out.alloc BQ.out.size _) | with_reducible exact HS.out _ BR.out.1 | with_reducible exact HR8.out _ BR.out.1 | go_keep)
      (first
        | (go_at_call 62; refine (HSJ.out w9.drew (HBW.out _ D0.out)).mono ?_; rintro e wq ⟨rfl, bq⟩; have BQ : Hid (Below w9.heap.size w9 wq) := B.next D0.out bq D0.out.size; clear bq)
        | (go_at_call 62; refine (HSJ.out wz (HBW.out _ DZ.out.1)).mono ?_; rintro e wq ⟨rfl, bq⟩; have BR : Hid (Below w9.heap.size w9 wq ∧ Blk wq w9.heap.size #[.int .i64 0, .int .i64 0, .int .i64 0, .int .i64 0, .int .i64 0, .int .i64 0, .int .i64 0, .int .i64 0] 62) := ⟨B.next DZ.out.1 bq DZ.out.1.size, DZ.out.2.below bq⟩; have gz := BR.out.2.cell; have fz := BR.out.2.free; clear bq))
    · go_wp2
      go_meet
      exact ⟨_, rfl, N9.out.next (BQ.out.alloc BQ.out.size _), Blk.new _ _ _⟩
    · go_wp2
      go_meet
      exact ⟨_, rfl, N9.out.next (below_set (below_set (below_set (below_set (below_set (below_set (below_set (below_set BR.out.1 (Nat.le_refl _) _ _) (Nat.le_refl _) _ _) (Nat.le_refl _) _ _) (Nat.le_refl _) _ _) (Nat.le_refl _) _ _) (Nat.le_refl _) _ _) (Nat.le_refl _) _ _) (Nat.le_refl _) _ _), Blk.cast ((((((((BR.out.2.set 0 (.int .i64 vs.t)).set 1 (.int .i64 vs.id)).set 2 (.int .i64 vs.a)).set 3 (.int .i64 vs.b)).set 4 (.int .i64 vs.c)).set 5 (.int .i64 vs.x)).set 6 (.int .i64 vs.y)).set 7 (.int .i64 vs.z)) (by kernel_rfl)⟩
  case rest =>
  clear HS D0 hwz DZ HR8 HBW N9
  obtain ⟨xb, rfl, NA⟩ := hcut
  clear HSJ HBL HSL
  obtain ⟨hq, hhq⟩ : ∃ hq, hasB s vs.id = hq := ⟨_, rfl⟩
  rw [hhq] at HHA HPC0
  have rx := NA.out.2.cell
  go_wp2_with fail
  clear rx
  refine (HHA.out HVI.out.2 _ (HW0.out _ NA.out.1.b)).mono ?_
  rintro e wB ⟨rfl, bB⟩
  have NB : Hid (RN w0 wB sp jb ll jt jf ∧ Blk wB xb #[.int .i64 vs.t, .int .i64 vs.id, .int .i64 vs.a, .int .i64 vs.b, .int .i64 vs.c, .int .i64 vs.x, .int .i64 vs.y, .int .i64 vs.z] 62) := ⟨NA.out.1.next bB, NA.out.2.below bB⟩
  clear bB NA HHA
  have rj := NB.out.1.j.cell
  cases jf
  · have rx := NB.out.2.cell
    go_wp2_with fail
    clear rx rj
    refine (HAT.out vs.x vs.y vs.z ⟨Int.le_trans (by decide) HVI.out.1.1, HVI.out.1.2.1⟩ ⟨HVI.out.1.2.2.1, HVI.out.1.2.2.2.1⟩ HVI.out.1.2.2.2.2 _ (HW0.out _ NB.out.1.b)).mono ?_
    rintro e wC ⟨rfl, bC⟩
    have NC : Hid (RN w0 wC sp jb ll jt false) := NB.out.1.next bC
    clear bC NB
    cases hc : (carOf s.D vs.x vs.y vs.z == vs.id)
    · have rb6 : wC.cell? ⟨rb, 6, none⟩ = some (.int .i64 s.ba) := (HR.out wC (HW0.out _ NC.out.b)).cell 6
      cases hb6 : (s.ba == vs.id)
      · cases hq
        · have hov : overB s false vs = true := by unfold overB; rw [hhq]; rfl
          clear HPL0 HRET
          have HPC : Hid (∀ xs xj w', OwnBook w' w.heap.size xs xj (doneStays jt (false || true) b.stays) (doneJobs jt false (false || true) b.jobs) → Below w.heap.size w w' → PP (.returned (.tuple #[.slice none 0 0, .agg #[.int .i64 b.last, xs, xj], .bool true])) w') := HPC0.out true rfl ⟨hli, hsq, rfl, hov⟩
          have HBW : Hid (∀ X, Below wC.heap.size wC X → Below w.heap.size w X) := fun X hx => HW0.out X (B.next NC.out.b hx NC.out.b.size)
          have HSB : Hid (∀ W, Below wC.heap.size wC W → W.cell? ⟨hb, 2, none⟩ = some (.int .i64 b.last) ∧ W.cell? ⟨hb, 3, none⟩ = some (.slice b.sa b.stays.length b.sc) ∧ W.cell? ⟨hb, 4, none⟩ = some (.slice b.ja b.jobs.length b.jc) ∧ W.cell? ⟨jb, 0, none⟩ = some (.int .i64 jt) ∧ W.cell? ⟨jb, 1, none⟩ = some (.bool false)) := fun W hx => ⟨(HH.out W (HBW.out W hx)).cell 2, (HH.out W (HBW.out W hx)).cell 3, (HH.out W (HBW.out W hx)).cell 4, (NC.out.j.below hx).cell 0, (NC.out.j.below hx).cell 1⟩
          have D0 : Hid (Below wC.heap.size wC wC.drew) := (Below.refl _ _).drew
          have HDD : Hid (∀ wx, Below w.heap.size w wx → Calls Try.prog 23 #[.agg #[.int .i64 b.last, .slice b.sa b.stays.length b.sc, .slice b.ja b.jobs.length b.jc], .agg #[.int .i64 jt, .bool false], .bool true] wx fun e w' => ∃ xs xj, e = .returned (.agg #[.int .i64 b.last, xs, xj]) ∧ OwnBook w' wx.heap.size xs xj (doneStays jt (false || true) b.stays) (doneJobs jt false (false || true) b.jobs) ∧ Below wx.heap.size wx w') := HDN.out true
          have HSZ : Hid (w.heap.size < wC.heap.size) := (N0.out.2.below NC.out.b).lt
          have HRB : Hid (∀ wx, Below wC.heap.size wC wx → Blk wx w.heap.size #[.int .i64 0, .slice none 0 0, .slice none 0 0] 25) := fun wx h => (N0.out.2.below NC.out.b).below h
          have HST3 : Hid (∀ wx, Below wC.heap.size wC wx → ∀ a c d : Value, (fun W : World => W.cell? ⟨hb, 2, none⟩ = some (.int .i64 b.last) ∧ W.cell? ⟨hb, 3, none⟩ = some (.slice b.sa b.stays.length b.sc) ∧ W.cell? ⟨hb, 4, none⟩ = some (.slice b.ja b.jobs.length b.jc) ∧ W.cell? ⟨jb, 0, none⟩ = some (.int .i64 jt) ∧ W.cell? ⟨jb, 1, none⟩ = some (.bool false)) (((wx.setCell ⟨w.heap.size, 0, none⟩ a).setCell ⟨w.heap.size, 1, none⟩ c).setCell ⟨w.heap.size, 2, none⟩ d)) := fun wx h a c d => by
            have n1 := HHB.out
            have n2 := HJB.out
            have hh := HH.out wx (HBW.out wx h)
            have hj := NC.out.j.below h
            have q1 := ((hh.other (c := w.heap.size) (by omega) 0 a).other (c := w.heap.size) (by omega) 1 c).other (c := w.heap.size) (by omega) 2 d
            have q2 := ((hj.other (c := w.heap.size) (by omega) 0 a).other (c := w.heap.size) (by omega) 1 c).other (c := w.heap.size) (by omega) 2 d
            exact ⟨q1.cell 2, q1.cell 3, q1.cell 4, q2.cell 0, q2.cell 1⟩
          generalize doneStays jt (false || true) b.stays = S2 at HPC HDD
          generalize doneJobs jt false (false || true) b.jobs = J2 at HPC HDD
          go_upto_region 37 with fail
          go_region_held3 (fun W => W.cell? ⟨hb, 2, none⟩ = some (.int .i64 b.last) ∧ W.cell? ⟨hb, 3, none⟩ = some (.slice b.sa b.stays.length b.sc) ∧ W.cell? ⟨hb, 4, none⟩ = some (.slice b.ja b.jobs.length b.jc) ∧ W.cell? ⟨jb, 0, none⟩ = some (.int .i64 jt) ∧ W.cell? ⟨jb, 1, none⟩ = some (.bool false)) (first | with_reducible exact HSB.out _ D0.out | with_reducible exact HSB.out _ BD.out | with_reducible exact HST3.out _ BD.out _ _ _ | go_keep)
            (first
              | (go_at_call 23; refine (HDD.out wC.drew (HBW.out _ D0.out)).mono ?_; rintro e wd ⟨xs, xj, rfl, ho, bd⟩; obtain ⟨a1, c1, hx1, _⟩ := ho.s.rows; obtain ⟨a2, c2, hx2, _⟩ := ho.j.rows; subst hx1 hx2; have BD : Hid (Below wC.heap.size wC wd) := B.next D0.out bd D0.out.size; have OD : Hid (OwnBook wd wC.drew.heap.size (.slice a1 S2.length c1) (.slice a2 J2.length c2) S2 J2) := ho; have gd := (HRB.out wd BD.out).cell; have fd := (HRB.out wd BD.out).free; clear ho bd))
          have HN1 : Hid (w.heap.size < wC.drew.heap.size) := Nat.lt_of_lt_of_le HSZ.out D0.out.size
          have HFIN : Hid (∀ a c d : Value, PP (.returned (.tuple #[.slice none 0 0, .agg #[.int .i64 b.last, .slice a1 S2.length c1, .slice a2 J2.length c2], .bool true])) (((wd.setCell ⟨w.heap.size, 0, none⟩ a).setCell ⟨w.heap.size, 1, none⟩ c).setCell ⟨w.heap.size, 2, none⟩ d)) := fun a c d =>
            HPC.out _ _ _ ⟨(((OD.out.s.set _ HN1.out).set _ HN1.out).set _ HN1.out).base (Nat.le_of_lt HN1.out), (((OD.out.j.set _ HN1.out).set _ HN1.out).set _ HN1.out).base (Nat.le_of_lt HN1.out), OD.out.ne⟩ (below_set (below_set (below_set (HBW.out _ BD.out) (Nat.le_refl _) _ _) (Nat.le_refl _) _ _) (Nat.le_refl _) _ _)
          go_wp2
          (try simp only [Exit.inBlock, Exit.then])
          rw [← HQB.out]
          refine bodyPost_ret (v := .tuple #[.slice none 0 0, .agg #[.int .i64 b.last, .slice a1 S2.length c1, .slice a2 J2.length c2], .bool true]) (by simp [results, Try.results51, go_sem, set3_0 gd, set3_1 gd, set3_2 gd]; try rfl) rfl ?_
          exact HFIN.out _ _ _
        · have hov : overB s false vs = false := by unfold overB; rw [hhq, hc]; rfl
          have hP : [] = putG s vs := by unfold putG; rw [hb6]; rfl
          have X : Hid (Below w0.heap.size w0 wC ∧ RNextL b s ll true jt false vs [] ∧ Goals wC (.slice none 0 0) []) := ⟨NC.out.b, Or.inr (Or.inr (Or.inr ⟨hli, hsq, rfl, hov, Or.inr ⟨rfl, hP⟩⟩)), Goals.nil _⟩
          have gg := (N0.out.2.below X.out.1).cell
          have ff := (N0.out.2.below X.out.1).free
          obtain ⟨wF, hwF⟩ : ∃ wF, ((wC.setCell ⟨w.heap.size, 0, none⟩ (.int .i64 0)).setCell ⟨w.heap.size, 1, none⟩ (.slice none 0 0)).setCell ⟨w.heap.size, 2, none⟩ (.slice none 0 0) = wF := ⟨_, rfl⟩
          have XF : Hid (PP (.returned (.tuple #[.slice none 0 0, .agg #[.int .i64 0, .slice none 0 0, .slice none 0 0], .bool false])) wF ∧ Blk wF w.heap.size #[.int .i64 0, .slice none 0 0, .slice none 0 0] 25) := by
            show _ ∧ _
            rw [← hwF]
            exact ⟨HRET.out _ _ _ X.out.1 X.out.2.1 X.out.2.2, Blk.cast ((((N0.out.2.below X.out.1).set 0 (.int .i64 0)).set 1 (.slice none 0 0)).set 2 (.slice none 0 0)) (by kernel_rfl)⟩
          clear X
          go_wp2
          (try simp only [Exit.inBlock, Exit.then])
          have gF := XF.out.2.cell
          rw [← HQB.out]
          refine bodyPost_ret (v := .tuple #[.slice none 0 0, .agg #[.int .i64 0, .slice none 0 0, .slice none 0 0], .bool false]) (by simp [results, Try.results51, go_sem, gF]; try rfl) rfl ?_
          exact XF.out.1
      · have hov : overB s false vs = false := by unfold overB; rw [has_bay HVI.out.2 (by simpa using hb6), hc]; rfl
        have hP : gTake = putG s vs := by unfold putG; rw [hb6]; rfl
        go_wp2_with fail
        clear rb6
        refine (rtakeIn_any _).mono ?_
        rintro e w9 ⟨v, rfl, ho⟩
        have X : Hid (Below w0.heap.size w0 w9 ∧ RNextL b s ll true jt false vs (gTake) ∧ Goals w9 v (gTake)) := ⟨B.next NC.out.b ho.2 NC.out.b.size, Or.inr (Or.inr (Or.inr ⟨hli, hsq, rfl, hov, Or.inr ⟨rfl, hP⟩⟩)), Or.inr (ho.at (Nat.zero_lt_succ _) (Nat.le_of_ble_eq_true rfl))⟩
        clear ho NC
        have gg := (N0.out.2.below X.out.1).cell
        have ff := (N0.out.2.below X.out.1).free
        obtain ⟨wF, hwF⟩ : ∃ wF, ((w9.setCell ⟨w.heap.size, 0, none⟩ (.int .i64 0)).setCell ⟨w.heap.size, 1, none⟩ (.slice none 0 0)).setCell ⟨w.heap.size, 2, none⟩ (.slice none 0 0) = wF := ⟨_, rfl⟩
        have XF : Hid (PP (.returned (.tuple #[v, .agg #[.int .i64 0, .slice none 0 0, .slice none 0 0], .bool false])) wF ∧ Blk wF w.heap.size #[.int .i64 0, .slice none 0 0, .slice none 0 0] 25) := by
          show _ ∧ _
          rw [← hwF]
          exact ⟨HRET.out _ _ _ X.out.1 X.out.2.1 X.out.2.2, Blk.cast ((((N0.out.2.below X.out.1).set 0 (.int .i64 0)).set 1 (.slice none 0 0)).set 2 (.slice none 0 0)) (by kernel_rfl)⟩
        clear X
        go_wp2
        (try simp only [Exit.inBlock, Exit.then])
        have gF := XF.out.2.cell
        rw [← HQB.out]
        refine bodyPost_ret (v := .tuple #[v, .agg #[.int .i64 0, .slice none 0 0, .slice none 0 0], .bool false]) (by simp [results, Try.results51, go_sem, gF]; try rfl) rfl ?_
        exact XF.out.1
    · have hhs : hq = true := hhq.symm.trans (has_home HVI.out.1 HVI.out.2 (by simpa using hc))
      have hov : overB s false vs = true := by unfold overB; rw [hc]; simp
      subst hhs
      clear HPL0 HRET
      have HPC : Hid (∀ xs xj w', OwnBook w' w.heap.size xs xj (doneStays jt (false || false) b.stays) (doneJobs jt false (false || false) b.jobs) → Below w.heap.size w w' → PP (.returned (.tuple #[.slice none 0 0, .agg #[.int .i64 b.last, xs, xj], .bool true])) w') := HPC0.out false rfl ⟨hli, hsq, rfl, hov⟩
      have HBW : Hid (∀ X, Below wC.heap.size wC X → Below w.heap.size w X) := fun X hx => HW0.out X (B.next NC.out.b hx NC.out.b.size)
      have HSB : Hid (∀ W, Below wC.heap.size wC W → W.cell? ⟨hb, 2, none⟩ = some (.int .i64 b.last) ∧ W.cell? ⟨hb, 3, none⟩ = some (.slice b.sa b.stays.length b.sc) ∧ W.cell? ⟨hb, 4, none⟩ = some (.slice b.ja b.jobs.length b.jc) ∧ W.cell? ⟨jb, 0, none⟩ = some (.int .i64 jt) ∧ W.cell? ⟨jb, 1, none⟩ = some (.bool false)) := fun W hx => ⟨(HH.out W (HBW.out W hx)).cell 2, (HH.out W (HBW.out W hx)).cell 3, (HH.out W (HBW.out W hx)).cell 4, (NC.out.j.below hx).cell 0, (NC.out.j.below hx).cell 1⟩
      have D0 : Hid (Below wC.heap.size wC wC.drew) := (Below.refl _ _).drew
      have HDD : Hid (∀ wx, Below w.heap.size w wx → Calls Try.prog 23 #[.agg #[.int .i64 b.last, .slice b.sa b.stays.length b.sc, .slice b.ja b.jobs.length b.jc], .agg #[.int .i64 jt, .bool false], .bool false] wx fun e w' => ∃ xs xj, e = .returned (.agg #[.int .i64 b.last, xs, xj]) ∧ OwnBook w' wx.heap.size xs xj (doneStays jt (false || false) b.stays) (doneJobs jt false (false || false) b.jobs) ∧ Below wx.heap.size wx w') := HDN.out false
      have HSZ : Hid (w.heap.size < wC.heap.size) := (N0.out.2.below NC.out.b).lt
      have HRB : Hid (∀ wx, Below wC.heap.size wC wx → Blk wx w.heap.size #[.int .i64 0, .slice none 0 0, .slice none 0 0] 25) := fun wx h => (N0.out.2.below NC.out.b).below h
      have HST3 : Hid (∀ wx, Below wC.heap.size wC wx → ∀ a c d : Value, (fun W : World => W.cell? ⟨hb, 2, none⟩ = some (.int .i64 b.last) ∧ W.cell? ⟨hb, 3, none⟩ = some (.slice b.sa b.stays.length b.sc) ∧ W.cell? ⟨hb, 4, none⟩ = some (.slice b.ja b.jobs.length b.jc) ∧ W.cell? ⟨jb, 0, none⟩ = some (.int .i64 jt) ∧ W.cell? ⟨jb, 1, none⟩ = some (.bool false)) (((wx.setCell ⟨w.heap.size, 0, none⟩ a).setCell ⟨w.heap.size, 1, none⟩ c).setCell ⟨w.heap.size, 2, none⟩ d)) := fun wx h a c d => by
        have n1 := HHB.out
        have n2 := HJB.out
        have hh := HH.out wx (HBW.out wx h)
        have hj := NC.out.j.below h
        have q1 := ((hh.other (c := w.heap.size) (by omega) 0 a).other (c := w.heap.size) (by omega) 1 c).other (c := w.heap.size) (by omega) 2 d
        have q2 := ((hj.other (c := w.heap.size) (by omega) 0 a).other (c := w.heap.size) (by omega) 1 c).other (c := w.heap.size) (by omega) 2 d
        exact ⟨q1.cell 2, q1.cell 3, q1.cell 4, q2.cell 0, q2.cell 1⟩
      generalize doneStays jt (false || false) b.stays = S2 at HPC HDD
      generalize doneJobs jt false (false || false) b.jobs = J2 at HPC HDD
      go_upto_region 33 with fail
      go_region_held3 (fun W => W.cell? ⟨hb, 2, none⟩ = some (.int .i64 b.last) ∧ W.cell? ⟨hb, 3, none⟩ = some (.slice b.sa b.stays.length b.sc) ∧ W.cell? ⟨hb, 4, none⟩ = some (.slice b.ja b.jobs.length b.jc) ∧ W.cell? ⟨jb, 0, none⟩ = some (.int .i64 jt) ∧ W.cell? ⟨jb, 1, none⟩ = some (.bool false)) (first | with_reducible exact HSB.out _ D0.out | with_reducible exact HSB.out _ BD.out | with_reducible exact HST3.out _ BD.out _ _ _ | go_keep)
        (first
          | (go_at_call 23; refine (HDD.out wC.drew (HBW.out _ D0.out)).mono ?_; rintro e wd ⟨xs, xj, rfl, ho, bd⟩; obtain ⟨a1, c1, hx1, _⟩ := ho.s.rows; obtain ⟨a2, c2, hx2, _⟩ := ho.j.rows; subst hx1 hx2; have BD : Hid (Below wC.heap.size wC wd) := B.next D0.out bd D0.out.size; have OD : Hid (OwnBook wd wC.drew.heap.size (.slice a1 S2.length c1) (.slice a2 J2.length c2) S2 J2) := ho; have gd := (HRB.out wd BD.out).cell; have fd := (HRB.out wd BD.out).free; clear ho bd))
      have HN1 : Hid (w.heap.size < wC.drew.heap.size) := Nat.lt_of_lt_of_le HSZ.out D0.out.size
      have HFIN : Hid (∀ a c d : Value, PP (.returned (.tuple #[.slice none 0 0, .agg #[.int .i64 b.last, .slice a1 S2.length c1, .slice a2 J2.length c2], .bool true])) (((wd.setCell ⟨w.heap.size, 0, none⟩ a).setCell ⟨w.heap.size, 1, none⟩ c).setCell ⟨w.heap.size, 2, none⟩ d)) := fun a c d =>
        HPC.out _ _ _ ⟨(((OD.out.s.set _ HN1.out).set _ HN1.out).set _ HN1.out).base (Nat.le_of_lt HN1.out), (((OD.out.j.set _ HN1.out).set _ HN1.out).set _ HN1.out).base (Nat.le_of_lt HN1.out), OD.out.ne⟩ (below_set (below_set (below_set (HBW.out _ BD.out) (Nat.le_refl _) _ _) (Nat.le_refl _) _ _) (Nat.le_refl _) _ _)
      go_wp2
      (try simp only [Exit.inBlock, Exit.then])
      rw [← HQB.out]
      refine bodyPost_ret (v := .tuple #[.slice none 0 0, .agg #[.int .i64 b.last, .slice a1 S2.length c1, .slice a2 J2.length c2], .bool true]) (by simp [results, Try.results51, go_sem, set3_0 gd, set3_1 gd, set3_2 gd]; try rfl) rfl ?_
      exact HFIN.out _ _ _
  · have NC : Hid (RN w0 wB sp jb ll jt true) := NB.out.1
    clear NB
    have rb6 : wB.cell? ⟨rb, 6, none⟩ = some (.int .i64 s.ba) := (HR.out wB (HW0.out _ NC.out.b)).cell 6
    have rb3 : wB.cell? ⟨rb, 3, none⟩ = some (.bool s.op) := (HR.out wB (HW0.out _ NC.out.b)).cell 3
    cases hb6 : (s.ba == vs.id)
    case true =>
      have hov : overB s true vs = true := by unfold overB; rw [hb6]; simp
      clear HPL0 HRET
      have HPC : Hid (∀ xs xj w', OwnBook w' w.heap.size xs xj (doneStays jt (true || false) b.stays) (doneJobs jt true (true || false) b.jobs) → Below w.heap.size w w' → PP (.returned (.tuple #[.slice none 0 0, .agg #[.int .i64 b.last, xs, xj], .bool true])) w') := HPC0.out false rfl ⟨hli, hsq, rfl, hov⟩
      have HBW : Hid (∀ X, Below wB.heap.size wB X → Below w.heap.size w X) := fun X hx => HW0.out X (B.next NC.out.b hx NC.out.b.size)
      have HSB : Hid (∀ W, Below wB.heap.size wB W → W.cell? ⟨hb, 2, none⟩ = some (.int .i64 b.last) ∧ W.cell? ⟨hb, 3, none⟩ = some (.slice b.sa b.stays.length b.sc) ∧ W.cell? ⟨hb, 4, none⟩ = some (.slice b.ja b.jobs.length b.jc) ∧ W.cell? ⟨jb, 0, none⟩ = some (.int .i64 jt) ∧ W.cell? ⟨jb, 1, none⟩ = some (.bool true)) := fun W hx => ⟨(HH.out W (HBW.out W hx)).cell 2, (HH.out W (HBW.out W hx)).cell 3, (HH.out W (HBW.out W hx)).cell 4, (NC.out.j.below hx).cell 0, (NC.out.j.below hx).cell 1⟩
      have D0 : Hid (Below wB.heap.size wB wB.drew) := (Below.refl _ _).drew
      have HDD : Hid (∀ wx, Below w.heap.size w wx → Calls Try.prog 23 #[.agg #[.int .i64 b.last, .slice b.sa b.stays.length b.sc, .slice b.ja b.jobs.length b.jc], .agg #[.int .i64 jt, .bool true], .bool false] wx fun e w' => ∃ xs xj, e = .returned (.agg #[.int .i64 b.last, xs, xj]) ∧ OwnBook w' wx.heap.size xs xj (doneStays jt (true || false) b.stays) (doneJobs jt true (true || false) b.jobs) ∧ Below wx.heap.size wx w') := HDN.out false
      have HSZ : Hid (w.heap.size < wB.heap.size) := (N0.out.2.below NC.out.b).lt
      have HRB : Hid (∀ wx, Below wB.heap.size wB wx → Blk wx w.heap.size #[.int .i64 0, .slice none 0 0, .slice none 0 0] 25) := fun wx h => (N0.out.2.below NC.out.b).below h
      have HST3 : Hid (∀ wx, Below wB.heap.size wB wx → ∀ a c d : Value, (fun W : World => W.cell? ⟨hb, 2, none⟩ = some (.int .i64 b.last) ∧ W.cell? ⟨hb, 3, none⟩ = some (.slice b.sa b.stays.length b.sc) ∧ W.cell? ⟨hb, 4, none⟩ = some (.slice b.ja b.jobs.length b.jc) ∧ W.cell? ⟨jb, 0, none⟩ = some (.int .i64 jt) ∧ W.cell? ⟨jb, 1, none⟩ = some (.bool true)) (((wx.setCell ⟨w.heap.size, 0, none⟩ a).setCell ⟨w.heap.size, 1, none⟩ c).setCell ⟨w.heap.size, 2, none⟩ d)) := fun wx h a c d => by
        have n1 := HHB.out
        have n2 := HJB.out
        have hh := HH.out wx (HBW.out wx h)
        have hj := NC.out.j.below h
        have q1 := ((hh.other (c := w.heap.size) (by omega) 0 a).other (c := w.heap.size) (by omega) 1 c).other (c := w.heap.size) (by omega) 2 d
        have q2 := ((hj.other (c := w.heap.size) (by omega) 0 a).other (c := w.heap.size) (by omega) 1 c).other (c := w.heap.size) (by omega) 2 d
        exact ⟨q1.cell 2, q1.cell 3, q1.cell 4, q2.cell 0, q2.cell 1⟩
      generalize doneStays jt (true || false) b.stays = S2 at HPC HDD
      generalize doneJobs jt true (true || false) b.jobs = J2 at HPC HDD
      go_upto_region 40 with fail
      go_region_held3 (fun W => W.cell? ⟨hb, 2, none⟩ = some (.int .i64 b.last) ∧ W.cell? ⟨hb, 3, none⟩ = some (.slice b.sa b.stays.length b.sc) ∧ W.cell? ⟨hb, 4, none⟩ = some (.slice b.ja b.jobs.length b.jc) ∧ W.cell? ⟨jb, 0, none⟩ = some (.int .i64 jt) ∧ W.cell? ⟨jb, 1, none⟩ = some (.bool true)) (first | with_reducible exact HSB.out _ D0.out | with_reducible exact HSB.out _ BD.out | with_reducible exact HST3.out _ BD.out _ _ _ | go_keep)
        (first
          | (go_at_call 23; refine (HDD.out wB.drew (HBW.out _ D0.out)).mono ?_; rintro e wd ⟨xs, xj, rfl, ho, bd⟩; obtain ⟨a1, c1, hx1, _⟩ := ho.s.rows; obtain ⟨a2, c2, hx2, _⟩ := ho.j.rows; subst hx1 hx2; have BD : Hid (Below wB.heap.size wB wd) := B.next D0.out bd D0.out.size; have OD : Hid (OwnBook wd wB.drew.heap.size (.slice a1 S2.length c1) (.slice a2 J2.length c2) S2 J2) := ho; have gd := (HRB.out wd BD.out).cell; have fd := (HRB.out wd BD.out).free; clear ho bd))
      have HN1 : Hid (w.heap.size < wB.drew.heap.size) := Nat.lt_of_lt_of_le HSZ.out D0.out.size
      have HFIN : Hid (∀ a c d : Value, PP (.returned (.tuple #[.slice none 0 0, .agg #[.int .i64 b.last, .slice a1 S2.length c1, .slice a2 J2.length c2], .bool true])) (((wd.setCell ⟨w.heap.size, 0, none⟩ a).setCell ⟨w.heap.size, 1, none⟩ c).setCell ⟨w.heap.size, 2, none⟩ d)) := fun a c d =>
        HPC.out _ _ _ ⟨(((OD.out.s.set _ HN1.out).set _ HN1.out).set _ HN1.out).base (Nat.le_of_lt HN1.out), (((OD.out.j.set _ HN1.out).set _ HN1.out).set _ HN1.out).base (Nat.le_of_lt HN1.out), OD.out.ne⟩ (below_set (below_set (below_set (HBW.out _ BD.out) (Nat.le_refl _) _ _) (Nat.le_refl _) _ _) (Nat.le_refl _) _ _)
      go_wp2
      (try simp only [Exit.inBlock, Exit.then])
      rw [← HQB.out]
      refine bodyPost_ret (v := .tuple #[.slice none 0 0, .agg #[.int .i64 b.last, .slice a1 S2.length c1, .slice a2 J2.length c2], .bool true]) (by simp [results, Try.results51, go_sem, set3_0 gd, set3_1 gd, set3_2 gd]; try rfl) rfl ?_
      exact HFIN.out _ _ _
    cases hq
    case false =>
      have hov : overB s true vs = true := by unfold overB; rw [hhq]; rfl
      clear HPL0 HRET
      have HPC : Hid (∀ xs xj w', OwnBook w' w.heap.size xs xj (doneStays jt (true || false) b.stays) (doneJobs jt true (true || false) b.jobs) → Below w.heap.size w w' → PP (.returned (.tuple #[.slice none 0 0, .agg #[.int .i64 b.last, xs, xj], .bool true])) w') := HPC0.out false rfl ⟨hli, hsq, rfl, hov⟩
      have HBW : Hid (∀ X, Below wB.heap.size wB X → Below w.heap.size w X) := fun X hx => HW0.out X (B.next NC.out.b hx NC.out.b.size)
      have HSB : Hid (∀ W, Below wB.heap.size wB W → W.cell? ⟨hb, 2, none⟩ = some (.int .i64 b.last) ∧ W.cell? ⟨hb, 3, none⟩ = some (.slice b.sa b.stays.length b.sc) ∧ W.cell? ⟨hb, 4, none⟩ = some (.slice b.ja b.jobs.length b.jc) ∧ W.cell? ⟨jb, 0, none⟩ = some (.int .i64 jt) ∧ W.cell? ⟨jb, 1, none⟩ = some (.bool true)) := fun W hx => ⟨(HH.out W (HBW.out W hx)).cell 2, (HH.out W (HBW.out W hx)).cell 3, (HH.out W (HBW.out W hx)).cell 4, (NC.out.j.below hx).cell 0, (NC.out.j.below hx).cell 1⟩
      have D0 : Hid (Below wB.heap.size wB wB.drew) := (Below.refl _ _).drew
      have HDD : Hid (∀ wx, Below w.heap.size w wx → Calls Try.prog 23 #[.agg #[.int .i64 b.last, .slice b.sa b.stays.length b.sc, .slice b.ja b.jobs.length b.jc], .agg #[.int .i64 jt, .bool true], .bool false] wx fun e w' => ∃ xs xj, e = .returned (.agg #[.int .i64 b.last, xs, xj]) ∧ OwnBook w' wx.heap.size xs xj (doneStays jt (true || false) b.stays) (doneJobs jt true (true || false) b.jobs) ∧ Below wx.heap.size wx w') := HDN.out false
      have HSZ : Hid (w.heap.size < wB.heap.size) := (N0.out.2.below NC.out.b).lt
      have HRB : Hid (∀ wx, Below wB.heap.size wB wx → Blk wx w.heap.size #[.int .i64 0, .slice none 0 0, .slice none 0 0] 25) := fun wx h => (N0.out.2.below NC.out.b).below h
      have HST3 : Hid (∀ wx, Below wB.heap.size wB wx → ∀ a c d : Value, (fun W : World => W.cell? ⟨hb, 2, none⟩ = some (.int .i64 b.last) ∧ W.cell? ⟨hb, 3, none⟩ = some (.slice b.sa b.stays.length b.sc) ∧ W.cell? ⟨hb, 4, none⟩ = some (.slice b.ja b.jobs.length b.jc) ∧ W.cell? ⟨jb, 0, none⟩ = some (.int .i64 jt) ∧ W.cell? ⟨jb, 1, none⟩ = some (.bool true)) (((wx.setCell ⟨w.heap.size, 0, none⟩ a).setCell ⟨w.heap.size, 1, none⟩ c).setCell ⟨w.heap.size, 2, none⟩ d)) := fun wx h a c d => by
        have n1 := HHB.out
        have n2 := HJB.out
        have hh := HH.out wx (HBW.out wx h)
        have hj := NC.out.j.below h
        have q1 := ((hh.other (c := w.heap.size) (by omega) 0 a).other (c := w.heap.size) (by omega) 1 c).other (c := w.heap.size) (by omega) 2 d
        have q2 := ((hj.other (c := w.heap.size) (by omega) 0 a).other (c := w.heap.size) (by omega) 1 c).other (c := w.heap.size) (by omega) 2 d
        exact ⟨q1.cell 2, q1.cell 3, q1.cell 4, q2.cell 0, q2.cell 1⟩
      generalize doneStays jt (true || false) b.stays = S2 at HPC HDD
      generalize doneJobs jt true (true || false) b.jobs = J2 at HPC HDD
      go_upto_region 40 with fail
      go_region_held3 (fun W => W.cell? ⟨hb, 2, none⟩ = some (.int .i64 b.last) ∧ W.cell? ⟨hb, 3, none⟩ = some (.slice b.sa b.stays.length b.sc) ∧ W.cell? ⟨hb, 4, none⟩ = some (.slice b.ja b.jobs.length b.jc) ∧ W.cell? ⟨jb, 0, none⟩ = some (.int .i64 jt) ∧ W.cell? ⟨jb, 1, none⟩ = some (.bool true)) (first | with_reducible exact HSB.out _ D0.out | with_reducible exact HSB.out _ BD.out | with_reducible exact HST3.out _ BD.out _ _ _ | go_keep)
        (first
          | (go_at_call 23; refine (HDD.out wB.drew (HBW.out _ D0.out)).mono ?_; rintro e wd ⟨xs, xj, rfl, ho, bd⟩; obtain ⟨a1, c1, hx1, _⟩ := ho.s.rows; obtain ⟨a2, c2, hx2, _⟩ := ho.j.rows; subst hx1 hx2; have BD : Hid (Below wB.heap.size wB wd) := B.next D0.out bd D0.out.size; have OD : Hid (OwnBook wd wB.drew.heap.size (.slice a1 S2.length c1) (.slice a2 J2.length c2) S2 J2) := ho; have gd := (HRB.out wd BD.out).cell; have fd := (HRB.out wd BD.out).free; clear ho bd))
      have HN1 : Hid (w.heap.size < wB.drew.heap.size) := Nat.lt_of_lt_of_le HSZ.out D0.out.size
      have HFIN : Hid (∀ a c d : Value, PP (.returned (.tuple #[.slice none 0 0, .agg #[.int .i64 b.last, .slice a1 S2.length c1, .slice a2 J2.length c2], .bool true])) (((wd.setCell ⟨w.heap.size, 0, none⟩ a).setCell ⟨w.heap.size, 1, none⟩ c).setCell ⟨w.heap.size, 2, none⟩ d)) := fun a c d =>
        HPC.out _ _ _ ⟨(((OD.out.s.set _ HN1.out).set _ HN1.out).set _ HN1.out).base (Nat.le_of_lt HN1.out), (((OD.out.j.set _ HN1.out).set _ HN1.out).set _ HN1.out).base (Nat.le_of_lt HN1.out), OD.out.ne⟩ (below_set (below_set (below_set (HBW.out _ BD.out) (Nat.le_refl _) _ _) (Nat.le_refl _) _ _) (Nat.le_refl _) _ _)
      go_wp2
      (try simp only [Exit.inBlock, Exit.then])
      rw [← HQB.out]
      refine bodyPost_ret (v := .tuple #[.slice none 0 0, .agg #[.int .i64 b.last, .slice a1 S2.length c1, .slice a2 J2.length c2], .bool true]) (by simp [results, Try.results51, go_sem, set3_0 gd, set3_1 gd, set3_2 gd]; try rfl) rfl ?_
      exact HFIN.out _ _ _
    have hov : overB s true vs = false := by unfold overB; rw [hhq, hb6]; rfl
    clear HPC0 HDN
    by_cases hba : s.ba = 0
    case neg =>
      have hbz : (s.ba != 0) = true := by simpa using hba
      cases hop : s.op
      · rw [hop] at rb3
        have hF : FetchQ s vs gWel := by unfold FetchQ welG; rw [if_pos hba, hop]; rfl
        go_wp2_with fail
        clear rb3 rb6 rj
        refine (rwelcome_any _).mono ?_
        rintro e w9 ⟨v, rfl, ho⟩
        have X : Hid (Below w0.heap.size w0 w9 ∧ RNextL b s ll true jt true vs (gWel) ∧ Goals w9 v (gWel)) := ⟨B.next NC.out.b ho.2 NC.out.b.size, Or.inr (Or.inr (Or.inr ⟨hli, hsq, rfl, hov, Or.inl ⟨rfl, hF⟩⟩)), Or.inr (ho.at (Nat.zero_lt_succ _) (Nat.le_of_ble_eq_true rfl))⟩
        clear ho NC
        have gg := (N0.out.2.below X.out.1).cell
        have ff := (N0.out.2.below X.out.1).free
        obtain ⟨wF, hwF⟩ : ∃ wF, ((w9.setCell ⟨w.heap.size, 0, none⟩ (.int .i64 0)).setCell ⟨w.heap.size, 1, none⟩ (.slice none 0 0)).setCell ⟨w.heap.size, 2, none⟩ (.slice none 0 0) = wF := ⟨_, rfl⟩
        have XF : Hid (PP (.returned (.tuple #[v, .agg #[.int .i64 0, .slice none 0 0, .slice none 0 0], .bool false])) wF ∧ Blk wF w.heap.size #[.int .i64 0, .slice none 0 0, .slice none 0 0] 25) := by
          show _ ∧ _
          rw [← hwF]
          exact ⟨HRET.out _ _ _ X.out.1 X.out.2.1 X.out.2.2, Blk.cast ((((N0.out.2.below X.out.1).set 0 (.int .i64 0)).set 1 (.slice none 0 0)).set 2 (.slice none 0 0)) (by kernel_rfl)⟩
        clear X
        go_wp2
        (try simp only [Exit.inBlock, Exit.then])
        have gF := XF.out.2.cell
        rw [← HQB.out]
        refine bodyPost_ret (v := .tuple #[v, .agg #[.int .i64 0, .slice none 0 0, .slice none 0 0], .bool false]) (by simp [results, Try.results51, go_sem, gF]; try rfl) rfl ?_
        exact XF.out.1
      · rw [hop] at rb3
        have hF : FetchQ s vs [] := by unfold FetchQ welG; rw [if_pos hba, hop]; rfl
        have X : Hid (Below w0.heap.size w0 wB ∧ RNextL b s ll true jt true vs [] ∧ Goals wB (.slice none 0 0) []) := ⟨NC.out.b, Or.inr (Or.inr (Or.inr ⟨hli, hsq, rfl, hov, Or.inl ⟨rfl, hF⟩⟩)), Goals.nil _⟩
        have gg := (N0.out.2.below X.out.1).cell
        have ff := (N0.out.2.below X.out.1).free
        obtain ⟨wF, hwF⟩ : ∃ wF, ((wB.setCell ⟨w.heap.size, 0, none⟩ (.int .i64 0)).setCell ⟨w.heap.size, 1, none⟩ (.slice none 0 0)).setCell ⟨w.heap.size, 2, none⟩ (.slice none 0 0) = wF := ⟨_, rfl⟩
        have XF : Hid (PP (.returned (.tuple #[.slice none 0 0, .agg #[.int .i64 0, .slice none 0 0, .slice none 0 0], .bool false])) wF ∧ Blk wF w.heap.size #[.int .i64 0, .slice none 0 0, .slice none 0 0] 25) := by
          show _ ∧ _
          rw [← hwF]
          exact ⟨HRET.out _ _ _ X.out.1 X.out.2.1 X.out.2.2, Blk.cast ((((N0.out.2.below X.out.1).set 0 (.int .i64 0)).set 1 (.slice none 0 0)).set 2 (.slice none 0 0)) (by kernel_rfl)⟩
        clear X
        go_wp2
        (try simp only [Exit.inBlock, Exit.then])
        have gF := XF.out.2.cell
        rw [← HQB.out]
        refine bodyPost_ret (v := .tuple #[.slice none 0 0, .agg #[.int .i64 0, .slice none 0 0, .slice none 0 0], .bool false]) (by simp [results, Try.results51, go_sem, gF]; try rfl) rfl ?_
        exact XF.out.1
    have hbz : (s.ba != 0) = false := by simpa using hba
    have HBA : Hid (s.ba = 0) := hba
    clear hba
    cases hop : s.op
    case true =>
      rw [hop] at rb3
      have hF : FetchQ s vs [(5, 0)] := by unfold FetchQ; rw [if_neg (by simp [HBA.out]), if_pos hop]
      obtain ⟨w9, hw9⟩ : ∃ w9, wB.alloc (.cells #[.int .i64 5, .int .i64 0] 177) = w9 := ⟨_, rfl⟩
      obtain ⟨gb, hgb⟩ : ∃ gb, wB.heap.size = gb := ⟨_, rfl⟩
      have X : Hid (Below w0.heap.size w0 w9 ∧ RNextL b s ll true jt true vs [(5, 0)] ∧ Goals w9 (.slice (some ⟨gb, 0, none⟩) 1 1) [(5, 0)]) := by
        show _ ∧ _ ∧ _
        refine ⟨by rw [← hw9]; exact NC.out.b.alloc NC.out.b.size _, Or.inr (Or.inr (Or.inr ⟨hli, hsq, rfl, hov, Or.inl ⟨rfl, hF⟩⟩)), Or.inr ⟨gb, 1, rfl, by rw [← hw9, ← hgb]; simp, by decide, fun k hk => ?_⟩⟩
        obtain rfl : k = 0 := by simpa using hk
        rw [← hw9, ← hgb]
        simp
      have gg := (N0.out.2.below X.out.1).cell
      have ff := (N0.out.2.below X.out.1).free
      obtain ⟨wF, hwF⟩ : ∃ wF, ((w9.setCell ⟨w.heap.size, 0, none⟩ (.int .i64 0)).setCell ⟨w.heap.size, 1, none⟩ (.slice none 0 0)).setCell ⟨w.heap.size, 2, none⟩ (.slice none 0 0) = wF := ⟨_, rfl⟩
      have XF : Hid (PP (.returned (.tuple #[.slice (some ⟨gb, 0, none⟩) 1 1, .agg #[.int .i64 0, .slice none 0 0, .slice none 0 0], .bool false])) wF ∧ Blk wF w.heap.size #[.int .i64 0, .slice none 0 0, .slice none 0 0] 25) := by
        show _ ∧ _
        rw [← hwF]
        exact ⟨HRET.out _ _ _ X.out.1 X.out.2.1 X.out.2.2, Blk.cast ((((N0.out.2.below X.out.1).set 0 (.int .i64 0)).set 1 (.slice none 0 0)).set 2 (.slice none 0 0)) (by kernel_rfl)⟩
      clear X
      go_wp2
      (try simp only [Exit.inBlock, Exit.then])
      have gF := XF.out.2.cell
      rw [← HQB.out]
      refine bodyPost_ret (v := .tuple #[.slice (some ⟨gb, 0, none⟩) 1 1, .agg #[.int .i64 0, .slice none 0 0, .slice none 0 0], .bool false]) (by simp [results, Try.results51, go_sem, gF]; try rfl) rfl ?_
      exact XF.out.1
    rw [hop] at rb3
    go_wp2_with fail
    clear rb3 rb6 rj
    refine (HWH.out HVI.out.2 _ (HW0.out _ NC.out.b)).mono ?_
    rintro e wD ⟨x, y, z, ok, rfl, hw, bD⟩
    have KF : Hid (∀ l, ((ok = false ∧ l = []) ∨ (ok = true ∧ l = if (z == 1 && carOf s.D x y 0 != 0) = true then gThere 3 x y 0 else gThere 3 x y z)) → RNextL b s ll true jt true vs l) := fun l hl => Or.inr (Or.inr (Or.inr ⟨hli, hsq, rfl, hov, Or.inl ⟨rfl, by unfold FetchQ; rw [if_neg (by simp [HBA.out]), if_neg (by simp [hop])]; exact ⟨x, y, z, ok, hw, hl⟩⟩⟩))
    obtain ⟨wE, hwE⟩ : ∃ wE, wD.alloc (.cells #[.int .i64 x, .int .i64 y, .int .i64 z] 38) = wE := ⟨_, rfl⟩
    obtain ⟨ab, hab⟩ : ∃ ab, wD.heap.size = ab := ⟨_, rfl⟩
    have NE : Hid (RN w0 wE sp jb ll jt true ∧ Blk wE ab #[.int .i64 x, .int .i64 y, .int .i64 z] 38) := by
      show _ ∧ _
      rw [← hwE]
      exact ⟨(NC.out.next bD).next (B.new1 _ _), Blk.new1 hab.symm _ _⟩
    have HAB : Hid (w0.heap.size ≤ ab) := by
      show _ ≤ _
      rw [← hab]
      exact Nat.le_trans NC.out.b.size bD.size
    have HWE : Hid (wD.alloc (.cells #[.int .i64 x, .int .i64 y, .int .i64 z] 38) = wE) := hwE
    clear hwE bD NC
    go_upto_region 48 with fail
    simp only [HWE.out, hab]
    clear HWE hab
    cases ok
    · clear hw
      have X : Hid (Below w0.heap.size w0 wE ∧ RNextL b s ll true jt true vs [] ∧ Goals wE (.slice none 0 0) []) := ⟨NE.out.1.b, KF.out [] (Or.inl ⟨rfl, rfl⟩), Goals.nil _⟩
      have gg := (N0.out.2.below X.out.1).cell
      have ff := (N0.out.2.below X.out.1).free
      obtain ⟨wF, hwF⟩ : ∃ wF, ((wE.setCell ⟨w.heap.size, 0, none⟩ (.int .i64 0)).setCell ⟨w.heap.size, 1, none⟩ (.slice none 0 0)).setCell ⟨w.heap.size, 2, none⟩ (.slice none 0 0) = wF := ⟨_, rfl⟩
      have XF : Hid (PP (.returned (.tuple #[.slice none 0 0, .agg #[.int .i64 0, .slice none 0 0, .slice none 0 0], .bool false])) wF ∧ Blk wF w.heap.size #[.int .i64 0, .slice none 0 0, .slice none 0 0] 25) := by
        show _ ∧ _
        rw [← hwF]
        exact ⟨HRET.out _ _ _ X.out.1 X.out.2.1 X.out.2.2, Blk.cast ((((N0.out.2.below X.out.1).set 0 (.int .i64 0)).set 1 (.slice none 0 0)).set 2 (.slice none 0 0)) (by kernel_rfl)⟩
      clear X
      go_wp2
      (try simp only [Exit.inBlock, Exit.then])
      have gF := XF.out.2.cell
      rw [← HQB.out]
      refine bodyPost_ret (v := .tuple #[.slice none 0 0, .agg #[.int .i64 0, .slice none 0 0, .slice none 0 0], .bool false]) (by simp [results, Try.results51, go_sem, gF]; try rfl) rfl ?_
      exact XF.out.1
    have HP3 : Hid ((1 ≤ x ∧ x ≤ 4) ∧ (0 ≤ y ∧ y ≤ 1) ∧ (0 ≤ z ∧ z ≤ 1)) := rwhere_in hw
    clear hw
    have HAX : Hid (∀ wx, Below w.heap.size w wx → Calls Try.prog 107 #[.pointer (some ⟨rb, 0, none⟩), .agg #[.int .i64 x, .int .i64 y, .int .i64 0]] wx fun e w' => e = .returned (.int .i64 (carOf s.D x y 0)) ∧ Below wx.heap.size wx w') := HAT.out x y 0 ⟨Int.le_trans (by decide) HP3.out.1.1, HP3.out.1.2⟩ HP3.out.2.1 (by decide)
    obtain ⟨cx, hcx⟩ : ∃ cx, carOf s.D x y 0 = cx := ⟨_, rfl⟩
    rw [hcx] at HAX KF
    clear hcx
    obtain ⟨q2, hq2⟩ : ∃ q2, (z == 1 && cx != 0) = q2 := ⟨_, rfl⟩
    have K2 : Hid (q2 = (z == 1 && cx != 0)) := hq2.symm
    rw [hq2] at KF
    clear hq2
    have HF : Hid (RNextL b s ll true jt true vs (if q2 = true then gThere 3 x y 0 else gThere 3 x y z)) := KF.out _ (Or.inr ⟨rfl, rfl⟩)
    clear KF
    obtain ⟨wF, hwF⟩ : ∃ wF, wE.alloc (.cells #[.int .i64 x, .int .i64 y, .int .i64 0] 38) = wF := ⟨_, rfl⟩
    obtain ⟨fb, hfb⟩ : ∃ fb, wE.heap.size = fb := ⟨_, rfl⟩
    have NF : Hid (RN w0 wF sp jb ll jt true ∧ Blk wF ab #[.int .i64 x, .int .i64 y, .int .i64 z] 38 ∧ Blk wF fb #[.int .i64 x, .int .i64 y, .int .i64 0] 38 ∧ w0.heap.size ≤ ab) := by
      show _ ∧ _ ∧ _ ∧ _
      rw [← hwF]
      exact ⟨NE.out.1.next (B.new1 _ _), NE.out.2.old _, Blk.new1 hfb.symm _ _, HAB.out⟩
    have HWF : Hid (wE.alloc (.cells #[.int .i64 x, .int .i64 y, .int .i64 0] 38) = wF) := hwF
    have re := NE.out.2.cell
    clear hwF NE
    go_upto_region 52 with fail
    simp only [HWF.out, hfb]
    clear HWF hfb re
    go_cut [248] from 239 to 248 (fun s248 wx => s248 = .bool q2 ∧ Hid (RN w0 wx sp jb ll jt true ∧ Blk wx ab #[.int .i64 x, .int .i64 y, .int .i64 z] 38 ∧ Blk wx fb #[.int .i64 x, .int .i64 y, .int .i64 0] 38 ∧ w0.heap.size ≤ ab))
    case first =>
      clear HPL0 HRET HF HAT
      have ra := NF.out.2.1.cell
      have rf := NF.out.2.2.1.cell
      cases c1 : (z == 1)
      · rw [c1] at K2
        go_wp2
        go_meet
        exact ⟨congrArg Value.bool (by rw [K2.out]; rfl), NF⟩
      · rw [c1] at K2
        go_wp2_with fail
        clear ra rf
        refine (HAX.out _ (HW0.out _ NF.out.1.b)).mono ?_
        rintro e wG ⟨rfl, bG⟩
        have NG : Hid (RN w0 wG sp jb ll jt true ∧ Blk wG ab #[.int .i64 x, .int .i64 y, .int .i64 z] 38 ∧ Blk wG fb #[.int .i64 x, .int .i64 y, .int .i64 0] 38 ∧ w0.heap.size ≤ ab) := ⟨NF.out.1.next bG, NF.out.2.1.below bG, NF.out.2.2.1.below bG, NF.out.2.2.2⟩
        clear bG NF
        go_wp2
        go_meet
        exact ⟨congrArg Value.bool (by rw [K2.out]; rfl), NG⟩
    case rest =>
    clear NF K2 HAX
    obtain ⟨rfl, NF⟩ := hcut
    cases q2
    · have HN : Hid (RNextL b s ll true jt true vs (gThere 3 x y z)) := HF.out
      have rs := NF.out.2.1.cell
      go_wp2_with fail
      clear rs
      refine (there_any x y z 3 _ HP3.out.1.1 HP3.out.1.2 HP3.out.2.2.1 HP3.out.2.2.2).mono ?_
      rintro e w9 ⟨v, rfl, ho⟩
      have X : Hid (Below w0.heap.size w0 w9 ∧ RNextL b s ll true jt true vs (gThere 3 x y z) ∧ Goals w9 v (gThere 3 x y z)) := ⟨B.next NF.out.1.b ho.2 NF.out.1.b.size, HN.out, Or.inr (ho.at (Nat.zero_lt_succ _) (Nat.le_of_ble_eq_true rfl))⟩
      clear ho NF
      have gg := (N0.out.2.below X.out.1).cell
      have ff := (N0.out.2.below X.out.1).free
      obtain ⟨wF, hwF⟩ : ∃ wF, ((w9.setCell ⟨w.heap.size, 0, none⟩ (.int .i64 0)).setCell ⟨w.heap.size, 1, none⟩ (.slice none 0 0)).setCell ⟨w.heap.size, 2, none⟩ (.slice none 0 0) = wF := ⟨_, rfl⟩
      have XF : Hid (PP (.returned (.tuple #[v, .agg #[.int .i64 0, .slice none 0 0, .slice none 0 0], .bool false])) wF ∧ Blk wF w.heap.size #[.int .i64 0, .slice none 0 0, .slice none 0 0] 25) := by
        show _ ∧ _
        rw [← hwF]
        exact ⟨HRET.out _ _ _ X.out.1 X.out.2.1 X.out.2.2, Blk.cast ((((N0.out.2.below X.out.1).set 0 (.int .i64 0)).set 1 (.slice none 0 0)).set 2 (.slice none 0 0)) (by kernel_rfl)⟩
      clear X
      go_wp2
      (try simp only [Exit.inBlock, Exit.then])
      have gF := XF.out.2.cell
      rw [← HQB.out]
      refine bodyPost_ret (v := .tuple #[v, .agg #[.int .i64 0, .slice none 0 0, .slice none 0 0], .bool false]) (by simp [results, Try.results51, go_sem, gF]; try rfl) rfl ?_
      exact XF.out.1
    · have HN : Hid (RNextL b s ll true jt true vs (gThere 3 x y 0)) := HF.out
      have ra := NF.out.2.1.cell
      have fa := NF.out.2.1.free
      have rs := NF.out.2.2.1.cell
      have NH : Hid (Below w0.heap.size w0 (((wc.setCell ⟨ab, 0, none⟩ (.int .i64 x)).setCell ⟨ab, 1, none⟩ (.int .i64 y)).setCell ⟨ab, 2, none⟩ (.int .i64 0))) := (below_set (below_set (below_set NF.out.1.b NF.out.2.2.2 _ _) NF.out.2.2.2 _ _) NF.out.2.2.2 _ _)
      go_wp2_with fail
      clear rs ra fa
      refine (there_any x y 0 3 _ HP3.out.1.1 HP3.out.1.2 (by decide) (by decide)).mono ?_
      rintro e w9 ⟨v, rfl, ho⟩
      have X : Hid (Below w0.heap.size w0 w9 ∧ RNextL b s ll true jt true vs (gThere 3 x y 0) ∧ Goals w9 v (gThere 3 x y 0)) := ⟨B.next NH.out ho.2 NH.out.size, HN.out, Or.inr (ho.at (Nat.zero_lt_succ _) (Nat.le_of_ble_eq_true rfl))⟩
      clear ho NF NH
      have gg := (N0.out.2.below X.out.1).cell
      have ff := (N0.out.2.below X.out.1).free
      obtain ⟨wF, hwF⟩ : ∃ wF, ((w9.setCell ⟨w.heap.size, 0, none⟩ (.int .i64 0)).setCell ⟨w.heap.size, 1, none⟩ (.slice none 0 0)).setCell ⟨w.heap.size, 2, none⟩ (.slice none 0 0) = wF := ⟨_, rfl⟩
      have XF : Hid (PP (.returned (.tuple #[v, .agg #[.int .i64 0, .slice none 0 0, .slice none 0 0], .bool false])) wF ∧ Blk wF w.heap.size #[.int .i64 0, .slice none 0 0, .slice none 0 0] 25) := by
        show _ ∧ _
        rw [← hwF]
        exact ⟨HRET.out _ _ _ X.out.1 X.out.2.1 X.out.2.2, Blk.cast ((((N0.out.2.below X.out.1).set 0 (.int .i64 0)).set 1 (.slice none 0 0)).set 2 (.slice none 0 0)) (by kernel_rfl)⟩
      clear X
      go_wp2
      (try simp only [Exit.inBlock, Exit.then])
      have gF := XF.out.2.cell
      rw [← HQB.out]
      refine bodyPost_ret (v := .tuple #[v, .agg #[.int .i64 0, .slice none 0 0, .slice none 0 0], .bool false]) (by simp [results, Try.results51, go_sem, gF]; try rfl) rfl ?_
      exact XF.out.1

end Tn
end Go.Proofs.Ytihapeagjikiaaa
