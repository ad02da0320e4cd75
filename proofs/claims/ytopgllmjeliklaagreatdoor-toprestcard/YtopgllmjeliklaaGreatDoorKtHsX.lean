/- HsX. -/
import Derived.Test.YtopgllmjeliklaaGreatDoorKtHvH
set_option maxRecDepth 100000
set_option linter.unusedSimpArgs false
set_option linter.unusedVariables false
namespace Go.Proofs.YtopgllmjeliklaaGreatDoor
open Go.Shelf Go.Lib Go.ChangeShapes Go.WideShapes Go.ChangeAt Go.RowKit
namespace Hs
open Bk Lg Pl Dk Tx Tn Ac
def SettlePost (base pb mb db sb hb : Nat) (lv : List (Int × Int × Int)) (σ : Sg) (n : Nat) (w : World) (e : Ending) (w' : World) : Prop :=
 e = .returned (.tuple #[]) ∧ HFr base w w' ∧ ∃ σ', EndR lv.length σ σ' ∧ HX w' base pb mb db sb hb lv σ' (n + 2500)
theorem sense_some {base pb mb db sb hb n : Nat} {lv : List (Int × Int × Int)} {σ : Sg} {w : World} (h : HX w base pb mb db sb hb lv σ n) :
  Calls Tryz.prog 19 #[.pointer (some ⟨pb, 0, none⟩)] w fun e w' => (∃ x1 x2 x3 q1 q2 q3, e = .returned (.agg #[.int .i64 x1, .int .i64 x2, .bool σ.s.op, .int .i64 x3, .int .i64 σ.s.li, .int .i64 σ.s.ba, .bool q1, .bool q2, .bool q3])) ∧ Below w.heap.size w w' :=
 (sense_any pb mb n σ.s w h.p h.iv.ok).mono (by
   rintro e w' ⟨rfl, hb⟩; exact ⟨⟨_, _, _, _, _, _, rfl⟩, hb⟩)
theorem walkX {base pb mb db sb hb n : Nat} {lv : List (Int × Int × Int)} {σ : Sg} {w : World} (h : HX w base pb mb db sb hb lv σ n) (ho : σ.s.op = true) :
  Calls Tryz.prog 48 #[.pointer (some ⟨pb, 0, none⟩), .int .i64 (-9)] w fun e w' => e = .returned .nilIface ∧ HX w' base pb mb db sb hb lv ⟨walkS (-9) σ.s, σ.b, σ.gs⟩ n ∧ HFr base w w' :=
 (walk_any pb mb n σ.s (-9) w h.p h.iv.pe.1 h.iv.pe.2).mono (by
   rintro e w' ⟨rfl, p1, t1⟩; obtain ⟨a1, a2⟩ := h.turned t1 p1 (h.iv.walk (-9)); refine ⟨?_, a1, a2⟩; unfold walkE; rw [if_pos (by omega), if_pos ho])
theorem leaveX {base pb mb db sb hb n : Nat} {lv : List (Int × Int × Int)} {σ : Sg} {w : World} (h : HX w base pb mb db sb hb lv σ n) :
  Calls Tryz.prog 26 #[.pointer (some ⟨pb, 0, none⟩)] w fun e w' => (∃ x y, e = .returned (.tuple #[x, y])) ∧ HX w' base pb mb db sb hb lv ⟨leaveS σ.s, σ.b, σ.gs⟩ n ∧ HFr base w w' :=
 (leave_any pb mb n σ.s w h.p).mono (by
   rintro e w' ⟨rfl, p1, t1⟩; obtain ⟨a1, a2⟩ := h.turned t1 p1 h.iv.leave; exact ⟨⟨_, _, rfl⟩, a1, a2⟩)
theorem goalsX {base pb mb db sb hb n : Nat} {lv : List (Int × Int × Int)} {σ : Sg} {w : World} (h : HX w base pb mb db sb hb lv σ n) :
  Calls Tryz.prog 23 #[.pointer (some ⟨hb, 0, none⟩)] w fun e w' => ∃ a c, e = .returned (.slice a σ.gs.length c) ∧ Below w.heap.size w w' := by
 obtain ⟨L, secs, left, h⟩ := h; exact hgoals_any base pb mb n db sb L hb secs false left lv σ.s σ.b σ.gs w h
structure BkAt (w : World) (BB : Nat) (sa ja : Option Addr) (sc jc : Nat) (b : PB) : Prop where
 k : Blk w BB #[.int .i64 b.last, .slice sa b.stays.length sc, .slice ja b.jobs.length jc] 39
 a : Book.At ⟨b.last, sa, sc, ja, jc, b.stays, b.jobs⟩ w
theorem BkAt.below {w w' : World} {BB : Nat} {sa ja : Option Addr} {sc jc : Nat} {b : PB} (h : BkAt w BB sa ja sc jc b) (hB : Below w.heap.size w w') : BkAt w' BB sa ja sc jc b := ⟨h.k.below hB, h.a.below hB⟩
theorem bookX2 {base pb mb db sb hb n : Nat} {lv : List (Int × Int × Int)} {σ : Sg} {w : World} (h : HX w base pb mb db sb hb lv σ n) :
  Calls Tryz.prog 20 #[.pointer (some ⟨hb, 0, none⟩)] w fun e w' => ∃ sa sc ja jc, e = .returned (.agg #[.int .i64 σ.b.last, .slice sa σ.b.stays.length sc, .slice ja σ.b.jobs.length jc]) ∧ Book.At ⟨σ.b.last, sa, sc, ja, jc, σ.b.stays, σ.b.jobs⟩ w' ∧ Below w.heap.size w w' :=
 (bookX h).mono (by
   rintro e w' ⟨vs, vj, rfl, ho, hb⟩; obtain ⟨sa, sc, ja, jc, rfl, rfl, hat⟩ := own_at2 (last := σ.b.last) ho; exact ⟨sa, sc, ja, jc, rfl, hat, hb⟩)
theorem BkAt.stay {w : World} {BB : Nat} {sa ja : Option Addr} {sc jc : Nat} {b : PB} (h : BkAt w BB sa ja sc jc b) (i : Nat) (hi : i < b.stays.length) : ∃ g off, sa = some ⟨g, off, none⟩ ∧ ∀ j u, (Stay.enc b.stays[i]!)[j]? = some u → w.cell? ⟨g, off + i * 8 + j, none⟩ = some u := by
 obtain ⟨_, _, hc⟩ := h.a.1; obtain ⟨g, off, e, _, hcell⟩ := hc (by show 0 < b.stays.length; omega)
 exact ⟨g, off, e, fun j u hu => hcell i hi j u hu⟩
theorem BkAt.job {w : World} {BB : Nat} {sa ja : Option Addr} {sc jc : Nat} {b : PB} (h : BkAt w BB sa ja sc jc b) (i : Nat) (hi : i < b.jobs.length) : ∃ g off, ja = some ⟨g, off, none⟩ ∧ ∀ j u, (Job.enc b.jobs[i]!)[j]? = some u → w.cell? ⟨g, off + i * 2 + j, none⟩ = some u := by
 obtain ⟨_, _, hc⟩ := h.a.2; obtain ⟨g, off, e, _, hcell⟩ := hc (by show 0 < b.jobs.length; omega)
 exact ⟨g, off, e, fun j u hu => hcell i hi j u hu⟩
theorem BkAt.find {w : World} {BB : Nat} {sa ja : Option Addr} {sc jc : Nat} {b : PB} (h : BkAt w BB sa ja sc jc b) (t : Int) :
  Calls Tryz.prog 30 #[.agg #[.int .i64 b.last, .slice sa b.stays.length sc, .slice ja b.jobs.length jc], .int .i64 t] w fun e w' => e = .returned (.int .i64 (findI b.book t)) ∧ Below w.heap.size w w' :=
 find_any ⟨b.last, sa, sc, ja, jc, b.stays, b.jobs⟩ t w h.a
set_option maxHeartbeats 16000000 in
theorem settle_any (base pb mb db sb hb n : Nat) (lv : List (Int × Int × Int)) (σ : Sg) (w : World) (h : HX w base pb mb db sb hb lv σ n) (hn : n + 2500 < maxLen) (G : Glob w) (hbg : Tryz.prog.globals.size ≤ base) :
  Calls Tryz.prog 17 #[.pointer (some ⟨pb, 0, none⟩), .pointer (some ⟨hb, 0, none⟩)] w (SettlePost base pb mb db sb hb lv σ n w) := by
 have HEND : Hid (∀ w' σ' k, k ≤ n + 2500 → HFr base w w' → EndR lv.length σ σ' → HX w' base pb mb db sb hb lv σ' k → SettlePost base pb mb db sb hb lv σ n w (.returned (.tuple #[])) w') := fun w' σ' k hk h1 h2 h3 => ⟨rfl, h1, σ', h2, h3.le hk⟩
 generalize SettlePost base pb mb db sb hb lv σ n w = PP at *
 have HTK : Hid (∀ τ j W, HX W base pb mb db sb hb lv τ (n + j) → j < 2500 → HFr base w W → Calls Tryz.prog 21 #[.pointer (some ⟨hb, 0, none⟩)] W fun e w' => e = .returned .nilIface ∧ HFr base w w' ∧ ∃ σ', TickR lv.length τ σ' ∧ HX w' base pb mb db sb hb lv σ' (n + (j + 1))) := fun τ j W hx hj hf => (tickX hx (by omega) (G.below hf.b hbg) hbg).mono (by
  rintro e w' ⟨rfl, f2, σ', ht, h2⟩; exact ⟨rfl, hf.trans f2, σ', ht, h2⟩)
 have H0 : Hid (HX w base pb mb db sb hb lv σ (n + 0)) := h; clear h hn G hbg
 go_enter Tryz.func17, Tryz.ntmps17
 go_wp2_with fail
 go_loopg [4, 5, 6, 7, 8, 9] 2500 (fun q i p5 p6 p7 p8 p9 wr => ∃ (j : Nat) (τ : Sg), j + q = 2500 ∧ i = .int .i64 j ∧ Hid (HX wr base pb mb db sb hb lv τ (n + j)) ∧ Hid (SetN lv.length j σ τ) ∧ Hid (HFr base w wr))
 case atStart => exact ⟨0, σ, by omega, rfl, H0, rfl, HFr.refl _ _⟩
 case round =>
  clear H0; obtain ⟨j, τ, hj, rfl, HXi, HSi, HFi⟩ := hrel; have HJ : Hid (j + gk = 2500) := hj
  by_cases hlt : j < 2500
  case neg =>
   have hlt' : ¬ (j : Int) < 2500 := by omega
   have HQ : Hid (PP (.returned (.tuple #[])) wr) := HEND.out wr τ (n + j) (by omega) HFi.out (Or.inl (by rw [← show j = 2500 from by omega]; exact HSi.out)) HXi.out
   clear hj HTK HEND HXi HSi HFi; go_wp2; refine bodyPost_end (v := .tuple #[]) (by simp [results, Tryz.results17]; try rfl) rfl ?_; exact HQ.out
  have hlt' : (j : Int) < 2500 := by omega
  have HJL : Hid (j < 2500) := hlt; obtain ⟨s, b, gs⟩ := τ; have HSE := hidd (sense_some HXi.out); obtain ⟨op, HOP⟩ : ∃ o, Hid (s.op = o) := ⟨_, rfl⟩
  obtain ⟨li, HLI⟩ : ∃ o, Hid (s.li = o) := ⟨_, rfl⟩
  obtain ⟨ba, HBA⟩ : ∃ o, Hid (s.ba = o) := ⟨_, rfl⟩
  simp only [HOP.out, HLI.out, HBA.out] at HSE; clear hj hlt; go_wp2_with fail; refine HSE.out.mono ?_; rintro e w1 ⟨⟨x1, x2, x3, q1, q2, q3, rfl⟩, b1⟩
  go_upto_if 17 with fail
  obtain ⟨w2, hw2⟩ : ∃ w2, w1.alloc (.cells #[.int .i64 x1, .int .i64 x2, .bool op, .int .i64 x3, .int .i64 li, .int .i64 ba, .bool q1, .bool q2, .bool q3] 46) = w2 := ⟨_, rfl⟩
  obtain ⟨SB, hSB⟩ : ∃ SB, w1.heap.size = SB := ⟨_, rfl⟩
  have X2 : Hid (HX w2 base pb mb db sb hb lv ⟨s, b, gs⟩ (n + j) ∧ HFr base w w2 ∧ Blk w2 SB #[.int .i64 x1, .int .i64 x2, .bool op, .int .i64 x3, .int .i64 li, .int .i64 ba, .bool q1, .bool q2, .bool q3] 46) := by
   show _ ∧ _ ∧ _
   rw [← hw2, ← hSB]; have hB := B.next b1 (B.new1 w1 (.cells #[.int .i64 x1, .int .i64 x2, .bool op, .int .i64 x3, .int .i64 li, .int .i64 ba, .bool q1, .bool q2, .bool q3] 46)) b1.size; exact ⟨HXi.out.below hB, HFi.out.trans (HFr.of_below hB HXi.out.sz), Blk.new _ _ _⟩
  simp only [hw2, hSB]; clear HSE b1 hw2 hSB HXi HFi
  go_cut [5] from 18 to 19 (fun s5 wx => s5 = .pointer (some ⟨SB, 0, none⟩) ∧ ∃ s1, Hid (HX wx base pb mb db sb hb lv ⟨s1, b, gs⟩ (n + j) ∧ HFr base w wx ∧ Blk wx SB #[.int .i64 x1, .int .i64 x2, .bool op, .int .i64 x3, .int .i64 li, .int .i64 ba, .bool q1, .bool q2, .bool q3] 46) ∧ Hid (s1 = if op = true then walkS (-9) s else s))
  case first =>
   clear HTK HEND HSi HJ HJL
   cases op
   ·go_wp2_with fail
    go_meet
    exact ⟨rfl, s, X2, rfl⟩
   ·have HWK := hidd (walkX X2.out.1 HOP.out)
    go_wp2_with fail; refine HWK.out.mono ?_; rintro e w3 ⟨rfl, hx3, f3⟩; have X3 : Hid (HX w3 base pb mb db sb hb lv ⟨walkS (-9) s, b, gs⟩ (n + j) ∧ HFr base w w3 ∧ Blk w3 SB #[.int .i64 x1, .int .i64 x2, .bool true, .int .i64 x3, .int .i64 li, .int .i64 ba, .bool q1, .bool q2, .bool q3] 46) := ⟨hx3, X2.out.2.1.trans f3, f3.far _ _ _ (by decide) (by decide) (by decide) (by decide) (by decide) (by decide) X2.out.2.2⟩; clear HWK hx3 f3 X2; go_wp2_with fail
    go_meet
    exact ⟨rfl, _, X3, rfl⟩
  case rest =>
  clear X2; obtain ⟨rfl, s1, X3, HS1⟩ := hcut; have r3 := X3.out.2.2.cell; have HBK := hidd (bookX2 X3.out.1); go_wp2_with fail; refine HBK.out.mono ?_; rintro e w4 ⟨sa, sc, ja, jc, rfl, hat, b4⟩; clear HBK r3; go_wp2_with fail; obtain ⟨w5, hw5⟩ : ∃ w5, w4.alloc (.cells #[.int .i64 b.last, .slice sa b.stays.length sc, .slice ja b.jobs.length jc] 39) = w5 := ⟨_, rfl⟩
  obtain ⟨BB, hBB⟩ : ∃ BB, w4.heap.size = BB := ⟨_, rfl⟩
  have X5 : Hid ((HX w5 base pb mb db sb hb lv ⟨s1, b, gs⟩ (n + j) ∧ HFr base w w5) ∧ Blk w5 SB #[.int .i64 x1, .int .i64 x2, .bool op, .int .i64 x3, .int .i64 li, .int .i64 ba, .bool q1, .bool q2, .bool q3] 46 ∧ BkAt w5 BB sa ja sc jc b) := by
   show (_ ∧ _) ∧ _ ∧ _
   rw [← hw5, ← hBB]; have hB := B.next b4 (B.new1 w4 (.cells #[.int .i64 b.last, .slice sa b.stays.length sc, .slice ja b.jobs.length jc] 39)) b4.size; exact ⟨⟨X3.out.1.below hB, X3.out.2.1.trans (HFr.of_below hB X3.out.1.sz)⟩, X3.out.2.2.below hB, Blk.new _ _ _, hat.below (B.new1 _ _)⟩
  simp only [hw5, hBB]; clear hat b4 hw5 hBB X3
  go_loopg [7, 8, 9] b.jobs.length (fun q s7 s8 s9 wr => ∃ (k : Nat), k + q = b.jobs.length ∧ s7 = .bool ((b.jobs.take k).any (waitJ b ba)) ∧ s8 = .int .i64 k ∧ Hid (Below w5.heap.size w5 wr))
  case atStart => exact ⟨0, by omega, by simp, rfl, Below.refl _ _⟩
  case round =>
   obtain ⟨k, hk, rfl, rfl, HBr⟩ := hrel; have HK : Hid (k + gk = b.jobs.length) := hk; have hj8 : b.jobs.length ≤ 8 := X5.out.1.1.ok.fewJ; have HSR : Hid (Blk wr SB #[.int .i64 x1, .int .i64 x2, .bool op, .int .i64 x3, .int .i64 li, .int .i64 ba, .bool q1, .bool q2, .bool q3] 46 ∧ BkAt wr BB sa ja sc jc b) := ⟨X5.out.2.1.below HBr.out, X5.out.2.2.below HBr.out⟩; have rS := HSR.out.1.cell; have rB := HSR.out.2.k.cell
   by_cases hlk : k < b.jobs.length
   ·have hlk' : (k : Int) < (b.jobs.length : Int) := by omega
    obtain ⟨jg, joff, rfl, hjc⟩ := HSR.out.2.job k hlk; have hcj := fun p : BelowW wr => (HSR.out.2.below p.hb).job k hlk
    have c0 : ∀ p : BelowW wr, p.wd.cell? ⟨jg, joff + k * 2, none⟩ = some (.int .i64 b.jobs[k]!.t) := fun p => by
     obtain ⟨g', o', e, hc⟩ := hcj p; injection e with e; injection e with e1 e2 _; subst e1 e2; exact hc 0 _ rfl
    have c1 : ∀ p : BelowW wr, p.wd.cell? ⟨jg, joff + k * 2 + 1, none⟩ = some (.bool b.jobs[k]!.f) := fun p => by
     obtain ⟨g', o', e, hc⟩ := hcj p; injection e with e; injection e with e1 e2 _; subst e1 e2; exact hc 1 _ rfl
    have f0 := fun p : BelowW wr => (HSR.out.2.below p.hb).k.cell 0
    have f1 := fun p : BelowW wr => (HSR.out.2.below p.hb).k.cell 1
    have f2 := fun p : BelowW wr => (HSR.out.2.below p.hb).k.cell 2
    have HFD : Hid (∀ p : BelowW wr, Calls Tryz.prog 30 #[.agg #[.int .i64 b.last, .slice sa b.stays.length sc, .slice (some ⟨jg, joff, none⟩) b.jobs.length jc], .int .i64 b.jobs[k]!.t] p.wd fun e w' => e = .returned (.int .i64 (findI b.book b.jobs[k]!.t)) ∧ Below p.wd.heap.size p.wd w') := fun p => (HSR.out.2.below p.hb).find _
    have HANY : Hid ((b.jobs.take (k + 1)).any (waitJ b ba) = ((b.jobs.take k).any (waitJ b ba) || (decide (0 ≤ findI b.book b.jobs[k]!.t) && (!b.jobs[k]!.f && b.stays[(findI b.book b.jobs[k]!.t).toNat]!.id == ba)))) := any_upto _ _ _ hlk
    have HFS : Hid (0 ≤ findI b.book b.jobs[k]!.t → (findI b.book b.jobs[k]!.t).toNat < b.stays.length) := fun h0 => (find_stay b _ h0).1
    clear hcj hjc hk; generalize b.jobs[k]!.t = jt at *; generalize b.jobs[k]!.f = jf at *; generalize findI b.book jt = fi at *; obtain ⟨qa, HQA⟩ : ∃ qa, Hid ((b.jobs.take k).any (waitJ b ba) = qa) := ⟨_, rfl⟩
    rw [HQA.out] at HANY ⊢; go_wp2_with fail; refine wp_region_below (by kernel_rfl) (by kernel_rfl) ?_
    repeat (go_big_quiet_step (first | (go_at_call 30; with_reducible exact Calls.wof (HFD.out _))))
    refine wpQuiet_nil ?_; rintro wq ⟨⟨_, NQ⟩, rfl⟩; have HBq : Hid (Below w5.heap.size w5 wq) := B.next HBr.out NQ HBr.out.size; have HSQ : Hid (Blk wq SB #[.int .i64 x1, .int .i64 x2, .bool op, .int .i64 x3, .int .i64 li, .int .i64 ba, .bool q1, .bool q2, .bool q3] 46 ∧ BkAt wq BB sa (some ⟨jg, joff, none⟩) sc jc b) := ⟨HSR.out.1.below NQ, HSR.out.2.below NQ⟩; have c1' : ∀ p : BelowW wq, p.wd.cell? ⟨jg, joff + k * 2 + 1, none⟩ = some (.bool jf) := fun p => c1 ⟨p.wd, B.next NQ p.hb NQ.size⟩
    have g1 := fun p : BelowW wq => (HSQ.out.2.below p.hb).k.cell 1
    have g2 := fun p : BelowW wq => (HSQ.out.2.below p.hb).k.cell 2
    have g5 := fun p : BelowW wq => (HSQ.out.1.below p.hb).cell 5
    clear c0 c1 f0 f1 f2 HFD rS rB NQ HSR HBr
    cases qa
    case true =>
     have HA2 : Hid ((b.jobs.take (k + 1)).any (waitJ b ba) = true) := by show _ = _; rw [HANY.out]; rfl
     go_wp2_with fail; refine wp_region_below (by kernel_rfl) (by kernel_rfl) ?_
     repeat (go_big_quiet_step (fail))
     refine wpQuiet_nil ?_; rintro wz ⟨⟨_, NZ⟩, rfl⟩; have HBz : Hid (Below w5.heap.size w5 wz) := B.next HBq.out NZ HBq.out.size; clear c1' g1 g2 g5 NZ; go_wp2
     go_roundg (b.jobs.length - (k + 1))
     case measure => have := HK.out; omega
     case rel => exact ⟨k + 1, by have := HK.out; omega, congrArg Value.bool HA2.out.symm, by go_num, HBz⟩
    case false =>
     by_cases hfi : (0 : Int) ≤ fi
     case neg =>
      have HA2 : Hid ((b.jobs.take (k + 1)).any (waitJ b ba) = false) := by show _ = _; rw [HANY.out]; simp; omega
      have hfi' : decide ((0 : Int) ≤ fi) = false := by simpa using hfi
      go_wp2_with fail; refine wp_region_below (by kernel_rfl) (by kernel_rfl) ?_
      repeat (go_big_quiet_step (fail))
      refine wpQuiet_nil ?_; rintro wz ⟨⟨_, NZ⟩, rfl⟩; have HBz : Hid (Below w5.heap.size w5 wz) := B.next HBq.out NZ HBq.out.size; clear c1' g1 g2 g5 NZ; go_wp2
      go_roundg (b.jobs.length - (k + 1))
      case measure => have := HK.out; omega
      case rel => exact ⟨k + 1, by have := HK.out; omega, congrArg Value.bool HA2.out.symm, by go_num, HBz⟩
     case pos =>
      cases jf
      case true =>
       have HA2 : Hid ((b.jobs.take (k + 1)).any (waitJ b ba) = false) := by show _ = _; rw [HANY.out]; simp
       go_wp2_with fail; refine wp_region_below (by kernel_rfl) (by kernel_rfl) ?_
       repeat (go_big_quiet_step (fail))
       refine wpQuiet_nil ?_; rintro wz ⟨⟨_, NZ⟩, rfl⟩; have HBz : Hid (Below w5.heap.size w5 wz) := B.next HBq.out NZ HBq.out.size; clear c1' g1 g2 g5 NZ; go_wp2
       go_roundg (b.jobs.length - (k + 1))
       case measure => have := HK.out; omega
       case rel => exact ⟨k + 1, by have := HK.out; omega, congrArg Value.bool HA2.out.symm, by go_num, HBz⟩
      case false =>
       obtain ⟨i, rfl⟩ : ∃ i : Nat, fi = (i : Int) := ⟨fi.toNat, by omega⟩
       have hi : i < b.stays.length := HFS.out hfi; have hi' : (i : Int) < (b.stays.length : Int) := by omega
       obtain ⟨sg, soff, rfl, _⟩ := HSQ.out.2.stay i hi
       have d1 : ∀ p : BelowW wq, p.wd.cell? ⟨sg, soff + i * 8 + 1, none⟩ = some (.int .i64 b.stays[i]!.id) := fun p => by
        obtain ⟨g', o', e, hc⟩ := (HSQ.out.2.below p.hb).stay i hi; injection e with e; injection e with e1 e2 _; subst e1 e2; exact hc 1 _ rfl
       have HA3 : Hid ((b.jobs.take (k + 1)).any (waitJ b ba) = (b.stays[i]!.id == ba)) := by
        show _ = _
        rw [HANY.out]
        simp
       generalize b.stays[i]!.id = vid at *
       by_cases hv : vid = ba
       ·have hv' : (vid == ba) = true := by simpa using hv
        have HA2 : Hid ((b.jobs.take (k + 1)).any (waitJ b ba) = true) := by show _ = _; rw [HA3.out, hv']
        clear HA3 HANY; go_wp2_with fail; refine wp_region_below (by kernel_rfl) (by kernel_rfl) ?_
        repeat (go_big_quiet_step (fail))
        refine wpQuiet_nil ?_; rintro wz ⟨⟨_, NZ⟩, rfl⟩; have HBz : Hid (Below w5.heap.size w5 wz) := B.next HBq.out NZ HBq.out.size; clear c1' g1 g2 g5 NZ; go_wp2
        go_roundg (b.jobs.length - (k + 1))
        case measure => have := HK.out; omega
        case rel => exact ⟨k + 1, by have := HK.out; omega, congrArg Value.bool HA2.out.symm, by go_num, HBz⟩
       ·have hv' : (vid == ba) = false := by simpa using hv
        have HA2 : Hid ((b.jobs.take (k + 1)).any (waitJ b ba) = false) := by show _ = _; rw [HA3.out, hv']
        clear HA3 HANY; go_wp2_with fail; refine wp_region_below (by kernel_rfl) (by kernel_rfl) ?_
        repeat (go_big_quiet_step (fail))
        refine wpQuiet_nil ?_; rintro wz ⟨⟨_, NZ⟩, rfl⟩; have HBz : Hid (Below w5.heap.size w5 wz) := B.next HBq.out NZ HBq.out.size; clear c1' g1 g2 g5 NZ; go_wp2
        go_roundg (b.jobs.length - (k + 1))
        case measure => have := HK.out; omega
        case rel => exact ⟨k + 1, by have := HK.out; omega, congrArg Value.bool HA2.out.symm, by go_num, HBz⟩
   ·have hlk' : ¬ (k : Int) < (b.jobs.length : Int) := by omega
    have hka : Hid ((b.jobs.take k).any (waitJ b ba) = waitsB b ba) := by
     show _ = _
     rw [List.take_of_length_le (by have := HK.out; omega)]
     rfl
    rw [hka.out]; have X6 : Hid (HX wr base pb mb db sb hb lv ⟨s1, b, gs⟩ (n + j) ∧ HFr base w wr) := ⟨X5.out.1.1.below HBr.out, X5.out.1.2.trans (HFr.of_below HBr.out X5.out.1.1.sz)⟩; obtain ⟨wt, HWT⟩ : ∃ wt, Hid (waitsB b ba = wt) := ⟨_, rfl⟩
    rw [HWT.out]; clear hk HK hka X5 HBr
    cases op
    case false =>
     have HPT : Hid (pre ⟨s, b, gs⟩ = ⟨s1, b, gs⟩) := by
      show (⟨preS b s, b, gs⟩ : Sg) = _
      rw [pre_shut HOP.out, HS1.out]
      rfl
     have XT := X6; have HT := hidd (HTK.out _ j wr XT.out.1 HJL.out XT.out.2); clear HTK HEND X6 XT; go_wp2_with fail; refine HT.out.mono ?_; rintro e w9 ⟨rfl, f9, σ9, ht, hx9⟩; have HX9 : Hid (HX w9 base pb mb db sb hb lv σ9 (n + (j + 1))) := hx9; have HS9 : Hid (SetN lv.length (j + 1) σ σ9) := ⟨_, HSi.out, by rw [HPT.out]; exact ht⟩
     have HF9 : Hid (HFr base w w9) := f9; clear HT f9 ht hx9; go_wp2_with fail
     go_roundg (2500 - (j + 1))
     case measure => have := HJ.out; omega
     case rel => exact ⟨j + 1, σ9, by have := HJ.out; omega, by go_num, HX9, HS9, HF9⟩
    case true =>
     by_cases hb0 : ba = 0
     ·subst hb0
      have HPT : Hid (pre ⟨s, b, gs⟩ = ⟨s1, b, gs⟩) := by
       show (⟨preS b s, b, gs⟩ : Sg) = _
       unfold preS; rw [if_pos HOP.out, if_neg (fun h => h.1 HBA.out), HS1.out]; rfl
      have XT := X6
      by_cases hl0 : li = 0
      ·subst hl0
       by_cases hjs : b.jobs.length = 0
       ·have hjs' : ((b.jobs.length : Int) == 0) = true := by simp [hjs]
        have HGO := hidd (goalsX X6.out.1); simp only at HGO; go_wp2_with fail; refine HGO.out.mono ?_; rintro e w7 ⟨ga, gc, rfl, b7⟩; have X7 : Hid (HX w7 base pb mb db sb hb lv ⟨s1, b, gs⟩ (n + j) ∧ HFr base w w7) := ⟨X6.out.1.below b7, X6.out.2.trans (HFr.of_below b7 X6.out.1.sz)⟩; clear HGO b7 XT; have XT := X7
        by_cases hgs : gs.length = 0
        ·have hgs' : ((gs.length : Int) == 0) = true := by simp [hgs]
         by_cases hj1 : 100 < j
         ·have hj1' : (100 : Int) < (j : Int) := by omega
          have HQ : Hid (PP (.returned (.tuple #[])) w7) := HEND.out w7 ⟨s1, b, gs⟩ (n + j) (by have := HJL.out; omega) X7.out.2 (Or.inr ⟨j, _, HSi.out, HPT.out.symm, HOP.out, HBA.out, HLI.out, List.length_eq_zero_iff.1 hjs, List.length_eq_zero_iff.1 hgs⟩) X7.out.1; clear HTK HEND X6 X7 XT HSi HPT; go_wp2; go_returns; exact HQ.out
         ·have hj1' : ¬ (100 : Int) < (j : Int) := by omega
          have HT := hidd (HTK.out _ j _ XT.out.1 HJL.out XT.out.2); clear HTK HEND X6 X7 XT; go_wp2_with fail; refine HT.out.mono ?_; rintro e w9 ⟨rfl, f9, σ9, ht, hx9⟩; have HX9 : Hid (HX w9 base pb mb db sb hb lv σ9 (n + (j + 1))) := hx9; have HS9 : Hid (SetN lv.length (j + 1) σ σ9) := ⟨_, HSi.out, by rw [HPT.out]; exact ht⟩
          have HF9 : Hid (HFr base w w9) := f9; clear HT f9 ht hx9; go_wp2_with fail
          go_roundg (2500 - (j + 1))
          case measure => have := HJ.out; omega
          case rel => exact ⟨j + 1, σ9, by have := HJ.out; omega, by go_num, HX9, HS9, HF9⟩
        ·have hgs' : ((gs.length : Int) == 0) = false := by rw [beq_eq_false_iff_ne]; omega
         have HT := hidd (HTK.out _ j _ XT.out.1 HJL.out XT.out.2); clear HTK HEND X6 X7 XT; go_wp2_with fail; refine HT.out.mono ?_; rintro e w9 ⟨rfl, f9, σ9, ht, hx9⟩; have HX9 : Hid (HX w9 base pb mb db sb hb lv σ9 (n + (j + 1))) := hx9; have HS9 : Hid (SetN lv.length (j + 1) σ σ9) := ⟨_, HSi.out, by rw [HPT.out]; exact ht⟩
         have HF9 : Hid (HFr base w w9) := f9; clear HT f9 ht hx9; go_wp2_with fail
         go_roundg (2500 - (j + 1))
         case measure => have := HJ.out; omega
         case rel => exact ⟨j + 1, σ9, by have := HJ.out; omega, by go_num, HX9, HS9, HF9⟩
       ·have hjs' : ((b.jobs.length : Int) == 0) = false := by rw [beq_eq_false_iff_ne]; omega
        have HT := hidd (HTK.out _ j _ XT.out.1 HJL.out XT.out.2); clear HTK HEND X6 XT; go_wp2_with fail; refine HT.out.mono ?_; rintro e w9 ⟨rfl, f9, σ9, ht, hx9⟩; have HX9 : Hid (HX w9 base pb mb db sb hb lv σ9 (n + (j + 1))) := hx9; have HS9 : Hid (SetN lv.length (j + 1) σ σ9) := ⟨_, HSi.out, by rw [HPT.out]; exact ht⟩
        have HF9 : Hid (HFr base w w9) := f9; clear HT f9 ht hx9; go_wp2_with fail
        go_roundg (2500 - (j + 1))
        case measure => have := HJ.out; omega
        case rel => exact ⟨j + 1, σ9, by have := HJ.out; omega, by go_num, HX9, HS9, HF9⟩
      ·have hl0' : (li == 0) = false := by simpa using hl0
       have HT := hidd (HTK.out _ j _ XT.out.1 HJL.out XT.out.2); clear HTK HEND X6 XT; go_wp2_with fail; refine HT.out.mono ?_; rintro e w9 ⟨rfl, f9, σ9, ht, hx9⟩; have HX9 : Hid (HX w9 base pb mb db sb hb lv σ9 (n + (j + 1))) := hx9; have HS9 : Hid (SetN lv.length (j + 1) σ σ9) := ⟨_, HSi.out, by rw [HPT.out]; exact ht⟩
       have HF9 : Hid (HFr base w w9) := f9; clear HT f9 ht hx9; go_wp2_with fail
       go_roundg (2500 - (j + 1))
       case measure => have := HJ.out; omega
       case rel => exact ⟨j + 1, σ9, by have := HJ.out; omega, by go_num, HX9, HS9, HF9⟩
     ·have hb0' : (ba == 0) = false := by simpa using hb0
      cases wt
      case true =>
       have HPT : Hid (pre ⟨s, b, gs⟩ = ⟨s1, b, gs⟩) := by
        show (⟨preS b s, b, gs⟩ : Sg) = _
        unfold preS; rw [if_pos HOP.out, HBA.out, HWT.out, if_neg (by simp), HS1.out]; rfl
       have XT := X6; have HT := hidd (HTK.out _ j _ XT.out.1 HJL.out XT.out.2); clear HTK HEND X6 XT; go_wp2_with fail; refine HT.out.mono ?_; rintro e w9 ⟨rfl, f9, σ9, ht, hx9⟩; have HX9 : Hid (HX w9 base pb mb db sb hb lv σ9 (n + (j + 1))) := hx9; have HS9 : Hid (SetN lv.length (j + 1) σ σ9) := ⟨_, HSi.out, by rw [HPT.out]; exact ht⟩
       have HF9 : Hid (HFr base w w9) := f9; clear HT f9 ht hx9; go_wp2_with fail
       go_roundg (2500 - (j + 1))
       case measure => have := HJ.out; omega
       case rel => exact ⟨j + 1, σ9, by have := HJ.out; omega, by go_num, HX9, HS9, HF9⟩
      case false =>
       have HLV := hidd (leaveX X6.out.1); go_wp2_with fail; refine HLV.out.mono ?_; rintro e w8 ⟨⟨y1, y2, rfl⟩, hx8, f8⟩
       have HPT : Hid (pre ⟨s, b, gs⟩ = ⟨leaveS s1, b, gs⟩) := by
        show (⟨preS b s, b, gs⟩ : Sg) = _
        unfold preS; rw [if_pos HOP.out, HBA.out, HWT.out, if_pos ⟨hb0, rfl⟩, HS1.out]; rfl
       have XT : Hid (HX w8 base pb mb db sb hb lv ⟨leaveS s1, b, gs⟩ (n + j) ∧ HFr base w w8) := ⟨hx8, X6.out.2.trans f8⟩; have HS8 : Hid (Blk w8 SB #[.int .i64 x1, .int .i64 x2, .bool true, .int .i64 x3, .int .i64 li, .int .i64 ba, .bool q1, .bool q2, .bool q3] 46) := f8.far _ _ _ (by decide) (by decide) (by decide) (by decide) (by decide) (by decide) HSR.out.1; have r8 := HS8.out.cell; clear HLV hx8 f8 rS rB; have HT := hidd (HTK.out _ j _ XT.out.1 HJL.out XT.out.2); clear HTK HEND X6 XT; go_wp2_with fail; refine HT.out.mono ?_; rintro e w9 ⟨rfl, f9, σ9, ht, hx9⟩; have HX9 : Hid (HX w9 base pb mb db sb hb lv σ9 (n + (j + 1))) := hx9; have HS9 : Hid (SetN lv.length (j + 1) σ σ9) := ⟨_, HSi.out, by rw [HPT.out]; exact ht⟩
       have HF9 : Hid (HFr base w w9) := f9; clear HT f9 ht hx9; go_wp2_with fail
       go_roundg (2500 - (j + 1))
       case measure => have := HJ.out; omega
       case rel => exact ⟨j + 1, σ9, by have := HJ.out; omega, by go_num, HX9, HS9, HF9⟩
end Hs
end Go.Proofs.YtopgllmjeliklaaGreatDoor
