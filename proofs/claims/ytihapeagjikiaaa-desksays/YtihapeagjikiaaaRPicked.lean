/- The document's Picked (E3): the first place that is free, in a right book; contract for the laws. -/
import Derived.Test.YtihapeagjikiaaaPick
import Derived.Test.YtihapeagjikiaaaRPlaces
import Derived.Test.YtihapeagjikiaaaRPickPure
import Derived.Test.YtihapeagjikiaaaTopOverA
import Derived.Deep.DeepCutAuto
import Derived.Deep.LoopGhost
namespace Go.Proofs.Ytihapeagjikiaaa
open Go.Shelf Go.Lib Go.ChangeShapes Go.WideShapes Go.ChangeAt Go.RowKit
set_option maxRecDepth 100000
set_option linter.unusedSimpArgs false
set_option linter.unusedVariables false

namespace Bk
/-- Behind so many jobs, by the document. -/
def rjobsTo (jobs : List Job) (px py : Int) (s : Stay) (q : Bool) : Nat → Bool
  | 0 => q
  | n + 1 => rjobsTo jobs px py s q n && !rfillP px py s jobs[n]!
/-- Behind so many stays, by the document. -/
def rfreeTo (b : Book) (px py pz : Int) (q : Bool) : Nat → Bool
  | 0 => q
  | k + 1 => rjobsTo b.jobs px py b.stays[k]! (rfreeTo b px py pz q k && !rhasP px py pz b.stays[k]!) b.jobs.length
theorem rjobsTo_eq (jobs : List Job) (px py : Int) (s : Stay) (q : Bool) : ∀ n, n ≤ jobs.length → rjobsTo jobs px py s q n = (q && !(jobs.take n).any (rfillP px py s))
  | 0, _ => by simp [rjobsTo]
  | n + 1, h => by
    have ih := rjobsTo_eq jobs px py s q n (by omega)
    have hn : n < jobs.length := by omega
    unfold rjobsTo
    rw [ih, List.take_succ_eq_append_getElem hn, getElem!_pos jobs n hn]
    simp only [List.any_append, List.any_cons, List.any_nil, Bool.or_false]
    generalize (jobs.take n).any _ = r
    generalize rfillP px py s jobs[n] = r1
    cases q <;> cases r <;> cases r1 <;> rfl
theorem rfreeTo_eq (b : Book) (px py pz : Int) (q : Bool) : ∀ k, k ≤ b.stays.length → rfreeTo b px py pz q k = (q && !(b.stays.take k).any (rbarP px py pz b.jobs))
  | 0, _ => by simp [rfreeTo]
  | k + 1, h => by
    have ih := rfreeTo_eq b px py pz q k (by omega)
    have hk : k < b.stays.length := by omega
    unfold rfreeTo
    rw [ih, rjobsTo_eq _ _ _ _ _ _ (Nat.le_refl _), List.take_length, List.take_succ_eq_append_getElem hk, getElem!_pos b.stays k hk]
    simp only [List.any_append, List.any_cons, List.any_nil, Bool.or_false, rbarP]
    generalize (b.stays.take k).any _ = r
    generalize rhasP px py pz b.stays[k] = r1
    generalize b.jobs.any _ = r2
    cases q <;> cases r <;> cases r1 <;> cases r2 <;> rfl
theorem rfreeTo_ok (b : Book) (f : Nat → Int × Int × Int) (ca cb cc : Int) (p : Int × Int × Int) (j : Nat) (hj : (p.1 - 1).toNat = j) {last : Int} {n : Nat} (hs : StaysOK last n b.stays) (hp : p.2.2 = 0 ∨ p.2.2 = 1) : rfreeTo b p.1 p.2.1 p.2.2 (fitsB ca cb cc (f j).1 (f j).2.1 (f j).2.2) b.stays.length = okP b f ca cb cc p := by
  rw [rfreeTo_eq _ _ _ _ _ _ (Nat.le_refl _), List.take_length, rbarred_eq hs _ _ _ hp]
  unfold okP
  rw [hj]

set_option maxHeartbeats 8000000 in
theorem rpicked_any (b : Book) (lv : Value) (len : Nat) (f : Nat → Int × Int × Int) (ci ca cb cc : Int) (w : World) (hb : b.At w) (hs : SizesAt w lv len f) (hl1 : 1 ≤ len) (hl4 : len ≤ 4) (lst : Int) (hok : StaysOK lst len b.stays) :
    Calls Try.prog 15 #[b.val, lv, .agg #[.int .i64 ci, .int .i64 ca, .int .i64 cb, .int .i64 cc]] w fun e w' => e = .returned (pickV (pickO b f ca cb cc len)) ∧ Below w.heap.size w w' := by
  obtain ⟨last, sa, sc, ja, jc, stays, jobs⟩ := b
  simp only [Book.val] at *
  have HSR : Hid (∀ wx, Below w.heap.size w wx → RowsAt wx sa sc 8 Stay.enc stays) := fun wx h => hb.1.below h
  have HJR : Hid (∀ wx, Below w.heap.size w wx → RowsAt wx ja jc 2 Job.enc jobs) := fun wx h => hb.2.below h
  have HOK : Hid (StaysOK lst len stays) := hok
  obtain ⟨la, lcap, rfl, hll, hlm, hlc⟩ := hs
  unfold maxLen at hlm
  have hm1 := hb.1.2.1; have hm0 := hb.1.1; have hm2 := hb.2.2.1; have hm3 := hb.2.1
  unfold maxLen at hm1 hm2
  obtain ⟨w0, hw0⟩ : ∃ w0, ((w.alloc (.cells #[.int .i64 last, .slice sa stays.length sc, .slice ja jobs.length jc] 25)).alloc (.cells #[.int .i64 ci, .int .i64 ca, .int .i64 cb, .int .i64 cc] 30)).alloc (.cells #[.int .i64 0, .int .i64 0, .int .i64 0] 38) = w0 := ⟨_, rfl⟩
  have N0 : Hid (Below w.heap.size w w0 ∧ Blk w0 w.heap.size #[.int .i64 last, .slice sa stays.length sc, .slice ja jobs.length jc] 25 ∧ Blk w0 (w.heap.size + 1) #[.int .i64 ci, .int .i64 ca, .int .i64 cb, .int .i64 cc] 30 ∧ Blk w0 (w.heap.size + 1 + 1) #[.int .i64 0, .int .i64 0, .int .i64 0] 38) := by
    show _ ∧ _ ∧ _ ∧ _
    rw [← hw0]
    exact ⟨((B.new1 _ _).alloc (by simp) _).alloc (by simp; omega) _, ((Blk.new _ _ _).old _).old _, (Blk.new1 (by simp) _ _).old _, Blk.new1 (by simp) _ _⟩
  obtain ⟨lb, loff, rfl, hlb, hcell⟩ := hlc (by omega)
  have HL : Hid (∀ j, j < len → ∀ wx, Below w.heap.size w wx → wx.cell? ⟨lb, loff + j * 3, none⟩ = some (.int .i64 (f j).1) ∧ wx.cell? ⟨lb, loff + j * 3 + 1, none⟩ = some (.int .i64 (f j).2.1) ∧ wx.cell? ⟨lb, loff + j * 3 + 2, none⟩ = some (.int .i64 (f j).2.2)) := fun j hj wx hbx => ⟨(hbx.cell (p := ⟨lb, _, none⟩) hlb).trans (hcell j hj).1, (hbx.cell (p := ⟨lb, _, none⟩) hlb).trans (hcell j hj).2.1, (hbx.cell (p := ⟨lb, _, none⟩) hlb).trans (hcell j hj).2.2⟩
  have hplen := places_len len hl1 hl4
  have HG : Hid (∀ i, i < 4 * len - 2 → goodAt len i (fun k => (placesTo len (2 * len)).getD k (0, 0, 0))) := places_good len hl1 hl4
  have HPP : Hid (∀ o, (placesTo len (2 * len)).find? (okP ⟨last, sa, sc, ja, jc, stays, jobs⟩ f ca cb cc) = o → ∀ w', Below w.heap.size w w' → Ending.returned (pickV o) = .returned (pickV (pickO ⟨last, sa, sc, ja, jc, stays, jobs⟩ f ca cb cc len)) ∧ Below w.heap.size w w') := fun o ho w' h => by subst ho; exact ⟨rfl, h⟩
  generalize hPP : (fun (e : Ending) (w' : World) => e = .returned (pickV (pickO ⟨last, sa, sc, ja, jc, stays, jobs⟩ f ca cb cc len)) ∧ Below w.heap.size w w') = PP
  have HP : Hid (∀ o, (placesTo len (2 * len)).find? (okP ⟨last, sa, sc, ja, jc, stays, jobs⟩ f ca cb cc) = o → ∀ w', Below w.heap.size w w' → PP (.returned (pickV o)) w') := fun o ho w' h => by rw [← hPP]; exact HPP.out o ho w' h
  clear hPP HPP
  have HM : Hid (∀ wx, Calls Try.prog 55 #[.int .i64 len] wx fun e w' => ∃ v, e = .returned v ∧ PlacesOwn wx w' v (placesTo len (2 * len))) := fun wx => rplaces_any len wx hl1 hl4
  generalize hpl : placesTo len (2 * len) = pl at *
  clear hpl
  obtain ⟨m, hm⟩ : ∃ m, m = pl.length := ⟨_, rfl⟩
  have HM1 : Hid (pl.length = m) := hm.symm
  have HG' : Hid (∀ i, i < m → (1 ≤ (pl.getD i (0, 0, 0)).1 ∧ (pl.getD i (0, 0, 0)).1 ≤ len) ∧ ((pl.getD i (0, 0, 0)).2.2 = 0 ∨ (pl.getD i (0, 0, 0)).2.2 = 1)) := fun i hi => by
    have := (HG.out i (by omega)).1
    simp only [placeB, decide_eq_true_eq] at this
    omega
  have mm1 : 1 ≤ m := by omega
  have m14 : m ≤ 14 := by omega
  clear hm hplen HG hb hlc hcell hok
  go_enter Try.func15, Try.ntmps15
  go_wp2_with fail
  clear hw0
  refine (HM.out _).mono ?_
  rintro e w9 ⟨v9, rfl, ho⟩
  obtain ⟨g, cap, rfl, pa⟩ := ho.at (by rw [HM1.out]; omega)
  rw [HM1.out] at pa ⊢
  have P9 : Hid (PickI w w9 #[.int .i64 last, .slice sa stays.length sc, .slice ja jobs.length jc] #[.int .i64 ci, .int .i64 ca, .int .i64 cb, .int .i64 cc] g m (fun k => pl.getD k (0, 0, 0))) := ⟨B.next N0.out.1 ho.2 N0.out.1.size, N0.out.2.1.below ho.2, N0.out.2.2.1.below ho.2, N0.out.2.2.2.below ho.2, pa⟩
  clear ho pa N0 HM
  go_wp2_with fail
  clear hlb
  go_loopg [9] m (fun gg s9 wr => ∃ kk : Nat, kk ≤ m ∧ m - kk ≤ gg ∧ s9 = .int .i64 kk ∧ Hid (PickI w wr #[.int .i64 last, .slice sa stays.length sc, .slice ja jobs.length jc] #[.int .i64 ci, .int .i64 ca, .int .i64 cb, .int .i64 cc] g m (fun k => pl.getD k (0, 0, 0))) ∧ Hid (∀ j, j < kk → okP ⟨last, sa, sc, ja, jc, stays, jobs⟩ f ca cb cc (pl.getD j (0, 0, 0)) = false))
  case atStart => exact ⟨0, Nat.zero_le _, by omega, rfl, P9, fun j hj => absurd hj (Nat.not_lt_zero _)⟩
  case round =>
    clear P9
    obtain ⟨kk, hkk, hg, rfl, P, A⟩ := hrel
    by_cases hlt : kk < m
    · have hltz : (kk : Int) < (m : Int) := by omega
      have HPC : Hid (∀ wx, PickI w wx #[.int .i64 last, .slice sa stays.length sc, .slice ja jobs.length jc] #[.int .i64 ci, .int .i64 ca, .int .i64 cb, .int .i64 cc] g m (fun k => pl.getD k (0, 0, 0)) → wx.cell? ⟨g, kk * 3, none⟩ = some (.int .i64 (pl.getD kk (0, 0, 0)).1) ∧ wx.cell? ⟨g, kk * 3 + 1, none⟩ = some (.int .i64 (pl.getD kk (0, 0, 0)).2.1) ∧ wx.cell? ⟨g, kk * 3 + 2, none⟩ = some (.int .i64 (pl.getD kk (0, 0, 0)).2.2)) := fun wx h => h.pl.2 kk hlt
      obtain ⟨⟨g1, g2⟩, g3⟩ := HG'.out kk hlt
      obtain ⟨j, HJ⟩ : ∃ j : Nat, Hid ((pl.getD kk (0, 0, 0)).1 = (j : Int) + 1 ∧ j < len) := ⟨((pl.getD kk (0, 0, 0)).1 - 1).toNat, by show _ ∧ _; omega⟩
      have hj := HJ.out.2
      have hjz : (j : Int) < (len : Int) := by omega
      have wj : IntKind.i64.wrap (j : Int) = (j : Int) := by rw [IntKind.wrap_i64]; omega
      have KO : Hid (rfreeTo ⟨last, sa, sc, ja, jc, stays, jobs⟩ (pl.getD kk (0, 0, 0)).1 (pl.getD kk (0, 0, 0)).2.1 (pl.getD kk (0, 0, 0)).2.2 (fitsB ca cb cc (f j).1 (f j).2.1 (f j).2.2) stays.length = okP ⟨last, sa, sc, ja, jc, stays, jobs⟩ f ca cb cc (pl.getD kk (0, 0, 0))) := rfreeTo_ok ⟨last, sa, sc, ja, jc, stays, jobs⟩ f ca cb cc _ j (by have := HJ.out.1; omega) HOK.out g3
      have KH : Hid (okP ⟨last, sa, sc, ja, jc, stays, jobs⟩ f ca cb cc (pl.getD kk (0, 0, 0)) = true → ∀ w', Below w.heap.size w w' → PP (.returned (pickV (some (pl.getD kk (0, 0, 0))))) w') := fun h w' hw' =>
        HP.out _ (find_hit (okP ⟨last, sa, sc, ja, jc, stays, jobs⟩ f ca cb cc) (0, 0, 0) pl kk (by rw [HM1.out]; exact hlt) h A.out) w' hw'
      clear g1 g2 g3
      obtain ⟨y, hy⟩ : ∃ y, (pl.getD kk (0, 0, 0)).2.1 = y := ⟨_, rfl⟩
      obtain ⟨z, hz⟩ : ∃ z, (pl.getD kk (0, 0, 0)).2.2 = z := ⟨_, rfl⟩
      have HX : Hid (pl.getD kk (0, 0, 0) = ((j : Int) + 1, y, z)) := by show _ = _; rw [← HJ.out.1, ← hy, ← hz]
      rw [HX.out] at HPC KO KH
      simp only at HPC KO
      clear hy hz HJ
      have HL1 : Hid (∀ wx, Below w.heap.size w wx → wx.cell? ⟨lb, loff + j * 3, none⟩ = some (.int .i64 (f j).1) ∧ wx.cell? ⟨lb, loff + j * 3 + 1, none⟩ = some (.int .i64 (f j).2.1) ∧ wx.cell? ⟨lb, loff + j * 3 + 2, none⟩ = some (.int .i64 (f j).2.2)) := HL.out j hj
      obtain ⟨q1, HQ1⟩ : ∃ q1, Hid (fitsB ca cb cc (f j).1 (f j).2.1 (f j).2.2 = q1) := ⟨_, rfl⟩
      rw [HQ1.out] at KO
      have HF : Hid (∀ wx, Calls Try.prog 54 #[.agg #[.int .i64 ca, .int .i64 cb, .int .i64 cc], .agg #[.int .i64 (f j).1, .int .i64 (f j).2.1, .int .i64 (f j).2.2]] wx fun e w' => e = .returned (.bool q1) ∧ Below wx.heap.size wx w') := fun wx => by rw [← HQ1.out]; exact rfits_any _ _ _ _ _ _ _
      generalize f j = sz at HL1 HF
      have f3 := fun p : BelowW wr => (P.out.b1.below p.hb).cell 1
      have f4 := fun p : BelowW wr => (P.out.b1.below p.hb).cell 2
      have f5 := fun p : BelowW wr => (P.out.b1.below p.hb).cell 3
      have l0 := fun p : BelowW wr => (HL1.out p.wd (B.next P.out.below p.hb P.out.below.size)).1
      have l1 := fun p : BelowW wr => (HL1.out p.wd (B.next P.out.below p.hb P.out.below.size)).2.1
      have l2 := fun p : BelowW wr => (HL1.out p.wd (B.next P.out.below p.hb P.out.below.size)).2.2
      have p0 := fun p : BelowW wr => (HPC.out p.wd (P.out.next p.hb)).1
      clear HL1 HQ1
      go_wp2_with fail
      refine wp_region_below (by kernel_rfl) (by kernel_rfl) ?_
      repeat (go_big_quiet_step (first | (go_at_call 54; exact Calls.wof (HF.out _))))
      refine wpQuiet_nil ?_
      rintro wb ⟨⟨_, NQ⟩, rfl⟩
      have PB : Hid (PickI w wb #[.int .i64 last, .slice sa stays.length sc, .slice ja jobs.length jc] #[.int .i64 ci, .int .i64 ca, .int .i64 cb, .int .i64 cc] g m (fun k => pl.getD k (0, 0, 0))) := P.out.next NQ
      clear f3 f4 f5 l0 l1 l2 p0 NQ P HF
      go_wp2_with fail
      have AO : Hid (m - kk ≤ gk ∧ kk ≤ m) := ⟨hg, hkk⟩
      go_loopg [10, 11] stays.length (fun gg s10 s11 wr => ∃ k : Nat, k ≤ stays.length ∧ stays.length - k ≤ gg ∧ s11 = .int .i64 k ∧ s10 = .bool (rfreeTo ⟨last, sa, sc, ja, jc, stays, jobs⟩ ((j : Int) + 1) y z q1 k) ∧ Hid (PickI w wr #[.int .i64 last, .slice sa stays.length sc, .slice ja jobs.length jc] #[.int .i64 ci, .int .i64 ca, .int .i64 cb, .int .i64 cc] g m (fun k => pl.getD k (0, 0, 0))))
      case atStart => exact ⟨0, Nat.zero_le _, by omega, rfl, rfl, PB⟩
      case round =>
        clear PB
        obtain ⟨k, hk, hgk, rfl, rfl, P⟩ := hrel
        have r0 := P.out.b0.cell
        by_cases hlk : k < stays.length
        · have hlkz : (k : Int) < (stays.length : Int) := by omega
          obtain ⟨sb, soff, rfl⟩ := rows_some (HSR.out _ P.out.below) (by omega)
          have HSC : Hid (∀ wx, Below w.heap.size w wx → wx.cell? ⟨sb, soff + k * 8, none⟩ = some (.int .i64 stays[k]!.t) ∧ wx.cell? ⟨sb, soff + k * 8 + 5, none⟩ = some (.int .i64 stays[k]!.x) ∧ wx.cell? ⟨sb, soff + k * 8 + 6, none⟩ = some (.int .i64 stays[k]!.y) ∧ wx.cell? ⟨sb, soff + k * 8 + 7, none⟩ = some (.int .i64 stays[k]!.z)) := fun wx h => ⟨rows_cell (HSR.out wx h) k hlk 0 _ rfl, rows_cell (HSR.out wx h) k hlk 5 _ rfl, rows_cell (HSR.out wx h) k hlk 6 _ rfl, rows_cell (HSR.out wx h) k hlk 7 _ rfl⟩
          have KF : Hid (rfreeTo ⟨last, (some ⟨sb, soff, none⟩), sc, ja, jc, stays, jobs⟩ ((j : Int) + 1) y z q1 (k + 1) = rjobsTo jobs ((j : Int) + 1) y stays[k]! (rfreeTo ⟨last, (some ⟨sb, soff, none⟩), sc, ja, jc, stays, jobs⟩ ((j : Int) + 1) y z q1 k && !rhasP ((j : Int) + 1) y z stays[k]!) jobs.length) := rfl
          generalize rfreeTo ⟨last, (some ⟨sb, soff, none⟩), sc, ja, jc, stays, jobs⟩ ((j : Int) + 1) y z q1 k = q at KF ⊢
          generalize stays[k]! = s at KF HSC
          obtain ⟨st, sid, sq1, sq2, sq3, sx, sy, sz'⟩ := s
          simp only at KF HSC
          have d5 := (HSC.out wr P.out.below).2.1
          have d6 := (HSC.out wr P.out.below).2.2.1
          have d7 := (HSC.out wr P.out.below).2.2.2
          obtain ⟨wa, hwa⟩ : ∃ wa, wr.alloc (.cells #[.int .i64 sx, .int .i64 sy, .int .i64 sz'] 38) = wa := ⟨_, rfl⟩
          obtain ⟨hbk, hhb⟩ : ∃ hbk, wr.heap.size = hbk := ⟨_, rfl⟩
          have PA : Hid ((PickI w wa #[.int .i64 last, .slice (some ⟨sb, soff, none⟩) stays.length sc, .slice ja jobs.length jc] #[.int .i64 ci, .int .i64 ca, .int .i64 cb, .int .i64 cc] g m (fun k => pl.getD k (0, 0, 0))) ∧ Blk wa hbk #[.int .i64 sx, .int .i64 sy, .int .i64 sz'] 38) := by
            show _ ∧ _
            rw [← hwa]
            exact ⟨P.out.next (B.new1 _ _), Blk.new1 hhb.symm _ _⟩
          have r5 := PA.out.2.cell
          obtain ⟨qa, HA⟩ : ∃ qa, Hid (qa = (sx == ((j : Int) + 1) && sy == y && (sz' == z || sz' == 0))) := ⟨_, rfl⟩
          have HAR : Hid (rhasP ((j : Int) + 1) y z ⟨st, sid, sq1, sq2, sq3, sx, sy, sz'⟩ = qa) := by show _ = _; rw [HA.out]; rfl
          rw [HAR.out] at KF
          clear HAR P
          go_upto_region 10 with fail
          clear d5 d6 d7 r0 hwa
          (try simp only [hhb])
          clear hhb r5
          have h0 := fun p : BelowW wa => (PA.out.2.below p.hb).cell 0
          have h1 := fun p : BelowW wa => (PA.out.2.below p.hb).cell 1
          have h2 := fun p : BelowW wa => (PA.out.2.below p.hb).cell 2
          have p0 := fun p : BelowW wa => (HPC.out p.wd (PA.out.1.next p.hb)).1
          have p1 := fun p : BelowW wa => (HPC.out p.wd (PA.out.1.next p.hb)).2.1
          have p2 := fun p : BelowW wa => (HPC.out p.wd (PA.out.1.next p.hb)).2.2
          go_cut [81] (fun s81 wx => s81 = .bool qa ∧ Hid ((PickI w wx #[.int .i64 last, .slice (some ⟨sb, soff, none⟩) stays.length sc, .slice ja jobs.length jc] #[.int .i64 ci, .int .i64 ca, .int .i64 cb, .int .i64 cc] g m (fun k => pl.getD k (0, 0, 0))) ∧ Blk wx hbk #[.int .i64 sx, .int .i64 sy, .int .i64 sz'] 38))
          case first =>
            clear KF KO KH HX HP HSR HJR HG' HL HPC HSC HOK HM1 AO A
            cases c1 : (sx == ((j : Int) + 1))
            ·
              refine wp_region_below (by kernel_rfl) (by kernel_rfl) ?_
              repeat (go_big_quiet_step (fail))
              refine wpQuiet_nil ?_
              rintro wb ⟨⟨_, NQ⟩, rfl⟩
              go_wp2
              go_meet
              exact ⟨congrArg Value.bool (by rw [HA.out]; simp only [c1]; rfl), PA.out.1.next NQ, PA.out.2.below NQ⟩
            ·
              cases c2 : (sy == y)
              ·
                refine wp_region_below (by kernel_rfl) (by kernel_rfl) ?_
                repeat (go_big_quiet_step (fail))
                refine wpQuiet_nil ?_
                rintro wb ⟨⟨_, NQ⟩, rfl⟩
                go_wp2
                go_meet
                exact ⟨congrArg Value.bool (by rw [HA.out]; simp only [c1, c2]; rfl), PA.out.1.next NQ, PA.out.2.below NQ⟩
              ·
                cases c3 : (sz' == z)
                ·
                  cases c4 : (sz' == 0)
                  ·
                    refine wp_region_below (by kernel_rfl) (by kernel_rfl) ?_
                    repeat (go_big_quiet_step (fail))
                    refine wpQuiet_nil ?_
                    rintro wb ⟨⟨_, NQ⟩, rfl⟩
                    go_wp2
                    go_meet
                    exact ⟨congrArg Value.bool (by rw [HA.out]; simp only [c1, c2, c3, c4]; rfl), PA.out.1.next NQ, PA.out.2.below NQ⟩
                  ·
                    refine wp_region_below (by kernel_rfl) (by kernel_rfl) ?_
                    repeat (go_big_quiet_step (fail))
                    refine wpQuiet_nil ?_
                    rintro wb ⟨⟨_, NQ⟩, rfl⟩
                    go_wp2
                    go_meet
                    exact ⟨congrArg Value.bool (by rw [HA.out]; simp only [c1, c2, c3, c4]; rfl), PA.out.1.next NQ, PA.out.2.below NQ⟩
                ·
                  refine wp_region_below (by kernel_rfl) (by kernel_rfl) ?_
                  repeat (go_big_quiet_step (fail))
                  refine wpQuiet_nil ?_
                  rintro wb ⟨⟨_, NQ⟩, rfl⟩
                  go_wp2
                  go_meet
                  exact ⟨congrArg Value.bool (by rw [HA.out]; simp only [c1, c2, c3]; rfl), PA.out.1.next NQ, PA.out.2.below NQ⟩
          case rest =>
          clear h0 h1 h2 p0 p1 p2 PA
          obtain ⟨rfl, PB⟩ := hcut
          clear HA
          obtain ⟨Q, HQ⟩ : ∃ Q, Hid (Q = (q && !qa)) := ⟨_, rfl⟩
          rw [← HQ.out] at KF
          go_upto_if 81 with fail
          go_cut [10] (fun s10 wx => s10 = .bool Q ∧ Hid ((PickI w wx #[.int .i64 last, .slice (some ⟨sb, soff, none⟩) stays.length sc, .slice ja jobs.length jc] #[.int .i64 ci, .int .i64 ca, .int .i64 cb, .int .i64 cc] g m (fun k => pl.getD k (0, 0, 0))) ∧ Blk wx hbk #[.int .i64 sx, .int .i64 sy, .int .i64 sz'] 38))
          case first =>
            cases qa
            · go_wp2
              go_meet
              exact ⟨congrArg Value.bool (by rw [HQ.out]; simp), PB⟩
            · go_wp2
              go_meet
              exact ⟨congrArg Value.bool (by rw [HQ.out]; simp), PB⟩
          case rest =>
          clear PB HQ
          obtain ⟨rfl, PB⟩ := hcut
          go_wp2_with fail
          go_loopg [10, 13] jobs.length (fun gg s10 s13 wr => ∃ n : Nat, n ≤ jobs.length ∧ jobs.length - n ≤ gg ∧ s13 = .int .i64 n ∧ s10 = .bool (rjobsTo jobs ((j : Int) + 1) y ⟨st, sid, sq1, sq2, sq3, sx, sy, sz'⟩ Q n) ∧ Hid ((PickI w wr #[.int .i64 last, .slice (some ⟨sb, soff, none⟩) stays.length sc, .slice ja jobs.length jc] #[.int .i64 ci, .int .i64 ca, .int .i64 cb, .int .i64 cc] g m (fun k => pl.getD k (0, 0, 0))) ∧ Blk wr hbk #[.int .i64 sx, .int .i64 sy, .int .i64 sz'] 38))
          case atStart => exact ⟨0, Nat.zero_le _, by omega, rfl, rfl, PB⟩
          case round =>
            clear PB
            obtain ⟨n, hn, hgn, rfl, rfl, P⟩ := hrel
            have r0 := P.out.1.b0.cell
            by_cases hln : n < jobs.length
            · have hlnz : (n : Int) < (jobs.length : Int) := by omega
              obtain ⟨jb, joff, rfl⟩ := rows_some (HJR.out _ P.out.1.below) (by omega)
              have j0 := rows_cell (HJR.out _ P.out.1.below) n hln 0 _ rfl
              have j1 := rows_cell (HJR.out _ P.out.1.below) n hln 1 _ rfl
              simp only [Nat.add_zero] at j0
              have KJ : Hid (rjobsTo jobs ((j : Int) + 1) y ⟨st, sid, sq1, sq2, sq3, sx, sy, sz'⟩ Q (n + 1) = (rjobsTo jobs ((j : Int) + 1) y ⟨st, sid, sq1, sq2, sq3, sx, sy, sz'⟩ Q n && !rfillP ((j : Int) + 1) y ⟨st, sid, sq1, sq2, sq3, sx, sy, sz'⟩ jobs[n]!)) := rfl
              generalize rjobsTo jobs ((j : Int) + 1) y ⟨st, sid, sq1, sq2, sq3, sx, sy, sz'⟩ Q n = r at KJ ⊢
              generalize jobs[n]! = jo at KJ j0 j1
              obtain ⟨jt, jf⟩ := jo
              simp only at KJ j0 j1
              obtain ⟨wa, hwa⟩ : ∃ wa, wr.alloc (.cells #[.int .i64 jt, .bool jf] 32) = wa := ⟨_, rfl⟩
              obtain ⟨jbk, hjb⟩ : ∃ jbk, wr.heap.size = jbk := ⟨_, rfl⟩
              have PJ : Hid ((PickI w wa #[.int .i64 last, .slice (some ⟨sb, soff, none⟩) stays.length sc, .slice (some ⟨jb, joff, none⟩) jobs.length jc] #[.int .i64 ci, .int .i64 ca, .int .i64 cb, .int .i64 cc] g m (fun k => pl.getD k (0, 0, 0))) ∧ Blk wa hbk #[.int .i64 sx, .int .i64 sy, .int .i64 sz'] 38) := by
                show _ ∧ _
                rw [← hwa]
                exact ⟨P.out.1.next (B.new1 _ _), P.out.2.old _⟩
              have KB : Hid (Blk wa jbk #[.int .i64 jt, .bool jf] 32) := by
                show Blk _ _ _ _
                rw [← hwa]
                exact Blk.new1 hjb.symm _ _
              have r5 := KB.out.cell
              obtain ⟨qa, HA⟩ : ∃ qa, Hid (qa = (!jf && jt == st && sx == ((j : Int) + 1) && sy == y && sz' == 1)) := ⟨_, rfl⟩
              have HAR : Hid (rfillP ((j : Int) + 1) y ⟨st, sid, sq1, sq2, sq3, sx, sy, sz'⟩ ⟨jt, jf⟩ = qa) := by show _ = _; rw [HA.out]; rfl
              rw [HAR.out] at KJ
              clear HAR P
              go_upto_region 16 with fail
              clear j0 j1 r0 hwa
              (try simp only [hjb])
              clear hjb r5
              have b1 := fun p : BelowW wa => (PJ.out.1.b0.below p.hb).cell 1
              have e0 := fun p : BelowW wa => (KB.out.below p.hb).cell 0
              have e1 := fun p : BelowW wa => (KB.out.below p.hb).cell 1
              have h0 := fun p : BelowW wa => (PJ.out.2.below p.hb).cell 0
              have h1 := fun p : BelowW wa => (PJ.out.2.below p.hb).cell 1
              have h2 := fun p : BelowW wa => (PJ.out.2.below p.hb).cell 2
              have p0 := fun p : BelowW wa => (HPC.out p.wd (PJ.out.1.next p.hb)).1
              have p1 := fun p : BelowW wa => (HPC.out p.wd (PJ.out.1.next p.hb)).2.1
              have p2 := fun p : BelowW wa => (HPC.out p.wd (PJ.out.1.next p.hb)).2.2
              have s0 := fun p : BelowW wa => (HSC.out p.wd (PJ.out.1.next p.hb).below).1
              go_cut [132] (fun s132 wx => s132 = .bool qa ∧ Hid ((PickI w wx #[.int .i64 last, .slice (some ⟨sb, soff, none⟩) stays.length sc, .slice (some ⟨jb, joff, none⟩) jobs.length jc] #[.int .i64 ci, .int .i64 ca, .int .i64 cb, .int .i64 cc] g m (fun k => pl.getD k (0, 0, 0))) ∧ Blk wx hbk #[.int .i64 sx, .int .i64 sy, .int .i64 sz'] 38))
              case first =>
                clear KJ KF KO KH HX HP HSR HJR HG' HL HPC HSC HOK HM1 AO A
                cases jf
                ·
                  cases c1 : (jt == st)
                  ·
                    refine wp_region_below (by kernel_rfl) (by kernel_rfl) ?_
                    repeat (go_big_quiet_step (fail))
                    refine wpQuiet_nil ?_
                    rintro wb ⟨⟨_, NQ⟩, rfl⟩
                    go_wp2
                    go_meet
                    exact ⟨congrArg Value.bool (by rw [HA.out]; simp only [c1]; rfl), PJ.out.1.next NQ, PJ.out.2.below NQ⟩
                  ·
                    cases c2 : (sx == ((j : Int) + 1))
                    ·
                      refine wp_region_below (by kernel_rfl) (by kernel_rfl) ?_
                      repeat (go_big_quiet_step (fail))
                      refine wpQuiet_nil ?_
                      rintro wb ⟨⟨_, NQ⟩, rfl⟩
                      go_wp2
                      go_meet
                      exact ⟨congrArg Value.bool (by rw [HA.out]; simp only [c1, c2]; rfl), PJ.out.1.next NQ, PJ.out.2.below NQ⟩
                    ·
                      cases c3 : (sy == y)
                      ·
                        refine wp_region_below (by kernel_rfl) (by kernel_rfl) ?_
                        repeat (go_big_quiet_step (fail))
                        refine wpQuiet_nil ?_
                        rintro wb ⟨⟨_, NQ⟩, rfl⟩
                        go_wp2
                        go_meet
                        exact ⟨congrArg Value.bool (by rw [HA.out]; simp only [c1, c2, c3]; rfl), PJ.out.1.next NQ, PJ.out.2.below NQ⟩
                      ·
                        cases c4 : (sz' == 1)
                        ·
                          refine wp_region_below (by kernel_rfl) (by kernel_rfl) ?_
                          repeat (go_big_quiet_step (fail))
                          refine wpQuiet_nil ?_
                          rintro wb ⟨⟨_, NQ⟩, rfl⟩
                          go_wp2
                          go_meet
                          exact ⟨congrArg Value.bool (by rw [HA.out]; simp only [c1, c2, c3, c4]; rfl), PJ.out.1.next NQ, PJ.out.2.below NQ⟩
                        ·
                          refine wp_region_below (by kernel_rfl) (by kernel_rfl) ?_
                          repeat (go_big_quiet_step (fail))
                          refine wpQuiet_nil ?_
                          rintro wb ⟨⟨_, NQ⟩, rfl⟩
                          go_wp2
                          go_meet
                          exact ⟨congrArg Value.bool (by rw [HA.out]; simp only [c1, c2, c3, c4]; rfl), PJ.out.1.next NQ, PJ.out.2.below NQ⟩
                ·
                  refine wp_region_below (by kernel_rfl) (by kernel_rfl) ?_
                  repeat (go_big_quiet_step (fail))
                  refine wpQuiet_nil ?_
                  rintro wb ⟨⟨_, NQ⟩, rfl⟩
                  go_wp2
                  go_meet
                  exact ⟨congrArg Value.bool (by rw [HA.out]; rfl), PJ.out.1.next NQ, PJ.out.2.below NQ⟩
              case rest =>
              clear b1 e0 e1 h0 h1 h2 p0 p1 p2 s0 PJ KB
              obtain ⟨rfl, PB⟩ := hcut
              clear HA
              cases qa
              · go_wp2
                go_roundg (jobs.length - (n + 1))
                case measure => omega
                case rel => exact ⟨n + 1, by omega, by omega, by go_num, by rw [KJ.out]; simp, PB⟩
              · go_wp2
                go_roundg (jobs.length - (n + 1))
                case measure => omega
                case rel => exact ⟨n + 1, by omega, by omega, by go_num, by rw [KJ.out]; simp, PB⟩
            · have hlnz : ¬ (n : Int) < (jobs.length : Int) := by omega
              have hne : n = jobs.length := by omega
              subst hne
              rw [← KF.out]
              go_wp2
              go_roundg (stays.length - (k + 1))
              case measure => omega
              case rel => exact ⟨k + 1, by omega, by omega, by go_num, rfl, P.out.1⟩
        · have hlkz : ¬ (k : Int) < (stays.length : Int) := by omega
          have hke : k = stays.length := by omega
          subst hke
          rw [KO.out]
          cases hok : okP ⟨last, sa, sc, ja, jc, stays, jobs⟩ f ca cb cc (((j : Int) + 1), y, z)
          · have HOK : Hid (okP ⟨last, sa, sc, ja, jc, stays, jobs⟩ f ca cb cc (((j : Int) + 1), y, z) = false) := hok
            clear hok
            go_wp2
            go_roundg (m - (kk + 1))
            case measure => omega
            case rel =>
              refine ⟨kk + 1, by omega, by omega, by go_num, P, (show Hid _ from fun i hi => ?_)⟩
              by_cases e : i = kk
              · subst e
                rw [HX.out]; exact HOK.out
              · exact A.out i (by omega)
          · have HF : Hid (∀ w', Below w.heap.size w w' → PP (.returned (pickV (some (((j : Int) + 1), y, z)))) w') := KH.out hok
            clear hok KH
            have p0 := (HPC.out _ P.out).1
            have p1 := (HPC.out _ P.out).2.1
            have p2 := (HPC.out _ P.out).2.2
            have gg := P.out.b2.cell
            have ff := P.out.b2.free
            go_wp2
            (try simp only [Exit.inBlock, Exit.then])
            refine bodyPost_ret (v := .tuple #[.agg #[.int .i64 ((j : Int) + 1), .int .i64 y, .int .i64 z], .bool true]) (by simp [results, Try.results15, go_sem, set3_0 gg, set3_1 gg, set3_2 gg]; try rfl) rfl ?_
            exact HF.out _ (((P.out.below.setCell (p := ⟨w.heap.size + 1 + 1, 0, none⟩) (by show w.heap.size ≤ w.heap.size + 1 + 1; omega) _).setCell (p := ⟨w.heap.size + 1 + 1, 1, none⟩) (by show w.heap.size ≤ w.heap.size + 1 + 1; omega) _).setCell (p := ⟨w.heap.size + 1 + 1, 2, none⟩) (by show w.heap.size ≤ w.heap.size + 1 + 1; omega) _)
    · have hk : kk = m := by omega
      have hltz : ¬ (kk : Int) < (m : Int) := by omega
      have HF : Hid (∀ w', Below w.heap.size w w' → PP (.returned (pickV none)) w') := fun w' hw' => HP.out none (find_miss (okP ⟨last, sa, sc, ja, jc, stays, jobs⟩ f ca cb cc) (0, 0, 0) pl (by rw [HM1.out, ← hk]; exact A.out)) w' hw'
      have gg := P.out.b2.cell
      have ff := P.out.b2.free
      clear hk
      go_wp2
      (try simp only [Exit.inBlock, Exit.then])
      refine bodyPost_ret (v := .tuple #[.agg #[.int .i64 0, .int .i64 0, .int .i64 0], .bool false]) (by simp [results, Try.results15, go_sem, set3_0 gg, set3_1 gg, set3_2 gg]; try rfl) rfl ?_
      exact HF.out _ (((P.out.below.setCell (p := ⟨w.heap.size + 1 + 1, 0, none⟩) (by show w.heap.size ≤ w.heap.size + 1 + 1; omega) _).setCell (p := ⟨w.heap.size + 1 + 1, 1, none⟩) (by show w.heap.size ≤ w.heap.size + 1 + 1; omega) _).setCell (p := ⟨w.heap.size + 1 + 1, 2, none⟩) (by show w.heap.size ≤ w.heap.size + 1 + 1; omega) _)

end Bk
end Go.Proofs.Ytihapeagjikiaaa
