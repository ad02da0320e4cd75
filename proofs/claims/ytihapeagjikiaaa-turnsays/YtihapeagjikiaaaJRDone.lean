/- The document's DoneWith (E5); contract for the laws. -/
import Derived.Test.YtihapeagjikiaaaJBookPure
import Derived.Test.YtihapeagjikiaaaJTopOverA
import Derived.Deep.DeepCutAuto
import Derived.Deep.LoopGhost
import Derived.Deep.RegionHeld3
import Derived.Deep.AppendLies
namespace Go.Proofs.Ytihapeagjikiaaa
open Go.Shelf Go.Lib Go.ChangeShapes Go.WideShapes Go.ChangeAt Go.RowKit
set_option maxRecDepth 100000
set_option linter.unusedSimpArgs false
set_option linter.unusedVariables false

namespace Bk
/-- What DoneWith holds. -/
structure DWI (w wx : World) (bk : Array Value) (last : Int) (vs vj : Value) (t : Int) (f : Bool) (S : List Stay) (J : List Job) : Prop where
  below : Below w.heap.size w wx
  b0 : Blk wx w.heap.size bk 25
  b1 : Blk wx (w.heap.size + 1) #[.int .i64 t, .bool f] 32
  b2 : Blk wx (w.heap.size + 1 + 1) #[.int .i64 0, .slice none 0 0, .slice none 0 0] 25
  b3 : Blk wx (w.heap.size + 1 + 1 + 1) #[.int .i64 last, vs, vj] 25
  s : OwnAt wx (w.heap.size + 4) 62 8 Stay.enc vs S
  j : OwnAt wx (w.heap.size + 4) 32 2 Job.enc vj J
theorem DWI.next {w wx : World} {bk : Array Value} {last : Int} {vs vj : Value} {t : Int} {f : Bool} {S : List Stay} {J : List Job} (h : DWI w wx bk last vs vj t f S J) {wy : World} (hb : Below wx.heap.size wx wy) : DWI w wy bk last vs vj t f S J :=
  ⟨B.next h.below hb h.below.size, h.b0.below hb, h.b1.below hb, h.b2.below hb, h.b3.below hb, h.s.below hb, h.j.below hb⟩
theorem OwnAt.ge {α : Type} [Inhabited α] {w : World} {base : Nat} {T : TypeId} {k : Nat} {enc : α → List Value} {v : Value} {l : List α} (h : OwnAt w base T k enc v l) : ∀ g, v.ownBlock = some g → base ≤ g ∧ g < w.heap.size := by
  intro g e
  rcases h with ⟨rfl, _⟩ | ⟨n, cap, cur, rfl, hg, hk, _⟩
  · cases e
  · have : n = g := by simpa [Value.ownBlock] using e
    subst this
    exact ⟨hg, hk.lt⟩
theorem OwnAt.set {α : Type} [Inhabited α] {w : World} {base : Nat} {T : TypeId} {k : Nat} {enc : α → List Value} {v : Value} {l : List α} (h : OwnAt w base T k enc v l) {b o : Nat} (u : Value) (hne : b < base) : OwnAt (w.setCell ⟨b, o, none⟩ u) base T k enc v l := by
  rcases h with h | ⟨n, cap, cur, rfl, hg, hk, r⟩
  · exact Or.inl h
  · exact Or.inr ⟨n, cap, cur, rfl, hg, hk.other (by omega) _ _, r⟩
theorem DWI.apart {w wx : World} {bk : Array Value} {last : Int} {vs vj : Value} {t : Int} {f : Bool} {S : List Stay} {J : List Job} (h : DWI w wx bk last vs vj t f S J) : ∀ g, vs.ownBlock = some g → vj.ownBlock ≠ some g := fun g e e' => by
  rcases h.j with ⟨rfl, _⟩ | ⟨g', cap, cur, rfl, hg, hk, _⟩
  · cases e'
  · simp [Value.ownBlock] at e'
    subst e'
    exact own_ne h.s hk (by decide) e
/-- A stay more. -/
theorem DWI.moreS {w wx : World} {bk : Array Value} {last : Int} {vs vj : Value} {t : Int} {f : Bool} {S : List Stay} {J : List Job} (h : DWI w wx bk last vs vj t f S J) {wy : World} {vs' : Value} {S' : List Stay} (g : wx.grownBy wy vs.ownBlock) (ho : OwnAt wy (w.heap.size + 4) 62 8 Stay.enc vs' S') : DWI w (wy.setCell ⟨w.heap.size + 1 + 1 + 1, 1, none⟩ vs') bk last vs' vj t f S' J := by
  have kb : ∀ {n : Nat} {a : Array Value} {T : TypeId}, Blk wx n a T → n < w.heap.size + 4 → Blk wy n a T := fun hk hn => (g.block _ hk.lt (fun e => by have := (h.s.ge _ e.symm).1; omega)).trans hk
  refine ⟨(grown_below' h.below g (fun n e => Nat.le_trans (by omega) (h.s.ge n e).1) h.below.size).setCell (p := ⟨w.heap.size + 1 + 1 + 1, 1, none⟩) (by show w.heap.size ≤ w.heap.size + 1 + 1 + 1; omega) _, (kb h.b0 (by omega)).other (by omega) _ _, (kb h.b1 (by omega)).other (by omega) _ _, (kb h.b2 (by omega)).other (by omega) _ _, (kb h.b3 (by omega)).set 1 _, ho.set _ (by omega), (h.j.grown g (fun n e e' => h.apart n e' e)).set _ (by omega)⟩
/-- A job more. -/
theorem DWI.moreJ {w wx : World} {bk : Array Value} {last : Int} {vs vj : Value} {t : Int} {f : Bool} {S : List Stay} {J : List Job} (h : DWI w wx bk last vs vj t f S J) {wy : World} {vj' : Value} {J' : List Job} (g : wx.grownBy wy vj.ownBlock) (ho : OwnAt wy (w.heap.size + 4) 32 2 Job.enc vj' J') : DWI w (wy.setCell ⟨w.heap.size + 1 + 1 + 1, 2, none⟩ vj') bk last vs vj' t f S J' := by
  have kb : ∀ {n : Nat} {a : Array Value} {T : TypeId}, Blk wx n a T → n < w.heap.size + 4 → Blk wy n a T := fun hk hn => (g.block _ hk.lt (fun e => by have := (h.j.ge _ e.symm).1; omega)).trans hk
  refine ⟨(grown_below' h.below g (fun n e => Nat.le_trans (by omega) (h.j.ge n e).1) h.below.size).setCell (p := ⟨w.heap.size + 1 + 1 + 1, 2, none⟩) (by show w.heap.size ≤ w.heap.size + 1 + 1 + 1; omega) _, (kb h.b0 (by omega)).other (by omega) _ _, (kb h.b1 (by omega)).other (by omega) _ _, (kb h.b2 (by omega)).other (by omega) _ _, (kb h.b3 (by omega)).set 2 _, (h.s.grown g (fun n e e' => h.apart n e e')).set _ (by omega), ho.set _ (by omega)⟩
theorem DWI.appS {w wx : World} {bk : Array Value} {last : Int} {vs vj : Value} {t : Int} {f : Bool} {S : List Stay} {J : List Job} (h : DWI w wx bk last vs vj t f S J) {wy : World} {sv : Stay} {g cap : Nat} (hg : wx.grownBy wy vs.ownBlock) (ho : wy.ownsRow (w.heap.size + 4) 62 8 (.slice (some ⟨g, 0, none⟩) (S.length + 1) cap) (S.length + 1) (S.flatMap Stay.enc ++ [.int .i64 sv.t, .int .i64 sv.id, .int .i64 sv.a, .int .i64 sv.b, .int .i64 sv.c, .int .i64 sv.x, .int .i64 sv.y, .int .i64 sv.z])) : DWI w (wy.setCell ⟨w.heap.size + 1 + 1 + 1, 1, none⟩ (.slice (some ⟨g, 0, none⟩) (S.length + 1) cap)) bk last (.slice (some ⟨g, 0, none⟩) (S.length + 1) cap) vj t f (S ++ [sv]) J :=
  h.moreS hg (OwnAt.of_owns stay_len (by rw [List.length_append, List.flatMap_append]; exact ho))
theorem DWI.appJ {w wx : World} {bk : Array Value} {last : Int} {vs vj : Value} {t : Int} {f : Bool} {S : List Stay} {J : List Job} (h : DWI w wx bk last vs vj t f S J) {wy : World} {a : Int} {q : Bool} {g cap : Nat} (hg : wx.grownBy wy vj.ownBlock) (ho : wy.ownsRow (w.heap.size + 4) 32 2 (.slice (some ⟨g, 0, none⟩) (J.length + 1) cap) (J.length + 1) (J.flatMap Job.enc ++ [.int .i64 a, .bool q])) : DWI w (wy.setCell ⟨w.heap.size + 1 + 1 + 1, 2, none⟩ (.slice (some ⟨g, 0, none⟩) (J.length + 1) cap)) bk last vs (.slice (some ⟨g, 0, none⟩) (J.length + 1) cap) t f S (J ++ [⟨a, q⟩]) :=
  h.moreJ hg (OwnAt.of_owns job_len (by rw [List.length_append, List.flatMap_append]; exact ho))
theorem rows_lt {α : Type} [Inhabited α] {W : World} {b off cap k : Nat} {enc : α → List Value} {zs : List α} (h : RowsAt W (some ⟨b, off, none⟩) cap k enc zs) (h0 : 0 < zs.length) : b < W.heap.size := by
  obtain ⟨b', off', e, hb, _⟩ := h.2.2 h0
  cases e
  exact hb
theorem filter_upto {α : Type} [Inhabited α] (p : α → Bool) (l : List α) (i : Nat) (h : i < l.length) : (l.take (i + 1)).filter p = (l.take i).filter p ++ (if p l[i]! = true then [l[i]!] else []) := by
  rw [List.take_succ_eq_append_getElem h, List.filter_append, getElem!_pos l i h]
  cases hp : p l[i] <;> simp [hp]
theorem filter_few {α : Type} (p : α → Bool) (l : List α) (i : Nat) : ((l.take i).filter p).length ≤ i := Nat.le_trans (List.length_filter_le _ _) (by simp; omega)

set_option maxHeartbeats 8000000 in
theorem rdone_any (b : Book) (t : Int) (f gone : Bool) (w : World) (hb : b.At w) (hst : b.stays.length ≤ 1000) (hjb : b.jobs.length ≤ 1000) :
    Calls Try.prog 23 #[b.val, .agg #[.int .i64 t, .bool f], .bool gone] w fun e w' => ∃ vs vj, e = .returned (.agg #[.int .i64 b.last, vs, vj]) ∧ OwnBook w' w.heap.size vs vj (doneStays t (f || gone) b.stays) (doneJobs t f (f || gone) b.jobs) ∧ Below w.heap.size w w' := by
  obtain ⟨last, sa, sc, ja, jc, stays, jobs⟩ := b
  simp only [Book.val] at *
  rw [doneStays_eq]
  have H1 : Hid (∀ wx, Below w.heap.size w wx → RowsAt wx sa sc 8 Stay.enc stays) := fun wx h => hb.1.below h
  have H3 : Hid (∀ wx, Below w.heap.size w wx → RowsAt wx ja jc 2 Job.enc jobs) := fun wx h => hb.2.below h
  have hm1 : sc ≤ maxLen := hb.1.2.1
  have hn1 : stays.length ≤ sc := hb.1.1
  have hm3 : jc ≤ maxLen := hb.2.2.1
  have hn3 : jobs.length ≤ jc := hb.2.1
  unfold maxLen at hm1 hm3
  obtain ⟨iJ, hiJ, hzJ0, hzJ1, hzJ2⟩ := Try.infoJob
  have HIJ : Hid (Try.prog.info? 32 = some iJ) := hiJ
  have HZJ : Hid (iJ.zero = some (.agg #[.int .i64 0, .bool false]) ∧ iJ.size = 2 ∧ iJ.bytes = 16) := ⟨hzJ0, hzJ1, hzJ2⟩
  clear hiJ hzJ0 hzJ1 hzJ2
  obtain ⟨iS, hiS, hzS0, hzS1, hzS2⟩ := Try.infoStay
  have HIS : Hid (Try.prog.info? 62 = some iS) := hiS
  have HZS : Hid (iS.zero = some (.agg #[.int .i64 0, .int .i64 0, .int .i64 0, .int .i64 0, .int .i64 0, .int .i64 0, .int .i64 0, .int .i64 0]) ∧ iS.size = 8 ∧ iS.bytes = 64) := ⟨hzS0, hzS1, hzS2⟩
  clear hiS hzS0 hzS1 hzS2
  have HP : Hid (∀ vs vj w', OwnBook w' w.heap.size vs vj (stays.filter (keepS t (f || gone))) (doneJobs t f (f || gone) jobs) → Below w.heap.size w w' → ∃ vs' vj', Ending.returned (.agg #[.int .i64 last, vs, vj]) = .returned (.agg #[.int .i64 last, vs', vj']) ∧ OwnBook w' w.heap.size vs' vj' (stays.filter (keepS t (f || gone))) (doneJobs t f (f || gone) jobs) ∧ Below w.heap.size w w') := fun vs vj w' h1 h2 => ⟨vs, vj, rfl, h1, h2⟩
  generalize hPP : (fun (e : Ending) (w' : World) => ∃ vs vj, e = .returned (.agg #[.int .i64 last, vs, vj]) ∧ OwnBook w' w.heap.size vs vj (stays.filter (keepS t (f || gone))) (doneJobs t f (f || gone) jobs) ∧ Below w.heap.size w w') = PP
  have HQ : Hid (∀ vs vj w', OwnBook w' w.heap.size vs vj (stays.filter (keepS t (f || gone))) (doneJobs t f (f || gone) jobs) → Below w.heap.size w w' → PP (.returned (.agg #[.int .i64 last, vs, vj])) w') := fun vs vj w' h1 h2 => by rw [← hPP]; exact HP.out vs vj w' h1 h2
  clear hPP HP
  obtain ⟨en, HEN⟩ : ∃ en, Hid (en = (f || gone)) := ⟨_, rfl⟩
  rw [← HEN.out] at HQ
  obtain ⟨w0, hw0⟩ : ∃ w0, (((w.alloc (.cells #[.int .i64 last, .slice sa stays.length sc, .slice ja jobs.length jc] 25)).alloc (.cells #[.int .i64 t, .bool f] 32)).alloc (.cells #[.int .i64 0, .slice none 0 0, .slice none 0 0] 25)).alloc (.cells #[.int .i64 last, .slice none 0 0, .slice none 0 0] 25) = w0 := ⟨_, rfl⟩
  have N0 : Hid (DWI w w0 #[.int .i64 last, .slice sa stays.length sc, .slice ja jobs.length jc] last (.slice none 0 0) (.slice none 0 0) t f [] []) := by
    show DWI _ _ _ _ _ _ _ _ _ _
    rw [← hw0]
    exact ⟨(((B.new1 _ _).alloc (by simp) _).alloc (by simp; omega) _).alloc (by simp; omega) _, (((Blk.new _ _ _).old _).old _).old _, ((Blk.new1 (by simp) _ _).old _).old _, (Blk.new1 (by simp) _ _).old _, Blk.new1 (by simp) _ _, Or.inl ⟨rfl, rfl⟩, Or.inl ⟨rfl, rfl⟩⟩
  have HW0 : Hid ((((w.alloc (.cells #[.int .i64 last, .slice sa stays.length sc, .slice ja jobs.length jc] 25)).alloc (.cells #[.int .i64 t, .bool f] 32)).alloc (.cells #[.int .i64 0, .slice none 0 0, .slice none 0 0] 25)).alloc (.cells #[.int .i64 last, .slice none 0 0, .slice none 0 0] 25) = w0) := hw0
  clear hb hw0
  go_enter Try.func23, Try.ntmps23
  go_wp2_with fail
  simp only [HW0.out]
  clear HW0
  go_loopg [8] stays.length (fun gg s8 wr => ∃ (k : Nat) (vs : Value), k ≤ stays.length ∧ stays.length - k ≤ gg ∧ s8 = .int .i64 k ∧ Hid (DWI w wr #[.int .i64 last, .slice sa stays.length sc, .slice ja jobs.length jc] last vs (.slice none 0 0) t f ((stays.take k).filter (keepS t en)) []))
  case atStart => exact ⟨0, _, Nat.zero_le _, by omega, rfl, N0⟩
  case round =>
    clear N0
    obtain ⟨k, vs, hk, hg, rfl, M⟩ := hrel
    have ra := M.out.b0.cell
    by_cases hlt : k < stays.length
    · have hltz : (k : Int) < (stays.length : Int) := by omega
      obtain ⟨sb, soff, rfl⟩ := rows_some (H1.out _ M.out.below) (by omega)
      have HSC : Hid (∀ wx, Below w.heap.size w wx → RowsAt wx (some ⟨sb, soff, none⟩) sc 8 Stay.enc stays) := H1.out
      have HSB : Hid (sb < w.heap.size) := rows_lt (H1.out w (Below.refl _ _)) (by omega)
      have KF : Hid ((stays.take (k + 1)).filter (keepS t en) = (stays.take k).filter (keepS t en) ++ (if keepS t en stays[k]! = true then [stays[k]!] else [])) := filter_upto _ _ _ hlt
      have KL : Hid (((stays.take k).filter (keepS t en)).length ≤ k) := filter_few _ _ _
      generalize (stays.take k).filter (keepS t en) = S at M KF KL
      have s0 := fun p : BelowW wr => rows_cell (HSC.out p.wd (M.out.next p.hb).below) k hlt 0 _ rfl
      have b01 := fun p : BelowW wr => (M.out.b0.below p.hb).cell 1
      have j0 := fun p : BelowW wr => (M.out.b1.below p.hb).cell 0
      have j1 := fun p : BelowW wr => (M.out.b1.below p.hb).cell 1
      simp only [Nat.add_zero] at s0
      have HSV : Hid (∀ wx, Below w.heap.size w wx → wx.cell? ⟨sb, soff + k * 8, none⟩ = some (.int .i64 stays[k]!.t) ∧ wx.cell? ⟨sb, soff + k * 8 + 1, none⟩ = some (.int .i64 stays[k]!.id) ∧ wx.cell? ⟨sb, soff + k * 8 + 2, none⟩ = some (.int .i64 stays[k]!.a) ∧ wx.cell? ⟨sb, soff + k * 8 + 3, none⟩ = some (.int .i64 stays[k]!.b) ∧ wx.cell? ⟨sb, soff + k * 8 + 4, none⟩ = some (.int .i64 stays[k]!.c) ∧ wx.cell? ⟨sb, soff + k * 8 + 5, none⟩ = some (.int .i64 stays[k]!.x) ∧ wx.cell? ⟨sb, soff + k * 8 + 6, none⟩ = some (.int .i64 stays[k]!.y) ∧ wx.cell? ⟨sb, soff + k * 8 + 7, none⟩ = some (.int .i64 stays[k]!.z)) := fun wx h => ⟨rows_cell (HSC.out wx h) k hlt 0 _ rfl, rows_cell (HSC.out wx h) k hlt 1 _ rfl, rows_cell (HSC.out wx h) k hlt 2 _ rfl, rows_cell (HSC.out wx h) k hlt 3 _ rfl, rows_cell (HSC.out wx h) k hlt 4 _ rfl, rows_cell (HSC.out wx h) k hlt 5 _ rfl, rows_cell (HSC.out wx h) k hlt 6 _ rfl, rows_cell (HSC.out wx h) k hlt 7 _ rfl⟩
      generalize stays[k]! = sv at KF s0 HSV
      obtain ⟨qa, HA⟩ : ∃ qa, Hid (keepS t en sv = qa) := ⟨_, rfl⟩
      rw [HA.out] at KF
      go_upto_region 5 with fail
      clear ra
      go_cut [37] (fun s37 wx => s37 = .bool qa ∧ Hid (DWI w wx #[.int .i64 last, .slice (some ⟨sb, soff, none⟩) stays.length sc, .slice ja jobs.length jc] last vs (.slice none 0 0) t f S []))
      case first =>
        clear KF KL HSC H1 H3 HSV HQ HIJ HZJ HIS HZS
        cases f
        · cases gone
          · refine wp_region_below (by kernel_rfl) (by kernel_rfl) ?_
            repeat (go_big_quiet_step (fail))
            refine wpQuiet_nil ?_
            rintro wb ⟨⟨_, NQ⟩, rfl⟩
            go_wp2
            go_meet
            exact ⟨congrArg Value.bool (by rw [← HA.out, HEN.out]; simp [keepS, bne]), M.out.next NQ⟩
          · refine wp_region_below (by kernel_rfl) (by kernel_rfl) ?_
            repeat (go_big_quiet_step (fail))
            refine wpQuiet_nil ?_
            rintro wb ⟨⟨_, NQ⟩, rfl⟩
            go_wp2
            go_meet
            exact ⟨congrArg Value.bool (by rw [← HA.out, HEN.out]; simp [keepS, bne]), M.out.next NQ⟩
        · refine wp_region_below (by kernel_rfl) (by kernel_rfl) ?_
          repeat (go_big_quiet_step (fail))
          refine wpQuiet_nil ?_
          rintro wb ⟨⟨_, NQ⟩, rfl⟩
          go_wp2
          go_meet
          exact ⟨congrArg Value.bool (by rw [← HA.out, HEN.out]; simp [keepS, bne]), M.out.next NQ⟩
      case rest =>
      clear s0 b01 j0 j1 M HA
      obtain ⟨rfl, M⟩ := hcut
      cases qa
      · go_wp2
        go_roundg (stays.length - (k + 1))
        case measure => omega
        case rel => exact ⟨k + 1, vs, by omega, by omega, by go_num, (by show DWI _ _ _ _ _ _ _ _ _ _; rw [KF.out]; simpa using M.out)⟩
      · go_upto_region 6 with fail
        clear H1 HSC
        have ra : wc.cell? ⟨w.heap.size, 1, none⟩ = some (.slice (some ⟨sb, soff, none⟩) stays.length sc) := M.out.b0.cell 1
        have rb : wc.cell? ⟨w.heap.size + 1 + 1 + 1, 1, none⟩ = some vs := M.out.b3.cell 1
        have fb := M.out.b3.free 1
        obtain ⟨s0, s1, s2, s3, s4, s5, s6, s7⟩ := HSV.out _ M.out.below
        have hlw : Hid (w.heap.size + 1 + 1 + 1 < wc.heap.size) := M.out.b3.lt
        have hlz : w.heap.size + 1 + 1 + 1 < wc.heap.size := hlw.out
        obtain ⟨WA, hWA⟩ : ∃ WA, wc.drew.alloc (.cells #[.int .i64 sv.t, .int .i64 sv.id, .int .i64 sv.a, .int .i64 sv.b, .int .i64 sv.c, .int .i64 sv.x, .int .i64 sv.y, .int .i64 sv.z] 62) = WA := ⟨_, rfl⟩
        have BA : Hid (Below wc.heap.size wc WA) := by
          show Below _ _ _
          rw [← hWA]
          exact ((Below.refl _ _).drew).alloc (by simp) _
        have OB : Hid (WA.ownsRow (w.heap.size + 4) 62 8 vs S.length (S.flatMap Stay.enc)) := (M.out.s.below BA.out).to_owns stay_len
        have NB : Hid (∀ j u, ([.int .i64 sv.t, .int .i64 sv.id, .int .i64 sv.a, .int .i64 sv.b, .int .i64 sv.c, .int .i64 sv.x, .int .i64 sv.y, .int .i64 sv.z] : List Value)[j]? = some u → WA.cell? ((⟨wc.heap.size, 0, none⟩ : Addr).add j) = some u) := by
          show ∀ _ _, _
          rw [← hWA]
          exact news_cells (w := wc.drew) rfl [.int .i64 sv.t, .int .i64 sv.id, .int .i64 sv.a, .int .i64 sv.b, .int .i64 sv.c, .int .i64 sv.x, .int .i64 sv.y, .int .i64 sv.z] 62
        have OC : Hid (∀ u ∈ ([.int .i64 sv.t, .int .i64 sv.id, .int .i64 sv.a, .int .i64 sv.b, .int .i64 sv.c, .int .i64 sv.x, .int .i64 sv.y, .int .i64 sv.z] : List Value), u.oneCell' = true) := by
          intro u hu
          simp only [List.mem_cons, List.not_mem_nil, or_false] at hu
          rcases hu with rfl | rfl | rfl | rfl | rfl | rfl | rfl | rfl <;> rfl
        have hSZ : Hid (w.heap.size + 4 ≤ WA.heap.size) := by
          show _ ≤ _
          have := BA.out.size
          have := hlw.out
          omega
        have SS : Hid (∀ W, Below (w.heap.size + 1) wc W → W.cell? ⟨w.heap.size, 1, none⟩ = some (.slice (some ⟨sb, soff, none⟩) stays.length sc) ∧ W.cell? ⟨sb, soff + k * 8, none⟩ = some (.int .i64 sv.t) ∧ W.cell? ⟨sb, soff + k * 8 + 1, none⟩ = some (.int .i64 sv.id) ∧ W.cell? ⟨sb, soff + k * 8 + 2, none⟩ = some (.int .i64 sv.a) ∧ W.cell? ⟨sb, soff + k * 8 + 3, none⟩ = some (.int .i64 sv.b) ∧ W.cell? ⟨sb, soff + k * 8 + 4, none⟩ = some (.int .i64 sv.c) ∧ W.cell? ⟨sb, soff + k * 8 + 5, none⟩ = some (.int .i64 sv.x) ∧ W.cell? ⟨sb, soff + k * 8 + 6, none⟩ = some (.int .i64 sv.y) ∧ W.cell? ⟨sb, soff + k * 8 + 7, none⟩ = some (.int .i64 sv.z)) := fun W h => ⟨(h.cell (p := ⟨w.heap.size, 1, none⟩) (Nat.lt_succ_self _)).trans ra, (h.cell (p := ⟨sb, _, none⟩) (Nat.lt_succ_of_lt HSB.out)).trans s0, (h.cell (p := ⟨sb, _, none⟩) (Nat.lt_succ_of_lt HSB.out)).trans s1, (h.cell (p := ⟨sb, _, none⟩) (Nat.lt_succ_of_lt HSB.out)).trans s2, (h.cell (p := ⟨sb, _, none⟩) (Nat.lt_succ_of_lt HSB.out)).trans s3, (h.cell (p := ⟨sb, _, none⟩) (Nat.lt_succ_of_lt HSB.out)).trans s4, (h.cell (p := ⟨sb, _, none⟩) (Nat.lt_succ_of_lt HSB.out)).trans s5, (h.cell (p := ⟨sb, _, none⟩) (Nat.lt_succ_of_lt HSB.out)).trans s6, (h.cell (p := ⟨sb, _, none⟩) (Nat.lt_succ_of_lt HSB.out)).trans s7⟩
        have BA1 : Hid (Below (w.heap.size + 1) wc WA) := BA.out.mono (by have := hlw.out; omega)
        have HSE : Hid (w.heap.size + 1 ≤ WA.heap.size) := by
          show _ ≤ _
          have := hSZ.out
          omega
        have MA : Hid (DWI w WA #[.int .i64 last, .slice (some ⟨sb, soff, none⟩) stays.length sc, .slice ja jobs.length jc] last vs (.slice none 0 0) t f S []) := M.out.next BA.out
        have GE : Hid (∀ g, vs.ownBlock = some g → w.heap.size + 4 ≤ g) := fun g e => (M.out.s.ge g e).1
        have kl : S.length ≤ 1000 := by have := KL.out; omega
        clear M
        have rbA : WA.cell? ⟨w.heap.size + 1 + 1 + 1, 1, none⟩ = some vs := MA.out.b3.cell 1
        go_region_law
          ((refine step_append_lies _ (by rfl) _ _ _ (by rfl) (w.heap.size + 4) 62 iS _ 8 64 Try.underlying22 HIS.out HZS.out.1 HZS.out.2.1 HZS.out.2.2 rfl (by decide) vs S.length (S.flatMap Stay.enc) (by rfl) OB.out ⟨wc.heap.size, 0, none⟩ 1 1 [.int .i64 sv.t, .int .i64 sv.id, .int .i64 sv.a, .int .i64 sv.b, .int .i64 sv.c, .int .i64 sv.x, .int .i64 sv.y, .int .i64 sv.z] (by rfl) (by rfl) NB.out OC.out (by decide) (by unfold maxLen; omega) (by omega) hSZ.out _ rfl ?_; intro g cap w1 hown hgrow hat hlt'; have HB1 : Hid (Below (w.heap.size + 1) wc w1) := grown_below' BA1.out hgrow (fun g e => Nat.le_trans (by omega) (GE.out g e)) HSE.out; have rb1 : w1.cell? ⟨w.heap.size + 1 + 1 + 1, 1, none⟩ = some vs := (hgrow.cell_far ⟨w.heap.size + 1 + 1 + 1, 1, none⟩ (Nat.lt_of_lt_of_le hlw.out BA.out.size) (fun e => by have := GE.out _ e.symm; simp only at this; omega)).trans (MA.out.b3.cell 1); have fb1 : w1.frozen? ⟨w.heap.size + 1 + 1 + 1, 1, none⟩ = false := (hgrow.frozen_far ⟨w.heap.size + 1 + 1 + 1, 1, none⟩ (Nat.lt_of_lt_of_le hlw.out BA.out.size) (fun e => by have := GE.out _ e.symm; simp only at this; omega)).trans (MA.out.b3.free 1); have X : Hid (DWI w (w1.setCell ⟨w.heap.size + 1 + 1 + 1, 1, none⟩ (.slice (some ⟨g, 0, none⟩) (S.length + 1) cap)) #[.int .i64 last, .slice (some ⟨sb, soff, none⟩) stays.length sc, .slice ja jobs.length jc] last (.slice (some ⟨g, 0, none⟩) (S.length + 1) cap) (.slice none 0 0) t f (S ++ [sv]) []) := MA.out.appS hgrow hown; clear hown hgrow hat hlt'))
        all_goals
          go_wp2
          go_roundg (stays.length - (k + 1))
          case measure => omega
          case rel => exact ⟨k + 1, _, by omega, by omega, by go_num, (by show DWI _ _ _ _ _ _ _ _ _ _; rw [KF.out]; simpa using X.out)⟩
    · have hltz : ¬ (k : Int) < (stays.length : Int) := by omega
      have hke : k = stays.length := by omega
      subst hke
      rw [List.take_length] at M
      generalize stays.filter (keepS t en) = S at M HQ
      clear H1
      go_wp2_with fail
      clear ra hltz hg hk hlt
      go_loopg [9] jobs.length (fun gg s9 wr => ∃ (i : Nat) (vj : Value), i ≤ jobs.length ∧ jobs.length - i ≤ gg ∧ s9 = .int .i64 i ∧ Hid (DWI w wr #[.int .i64 last, .slice sa stays.length sc, .slice ja jobs.length jc] last vs vj t f S ((jobs.take i).filter (fun x => !goesJ t f en x))))
      case atStart => exact ⟨0, _, Nat.zero_le _, by omega, rfl, M⟩
      case round =>
        clear M
        obtain ⟨i, vj, hi, hg, rfl, M⟩ := hrel
        have ra := M.out.b0.cell
        by_cases hlt : i < jobs.length
        · have hltz : (i : Int) < (jobs.length : Int) := by omega
          obtain ⟨jb, joff, rfl⟩ := rows_some (H3.out _ M.out.below) (by omega)
          have KF : Hid ((jobs.take (i + 1)).filter (fun x => !goesJ t f en x) = (jobs.take i).filter (fun x => !goesJ t f en x) ++ (if (!goesJ t f en jobs[i]!) = true then [jobs[i]!] else [])) := filter_upto _ _ _ hlt
          have KL : Hid (((jobs.take i).filter (fun x => !goesJ t f en x)).length ≤ i) := filter_few _ _ _
          generalize (jobs.take i).filter (fun x => !goesJ t f en x) = J at M KF KL
          have j0 := rows_cell (H3.out _ M.out.below) i hlt 0 _ rfl
          have j1 := rows_cell (H3.out _ M.out.below) i hlt 1 _ rfl
          simp only [Nat.add_zero] at j0
          have eS := neqJJ_run jobs[i]!.t t jobs[i]!.f f
          have gS := eqJ_guard jobs[i]!.t t jobs[i]!.f f
          obtain ⟨qa, HA⟩ : ∃ qa, Hid ((!goesJ t f en jobs[i]!) = qa) := ⟨_, rfl⟩
          rw [HA.out] at KF
          generalize jobs[i]! = jo at KF HA j0 j1 eS gS
          obtain ⟨jt, jf⟩ := jo
          simp only at j0 j1 eS gS
          obtain ⟨wa, hwa⟩ : ∃ wa, wr.alloc (.cells #[.int .i64 jt, .bool jf] 32) = wa := ⟨_, rfl⟩
          obtain ⟨jbk, hjb⟩ : ∃ jbk, wr.heap.size = jbk := ⟨_, rfl⟩
          have PJ : Hid ((DWI w wa #[.int .i64 last, .slice sa stays.length sc, .slice (some ⟨jb, joff, none⟩) jobs.length jc] last vs vj t f S J) ∧ Blk wa jbk #[.int .i64 jt, .bool jf] 32) := by
            show _ ∧ _
            rw [← hwa]
            exact ⟨M.out.next (B.new1 _ _), Blk.new1 hjb.symm _ _⟩
          clear M
          go_upto_region 11 with fail
          clear j0 j1 ra hwa
          (try simp only [hjb])
          clear hjb
          go_cut [77] (fun s77 wx => s77 = .bool qa ∧ Hid ((DWI w wx #[.int .i64 last, .slice sa stays.length sc, .slice (some ⟨jb, joff, none⟩) jobs.length jc] last vs vj t f S J) ∧ Blk wx jbk #[.int .i64 jt, .bool jf] 32))
          case first =>
            have e0 := PJ.out.2.cell
            have e1 := PJ.out.1.b1.cell
            obtain ⟨q1, HQ1⟩ : ∃ q1, Hid ((jt == t && jf == f) = q1) := ⟨_, rfl⟩
            obtain ⟨q2, HQ2⟩ : ∃ q2, Hid ((jt == t) = q2) := ⟨_, rfl⟩
            have h2 := HQ2.out
            have KA : Hid (qa = !(q1 || ((f || gone) && q2))) := by
              show _ = _
              rw [← HA.out, ← HQ1.out, ← HQ2.out, HEN.out]
              rfl
            rw [HQ1.out] at eS
            clear HA HEN HQ KF KL H3 HIJ HZJ HIS HZS HQ1 HQ2
            cases q1
            · cases f
              · cases gone
                · go_wp2
                  go_meet
                  exact ⟨congrArg Value.bool (by rw [KA.out]; rfl), PJ⟩
                · cases q2
                  · go_wp2
                    go_meet
                    exact ⟨congrArg Value.bool (by rw [KA.out]; rfl), PJ⟩
                  · go_wp2
                    go_meet
                    exact ⟨congrArg Value.bool (by rw [KA.out]; rfl), PJ⟩
              · cases q2
                · go_wp2
                  go_meet
                  exact ⟨congrArg Value.bool (by rw [KA.out]; rfl), PJ⟩
                · go_wp2
                  go_meet
                  exact ⟨congrArg Value.bool (by rw [KA.out]; rfl), PJ⟩
            · go_wp2
              go_meet
              exact ⟨congrArg Value.bool (by rw [KA.out]; rfl), PJ⟩
          case rest =>
          clear eS gS PJ HA
          obtain ⟨rfl, M⟩ := hcut
          cases qa
          · go_wp2
            go_roundg (jobs.length - (i + 1))
            case measure => omega
            case rel => exact ⟨i + 1, vj, by omega, by omega, by go_num, (by show DWI _ _ _ _ _ _ _ _ _ _; rw [KF.out]; simpa using M.out.1)⟩
          · have rb : wc.cell? ⟨w.heap.size + 1 + 1 + 1, 2, none⟩ = some vj := M.out.1.b3.cell 2
            have e0 := M.out.2.cell
            have hlw : Hid (w.heap.size + 1 + 1 + 1 < wc.heap.size) := M.out.1.b3.lt
            obtain ⟨WA, hWA⟩ : ∃ WA, wc.alloc (.cells #[.int .i64 jt, .bool jf] 32) = WA := ⟨_, rfl⟩
            have BA : Hid (Below wc.heap.size wc WA) := by
              show Below _ _ _
              rw [← hWA]
              exact B.new1 _ _
            have OB : Hid (WA.ownsRow (w.heap.size + 4) 32 2 vj J.length (J.flatMap Job.enc)) := (M.out.1.j.below BA.out).to_owns job_len
            have NB : Hid (∀ j u, ([.int .i64 jt, .bool jf] : List Value)[j]? = some u → WA.cell? ((⟨wc.heap.size, 0, none⟩ : Addr).add j) = some u) := by
              show ∀ _ _, _
              rw [← hWA]
              exact news_cells rfl [.int .i64 jt, .bool jf] 32
            have OC : Hid (∀ u ∈ ([.int .i64 jt, .bool jf] : List Value), u.oneCell' = true) := by
              intro u hu
              simp only [List.mem_cons, List.not_mem_nil, or_false] at hu
              rcases hu with rfl | rfl <;> rfl
            have hSZ : Hid (w.heap.size + 4 ≤ WA.heap.size) := by
              show _ ≤ _
              have := BA.out.size
              have := hlw.out
              omega
            have MA : Hid (DWI w WA #[.int .i64 last, .slice sa stays.length sc, .slice (some ⟨jb, joff, none⟩) jobs.length jc] last vs vj t f S J) := M.out.1.next BA.out
            have GE : Hid (∀ g, vj.ownBlock = some g → w.heap.size + 4 ≤ g) := fun g e => (M.out.1.j.ge g e).1
            have kl : J.length ≤ 1000 := by have := KL.out; omega
            clear M
            go_wp2_with (first
              | (at_builtin; refine wpList_append_lies _ rfl _ _ _ rfl (w.heap.size + 4) 32 iJ _ 2 16 Try.underlying23 HIJ.out HZJ.out.1 HZJ.out.2.1 HZJ.out.2.2 rfl (by decide) vj J.length (J.flatMap Job.enc) rfl OB.out ⟨wc.heap.size, 0, none⟩ 1 1 [.int .i64 jt, .bool jf] rfl rfl NB.out OC.out (by decide) (by unfold maxLen; omega) (by omega) hSZ.out _ rfl ?_; intro g cap w1 hown hgrow hat hlt'; have rb1 : w1.cell? ⟨w.heap.size + 1 + 1 + 1, 2, none⟩ = some vj := (hgrow.cell_far ⟨w.heap.size + 1 + 1 + 1, 2, none⟩ (Nat.lt_of_lt_of_le hlw.out BA.out.size) (fun e => by have := GE.out _ e.symm; simp only at this; omega)).trans (MA.out.b3.cell 2); have fb1 : w1.frozen? ⟨w.heap.size + 1 + 1 + 1, 2, none⟩ = false := (hgrow.frozen_far ⟨w.heap.size + 1 + 1 + 1, 2, none⟩ (Nat.lt_of_lt_of_le hlw.out BA.out.size) (fun e => by have := GE.out _ e.symm; simp only at this; omega)).trans (MA.out.b3.free 2); have X : Hid (DWI w (w1.setCell ⟨w.heap.size + 1 + 1 + 1, 2, none⟩ (.slice (some ⟨g, 0, none⟩) (J.length + 1) cap)) #[.int .i64 last, .slice sa stays.length sc, .slice (some ⟨jb, joff, none⟩) jobs.length jc] last vs (.slice (some ⟨g, 0, none⟩) (J.length + 1) cap) t f S (J ++ [⟨jt, jf⟩])) := MA.out.appJ hgrow hown; clear hown hgrow hat hlt'))
            go_roundg (jobs.length - (i + 1))
            case measure => omega
            case rel => exact ⟨i + 1, _, by omega, by omega, by go_num, (by show DWI _ _ _ _ _ _ _ _ _ _; rw [KF.out]; simpa using X.out)⟩
        · have hltz : ¬ (i : Int) < (jobs.length : Int) := by omega
          have hie : i = jobs.length := by omega
          subst hie
          rw [List.take_length] at M
          have HQ' : Hid (∀ vs vj w', OwnBook w' w.heap.size vs vj S (jobs.filter fun x => !goesJ t f en x) → Below w.heap.size w w' → PP (.returned (.agg #[.int .i64 last, vs, vj])) w') := HQ.out
          clear HQ
          have HQ := HQ'
          clear HQ'
          generalize (jobs.filter fun x => !goesJ t f en x) = J at M HQ
          obtain ⟨a1, c1, hvs, _⟩ := M.out.s.rows
          obtain ⟨a2, c2, hvj, _⟩ := M.out.j.rows
          subst hvs hvj
          have r3 := M.out.b3.cell
          have gg := M.out.b2.cell
          have ff := M.out.b2.free
          have HO : Hid (∀ a b c : Value, PP (.returned (.agg #[.int .i64 last, .slice a1 S.length c1, .slice a2 J.length c2])) (((wr.setCell ⟨w.heap.size + 1 + 1, 0, none⟩ a).setCell ⟨w.heap.size + 1 + 1, 1, none⟩ b).setCell ⟨w.heap.size + 1 + 1, 2, none⟩ c)) := fun a b c =>
            HQ.out _ _ _ ⟨(((M.out.s.set _ (by omega)).set _ (by omega)).set _ (by omega)).base (by omega), (((M.out.j.set _ (by omega)).set _ (by omega)).set _ (by omega)).base (by omega), M.out.apart⟩ (((M.out.below.setCell (p := ⟨w.heap.size + 1 + 1, 0, none⟩) (by show w.heap.size ≤ w.heap.size + 1 + 1; omega) _).setCell (p := ⟨w.heap.size + 1 + 1, 1, none⟩) (by show w.heap.size ≤ w.heap.size + 1 + 1; omega) _).setCell (p := ⟨w.heap.size + 1 + 1, 2, none⟩) (by show w.heap.size ≤ w.heap.size + 1 + 1; omega) _)
          clear M HQ
          go_wp2
          (try simp only [Exit.inBlock, Exit.then])
          refine bodyPost_ret (v := .agg #[.int .i64 last, .slice a1 S.length c1, .slice a2 J.length c2]) (by simp [results, Try.results23, go_sem, set3_0 gg, set3_1 gg, set3_2 gg]; try rfl) rfl ?_
          exact HO.out _ _ _

end Bk
end Go.Proofs.Ytihapeagjikiaaa
