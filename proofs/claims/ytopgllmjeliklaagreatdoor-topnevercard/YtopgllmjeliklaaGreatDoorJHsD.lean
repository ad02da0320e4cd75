/- Chapter 11: a book is kept by a house; Want; contracts. -/
import Derived.Test.YtopgllmjeliklaaGreatDoorJPlantM
import Derived.Test.YtopgllmjeliklaaGreatDoorJViewC
import Derived.Test.YtopgllmjeliklaaGreatDoorJBits
import Derived.Test.YtopgllmjeliklaaGreatDoorJWant
namespace Go.Proofs.YtopgllmjeliklaaGreatDoor
open Go.Shelf Go.Lib Go.ChangeShapes Go.WideShapes Go.ChangeAt Go.RowKit
set_option maxRecDepth 100000
set_option linter.unusedSimpArgs false
set_option linter.unusedVariables false

namespace Hs
open Bk Lg Pl Dk Tx
/-- What it comes to that a house keeps a right book: it is kept, or the disk falls. -/
def HKeep (base pb mb n db sb L hb : Nat) (secs : List Sec) (armed : Bool) (lv : List (Int × Int × Int)) (s : St) (b' : PB) (gs : List (Int × Int)) (w : World) (e : Ending) (w' : World) : Prop :=
  (e = .returned .nilIface ∧ LFr base w w' ∧ ∃ secs' left', HouseS w' base pb mb n db sb L hb secs' armed left' lv s b' gs ∧ secs'.length = secs.length) ∨
  (armed = true ∧ e = .returned (errV 9) ∧ LFr base w w' ∧ IsP w' pb mb n s ∧ ∃ secs' bit' left', LeftOk armed left' ∧ DiskAt w' base db sb secs' bit' armed left' true ∧ Fell secs secs' (nxN secs) ⟨(textL b'.last b'.stays b'.jobs).toArray⟩)
theorem HKeep.value {base pb mb n db sb L hb : Nat} {secs : List Sec} {armed : Bool} {lv : List (Int × Int × Int)} {s : St} {b' : PB} {gs : List (Int × Int)} {w : World} {e : Ending} {w' : World} (h : HKeep base pb mb n db sb L hb secs armed lv s b' gs w e w') : (e = .returned .nilIface ∨ e = .returned (.iface 103 (.int .i64 9))) := by
  rcases h with ⟨rfl, _⟩ | ⟨_, rfl, _⟩
  · exact Or.inl rfl
  · exact Or.inr rfl
theorem HKeep.fr {base pb mb n db sb L hb : Nat} {secs : List Sec} {armed : Bool} {lv : List (Int × Int × Int)} {s : St} {b' : PB} {gs : List (Int × Int)} {w : World} {e : Ending} {w' : World} (h : HKeep base pb mb n db sb L hb secs armed lv s b' gs w e w') : LFr base w w' := by
  rcases h with ⟨_, h, _⟩ | ⟨_, _, h, _⟩
  · exact h
  · exact h
theorem HKeep.front {base pb mb n db sb L hb : Nat} {secs : List Sec} {armed : Bool} {lv : List (Int × Int × Int)} {s : St} {b' : PB} {gs : List (Int × Int)} {w w1 : World} {e : Ending} {w' : World} (h : HKeep base pb mb n db sb L hb secs armed lv s b' gs w1 e w') (f : LFr base w w1) : HKeep base pb mb n db sb L hb secs armed lv s b' gs w e w' := by
  rcases h with ⟨h1, h2, h3⟩ | ⟨h1, h2, h3, h4⟩
  · exact Or.inl ⟨h1, f.trans h2, h3⟩
  · exact Or.inr ⟨h1, h2, f.trans h3, h4⟩
theorem own_at2 {w : World} {base : Nat} {last : Int} {vs vj : Value} {S : List Stay} {J : List Job} (h : OwnBook w base vs vj S J) : ∃ sa sc ja jc, vs = .slice sa S.length sc ∧ vj = .slice ja J.length jc ∧ Book.At ⟨last, sa, sc, ja, jc, S, J⟩ w := by
  obtain ⟨sa, sc, hs, hrs⟩ := h.s.rows
  obtain ⟨ja, jc, hj, hrj⟩ := h.j.rows
  exact ⟨sa, sc, ja, jc, hs, hj, ⟨hrs, hrj⟩⟩
theorem hkeep (base pb mb n db sb L hb : Nat) (secs : List Sec) (armed : Bool) (left : Int) (lv : List (Int × Int × Int)) (s : St) (b b' : PB) (gs : List (Int × Int)) (vs vj : Value) (w : World) (h : HouseS w base pb mb n db sb L hb secs armed left lv s b gs) (G : Glob w) (hbg : Tryz.prog.globals.size ≤ base) (ho : OwnBook w base vs vj b'.stays b'.jobs) (ok : BookOK b'.last lv.length b'.stays b'.jobs) :
    Calls Tryz.prog 53 #[.pointer (some ⟨L, 0, none⟩), .agg #[.int .i64 b'.last, vs, vj]] w (HKeep base pb mb n db sb L hb secs armed lv s b' gs w) := by
  obtain ⟨sa, sc, ja, jc, hvs, hvj, hat⟩ := own_at2 (last := b'.last) ho
  have hfar : ∀ W, DFr base w W → Book.At ⟨b'.last, sa, sc, ja, jc, b'.stays, b'.jobs⟩ W := fun W hW => by
    obtain ⟨sa2, sc2, ja2, jc2, e1, e2, hat2⟩ := own_at2 (last := b'.last) (bookFar ho (LFr.of_dfr hW))
    rw [hvs] at e1
    rw [hvj] at e2
    injection e1 with a1 a2 a3
    injection e2 with b1 b2 b3
    subst a1 a3 b1 b3
    exact hat2
  subst hvs hvj
  refine (keepS base db sb secs armed left L lv.length b ⟨b'.last, sa, sc, ja, jc, b'.stays, b'.jobs⟩ w h.l h.hsz G hbg hat hfar h.n1 h.n4).mono ?_
  have h0 : bookN ⟨b'.last, sa, sc, ja, jc, b'.stays, b'.jobs⟩ lv.length = 0 := (bookN_zero _ _).2 ok
  rintro e w' (⟨h1, _⟩ | ⟨_, h2, h3, s', l', h4, h5⟩ | ⟨_, h2, h3, h4, s', b2, l', h5, h6, h7⟩)
  · exact absurd h0 h1
  · exact Or.inl ⟨h2, h3, s', l', h.kept h3 h4 ok, h5⟩
  · exact Or.inr ⟨h2, h3, LFr.of_dfr h4, isP_l h.p (LFr.of_dfr h4), s', b2, l', h5, h6, h7⟩
/-- What Want of a house comes to. -/
def HWant (base pb mb n db sb L hb : Nat) (secs : List Sec) (armed : Bool) (lv : List (Int × Int × Int)) (s : St) (b : PB) (gs : List (Int × Int)) (t : Int) (w : World) (e : Ending) (w' : World) : Prop :=
  (∃ k, k ≠ 0 ∧ wantN b.book t = k ∧ e = .returned (errV k) ∧ Below w.heap.size w w') ∨
  (wantN b.book t = 0 ∧ HKeep base pb mb n db sb L hb secs armed lv s ⟨b.last, b.stays, b.jobs ++ [⟨t, true⟩]⟩ gs w e w')
theorem ok_wanted {last : Int} {n : Nat} {S : List Stay} {J : List Job} {t : Int} (h : BookOK last n S J) (hw : wantN ⟨last, none, 0, none, 0, S, J⟩ t = 0) : BookOK last n S (J ++ [⟨t, true⟩]) := by
  unfold wantN at hw
  by_cases h1 : findI ⟨last, none, 0, none, 0, S, J⟩ t < 0
  · rw [if_pos h1] at hw; cases hw
  rw [if_neg h1] at hw
  by_cases h2 : hasJob J ⟨t, true⟩ = true
  · rw [if_pos h2] at hw; cases hw
  rw [if_neg h2] at hw
  by_cases h3 : 8 ≤ J.length
  · rw [if_pos h3] at hw; cases hw
  have hf := (findI_nonneg ⟨last, none, 0, none, 0, S, J⟩ t).1 (by omega)
  refine ⟨h.lim, h.fewS, by simp; omega, h.s, ⟨fun x hx => ?_, ?_⟩⟩
  · rcases List.mem_append.1 hx with hx | hx
    · exact h.j.each x hx
    · rw [List.mem_singleton.1 hx]; exact hf
  · refine List.pairwise_append.2 ⟨h.j.pair, List.pairwise_singleton _ _, fun a ha b hb e => ?_⟩
    rw [List.mem_singleton.1 hb] at e
    exact h2 ((hasJob_iff J _).2 (e ▸ ha))

set_option maxHeartbeats 4000000 in
theorem hwant_any (base pb mb n db sb L hb : Nat) (secs : List Sec) (armed : Bool) (left : Int) (lv : List (Int × Int × Int)) (s : St) (b : PB) (gs : List (Int × Int)) (t : Int) (w : World) (h : HouseS w base pb mb n db sb L hb secs armed left lv s b gs) (G : Glob w) (hbg : Tryz.prog.globals.size ≤ base) :
    Calls Tryz.prog 38 #[.pointer (some ⟨hb, 0, none⟩), .int .i64 t] w (HWant base pb mb n db sb L hb secs armed lv s b gs t w) := by
  have HNO : Hid (∀ k w', k ≠ 0 → wantN b.book t = k → Below w.heap.size w w' → HWant base pb mb n db sb L hb secs armed lv s b gs t w (.returned (.iface 103 (.int .i64 k))) w') := fun k w' h0 h1 h2 => Or.inl ⟨k, h0, h1, by rw [errV_ne h0], h2⟩
  have HYES : Hid (wantN b.book t = 0 → ∀ W e w', Below w.heap.size w W → HKeep base pb mb n db sb L hb secs armed lv s ⟨b.last, b.stays, b.jobs ++ [⟨t, true⟩]⟩ gs W e w' → HWant base pb mb n db sb L hb secs armed lv s b gs t w e w') := fun h0 W e w' h1 h2 => Or.inr ⟨h0, h2.front (LFr.of_dfr (DFr.of_below h1 h.hsz))⟩
  have HBK : Hid (Calls Tryz.prog 20 #[.pointer (some ⟨hb, 0, none⟩)] w fun e w' => ∃ vs vj, e = .returned (.agg #[.int .i64 b.last, vs, vj]) ∧ OwnBook w' w.heap.size vs vj b.stays b.jobs ∧ Below w.heap.size w w') := hbook_any base pb mb n db sb L hb secs armed left lv s b gs w h
  have HWT : Hid (∀ vs vj W, OwnBook W w.heap.size vs vj b.stays b.jobs → Calls Tryz.prog 67 #[.agg #[.int .i64 b.last, vs, vj], .int .i64 t] W fun e w' => ∃ v x, e = .returned (.tuple #[v, x]) ∧ Hid ((∃ k, k ≠ 0 ∧ wantN b.book t = k ∧ v = .agg #[.int .i64 0, .slice none 0 0, .slice none 0 0] ∧ x = .iface 103 (.int .i64 k)) ∨ (wantN b.book t = 0 ∧ x = .nilIface ∧ ∃ vs vj, v = .agg #[.int .i64 b.last, vs, vj] ∧ OwnBook w' W.heap.size vs vj b.stays (b.jobs ++ [⟨t, true⟩]))) ∧ Below W.heap.size W w') := fun vs vj W ho => by
    obtain ⟨sa, sc, ja, jc, rfl, rfl, hat⟩ := own_at2 (last := b.last) ho
    refine (want_any ⟨b.last, sa, sc, ja, jc, b.stays, b.jobs⟩ t W hat (by have := h.ok.fewS; show b.stays.length ≤ 20; omega) (by have := h.ok.fewJ; show b.jobs.length ≤ 12; omega)).mono ?_
    rintro e w' (⟨⟨k, rfl, hk, hn⟩, hB⟩ | ⟨hn, vs, vj, rfl, ho2, hB⟩)
    · exact ⟨_, _, rfl, Or.inl ⟨k, hk, hn, rfl, by rw [errV_ne hk]⟩, hB⟩
    · exact ⟨_, _, rfl, Or.inr ⟨hn, rfl, vs, vj, rfl, ho2⟩, hB⟩
  have HKP : Hid (wantN b.book t = 0 → ∀ vs vj W, Below w.heap.size w W → OwnBook W base vs vj b.stays (b.jobs ++ [⟨t, true⟩]) → Calls Tryz.prog 53 #[.pointer (some ⟨L, 0, none⟩), .agg #[.int .i64 b.last, vs, vj]] W (HKeep base pb mb n db sb L hb secs armed lv s ⟨b.last, b.stays, b.jobs ++ [⟨t, true⟩]⟩ gs W)) := fun h0 vs vj W hB ho => hkeep base pb mb n db sb L hb secs armed left lv s b ⟨b.last, b.stays, b.jobs ++ [⟨t, true⟩]⟩ gs vs vj W (h.below hB) (G.new hB) hbg ho (ok_wanted h.ok h0)
  obtain ⟨vl, vg, hH, hL, hG⟩ := h.h
  have hsz : Hid (base ≤ w.heap.size) := h.hsz
  have HH : Hid (∀ W, Below w.heap.size w W → Blk W hb #[vl, .pointer (some ⟨pb, 0, none⟩), .pointer (some ⟨L, 0, none⟩), vg] 96) := fun W hB => hH.below hB
  have hhb : Hid (hb < w.heap.size) := hH.lt
  clear h hH hL hG G
  generalize HWant base pb mb n db sb L hb secs armed lv s b gs t w = PP at *
  generalize hKP : HKeep base pb mb n db sb L hb secs armed lv s ⟨b.last, b.stays, b.jobs ++ [⟨t, true⟩]⟩ gs = KP at *
  have HKV : Hid (∀ W e w', KP W e w' → (∃ v, e = .returned v) ∧ LFr base W w') := fun W e w' hk => by
    rw [← hKP] at hk
    refine ⟨?_, hk.fr⟩
    rcases hk.value with h | h
    · exact ⟨_, h⟩
    · exact ⟨_, h⟩
  clear hKP
  generalize wantN b.book t = wn at *
  generalize b.jobs ++ [⟨t, true⟩] = jobs2 at *
  generalize b.last = last at *
  generalize b.stays = stays at *
  generalize b.jobs = jobs at *
  go_enter Tryz.func38, Tryz.ntmps38
  go_wp2_with fail
  refine HBK.out.mono ?_
  rintro e w1 ⟨vs, vj, rfl, ho, b1⟩
  have X1 : Hid (Below w.heap.size w w1) := b1
  have HW1 := hidd (HWT.out vs vj w1 ho)
  clear HBK HWT ho b1
  go_wp2_with fail
  refine HW1.out.mono ?_
  rintro e w2 ⟨v, x, rfl, hv, b2⟩
  have X2 : Hid (Below w.heap.size w w2) := B.next X1.out b2 X1.out.size
  have X12 : Hid (w.heap.size ≤ w1.heap.size) := X1.out.size
  clear HW1 b2 X1
  rcases hv.out with ⟨k, hk, hwn, rfl, rfl⟩ | ⟨hwn, rfl, vs2, vj2, rfl, ho2⟩
  · have HF : Hid (∀ w', Below w2.heap.size w2 w' → PP (.returned (.iface 103 (.int .i64 k))) w') := fun w' hB => HNO.out k w' hk hwn (B.next X2.out hB X2.out.size)
    clear HNO HYES HKP HKV hv
    go_wp2
    exact HF.out _ (B.new1 _ _)
  · obtain ⟨sx, cx, hvs, _⟩ := ho2.s.rows
    obtain ⟨jx, dx, hvj, _⟩ := ho2.j.rows
    obtain ⟨w3, hw3⟩ : ∃ w3, w2.alloc (.cells #[.int .i64 last, vs2, vj2] 39) = w3 := ⟨_, rfl⟩
    have N3 : Hid (Below w2.heap.size w2 w3 ∧ Blk w3 w2.heap.size #[.int .i64 last, vs2, vj2] 39) := by
      show _ ∧ _
      rw [← hw3]
      exact ⟨B.new1 _ _, Blk.new _ _ _⟩
    have X3 : Hid (Below w.heap.size w w3.drew) := (B.next X2.out N3.out.1 X2.out.size).drew
    have D3 : Hid (Below w3.heap.size w3 w3.drew) := (Below.refl _ _).drew
    have HK3 := hidd (HKP.out hwn vs2 vj2 w3.drew X3.out (bookDown ((ho2.below N3.out.1).below D3.out) (Nat.le_trans hsz.out X12.out)))
    have HF : Hid (∀ e w', KP w3.drew e w' → PP e w') := fun e w' hk => HYES.out hwn _ e w' X3.out hk
    subst hvs hvj
    have HS : Hid (w3.drew.cell? ⟨hb, 2, none⟩ = some (.pointer (some ⟨L, 0, none⟩)) ∧ w3.drew.cell? ⟨w2.heap.size, 0, none⟩ = some (.int .i64 last) ∧ w3.drew.cell? ⟨w2.heap.size, 1, none⟩ = some (.slice sx stays.length cx) ∧ w3.drew.cell? ⟨w2.heap.size, 2, none⟩ = some (.slice jx jobs2.length dx)) := ⟨(HH.out _ X3.out).cell 2, (N3.out.2.below D3.out).cell 0, (N3.out.2.below D3.out).cell 1, (N3.out.2.below D3.out).cell 2⟩
    have HS4 : Hid (∀ W, LFr base w3.drew W → W.cell? ⟨hb, 2, none⟩ = some (.pointer (some ⟨L, 0, none⟩)) ∧ W.cell? ⟨w2.heap.size, 0, none⟩ = some (.int .i64 last) ∧ W.cell? ⟨w2.heap.size, 1, none⟩ = some (.slice sx stays.length cx) ∧ W.cell? ⟨w2.heap.size, 2, none⟩ = some (.slice jx jobs2.length dx)) := fun W hf => by
      have k1 := hf.far _ _ _ (by decide) (by decide) (by decide) (by decide) (HH.out _ X3.out)
      have k2 := hf.far _ _ _ (by decide) (by decide) (by decide) (by decide) (N3.out.2.below D3.out)
      exact ⟨k1.cell 2, k2.cell 0, k2.cell 1, k2.cell 2⟩
    have hhb3 : Hid (hb < w3.heap.size) := Nat.lt_of_lt_of_le hhb (Nat.le_trans X2.out.size N3.out.1.size)
    clear HNO HYES HKP hv ho2 D3 X3 N3 HH X2 X12 hsz
    go_upto_region 4 with fail
    (try simp only [hw3])
    clear hw3
    go_region_held3 (fun W => W.cell? ⟨hb, 2, none⟩ = some (.pointer (some ⟨L, 0, none⟩)) ∧ W.cell? ⟨w2.heap.size, 0, none⟩ = some (.int .i64 last) ∧ W.cell? ⟨w2.heap.size, 1, none⟩ = some (.slice sx stays.length cx) ∧ W.cell? ⟨w2.heap.size, 2, none⟩ = some (.slice jx jobs2.length dx)) (first | with_reducible exact HS.out | with_reducible exact HS4.out _ HL4.out | go_keep)
      (first | (go_at_call 53; refine HK3.out.mono ?_; rintro e w4 hk; have HQ : Hid (PP e w4) := HF.out e w4 hk; have HE := HKV.out _ _ _ hk; clear hk HF HKV; have HL4 : Hid (LFr base w3.drew w4) := HE.2; obtain ⟨⟨v, rfl⟩, _⟩ := HE))
    clear HK3 HS HS4
    go_wp2
    exact HQ.out
end Hs
end Go.Proofs.YtopgllmjeliklaaGreatDoor

namespace Go.Proofs.YtopgllmjeliklaaGreatDoor
open Go.Shelf Go.Lib Go.ChangeShapes Go.WideShapes Go.ChangeAt Go.RowKit
set_option maxRecDepth 100000
set_option linter.unusedSimpArgs false
set_option linter.unusedVariables false

namespace Bk
set_option maxHeartbeats 4000000 in
theorem sameBook_any (last : Int) (stays : List Stay) (jobs : List Job) (sa ja sx jx : Option Addr) (sc jc cx dx : Nat) (w : World) (h1 : Book.At ⟨last, sa, sc, ja, jc, stays, jobs⟩ w) (h2 : Book.At ⟨last, sx, cx, jx, dx, stays, jobs⟩ w) :
    Calls Tryz.prog 22 #[.agg #[.int .i64 last, .slice sa stays.length sc, .slice ja jobs.length jc], .agg #[.int .i64 last, .slice sx stays.length cx, .slice jx jobs.length dx]] w fun e w' => e = .returned (.bool true) ∧ Below w.heap.size w w' := by
  have H1 : Hid (∀ wx, Below w.heap.size w wx → RowsAt wx sa sc 8 Stay.enc stays) := fun wx h => h1.1.below h
  have H2 : Hid (∀ wx, Below w.heap.size w wx → RowsAt wx sx cx 8 Stay.enc stays) := fun wx h => h2.1.below h
  have H3 : Hid (∀ wx, Below w.heap.size w wx → RowsAt wx ja jc 2 Job.enc jobs) := fun wx h => h1.2.below h
  have H4 : Hid (∀ wx, Below w.heap.size w wx → RowsAt wx jx dx 2 Job.enc jobs) := fun wx h => h2.2.below h
  have hm1 : sc ≤ maxLen := h1.1.2.1
  have hm2 : cx ≤ maxLen := h2.1.2.1
  have hm3 : jc ≤ maxLen := h1.2.2.1
  have hm4 : dx ≤ maxLen := h2.2.2.1
  have hn1 : stays.length ≤ sc := h1.1.1
  have hn2 : stays.length ≤ cx := h2.1.1
  have hn3 : jobs.length ≤ jc := h1.2.1
  have hn4 : jobs.length ≤ dx := h2.2.1
  unfold maxLen at hm1 hm2 hm3 hm4
  obtain ⟨w0, hw0⟩ : ∃ w0, (w.alloc (.cells #[.int .i64 last, .slice sa stays.length sc, .slice ja jobs.length jc] 39)).alloc (.cells #[.int .i64 last, .slice sx stays.length cx, .slice jx jobs.length dx] 39) = w0 := ⟨_, rfl⟩
  have N0 : Hid (Below w.heap.size w w0 ∧ Blk w0 w.heap.size #[.int .i64 last, .slice sa stays.length sc, .slice ja jobs.length jc] 39 ∧ Blk w0 (w.heap.size + 1) #[.int .i64 last, .slice sx stays.length cx, .slice jx jobs.length dx] 39) := by
    show _ ∧ _ ∧ _
    rw [← hw0]
    exact ⟨(B.new1 _ _).alloc (by simp) _, (Blk.new _ _ _).old _, Blk.new1 (by simp) _ _⟩
  have ra := N0.out.2.1.cell
  have rb := N0.out.2.2.cell
  clear h1 h2
  go_enter Tryz.func22, Tryz.ntmps22
  go_wp2_with fail
  clear ra rb hw0
  go_loopg [5] stays.length (fun gg s5 wr => ∃ i : Nat, i ≤ stays.length ∧ stays.length - i ≤ gg ∧ s5 = .int .i64 i ∧ Hid (Below w.heap.size w wr ∧ Blk wr w.heap.size #[.int .i64 last, .slice sa stays.length sc, .slice ja jobs.length jc] 39 ∧ Blk wr (w.heap.size + 1) #[.int .i64 last, .slice sx stays.length cx, .slice jx jobs.length dx] 39))
  case atStart => exact ⟨0, Nat.zero_le _, by omega, rfl, N0⟩
  case round =>
    clear N0
    obtain ⟨i, hi, hg, rfl, M⟩ := hrel
    have ra := M.out.2.1.cell
    by_cases hlt : i < stays.length
    · have hltz : (i : Int) < (stays.length : Int) := by omega
      obtain ⟨sb, soff, rfl⟩ := rows_some (H1.out _ M.out.1) (by omega)
      obtain ⟨xb, xoff, rfl⟩ := rows_some (H2.out _ M.out.1) (by omega)
      have b1 := fun p : BelowW wr => (M.out.2.1.below p.hb).cell 1
      have b2 := fun p : BelowW wr => (M.out.2.2.below p.hb).cell 1
      have s0 := fun p : BelowW wr => rows_cell (H1.out p.wd (B.next M.out.1 p.hb M.out.1.size)) i hlt 0 _ rfl
      have q0 := fun p : BelowW wr => rows_cell (H2.out p.wd (B.next M.out.1 p.hb M.out.1.size)) i hlt 0 _ rfl
      have s1 := fun p : BelowW wr => rows_cell (H1.out p.wd (B.next M.out.1 p.hb M.out.1.size)) i hlt 1 _ rfl
      have q1 := fun p : BelowW wr => rows_cell (H2.out p.wd (B.next M.out.1 p.hb M.out.1.size)) i hlt 1 _ rfl
      have s2 := fun p : BelowW wr => rows_cell (H1.out p.wd (B.next M.out.1 p.hb M.out.1.size)) i hlt 2 _ rfl
      have q2 := fun p : BelowW wr => rows_cell (H2.out p.wd (B.next M.out.1 p.hb M.out.1.size)) i hlt 2 _ rfl
      have s3 := fun p : BelowW wr => rows_cell (H1.out p.wd (B.next M.out.1 p.hb M.out.1.size)) i hlt 3 _ rfl
      have q3 := fun p : BelowW wr => rows_cell (H2.out p.wd (B.next M.out.1 p.hb M.out.1.size)) i hlt 3 _ rfl
      have s4 := fun p : BelowW wr => rows_cell (H1.out p.wd (B.next M.out.1 p.hb M.out.1.size)) i hlt 4 _ rfl
      have q4 := fun p : BelowW wr => rows_cell (H2.out p.wd (B.next M.out.1 p.hb M.out.1.size)) i hlt 4 _ rfl
      have s5 := fun p : BelowW wr => rows_cell (H1.out p.wd (B.next M.out.1 p.hb M.out.1.size)) i hlt 5 _ rfl
      have q5 := fun p : BelowW wr => rows_cell (H2.out p.wd (B.next M.out.1 p.hb M.out.1.size)) i hlt 5 _ rfl
      have s6 := fun p : BelowW wr => rows_cell (H1.out p.wd (B.next M.out.1 p.hb M.out.1.size)) i hlt 6 _ rfl
      have q6 := fun p : BelowW wr => rows_cell (H2.out p.wd (B.next M.out.1 p.hb M.out.1.size)) i hlt 6 _ rfl
      have s7 := fun p : BelowW wr => rows_cell (H1.out p.wd (B.next M.out.1 p.hb M.out.1.size)) i hlt 7 _ rfl
      have q7 := fun p : BelowW wr => rows_cell (H2.out p.wd (B.next M.out.1 p.hb M.out.1.size)) i hlt 7 _ rfl
      simp only [Nat.add_zero] at s0 q0
      have eS := neqStay_run stays[i]!
      have gS := guardStay_run
      generalize stays[i]! = sv at *
      go_wp2_with fail
      clear ra
      refine wp_region_below (by kernel_rfl) (by kernel_rfl) ?_
      repeat (go_big_quiet_step (fail))
      refine wpQuiet_nil ?_
      rintro wq ⟨⟨_, NQ⟩, rfl⟩
      have MQ : Hid (Below w.heap.size w wq ∧ Blk wq w.heap.size #[.int .i64 last, .slice (some ⟨sb, soff, none⟩) stays.length sc, .slice ja jobs.length jc] 39 ∧ Blk wq (w.heap.size + 1) #[.int .i64 last, .slice (some ⟨xb, xoff, none⟩) stays.length cx, .slice jx jobs.length dx] 39) := ⟨B.next M.out.1 NQ M.out.1.size, M.out.2.1.below NQ, M.out.2.2.below NQ⟩
      clear s0 q0 s1 q1 s2 q2 s3 q3 s4 q4 s5 q5 s6 q6 s7 q7 b1 b2 eS gS NQ M
      go_wp2
      go_roundg (stays.length - (i + 1))
      case measure => omega
      case rel => exact ⟨i + 1, by omega, by omega, by go_num, MQ⟩
    · have hltz : ¬ (i : Int) < (stays.length : Int) := by omega
      go_wp2_with fail
      clear ra hltz hlt hg hi
      go_loopg [6] jobs.length (fun gg s6 wr => ∃ i : Nat, i ≤ jobs.length ∧ jobs.length - i ≤ gg ∧ s6 = .int .i64 i ∧ Hid (Below w.heap.size w wr ∧ Blk wr w.heap.size #[.int .i64 last, .slice sa stays.length sc, .slice ja jobs.length jc] 39 ∧ Blk wr (w.heap.size + 1) #[.int .i64 last, .slice sx stays.length cx, .slice jx jobs.length dx] 39))
      case atStart => exact ⟨0, Nat.zero_le _, by omega, rfl, M⟩
      case round =>
        clear M
        obtain ⟨i, hi, hg, rfl, M⟩ := hrel
        have ra := M.out.2.1.cell
        by_cases hlt : i < jobs.length
        · have hltz : (i : Int) < (jobs.length : Int) := by omega
          obtain ⟨sb, soff, rfl⟩ := rows_some (H3.out _ M.out.1) (by omega)
          obtain ⟨xb, xoff, rfl⟩ := rows_some (H4.out _ M.out.1) (by omega)
          have b1 := fun p : BelowW wr => (M.out.2.1.below p.hb).cell 2
          have b2 := fun p : BelowW wr => (M.out.2.2.below p.hb).cell 2
          have s0 := fun p : BelowW wr => rows_cell (H3.out p.wd (B.next M.out.1 p.hb M.out.1.size)) i hlt 0 _ rfl
          have s1 := fun p : BelowW wr => rows_cell (H3.out p.wd (B.next M.out.1 p.hb M.out.1.size)) i hlt 1 _ rfl
          have q0 := fun p : BelowW wr => rows_cell (H4.out p.wd (B.next M.out.1 p.hb M.out.1.size)) i hlt 0 _ rfl
          have q1 := fun p : BelowW wr => rows_cell (H4.out p.wd (B.next M.out.1 p.hb M.out.1.size)) i hlt 1 _ rfl
          simp only [Nat.add_zero] at s0 q0
          have eS := neqJJ_run jobs[i]!.t jobs[i]!.t jobs[i]!.f jobs[i]!.f
          have gS := eqJ_guard jobs[i]!.t jobs[i]!.t jobs[i]!.f jobs[i]!.f
          generalize jobs[i]! = jv at *
          rw [show (!(jv.t == jv.t && jv.f == jv.f)) = false from by simp] at eS
          go_wp2_with fail
          clear ra
          refine wp_region_below (by kernel_rfl) (by kernel_rfl) ?_
          repeat (go_big_quiet_step (fail))
          refine wpQuiet_nil ?_
          rintro wq ⟨⟨_, NQ⟩, rfl⟩
          have MQ : Hid (Below w.heap.size w wq ∧ Blk wq w.heap.size #[.int .i64 last, .slice sa stays.length sc, .slice (some ⟨sb, soff, none⟩) jobs.length jc] 39 ∧ Blk wq (w.heap.size + 1) #[.int .i64 last, .slice sx stays.length cx, .slice (some ⟨xb, xoff, none⟩) jobs.length dx] 39) := ⟨B.next M.out.1 NQ M.out.1.size, M.out.2.1.below NQ, M.out.2.2.below NQ⟩
          clear s0 s1 q0 q1 b1 b2 eS gS NQ M
          go_wp2
          go_roundg (jobs.length - (i + 1))
          case measure => omega
          case rel => exact ⟨i + 1, by omega, by omega, by go_num, MQ⟩
        · have hltz : ¬ (i : Int) < (jobs.length : Int) := by omega
          go_wp2
          go_returns
          exact ⟨rfl, M.out.1⟩

end Bk
end Go.Proofs.YtopgllmjeliklaaGreatDoor

namespace Go.Proofs.YtopgllmjeliklaaGreatDoor
open Go.Shelf Go.Lib Go.ChangeShapes Go.WideShapes Go.ChangeAt Go.RowKit
set_option maxRecDepth 100000
set_option linter.unusedSimpArgs false
set_option linter.unusedVariables false

namespace Bk
theorem nodup_le {α : Type} [BEq α] [LawfulBEq α] : ∀ (l m : List α), l.Pairwise (fun a b => a ≠ b) → (∀ x ∈ l, x ∈ m) → l.length ≤ m.length
  | [], m, _, _ => Nat.zero_le _
  | a :: l, m, hp, hs => by
    rw [List.pairwise_cons] at hp
    have ha : a ∈ m := hs a (by simp)
    have := nodup_le l (m.erase a) hp.2 (fun x hx => (List.mem_erase_of_ne (fun e => hp.1 x hx e.symm)).2 (hs x (by simp [hx])))
    rw [List.length_erase_of_mem ha] at this
    have h0 : 0 < m.length := List.length_pos_of_mem ha
    simp only [List.length_cons]
    omega
theorem eqP_iff {a b c x y z : Int} : eqP a b c x y z = true ↔ a = x ∧ b = y ∧ c = z := by
  unfold eqP
  simp [and_assoc]
theorem hasPlace_iff (l : List (Int × Int × Int)) (p : Int × Int × Int) : hasPlace l p = true ↔ p ∈ l := by
  unfold hasPlace
  rw [List.any_eq_true]
  constructor
  · rintro ⟨y, hy, h⟩
    simp at h
    obtain ⟨p1, p2, p3⟩ := p
    obtain ⟨y1, y2, y3⟩ := y
    simp at h
    obtain ⟨⟨rfl, rfl⟩, rfl⟩ := h
    exact hy
  · intro h
    exact ⟨p, h, by simp⟩
/-- There are no more stays than places. -/
theorem stays_few {last : Int} {n : Nat} {l : List Stay} (h1 : 1 ≤ n) (h4 : n ≤ 4) (h : StaysOK last n l) : l.length ≤ 14 := by
  have hp : (l.map (fun s => (s.x, s.y, s.z))).Pairwise (fun a b => a ≠ b) := by
    rw [List.pairwise_map]
    refine h.pair.imp ?_
    intro a b hab e
    have := hab.2
    unfold clash at this
    simp only [Prod.mk.injEq] at e
    rw [eqP_iff.2 ⟨e.1, e.2.1, e.2.2⟩] at this
    simp at this
  have := nodup_le _ (placesTo n (2 * n)) hp (fun x hx => by
    obtain ⟨s, hs, rfl⟩ := List.mem_map.1 hx
    exact (hasPlace_iff _ _).1 (h.each s hs).2.2.2)
  rw [List.length_map, places_len n h1 h4] at this
  omega

theorem BookOK.parked {last : Int} {n : Nat} {stays : List Stay} {jobs : List Job} {sa ja : Option Addr} {sc jc : Nat} {f : Nat → Int × Int × Int} {ci ca cb cc : Int} {po : Int × Int × Int} (h1 : 1 ≤ n) (h4 : n ≤ 4) (h : BookOK last n stays jobs)
    (hk : parkN ⟨last, sa, sc, ja, jc, stays, jobs⟩ f n ci ca cb cc = 0) (hpo : pickO ⟨last, sa, sc, ja, jc, stays, jobs⟩ f ca cb cc n = some po) :
    BookOK (last + 1) n (stays ++ [⟨last + 1, ci, ca, cb, cc, po.1, po.2.1, po.2.2⟩]) (jobs ++ [⟨last + 1, false⟩]) := by
  have hcar : carN ci ca cb cc = 0 := by
    unfold parkN at hk
    by_cases e : carN ci ca cb cc = 0
    · exact e
    · rw [if_pos e] at hk; exact hk
  have hof : ¬ 0 ≤ ofI ⟨last, sa, sc, ja, jc, stays, jobs⟩ ci := by
    intro e
    unfold parkN at hk
    rw [if_neg (by simp [hcar]), if_pos e] at hk
    exact absurd hk (by decide)
  have hfull : ¬ (999999 ≤ last ∨ 8 ≤ jobs.length) := by
    intro e
    unfold parkN at hk
    rw [if_neg (by simp [hcar]), if_neg hof, if_pos (Or.inr e)] at hk
    exact absurd hk (by decide)
  have hid : ∀ s ∈ stays, s.id ≠ ci := by
    intro s hs e
    have := stayIdx_nonneg (fun s => s.id == ci) stays
    have h2 : stays.any (fun s => s.id == ci) = true := List.any_eq_true.2 ⟨s, hs, by simpa using e⟩
    rw [h2] at this
    exact hof (of_decide_eq_true this)
  have hfew := stays_few h1 h4 h.s
  have hmem : po ∈ placesTo n (2 * n) := List.mem_of_find?_eq_some hpo
  have hok : okP ⟨last, sa, sc, ja, jc, stays, jobs⟩ f ca cb cc po = true := List.find?_some hpo
  have hbar : ∀ s ∈ stays, eqP s.x s.y s.z po.1 po.2.1 po.2.2 = false := by
    intro s hs
    unfold okP barredB at hok
    simp only [Bool.and_eq_true, Bool.not_eq_true'] at hok
    have h2 := List.any_eq_false.1 hok.2 s hs
    unfold barP at h2
    cases hq : eqP s.x s.y s.z po.1 po.2.1 po.2.2 with
    | false => rfl
    | true => rw [hq] at h2; simp at h2
  have hpl : placeB po.1 po.2.1 po.2.2 n = true := by
    obtain ⟨i, hi, e⟩ := List.getElem_of_mem hmem
    have := (places_good n h1 h4 i (by rw [← places_len n h1 h4]; exact hi)).1
    have e2 : (placesTo n (2 * n)).getD i (0, 0, 0) = po := by simp [List.getD, hi, e]
    simp only [e2] at this
    exact this
  refine ⟨by have := h.lim; omega, by rw [List.length_append]; simp; omega, by rw [List.length_append]; simp; omega, ⟨?_, ?_⟩, ⟨?_, ?_⟩⟩
  · intro s hs
    rcases List.mem_append.1 hs with hs | hs
    · obtain ⟨a, b, c, d⟩ := h.s.each s hs
      refine ⟨a, b, ?_, d⟩
      simp only [decide_eq_true_eq] at c ⊢
      omega
    · simp only [List.mem_singleton] at hs
      subst hs
      refine ⟨hcar, hpl, ?_, (hasPlace_iff _ _).2 hmem⟩
      have := h.lim
      simp only [decide_eq_true_eq]
      omega
  · rw [List.pairwise_append]
    refine ⟨h.s.pair, List.pairwise_singleton _ _, fun a ha b hb => ?_⟩
    simp only [List.mem_singleton] at hb
    subst hb
    have hr := (h.s.each a ha).2.2.1
    simp only [decide_eq_true_eq] at hr
    refine ⟨by show a.t < last + 1; omega, ?_⟩
    unfold clash
    simp only [hbar a ha, Bool.false_or]
    simpa using hid a ha
  · intro x hx
    rcases List.mem_append.1 hx with hx | hx
    · obtain ⟨s, hs, e⟩ := h.j.each x hx
      exact ⟨s, List.mem_append_left _ hs, e⟩
    · simp only [List.mem_singleton] at hx
      subst hx
      exact ⟨_, List.mem_append_right _ (List.mem_singleton.2 rfl), rfl⟩
  · rw [List.pairwise_append]
    refine ⟨h.j.pair, List.pairwise_singleton _ _, fun a ha b hb e => ?_⟩
    simp only [List.mem_singleton] at hb
    subst hb
    obtain ⟨s, hs, es⟩ := h.j.each a ha
    have hr := (h.s.each s hs).2.2.1
    simp only [decide_eq_true_eq] at hr
    rw [e] at es
    simp only at es
    omega

theorem eqCar_run (i a b c : Int) (w : World) : Sem.run Tryz.prog (binOp .eql 34 (.agg #[.int .i64 i, .int .i64 a, .int .i64 b, .int .i64 c]) (.agg #[.int .i64 i, .int .i64 a, .int .i64 b, .int .i64 c])) w = .ok (.bool true) w := by
  have u3 := Tryz.underlying3
  have a3 := Tryz.isAgg3
  have z3 := Tryz.sizeOf3
  have hS : Tryz.prog.underlying 34 = some (.struct (Tryz.prog.fieldsOf 34)) := by kernel_rfl
  have hp : Tryz.prog.stoodInHeld 34 = false := by kernel_rfl
  have aZ := Tryz.isAgg32
  have zZ := Tryz.sizeOf32
  rw [run_eql_struct, show (10000 : Nat) = 9999 + 1 from rfl, run_equalIn_agg w 9999 34 _ _ hS hp]
  simp only [Program.fieldsOf, Tryz.underlying34]
  have e1' : ∀ w, Sem.run Tryz.prog (Op.equalIn 9999 32 (.agg #[.int .i64 a, .int .i64 b, .int .i64 c]) (.agg #[.int .i64 a, .int .i64 b, .int .i64 c])) w = .ok true w := fun w => eqIn3 32 9997 a b c w (by kernel_rfl) (by kernel_rfl) (Or.inr rfl)
  clear hS hp
  go_simp
theorem guardCar_run (op : BinOp) (u v : Operand) (a b : Array Value) (w : World) : Sem.run Tryz.prog (eqGuard op 34 u v (.agg a) (.agg b)) w = .ok () w := run_eqGuard_agg w op 34 u v a b (by kernel_rfl)

theorem park_four : parkN ⟨4, none, 0, none, 0, [], []⟩ (fun _ => (99, 99, 99)) 1 1 1 1 1 = 0 := by decide

end Bk
end Go.Proofs.YtopgllmjeliklaaGreatDoor
