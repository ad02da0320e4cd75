/- HsH HsI HsJ HsN. -/
import Derived.Test.YtopgllmjeliklaaGreatDoorKiHsG
set_option maxRecDepth 100000
set_option linter.unusedSimpArgs false
set_option linter.unusedVariables false
namespace Go.Proofs.YtopgllmjeliklaaGreatDoor
open Go.Shelf Go.Lib Go.ChangeShapes Go.WideShapes Go.ChangeAt Go.RowKit
namespace Hs
open Bk Lg Pl Dk Tx
theorem DiskAt.down {w : World} {base base' db sb : Nat} {secs : List Sec} {bit : Int} {armed : Bool} {left : Int} {down : Bool} (h : DiskAt w base db sb secs bit armed left down) (hb : base' ≤ base) : DiskAt w base' db sb secs bit armed left down :=
 ⟨h.d, h.s, fun i hi => (h.own i hi).base hb, h.ne, ⟨Nat.le_trans hb h.hb.1, Nat.le_trans hb h.hb.2⟩⟩
def HousedPost (lv : List (Int × Int × Int)) (w : World) (e : Ending) (w' : World) : Prop :=
 Below w.heap.size w w' ∧ ∃ pb mb db sb L hb secs left, e = .returned (.tuple #[.pointer (some ⟨pb, 0, none⟩), .pointer (some ⟨db, 0, none⟩), .pointer (some ⟨hb, 0, none⟩), .bool true]) ∧ HouseS w' w.heap.size pb mb 0 db sb L hb secs false left lv (newS lv.length) ⟨0, [], []⟩ []
set_option maxHeartbeats 4000000 in
theorem housed_any (len : Nat) (f : Nat → Int × Int × Int) (lvv : Value) (w : World) (hs : SizesAt w lvv len f) (hlv : levelsN len f = 0) (G : Glob w) :
  Calls Tryz.prog 43 #[lvv] w (HousedPost (rowsOf f len) w) := by
 have hln := levelsN_zero hlv; have n1 : 1 ≤ len := hln.1; have n4 : len ≤ 4 := hln.2.1; have HP : Hid (∀ pb mb db sb L hb secs left w', HouseS w' w.heap.size pb mb 0 db sb L hb secs false left (rowsOf f len) (newS len) ⟨0, [], []⟩ [] → Below w.heap.size w w' → HousedPost (rowsOf f len) w (.returned (.tuple #[.pointer (some ⟨pb, 0, none⟩), .pointer (some ⟨db, 0, none⟩), .pointer (some ⟨hb, 0, none⟩), .bool true])) w') := fun pb mb db sb L hb secs left w' h1 h2 => ⟨h2, pb, mb, db, sb, L, hb, secs, left, rfl, by rw [rowsOf_len]; exact h1⟩
 have HPN : Hid (Calls Tryz.prog 71 #[.int .i64 len] w fun e w' => e = .returned (.tuple #[.pointer (some ⟨w.heap.size + 1, 0, none⟩), .nilIface]) ∧ IsP w' (w.heap.size + 1) w.heap.size 0 (newS len) ∧ Below w.heap.size w w') := new_any len w (by omega) (by omega)
 have HDN : Hid (∀ W, Calls Tryz.prog 72 #[.int .i64 22] W fun e w' => e = .returned (.tuple #[.pointer (some ⟨W.heap.size + 1, 0, none⟩), .nilIface]) ∧ DiskAt w' W.heap.size (W.heap.size + 1) W.heap.size (List.replicate 22 secZ) 0 false 0 false ∧ Below W.heap.size W w') := fun W => diskNew_any 22 W (by decide) (by decide)
 have HW : Hid (∀ j, j < (List.replicate 22 secZ).length → (List.replicate 22 secZ)[j]!.wr = []) := fun j hj => by rw [getElem!_pos _ j hj, List.getElem_replicate]; rfl
 have hlen : (List.replicate 22 secZ).length = 22 := List.length_replicate; have hbg : Tryz.prog.globals.size ≤ w.heap.size := G.hn; have HFM : Hid (∀ base db W, w.heap.size ≤ base → base ≤ W.heap.size → Below w.heap.size w W → DiskAt W base db base (List.replicate 22 secZ) 0 false 0 false → Calls Tryz.prog 73 #[.pointer (some ⟨db, 0, none⟩)] W (FormatPost base db base (List.replicate 22 secZ) false W)) := fun base db W h1 h2 hb hd => format_any _ _ _ _ _ _ W hd h2 ⟨Or.inr rfl, by decide⟩ HW.out (by rw [hlen]; decide) (G.new hb) (Nat.le_trans hbg h1)
 have HNW : Hid (∀ pb mb db sb secs left W, Below w.heap.size w W → IsP W pb mb 0 (newS len) → w.heap.size ≤ pb → w.heap.size ≤ mb → DiskAt W w.heap.size db sb secs 0 false left false → 22 ≤ secs.length → secs.length ≤ 1000 → (∀ j, j < secs.length → secs[j]!.wr = []) → LeftOk false left → openP secs len = some ⟨0, [], []⟩ → Calls Tryz.prog 39 #[lvv, .pointer (some ⟨pb, 0, none⟩), .pointer (some ⟨db, 0, none⟩)] W (NewPost w.heap.size pb mb 0 db sb secs false left (rowsOf f len) (newS len) ⟨0, [], []⟩ W)) := fun pb mb db sb secs left W hB hp h1 h2 hd h3 h4 h5 h6 h7 => hnew_any w.heap.size pb mb 0 db sb secs false left len f lvv (newS len) ⟨0, [], []⟩ W (hs.below hB) hlv hp (Inv.new (by omega) (by omega)) h1 h2 hB.size hd h3 h4 h5 h6 h7 ((bookN_zero ⟨0, none, 0, none, 0, [], []⟩ len).1 (book_zero len 0 (by decide) (by decide))) (G.new hB)
 have hlvv : ∃ a cap, lvv = .slice a len cap := by
  obtain ⟨a, cap, hv, _⟩ := hs; exact ⟨a, cap, hv⟩
 obtain ⟨la, lc, rfl⟩ := hlvv; generalize HousedPost (rowsOf f len) w = PP at *; generalize List.replicate 22 secZ = secs0 at *; generalize newS len = s0 at *; generalize rowsOf f len = rows at *; clear hs hlv hln G
 go_enter Tryz.func43, Tryz.ntmps43
 go_wp2_with fail; refine HPN.out.mono ?_; rintro e w1 ⟨rfl, p1, b1⟩; have X1 : Hid (Below w.heap.size w w1 ∧ IsP w1 (w.heap.size + 1) w.heap.size 0 s0) := ⟨b1, p1⟩; have HD1 := hidd (HDN.out w1); clear HPN HDN p1 b1; go_wp2_with fail; refine HD1.out.mono ?_; rintro e w2 ⟨rfl, d2, b2⟩; have X2 : Hid (Below w.heap.size w w2 ∧ IsP w2 (w.heap.size + 1) w.heap.size 0 s0) := ⟨B.next X1.out.1 b2 X1.out.1.size, X1.out.2.below b2⟩; have HF2 := hidd (HFM.out w1.heap.size (w1.heap.size + 1) w2 X1.out.1.size b2.size X2.out.1 d2); have hw1 : Hid (w.heap.size ≤ w1.heap.size) := X1.out.1.size; generalize w1.heap.size = B1 at *; clear X1 HD1 HFM d2 b2; go_wp2_with fail; refine HF2.out.mono ?_; rintro e w3 hf
 have HF3 : Hid (e = .returned .nilIface ∧ ∃ secs' left', DiskAt w3 B1 (B1 + 1) B1 secs' 0 false left' false ∧ Stored secs0 secs' (nxN secs0) ⟨#[48, 32, 48, 32, 48]⟩ ∧ DFr B1 w2 w3 ∧ LeftOk false left') := by
  rcases hf with ⟨h1, _⟩ | ⟨_, hD, ⟨h1, s', l', h2, h3, h4⟩ | ⟨h1, _⟩⟩
  ·omega
  ·exact ⟨h1, s', l', h3, h4, hD, h2⟩
  ·cases h1
 obtain ⟨rfl, s', l', k1, k2, k3, k4⟩ := HF3.out; have X3 : Hid (Below w.heap.size w w3) := ⟨k3.b.os.trans X2.out.1.os, k3.b.tape.trans X2.out.1.tape, k3.b.output.trans X2.out.1.output, Nat.le_trans X2.out.1.size k3.b.size, fun q hq => (k3.b.block q (Nat.lt_of_lt_of_le hq hw1.out)).trans (X2.out.1.block q hq)⟩
 have HOP : Hid (openP s' len = some ⟨0, [], []⟩) := by
  show _ = _
  rw [open_stored k2 (nx_le _) (by omega) (by decide) (by decide) len]; exact parse_zero len n4
 have HN3 := hidd (HNW.out (w.heap.size + 1) w.heap.size (B1 + 1) B1 s' l' w3 X3.out (isP_l X2.out.2 (LFr.of_dfr k3)) (Nat.le_succ _) (Nat.le_refl _) (DiskAt.down k1 hw1.out) (by have := k2.len; omega) (by have := k2.len; omega) k2.wr2 k4 HOP.out); clear hf HF3 k1 k2 k3 k4 HF2 X2 HOP HW HNW hw1; go_wp2_with fail; refine HN3.out.mono ?_; rintro e w4 ⟨b4, L, hb, rfl, hH⟩; have HF : Hid (PP (.returned (.tuple #[.pointer (some ⟨w.heap.size + 1, 0, none⟩), .pointer (some ⟨B1 + 1, 0, none⟩), .pointer (some ⟨hb, 0, none⟩), .bool true])) w4) := HP.out _ _ _ _ L hb s' l' w4 hH (B.next X3.out b4 X3.out.size); clear b4 hH HN3 HP X3; go_wp2; go_returns; exact HF.out
end Hs
namespace Hs
open Bk Lg Pl Dk Tx
def gEnc (p : Int × Int) : List Value := [.int .i64 p.1, .int .i64 p.2]
theorem goal_len (p : Int × Int) : (gEnc p).length = 2 := rfl
theorem goal_one : ∀ (l : List (Int × Int)), ∀ u ∈ l.flatMap gEnc, u.oneCell' = true
 | [], u, h => by simp at h
 | x :: l, u, h => by
   rw [List.flatMap_cons, List.mem_append] at h
   rcases h with h | h
   ·simp [gEnc] at h
    rcases h with rfl | rfl <;> rfl
   ·exact goal_one l u h
theorem infoGoal : ∃ i0 : TypeInfo, Tryz.prog.info? 102 = some i0 ∧ i0.zero = some (.agg #[.int .i64 0, .int .i64 0]) ∧ i0.size = 2 ∧ i0.bytes = 16 := ⟨_, rfl, by kernel_rfl, by kernel_rfl, by kernel_rfl⟩
theorem rows_of_goals {w : World} {v : Value} {l : List (Int × Int)} (h : GoalsH w v l) : ∃ ad cap, v = .slice ad l.length cap ∧ RowsAt w ad cap 2 gEnc l := by
 obtain ⟨ad, cap, hv, h1, h2, h3, hc⟩ := h; refine ⟨ad, cap, hv, h2, h3, fun h0 => ?_⟩
 obtain ⟨g, off, cur, ha, hk, hcell⟩ := hc h0; refine ⟨g, off, ha, hk.lt, fun j hj i u hu => ?_⟩
 obtain ⟨c0, c1⟩ := hcell j hj; have e : l[j]! = l.getD j (0, 0) := by rw [getElem!_pos _ j hj]; simp [List.getD, hj]
 rw [e] at hu
 match i, hu with
 | 0, hu => simp [gEnc] at hu; subst hu; exact (hk.cell _).trans c0
 | 1, hu => simp [gEnc] at hu; subst hu; exact (hk.cell _).trans c1
set_option maxHeartbeats 1000000 in
theorem cloneG_any (a : Option Addr) (cap : Nat) (l : List (Int × Int)) (w : World) (h : RowsAt w a cap 2 gEnc l) (hl : l.length ≤ 1000) :
  Calls Tryz.prog 55 #[.slice a l.length cap] w fun e w' => ∃ v, e = .returned v ∧ OwnAt w' w.heap.size 102 2 gEnc v l ∧ Below w.heap.size w w' := by
 obtain ⟨i0, hi, hz0, hz1, hz2⟩ := infoGoal; have q22 : ∀ (w : World) (a : Option Addr) (n c n' c' : Nat), (binOp .eql 53 (.slice a n c) (.slice none n' c')).run Tryz.prog w = .ok (.bool a.isNone) w := fun w a n c n' c' => Lib.run_eql_slice_nil w _ _ a n c n' c' Tryz.underlying53
 cases a with
 | none =>
   have h0 : l = [] := by
    rcases l with _ | ⟨x, l⟩
    ·rfl
    ·obtain ⟨b, off, e, _⟩ := h.2.2 (by simp)
     cases e
   subst h0; clear h hi hz0 hz1 hz2
   go_enter Tryz.func55, Tryz.ntmps55
   go_wp2; go_returns; exact ⟨_, rfl, Or.inl ⟨rfl, rfl⟩, Below.refl _ _⟩
 | some ad =>
   have HA : Hid (∀ j u, (l.flatMap gEnc)[j]? = some u → w.cell? (ad.add j) = some u) := h.flat goal_len
   have HL : Hid ((l.flatMap gEnc).length = l.length * 2) := flat_len gEnc 2 goal_len l; have H1 : Hid (∀ u ∈ l.flatMap gEnc, u.oneCell' = true) := goal_one l
   clear h
   go_enter Tryz.func55, Tryz.ntmps55
   go_wp2_with (at_builtin; refine wpList_append_own _ rfl _ _ 53 rfl w.heap.size 102 i0 _ 2 16 Tryz.underlying53 hi hz0 hz1 hz2 rfl (by omega) _ _ _ rfl (World.ownsRow_made w #[] 0 (Nat.le_refl _) (Nat.zero_le _) (by simp)) ad l.length cap (l.flatMap gEnc) rfl ?qc1 ?qc2 ?qc3 ?qc4 ?qc5 ?qc6 ?_)
   case qc1 => exact HL.out
   case qc2 => intro j u hj; exact Lib.cell?_alloc_some _ (HA.out j u hj)
   case qc3 => exact H1.out
   case qc4 => unfold maxLen; omega
   case qc5 => omega
   case qc6 => simp
   intro v' w1 hown hgrow hnil
   have o1 : w1.ownsRow w.heap.size 102 2 v' l.length (l.flatMap gEnc) := by simpa using hown
   have O1 : Hid (w1.ownsRow w.heap.size 102 2 v' l.length (l.flatMap gEnc)) := o1; clear o1; have G1 : Hid (Below w.heap.size w w1) := ((Below.refl _ w).alloc (Nat.le_refl _) _).grown hgrow (by simp) (by intro k hk; simp [Value.ownBlock] at hk; omega); clear hown hgrow hnil; go_wp2; go_returns; exact ⟨v', rfl, OwnAt.of_owns goal_len O1.out, G1.out⟩
theorem hgoals_any (base pb mb n db sb L hb : Nat) (secs : List Sec) (armed : Bool) (left : Int) (lv : List (Int × Int × Int)) (s : St) (b : PB) (gs : List (Int × Int)) (w : World) (h : HouseS w base pb mb n db sb L hb secs armed left lv s b gs) :
  Calls Tryz.prog 23 #[.pointer (some ⟨hb, 0, none⟩)] w fun e w' => ∃ a c, e = .returned (.slice a gs.length c) ∧ Below w.heap.size w w' := by
 obtain ⟨vl, vg, hH, _, hG⟩ := h.h; obtain ⟨ad, cap, hv, hr⟩ := rows_of_goals hG
 have HCL : Hid (Calls Tryz.prog 55 #[.slice ad gs.length cap] w fun e w' => ∃ a c, e = .returned (.slice a gs.length c) ∧ Below w.heap.size w w') := (cloneG_any ad cap gs w hr (by obtain ⟨_, _, _, h1, _⟩ := hG; omega)).mono (by
  rintro e w' ⟨v, rfl, ho, hB⟩; obtain ⟨a, c, rfl, _⟩ := ho.rows; exact ⟨a, c, rfl, hB⟩)
 subst hv; have r := hH.cell; clear h hH hG hr; generalize hPP : (fun (e : Ending) (w' : World) => ∃ a c, e = .returned (.slice a gs.length c) ∧ Below w.heap.size w w') = PP at *
 have HP : Hid (∀ a c w', Below w.heap.size w w' → PP (.returned (.slice a gs.length c)) w') := fun a c w' hB => by rw [← hPP]; exact ⟨a, c, rfl, hB⟩
 have HC2 : Hid (Calls Tryz.prog 55 #[.slice ad gs.length cap] w fun e w' => ∃ a c, e = .returned (.slice a gs.length c) ∧ Below w.heap.size w w') := by rw [hPP]; exact HCL.out
 clear HCL hPP
 go_enter Tryz.func23, Tryz.ntmps23
 go_wp2_with fail; refine HC2.out.mono ?_; rintro e w1 ⟨a, c, rfl, b1⟩; have HQ : Hid (PP (.returned (.slice a gs.length c)) w1) := HP.out a c w1 b1; clear HC2 HP b1 r; go_wp2; exact HQ.out
end Hs
namespace Hs
open Bk Lg Pl Dk Tx Tn
structure Sg where
 s : St
 b : PB
 gs : List (Int × Int)
def TickR (m : Nat) (σ σ' : Sg) : Prop :=
 (σ.gs ≠ [] ∧ σ' = ⟨(followS σ.gs σ.s).2, σ.b, (followS σ.gs σ.s).1⟩) ∨
 (σ.gs = [] ∧ ∃ l, nextL σ.b σ.s m l ∧ σ' = ⟨(followS l σ.s).2, σ.b, (followS l σ.s).1⟩) ∨
 (σ.gs = [] ∧ nextC σ.b σ.s m ∧ σ' = ⟨σ.s, overB2 σ.b σ.s, []⟩)
def WantR (t : Int) (σ σ' : Sg) (k : Int) : Prop :=
 k = wantN σ.b.book t ∧ σ' = if k = 0 then ⟨σ.s, ⟨σ.b.last, σ.b.stays, σ.b.jobs ++ [⟨t, true⟩]⟩, σ.gs⟩ else σ
def ParkR (lv : List (Int × Int × Int)) (ci ca cb cc : Int) (σ σ' : Sg) (t k : Int) : Prop :=
 (k ≠ 0 ∧ t = 0 ∧ σ' = σ ∧ ((k = 7 ∧ (σ.s.ba = 0 ∨ σ.s.ba ≠ ci)) ∨ (σ.s.ba ≠ 0 ∧ σ.s.ba = ci ∧ parkN σ.b.book (fOf lv) lv.length ci ca cb cc = k))) ∨
 (k = 0 ∧ t = σ.b.last + 1 ∧ σ.s.ba ≠ 0 ∧ σ.s.ba = ci ∧ parkN σ.b.book (fOf lv) lv.length ci ca cb cc = 0 ∧ ∃ po, pickO σ.b.book (fOf lv) ca cb cc lv.length = some po ∧ σ' = ⟨σ.s, parkB σ.b ci ca cb cc po, σ.gs⟩)
def HX (w : World) (base pb mb db sb hb : Nat) (lv : List (Int × Int × Int)) (σ : Sg) (n : Nat) : Prop :=
 ∃ L secs left, HouseS w base pb mb n db sb L hb secs false left lv σ.s σ.b σ.gs
section
variable {w w' : World} {base pb mb db sb hb n : Nat} {lv : List (Int × Int × Int)} {σ : Sg}
theorem HX.below (h : HX w base pb mb db sb hb lv σ n) (hB : Below w.heap.size w w') : HX w' base pb mb db sb hb lv σ n := by
 obtain ⟨L, secs, left, h⟩ := h; exact ⟨L, secs, left, h.below hB⟩
theorem HX.le {n' : Nat} (h : HX w base pb mb db sb hb lv σ n) (hn : n ≤ n') : HX w base pb mb db sb hb lv σ n' := by
 obtain ⟨L, secs, left, h⟩ := h; exact ⟨L, secs, left, h.le hn⟩
theorem HX.ok (h : HX w base pb mb db sb hb lv σ n) : BookOK σ.b.last lv.length σ.b.stays σ.b.jobs := by
 obtain ⟨L, secs, left, h⟩ := h; exact h.ok
theorem HX.iv (h : HX w base pb mb db sb hb lv σ n) : Inv σ.s := by
 obtain ⟨L, secs, left, h⟩ := h; exact h.iv
theorem HX.p (h : HX w base pb mb db sb hb lv σ n) : IsP w pb mb n σ.s := by
 obtain ⟨L, secs, left, h⟩ := h; exact h.p
theorem HX.sz (h : HX w base pb mb db sb hb lv σ n) : base ≤ w.heap.size := by
 obtain ⟨L, secs, left, h⟩ := h; exact h.hsz
theorem HX.turned {n' : Nat} {s' : St} (h : HX w base pb mb db sb hb lv σ n) (t : Turn pb mb w w') (hp : IsP w' pb mb n' s') (iv : Inv s') : HX w' base pb mb db sb hb lv ⟨s', σ.b, σ.gs⟩ n' ∧ HFr base w w' := by
 obtain ⟨L, secs, left, h⟩ := h; exact ⟨⟨L, secs, left, h.turned t hp iv⟩, HFr.of_turn h.p h.hpb h.hmb h.hsz t⟩
theorem tickX (h : HX w base pb mb db sb hb lv σ n) (hn : n < maxLen) (G : Glob w) (hbg : Tryz.prog.globals.size ≤ base) :
  Calls Tryz.prog 21 #[.pointer (some ⟨hb, 0, none⟩)] w fun e w' => e = .returned .nilIface ∧ HFr base w w' ∧ ∃ σ', TickR lv.length σ σ' ∧ HX w' base pb mb db sb hb lv σ' (n + 1) := by
 obtain ⟨L, secs, left, h⟩ := h; refine (tick_any base pb mb n db sb L hb secs false left lv σ.s σ.b σ.gs w h hn G hbg).mono ?_; rintro e w' (⟨h1, rfl, h2, h3⟩ | ⟨h1, l, h2, rfl, h3, h4⟩ | ⟨h1, h2, ⟨rfl, h3, s', l', h4, h5⟩ | ⟨h3, _⟩⟩)
 ·exact ⟨rfl, h3, _, Or.inl ⟨h1, rfl⟩, L, secs, left, h2⟩
 ·exact ⟨rfl, h4, _, Or.inr (Or.inl ⟨h1, l, h2, rfl⟩), L, secs, left, h3⟩
 ·exact ⟨rfl, HFr.of_l h3, _, Or.inr (Or.inr ⟨h1, h2, rfl⟩), L, s', l', h4.le (Nat.le_succ n)⟩
 ·cases h3
theorem wantX (t : Int) (h : HX w base pb mb db sb hb lv σ n) (G : Glob w) (hbg : Tryz.prog.globals.size ≤ base) :
  Calls Tryz.prog 38 #[.pointer (some ⟨hb, 0, none⟩), .int .i64 t] w fun e w' => ∃ k, e = .returned (errV k) ∧ HFr base w w' ∧ ∃ σ', WantR t σ σ' k ∧ HX w' base pb mb db sb hb lv σ' n := by
 have hX := h; obtain ⟨L, secs, left, h⟩ := h; refine (hwant_any base pb mb n db sb L hb secs false left lv σ.s σ.b σ.gs t w h G hbg).mono ?_; rintro e w' (⟨k, h1, h2, rfl, h3⟩ | ⟨h1, ⟨rfl, h3, s', l', h4, h5⟩ | ⟨h3, _⟩⟩)
 ·exact ⟨k, rfl, HFr.of_below h3 h.hsz, σ, ⟨h2.symm, by rw [if_neg h1]⟩, hX.below h3⟩
 ·exact ⟨0, rfl, HFr.of_l h3, _, ⟨h1.symm, by rw [if_pos rfl]⟩, L, s', l', h4⟩
 ·cases h3
theorem parkX (ci ca cb cc : Int) (h : HX w base pb mb db sb hb lv σ n) (G : Glob w) (hbg : Tryz.prog.globals.size ≤ base) :
  Calls Tryz.prog 29 #[.pointer (some ⟨hb, 0, none⟩), .agg #[.int .i64 ci, .int .i64 ca, .int .i64 cb, .int .i64 cc]] w fun e w' => ∃ t k, e = .returned (.tuple #[.int .i64 t, errV k]) ∧ HFr base w w' ∧ ∃ σ', ParkR lv ci ca cb cc σ σ' t k ∧ HX w' base pb mb db sb hb lv σ' n := by
 have hX := h; obtain ⟨L, secs, left, h⟩ := h; refine (hpark_any base pb mb n db sb L hb secs false left lv σ.s σ.b σ.gs ci ca cb cc w h G hbg).mono ?_; rintro e w' (⟨h1, rfl, h2⟩ | ⟨h1, h2, k, h3, h4, rfl, h5⟩ | ⟨h1, h2, h3, po, h4, v, ⟨h5, h6, s', l', h7, h8⟩ | ⟨h5, _⟩, h9⟩)
 ·exact ⟨0, 7, rfl, HFr.of_below h2 h.hsz, σ, Or.inl ⟨by decide, rfl, rfl, Or.inl ⟨rfl, h1⟩⟩, hX.below h2⟩
 ·exact ⟨0, k, by rw [errV_ne h3], HFr.of_below h5 h.hsz, σ, Or.inl ⟨h3, rfl, rfl, Or.inr ⟨h1, h2, h4⟩⟩, hX.below h5⟩
 ·injection h5 with h5
  subst h5
  rcases h9 with ⟨_, rfl⟩ | ⟨h9, _⟩
  ·exact ⟨_, 0, rfl, HFr.of_l h6, _, Or.inr ⟨rfl, rfl, h1, h2, h3, po, h4, rfl⟩, L, s', l', h7⟩
  ·cases h9
 ·cases h5
theorem newX (len : Nat) (f : Nat → Int × Int × Int) (lvv : Value) (h : HX w base pb mb db sb hb (rowsOf f len) σ n) (hs : SizesAt w lvv len f) (hlv : levelsN len f = 0) (G : Glob w) :
  Calls Tryz.prog 39 #[lvv, .pointer (some ⟨pb, 0, none⟩), .pointer (some ⟨db, 0, none⟩)] w fun e w' => ∃ hb', e = .returned (.tuple #[.pointer (some ⟨hb', 0, none⟩), .nilIface]) ∧ Below w.heap.size w w' ∧ HX w' base pb mb db sb hb' (rowsOf f len) ⟨σ.s, σ.b, []⟩ n := by
 obtain ⟨L, secs, left, h⟩ := h; have hop := h.l.op; have hok := h.ok; rw [rowsOf_len] at hop hok; refine (hnew_any base pb mb n db sb secs false left len f lvv σ.s σ.b w hs hlv h.p h.iv h.hpb h.hmb h.hsz h.l.d h.l.len h.l.few h.l.wr h.l.lo hop hok G).mono ?_; rintro e w' ⟨hB, L', hb', rfl, hH⟩; exact ⟨hb', rfl, hB, L', secs, left, hH⟩
theorem bookX (h : HX w base pb mb db sb hb lv σ n) :
  Calls Tryz.prog 20 #[.pointer (some ⟨hb, 0, none⟩)] w fun e w' => ∃ vs vj, e = .returned (.agg #[.int .i64 σ.b.last, vs, vj]) ∧ OwnBook w' w.heap.size vs vj σ.b.stays σ.b.jobs ∧ Below w.heap.size w w' := by
 obtain ⟨L, secs, left, h⟩ := h; exact hbook_any base pb mb n db sb L hb secs false left lv σ.s σ.b σ.gs w h
theorem housedX (len : Nat) (f : Nat → Int × Int × Int) (lvv : Value) (w : World) (hs : SizesAt w lvv len f) (hlv : levelsN len f = 0) (G : Glob w) :
  Calls Tryz.prog 43 #[lvv] w fun e w' => Below w.heap.size w w' ∧ ∃ pb mb db sb hb, e = .returned (.tuple #[.pointer (some ⟨pb, 0, none⟩), .pointer (some ⟨db, 0, none⟩), .pointer (some ⟨hb, 0, none⟩), .bool true]) ∧ HX w' w.heap.size pb mb db sb hb (rowsOf f len) ⟨newS len, ⟨0, [], []⟩, []⟩ 0 := by
 refine (housed_any len f lvv w hs hlv G).mono ?_; rintro e w' ⟨hB, pb, mb, db, sb, L, hb, secs, left, rfl, hH⟩; rw [rowsOf_len] at hH; exact ⟨hB, pb, mb, db, sb, hb, rfl, L, secs, left, hH⟩
end
end Hs
namespace Hs
open Bk Lg Pl Dk Tx Tn Ac
structure Nv (s : St) : Prop where
 hu : s.hu = false
 pe : s.op = false → s.pe = 0
 li : s.li ≠ 0 → s.op = false
def safeG : List (Int × Int) → Bool → Bool → Bool
 | [], _, _ => true
 | g :: l, sh, e =>
   if g.1 = 3 then sh && safeG l sh false
   else if g.1 = 4 then safeG l sh true
   else if g.1 = 5 then safeG l true e
   else if g.1 = 6 then e && safeG l false e
   else if g.1 = 7 then safeG l true false
   else if g.1 = 8 then safeG l sh true
   else safeG l sh e
def KnowG (gs : List (Int × Int)) (s : St) : Prop := ∃ sh e, (sh = true → s.op = false) ∧ (e = true → s.li = 0) ∧ safeG gs sh e = true
theorem KnowG.nil (s : St) : KnowG [] s := ⟨false, false, (fun h => by cases h), (fun h => by cases h), rfl⟩
theorem know_same {gs : List (Int × Int)} {s s' : St} (h : KnowG gs s) (h1 : s'.op = s.op) (h2 : s'.li = s.li) : KnowG gs s' := by
 obtain ⟨sh, e, a, b, c⟩ := h; exact ⟨sh, e, fun h => h1.trans (a h), fun h => h2.trans (b h), c⟩
theorem know_done {g : Int × Int} {l : List (Int × Int)} {s : St} (h : KnowG (g :: l) s) (nv : Nv s) (hd : nextS g s = 45) : KnowG l s := by
 obtain ⟨sh, e, a, b, c⟩ := h; obtain ⟨k, n⟩ := g; unfold nextS Go.Proofs.YtopgllmjeliklaaGreatDoor.nextC at hd; unfold safeG at c
 by_cases k3 : k = 3
 ·subst k3
  simp only [if_true, Bool.and_eq_true] at c hd; exact ⟨sh, false, a, (fun h => by cases h), c.2⟩
 by_cases k4 : k = 4
 ·subst k4
  simp at c hd
  exact ⟨sh, true, a, (fun _ => by by_cases h : s.li = 0 <;> simp_all), c⟩
 by_cases k5 : k = 5
 ·subst k5
  simp at c hd
  exact ⟨true, e, (fun _ => by cases h : s.op <;> simp_all), b, c⟩
 by_cases k6 : k = 6
 ·subst k6
  simp at c
  exact ⟨false, e, (fun h => by cases h), b, c.2⟩
 by_cases k7 : k = 7
 ·subst k7
  simp at c hd
  exact ⟨true, false, (fun _ => nv.li (by intro h; simp [h] at hd)), (fun h => by cases h), c⟩
 by_cases k8 : k = 8
 ·subst k8
  simp at c hd
  exact ⟨sh, true, a, (fun _ => by by_cases h : s.li = 0 <;> simp_all), c⟩
 ·simp only [k3, k4, k5, k6, k7, k8, if_false] at c
  exact ⟨sh, e, a, b, c⟩
theorem know_step {g : Int × Int} {l : List (Int × Int)} {s : St} (iv : Inv s) (h : KnowG (g :: l) s) (nv : Nv s) (hd : nextS g s ≠ 45) (hm : mayS (nextS g s) s = true) : Nv (stepS (nextS g s) s) ∧ KnowG (g :: l) (stepS (nextS g s) s) := by
 unfold stepS
 split
 ·exact ⟨⟨nv.hu, nv.pe, nv.li⟩, know_same h rfl rfl⟩
 have hs := may_safe iv (nextS g s) nv.hu hm; obtain ⟨sh, e, a, b, c⟩ := h; obtain ⟨k, n⟩ := g; unfold mayS mayB at hm; have hx : nextS (k, n) s = Go.Proofs.YtopgllmjeliklaaGreatDoor.nextC k n s.h s.ex s.op s.li := rfl; unfold Go.Proofs.YtopgllmjeliklaaGreatDoor.nextC at hx
 by_cases k1 : k = 1
 ·subst k1
  simp only [if_true] at hx
  split at hx
  ·rw [hx] at hs ⊢
   exact ⟨⟨hs, nv.pe, nv.li⟩, sh, e, a, b, c⟩
  ·split at hx
   ·rw [hx] at hs ⊢
    exact ⟨⟨hs, nv.pe, nv.li⟩, sh, e, a, b, c⟩
   ·exact absurd hx hd
 rw [if_neg k1] at hx
 by_cases k2 : k = 2
 ·subst k2
  simp only [if_true] at hx; have hsl : ∀ d, (slideS d s).op = s.op ∧ (slideS d s).li = s.li ∧ (slideS d s).pe = s.pe := fun d => by unfold slideS; split <;> exact ⟨rfl, rfl, rfl⟩
  split at hx
  ·rw [hx] at hs ⊢
   have h1 : doS 114 s = slideS 1 s := rfl
   rw [h1] at hs ⊢; obtain ⟨q1, q2, q3⟩ := hsl 1; exact ⟨⟨hs, by rw [q1, q3]; exact nv.pe, by rw [q1, q2]; exact nv.li⟩, sh, e, by rw [q1]; exact a, by rw [q2]; exact b, c⟩
  ·split at hx
   ·rw [hx] at hs ⊢
    have h1 : doS 108 s = slideS (-1) s := rfl
    rw [h1] at hs ⊢; obtain ⟨q1, q2, q3⟩ := hsl (-1); exact ⟨⟨hs, by rw [q1, q3]; exact nv.pe, by rw [q1, q2]; exact nv.li⟩, sh, e, by rw [q1]; exact a, by rw [q2]; exact b, c⟩
   ·exact absurd hx hd
 rw [if_neg k2] at hx
 by_cases k3 : k = 3
 ·subst k3
  simp only [if_true] at hx
  split at hx
  ·rw [hx] at hs ⊢
   have h1 : doS 103 s = grabS s := rfl
   rw [h1] at hs ⊢; unfold safeG at c; simp only [if_true, Bool.and_eq_true] at c; have q : (grabS s).op = s.op ∧ (grabS s).pe = s.pe := by unfold grabS; split <;> exact ⟨rfl, rfl⟩
   refine ⟨⟨hs, by rw [q.1, q.2]; exact nv.pe, fun _ => by rw [q.1]; exact a c.1⟩, sh, false, by rw [q.1]; exact a, (fun h => by cases h), ?_⟩
   unfold safeG; simp only [if_true, Bool.and_eq_true]; exact c
  ·exact absurd hx hd
 rw [if_neg k3] at hx
 by_cases k4 : k = 4
 ·subst k4
  simp only [if_true] at hx
  split at hx
  ·exact absurd hx hd
  ·rw [hx] at hs ⊢
   have h1 : doS 112 s = putS s := rfl
   rw [h1] at hs ⊢
   have q : (putS s).op = s.op ∧ (putS s).pe = s.pe ∧ ((putS s).li ≠ 0 → s.li ≠ 0) := by
    unfold putS; split
    ·exact ⟨rfl, rfl, fun h => absurd rfl h⟩
    ·exact ⟨rfl, rfl, fun h => h⟩
   refine ⟨⟨hs, by rw [q.1, q.2.1]; exact nv.pe, fun h => by rw [q.1]; exact nv.li (q.2.2 h)⟩, sh, false, by rw [q.1]; exact a, (fun h => by cases h), ?_⟩
   unfold safeG at c ⊢
   simpa using c
 rw [if_neg k4] at hx
 by_cases k5 : k = 5
 ·subst k5
  simp only [if_true] at hx
  split at hx
  ·rw [hx] at hs ⊢ hm
   have h1 : doS 99 s = shutS s := rfl
   rw [h1] at hs ⊢; have hp : s.pe = 0 := by simpa using hm
   refine ⟨⟨hs, fun _ => hp, fun _ => rfl⟩, true, e, fun _ => rfl, b, ?_⟩
   unfold safeG at c ⊢
   simpa using c
  ·exact absurd hx hd
 rw [if_neg k5] at hx
 by_cases k6 : k = 6
 ·subst k6
  simp only [if_true] at hx
  split at hx
  ·exact absurd hx hd
  ·rw [hx] at hs ⊢
   have h1 : doS 111 s = openS s := rfl
   rw [h1] at hs ⊢; unfold safeG at c
   simp at c
   have hl : s.li = 0 := b c.1; refine ⟨⟨hs, (fun h => by cases h), fun h => absurd hl h⟩, false, e, (fun h => by cases h), b, ?_⟩
   unfold safeG
   simp
   exact c
 rw [if_neg k6] at hx
 by_cases k7 : k = 7
 ·subst k7
  simp only [if_true] at hx
  split at hx
  ·rw [hx] at hs ⊢ hm
   have h1 : doS 110 s = takeInS s := rfl
   rw [h1] at hs ⊢
   have ho : s.op = false := by
    simp [closedB] at hm
    exact hm.1.1.2.1
   have q : (takeInS s).op = s.op ∧ (takeInS s).pe = s.pe := by unfold takeInS; split <;> exact ⟨rfl, rfl⟩
   refine ⟨⟨hs, by rw [q.1, q.2]; exact nv.pe, fun _ => by rw [q.1]; exact ho⟩, false, false, (fun h => by cases h), (fun h => by cases h), ?_⟩
   unfold safeG at c ⊢
   simpa using c
  ·exact absurd hx hd
 rw [if_neg k7] at hx
 by_cases k8 : k = 8
 ·subst k8
  simp only [if_true] at hx
  split at hx
  ·exact absurd hx hd
  ·rw [hx] at hs ⊢
   have h1 : doS 120 s = giveOutS s := rfl
   rw [h1] at hs ⊢
   have q : (giveOutS s).op = s.op ∧ (giveOutS s).pe = s.pe ∧ ((giveOutS s).li ≠ 0 → s.li ≠ 0) := by
    unfold giveOutS; split
    ·exact ⟨rfl, rfl, fun h => absurd rfl h⟩
    ·exact ⟨rfl, rfl, fun h => h⟩
   refine ⟨⟨hs, by rw [q.1, q.2.1]; exact nv.pe, fun h => by rw [q.1]; exact nv.li (q.2.2 h)⟩, sh, false, by rw [q.1]; exact a, (fun h => by cases h), ?_⟩
   unfold safeG at c ⊢
   simpa using c
 ·rw [if_neg k8] at hx
  exact absurd hx hd
theorem know_give (s : St) : KnowG gGive s := ⟨false, false, (fun h => by cases h), (fun h => by cases h), by simp [safeG, gGive]⟩
theorem know_there (k x y z : Int) (hk : k = 3 ∨ k = 4) (s : St) : KnowG (gThere k x y z) s := ⟨false, false, (fun h => by cases h), (fun h => by cases h), by rcases hk with rfl | rfl <;> simp [safeG, gThere]⟩
theorem know_wel {s : St} (h : s.li = 0) : KnowG (welG s) s := by
 unfold welG
 split
 ·exact KnowG.nil s
 ·exact ⟨false, true, (fun h => by cases h), (fun _ => h), by simp [safeG, gWel]⟩
theorem next_know {b : PB} {s : St} {m : Nat} {l : List (Int × Int)} (h : nextL b s m l) : KnowG l s := by
 unfold nextL NextL at h
 rcases h with ⟨_, rfl⟩ | ⟨_, _, rfl⟩ | ⟨h1, _, _, rfl⟩ | ⟨h1, _, _, _, ⟨_, h⟩ | ⟨_, rfl⟩⟩
 ·unfold unloadG unloadO
  split
  ·exact know_give s
  ·split
   ·exact know_give s
   ·split
    ·exact know_there 4 _ _ _ (Or.inr rfl) s
    ·exact know_there 4 _ _ _ (Or.inr rfl) s
 ·exact know_there 3 _ _ _ (Or.inl rfl) s
 ·exact know_wel h1
 ·unfold FetchP at h
  split at h
  ·rw [h]; exact know_wel h1
  ·split at h
   ·rw [h]; exact ⟨false, false, (fun h => by cases h), (fun h => by cases h), by simp [safeG]⟩
   ·obtain ⟨x, y, z, ok, _, ⟨_, rfl⟩ | ⟨_, rfl⟩⟩ := h
    ·exact KnowG.nil s
    ·split
     ·exact know_there 3 _ _ _ (Or.inl rfl) s
     ·exact know_there 3 _ _ _ (Or.inl rfl) s
 ·unfold putG
  split
  ·exact ⟨false, false, (fun h => by cases h), (fun h => by cases h), by simp [safeG, gTake]⟩
  ·exact KnowG.nil s
structure Well (σ : Sg) : Prop where
 nv : Nv σ.s
 k : KnowG σ.gs σ.s
theorem Well.out {σ : Sg} (h : Well σ) (iv : Inv σ.s) (x : ActC) (hk : (x.kind.toList == [115, 116, 101, 112]) = false) : Well ⟨outS x σ.s, σ.b, σ.gs⟩ := by
 have q : (outS x σ.s).op = σ.s.op ∧ (outS x σ.s).li = σ.s.li ∧ ((outS x σ.s).op = false → (outS x σ.s).pe = σ.s.pe) := by
  unfold outS; rw [if_neg (by simp [hk])]
  split
  ·unfold walkS
   split
   ·rename_i h2
    exact ⟨rfl, rfl, fun h3 => by rw [show ({ σ.s with pe := min (max (σ.s.pe + x.a) 0) 9 } : St).op = σ.s.op from rfl, h2.2] at h3; cases h3⟩
   ·exact ⟨rfl, rfl, fun _ => rfl⟩
  split
  ·unfold arriveS; split <;> exact ⟨rfl, rfl, fun _ => rfl⟩
  split
  ·unfold leaveS; split <;> exact ⟨rfl, rfl, fun _ => rfl⟩
  split
  ·unfold stallS; split <;> exact ⟨rfl, rfl, fun _ => rfl⟩
  ·exact ⟨rfl, rfl, fun _ => rfl⟩
 refine ⟨⟨out_safe x h.nv.hu hk, fun h2 => ?_, fun h2 => ?_⟩, know_same h.k q.1 q.2.1⟩
 ·rw [q.2.2 h2]; rw [q.1] at h2; exact h.nv.pe h2
 ·rw [q.1]; rw [q.2.1] at h2; exact h.nv.li h2
end Hs
end Go.Proofs.YtopgllmjeliklaaGreatDoor
