/- Plan Visit Text. -/
import Derived.Test.YtopgllmjeliklaaGreatDoorKiOwn
import Derived.Deep.RegionHeld3
import Derived.Deep.RegionLawGrows
set_option maxRecDepth 100000
set_option linter.unusedSimpArgs false
set_option linter.unusedVariables false
namespace Go.Proofs.YtopgllmjeliklaaGreatDoor
open Go.ChangeShapes Go.WideShapes Go.ChangeAt Go.RowKit
def flatG : List (Int × Int) → List Value
 | [] => []
 | g :: l => .int .i64 g.1 :: .int .i64 g.2 :: flatG l
def GoalsOwn (w w' : World) (v : Value) (l : List (Int × Int)) : Prop := w'.ownsRow w.heap.size 102 2 v l.length (flatG l) ∧ Below w.heap.size w w'
theorem Tryz.infoGoal : (Tryz.prog.info? 102).map (fun i => (i.zero, i.size, i.bytes)) = some (some (.agg #[.int .i64 0, .int .i64 0]), 2, 16) := by kernel_rfl
theorem info_goal : ∃ i, Tryz.prog.info? 102 = some i ∧ i.zero = some (.agg #[.int .i64 0, .int .i64 0]) ∧ i.size = 2 ∧ i.bytes = 16 := by
 have h := Tryz.infoGoal
 cases hi : Tryz.prog.info? 102 with
 | none => rw [hi] at h; cases h
 | some i =>
   rw [hi] at h; simp only [Option.map_some, Option.some.injEq, Prod.mk.injEq] at h; exact ⟨i, rfl, h.1, h.2.1, h.2.2⟩
theorem news_new (w : World) (l : List Value) (t : TypeId) (n : Nat) (hn : n = w.heap.size) : ∀ j u, l[j]? = some u → (w.alloc (.cells l.toArray t)).cell? ((⟨n, 0, none⟩ : Addr).add j) = some u := by
 subst hn
 intro j u h
 have e : (⟨w.heap.size, 0, none⟩ : Addr).add j = ⟨w.heap.size, j, none⟩ := by
  unfold Addr.add
  split
  ·rename_i h0; subst h0; rfl
  ·simp
 rw [e, World.cell?_alloc_mark]
 simpa using h
set_option maxHeartbeats 400000 in
theorem moveTo_any (h : Int) (w : World) : Calls Tryz.prog 145 #[.int .i64 h] w fun e w' =>
  e = .returned (.slice (some ⟨w.heap.size, 0, none⟩) 3 3) ∧ w' = w.alloc (.cells #[.int .i64 2, .int .i64 0, .int .i64 5, .int .i64 0, .int .i64 1, .int .i64 h] 102) := by
 go_enter Tryz.func145, Tryz.ntmps145
 go_wp2; go_returns; exact ⟨rfl, rfl⟩
-- left out: this seat has not what it speaks of
set_option maxHeartbeats 1000000 in
theorem takeIn_any (w : World) : Calls Tryz.prog 123 #[] w fun e w' => ∃ v, e = .returned v ∧ GoalsOwn w w' v [(2, 0), (5, 0), (1, 0), (7, 0)] := by
 obtain ⟨i0, hi, hz0, hz1, hz2⟩ := info_goal; have HO : Hid ((w.alloc (.cells #[.int .i64 2, .int .i64 0, .int .i64 5, .int .i64 0, .int .i64 1, .int .i64 0] 102)).ownsRow w.heap.size 102 2 (.slice (some ⟨w.heap.size, 0, none⟩) 3 3) 3 [.int .i64 2, .int .i64 0, .int .i64 5, .int .i64 0, .int .i64 1, .int .i64 0]) := World.ownsRow_lit (base := w.heap.size) (e := 102) (size := 2) w #[.int .i64 2, .int .i64 0, .int .i64 5, .int .i64 0, .int .i64 1, .int .i64 0] 3 (Nat.le_refl _) (by unfold maxLen; omega) rfl
 go_enter Tryz.func123, Tryz.ntmps123
 go_wp2_with (first
  | (go_at_call 145; refine (moveTo_any _ _).mono ?_; rintro e w1 ⟨rfl, rfl⟩)
  | (at_builtin; refine wpList_append_own _ rfl _ _ 53 rfl w.heap.size 102 i0 (.agg #[.int .i64 0, .int .i64 0]) 2 16 Tryz.underlying53 hi hz0 hz1 hz2 rfl (by decide) _ 3 _ rfl (HO.out.alloc _) ⟨w.heap.size + 1, 0, none⟩ 1 1 [.int .i64 7, .int .i64 0] rfl rfl (news_new _ _ _ _ (by simp)) (fun x hx => by simp at hx; rcases hx with rfl | rfl <;> rfl) (by unfold maxLen; omega) (by omega) (by simp; omega) ?_
     intro v' w3 hown' hgrow3 hnil3
     have X : Hid (GoalsOwn w w3 v' [(2, 0), (5, 0), (1, 0), (7, 0)]) := ⟨hown', Below.grown (((Below.refl _ _).alloc (Nat.le_refl _) _).alloc (by simp) _) hgrow3 (by simp; omega) (fun j hj => (HO.out.lt j hj).1)⟩
     clear hown' hgrow3 hnil3))
 go_returns; exact ⟨_, rfl, X.out⟩
set_option maxHeartbeats 1000000 in
theorem giveOut_any (w : World) : Calls Tryz.prog 115 #[] w fun e w' => ∃ v, e = .returned v ∧ GoalsOwn w w' v [(2, 0), (5, 0), (1, 0), (8, 0), (6, 0)] := by
 obtain ⟨i0, hi, hz0, hz1, hz2⟩ := info_goal; have HO : Hid ((w.alloc (.cells #[.int .i64 2, .int .i64 0, .int .i64 5, .int .i64 0, .int .i64 1, .int .i64 0] 102)).ownsRow w.heap.size 102 2 (.slice (some ⟨w.heap.size, 0, none⟩) 3 3) 3 [.int .i64 2, .int .i64 0, .int .i64 5, .int .i64 0, .int .i64 1, .int .i64 0]) := World.ownsRow_lit (base := w.heap.size) (e := 102) (size := 2) w #[.int .i64 2, .int .i64 0, .int .i64 5, .int .i64 0, .int .i64 1, .int .i64 0] 3 (Nat.le_refl _) (by unfold maxLen; omega) rfl
 go_enter Tryz.func115, Tryz.ntmps115
 go_wp2_with (first
  | (go_at_call 145; refine (moveTo_any _ _).mono ?_; rintro e w1 ⟨rfl, rfl⟩)
  | (at_builtin; refine wpList_append_own _ rfl _ _ 53 rfl w.heap.size 102 i0 (.agg #[.int .i64 0, .int .i64 0]) 2 16 Tryz.underlying53 hi hz0 hz1 hz2 rfl (by decide) _ 3 _ rfl (HO.out.alloc _) ⟨w.heap.size + 1, 0, none⟩ 2 2 [.int .i64 8, .int .i64 0, .int .i64 6, .int .i64 0] rfl rfl (news_new _ _ _ _ (by simp)) (fun x hx => by simp at hx; rcases hx with rfl | rfl | rfl | rfl <;> rfl) (by unfold maxLen; omega) (by omega) (by simp; omega) ?_
     intro v' w3 hown' hgrow3 hnil3
     have X : Hid (GoalsOwn w w3 v' [(2, 0), (5, 0), (1, 0), (8, 0), (6, 0)]) := ⟨hown', Below.grown (((Below.refl _ _).alloc (Nat.le_refl _) _).alloc (by simp) _) hgrow3 (by simp; omega) (fun j hj => (HO.out.lt j hj).1)⟩
     clear hown' hgrow3 hnil3))
 go_returns; exact ⟨_, rfl, X.out⟩
set_option maxHeartbeats 1000000 in
theorem welcome_any (w : World) : Calls Tryz.prog 118 #[] w fun e w' => ∃ v, e = .returned v ∧ GoalsOwn w w' v [(2, 0), (5, 0), (1, 0), (6, 0)] := by
 obtain ⟨i0, hi, hz0, hz1, hz2⟩ := info_goal; have HO : Hid ((w.alloc (.cells #[.int .i64 2, .int .i64 0, .int .i64 5, .int .i64 0, .int .i64 1, .int .i64 0] 102)).ownsRow w.heap.size 102 2 (.slice (some ⟨w.heap.size, 0, none⟩) 3 3) 3 [.int .i64 2, .int .i64 0, .int .i64 5, .int .i64 0, .int .i64 1, .int .i64 0]) := World.ownsRow_lit (base := w.heap.size) (e := 102) (size := 2) w #[.int .i64 2, .int .i64 0, .int .i64 5, .int .i64 0, .int .i64 1, .int .i64 0] 3 (Nat.le_refl _) (by unfold maxLen; omega) rfl
 go_enter Tryz.func118, Tryz.ntmps118
 go_wp2_with (first
  | (go_at_call 145; refine (moveTo_any _ _).mono ?_; rintro e w1 ⟨rfl, rfl⟩)
  | (at_builtin; refine wpList_append_own _ rfl _ _ 53 rfl w.heap.size 102 i0 (.agg #[.int .i64 0, .int .i64 0]) 2 16 Tryz.underlying53 hi hz0 hz1 hz2 rfl (by decide) _ 3 _ rfl (HO.out.alloc _) ⟨w.heap.size + 1, 0, none⟩ 1 1 [.int .i64 6, .int .i64 0] rfl rfl (news_new _ _ _ _ (by simp)) (fun x hx => by simp at hx; rcases hx with rfl | rfl <;> rfl) (by unfold maxLen; omega) (by omega) (by simp; omega) ?_
     intro v' w3 hown' hgrow3 hnil3
     have X : Hid (GoalsOwn w w3 v' [(2, 0), (5, 0), (1, 0), (6, 0)]) := ⟨hown', Below.grown (((Below.refl _ _).alloc (Nat.le_refl _) _).alloc (by simp) _) hgrow3 (by simp; omega) (fun j hj => (HO.out.lt j hj).1)⟩
     clear hown' hgrow3 hnil3))
 go_returns; exact ⟨_, rfl, X.out⟩
-- left out: this seat has not what it speaks of
-- left out: this seat has not what it speaks of
-- left out: this seat has not what it speaks of
theorem olds_old {w : World} {b : Nat} {l : List Value} (x : Obj) (hr : ∀ o, w.cell? ⟨b, o, none⟩ = l.toArray[o]?) (hlt : b < w.heap.size) :
  ∀ b', some (⟨b, 0, none⟩ : Addr) = some b' → ∀ j u, l[j]? = some u → (w.alloc x).cell? (b'.add j) = some u := by
 intro b' hb j u h
 cases hb
 have e : (⟨b, 0, none⟩ : Addr).add j = ⟨b, j, none⟩ := by
  unfold Addr.add
  split
  ·rename_i h0; subst h0; rfl
  ·simp
 rw [e, B.row_old x hr hlt j]
 simpa using h
theorem ints_one (l : List Int) : ∀ u ∈ l.map (Value.int .i64), u.oneCell' = true := by
 intro u hu
 obtain ⟨n, _, rfl⟩ := List.mem_map.1 hu
 rfl
theorem owns_le {w : World} {base base' : Nat} {e : TypeId} {size : Nat} {v : Value} {n : Nat} {xs : List Value} (h : w.ownsRow base e size v n xs) (hb : base' ≤ base) : w.ownsRow base' e size v n xs :=
 ⟨h.1, h.2.elim Or.inl (fun ⟨g, cap, cur, hv, hg, r⟩ => Or.inr ⟨g, cap, cur, hv, Nat.le_trans hb hg, r⟩)⟩
set_option maxHeartbeats 2000000 in
theorem visit_any (x y z kind : Int) (w : World) (hx1 : 1 ≤ x) (hx4 : x ≤ 4) (hz0 : 0 ≤ z) (hz1 : z ≤ 1) :
  Calls Tryz.prog 117 #[.agg #[.int .i64 x, .int .i64 y, .int .i64 z], .int .i64 kind] w fun e w' =>
   ∃ v, e = .returned v ∧ GoalsOwn w w' v [(2, 0), (5, 0), (1, x * 3), (2, extI y z), (kind, 0), (2, 0)] := by
 obtain ⟨i0, hi, hi0, hi1, hi2⟩ := info_goal; obtain ⟨n, HN⟩ : ∃ n : Int, Hid (n = x * 3) := ⟨_, rfl⟩
 have hm : IntKind.i64.wrap (x * 3) = n := by rw [IntKind.wrap_i64, HN.out]; omega
 generalize hex : extI y z = ee; have HE : Hid (extI y z = ee) := hex; clear hex
 go_enter Tryz.func117, Tryz.ntmps117
 go_wp2_with fail
 go_region_held3 (fun wx => wx.cell? ⟨w.heap.size, 0, none⟩ = some (.int .i64 x) ∧ wx.cell? ⟨w.heap.size, 1, none⟩ = some (.int .i64 y) ∧ wx.cell? ⟨w.heap.size, 2, none⟩ = some (.int .i64 z)) (go_keep)
  (first
    | (go_at_call 145; refine (moveTo_any _ _).mono ?_; rintro e w1 ⟨rfl, rfl⟩)
    | (go_at_call 146; refine (ext_any _ _ _ _ hz0 hz1).mono ?_; rw [HE.out]; rintro e w2 ⟨rfl, hb2⟩
       have hc2 := B.row hb2 (b := w.heap.size) (C := #[.int .i64 x, .int .i64 y, .int .i64 z]) (B.row_old _ (B.row_new w _ _) (by simp)) (by simp; omega); have hd2 := B.row hb2 (b := w.heap.size + 1) (C := #[.int .i64 2, .int .i64 0, .int .i64 5, .int .i64 0, .int .i64 1, .int .i64 n]) (fun o => by rw [show w.heap.size + 1 = (w.alloc (.cells #[.int .i64 x, .int .i64 y, .int .i64 z] 65)).drew.heap.size from by simp]; exact B.row_new _ _ _ o) (by simp)
       have z2 : w.heap.size + 2 ≤ w2.heap.size := by have := hb2.size; simp at this; omega
       have B2 : Hid (Below w.heap.size w w2) := B.next ((B.new1 w _).drew.alloc (by simp) _) hb2 (by simp; omega); clear hb2)
    | (refine step_append_grows rfl _ _ 53 rfl 102 i0 (.agg #[.int .i64 0, .int .i64 0]) 2 16 Tryz.underlying53 hi hi0 hi1 hi2 rfl (by decide) (some ⟨w.heap.size + 1, 0, none⟩) 3 3 [.int .i64 2, .int .i64 0, .int .i64 5, .int .i64 0, .int .i64 1, .int .i64 n] rfl (fun h => by cases h) rfl (olds_old _ hd2 (by omega)) ⟨w2.heap.size, 0, none⟩ 3 3 [.int .i64 2, .int .i64 ee, .int .i64 kind, .int .i64 0, .int .i64 2, .int .i64 0] rfl rfl (news_new _ _ _ _ rfl) (ints_one [2, ee, kind, 0, 2, 0]) (by decide) (by unfold maxLen; omega) (by omega) ?_
       intro v' w3 hown' hgrow3
       have X : Hid (GoalsOwn w w3 v' [(2, 0), (5, 0), (1, n), (2, ee), (kind, 0), (2, 0)]) := ⟨owns_le hown' (by simp; omega), Below.grown (B2.out.alloc (by omega) _) hgrow3 (by simp; omega) (fun k h => by cases h)⟩
       have hc3 := B.row (Below.grown (Below.refl _ _) hgrow3 (Nat.le_refl _) (fun k h => by cases h)) (B.row_old _ hc2 (by omega)) (by simp; omega)
       clear hown' hgrow3))
 go_wp2; go_returns; refine ⟨_, rfl, ?_⟩; rw [← HN.out]; exact X.out
-- left out: this seat has not what it speaks of
end Go.Proofs.YtopgllmjeliklaaGreatDoor
namespace Go.Proofs.YtopgllmjeliklaaGreatDoor
open Go.Shelf Go.ChangeShapes Go.WideShapes Go.ChangeAt Go.RowKit
namespace Tx
open Bk
def intE (n : Int) : List Value := [.int .i64 n]
def stayNs (s : Stay) : List Int := [s.t, s.id, s.a, s.b, s.c, s.x, s.y, s.z]
def jobNs (j : Job) : List Int := [j.t, if j.f = true then 1 else 0]
def numsOf (last : Int) (stays : List Stay) (jobs : List Job) : List Int := ([last, (stays.length : Int), (jobs.length : Int)] ++ stays.flatMap stayNs) ++ jobs.flatMap jobNs
def textL (last : Int) (stays : List Stay) (jobs : List Job) : List UInt8 := Lib.join ((numsOf last stays jobs).map Lib.itoa) [32]
theorem rowsCell {α : Type} [Inhabited α] {W : World} {b off cap k : Nat} {enc : α → List Value} {zs : List α} (h : RowsAt W (some ⟨b, off, none⟩) cap k enc zs) (j : Nat) (hj : j < zs.length) (i : Nat) (v : Value) (hv : (enc zs[j]!)[i]? = some v) : W.cell? ⟨b, off + j * k + i, none⟩ = some v := by
 obtain ⟨_, _, hc⟩ := h; obtain ⟨b', off', e, _, hcell⟩ := hc (by omega)
 cases e
 exact hcell j hj i v hv
theorem rowsSome {α : Type} [Inhabited α] {W : World} {a : Option Addr} {cap k : Nat} {enc : α → List Value} {zs : List α} (h : RowsAt W a cap k enc zs) (h0 : 0 < zs.length) : ∃ b off, a = some ⟨b, off, none⟩ := by
 obtain ⟨b, off, e, _⟩ := h.2.2 h0; exact ⟨b, off, e⟩
structure TI (w wr : World) (bv : Array Value) (v : Value) (l : List Int) : Prop where
 own : wr.ownsRow w.heap.size 3 1 v l.length (l.map (Value.int .i64))
 bel : Below w.heap.size w wr
 box : Blk wr w.heap.size bv 39
theorem blkType {w : World} {g : Nat} {a a' : Array Value} {T T' : TypeId} (h : Blk w g a T) (h' : Blk w g a' T') : T = T' := by
 have h1 : w.heap[g]? = _ := h; have h2 : w.heap[g]? = _ := h'; rw [h1] at h2
 simp at h2
 exact h2.2
theorem ownsNe {w : World} {b : Nat} {T T' : TypeId} {k : Nat} {v : Value} {m : Nat} {xs : List Value} {n : Nat} {a : Array Value} (h : w.ownsRow b T k v m xs) (hk : Blk w n a T') (hT : T ≠ T') : v.ownBlock ≠ some n := by
 intro e
 rcases h.2 with ⟨rfl, _⟩ | ⟨g, cap, cur, rfl, hg, hb, _⟩
 ·simp [Value.ownBlock] at e
 ·simp [Value.ownBlock] at e
  subst e; exact hT (blkType (a := cur) hb hk)
theorem TI.below {w wr w' : World} {bv : Array Value} {v : Value} {l : List Int} (h : TI w wr bv v l) (hb : Below wr.heap.size wr w') : TI w w' bv v l :=
 ⟨h.own.kept (row := none) ⟨hb.os, hb.tape, hb.output, hb.size, fun k hk _ => hb.block k hk⟩ (by cases v.ownBlock <;> simp), B.next h.bel hb h.bel.size, h.box.below hb⟩
theorem TI.more {w wr w' : World} {bv : Array Value} {v v' : Value} {l m : List Int} (h : TI w wr bv v l) (ho : w'.ownsRow w.heap.size 3 1 v' (l.length + m.length) (l.map (Value.int .i64) ++ m.map (Value.int .i64))) (hg : wr.grownBy w' v.ownBlock) : TI w w' bv v' (l ++ m) := by
 refine ⟨by rw [List.length_append, List.map_append]; exact ho, ?_, ?_⟩
 ·exact h.bel.grown hg h.bel.size (fun k hk => (h.own.lt k hk).1)
 ·exact (hg.block w.heap.size h.box.lt (fun e => ownsNe h.own h.box (by decide) e.symm)).trans h.box
theorem intInfo : ∃ i, Tryz.prog.info? 3 = some i ∧ i.zero = some (.int .i64 0) ∧ i.size = 1 ∧ i.bytes = 8 := by
 have h : (Tryz.prog.info? 3).map (fun i => (i.zero, i.size, i.bytes)) = some (some (.int .i64 0), 1, 8) := by kernel_rfl
 cases hi : Tryz.prog.info? 3 with
 | none => rw [hi] at h; cases h
 | some i =>
   rw [hi] at h; simp only [Option.map_some, Option.some.injEq, Prod.mk.injEq] at h; exact ⟨i, rfl, h.1, h.2.1, h.2.2⟩
theorem strInfo : ∃ i, Tryz.prog.info? 9 = some i ∧ i.zero = some (.string ByteArray.empty) ∧ i.size = 1 ∧ i.bytes = 16 := by
 have h : (Tryz.prog.info? 9).map (fun i => (i.zero, i.size, i.bytes)) = some (some (.string ByteArray.empty), 1, 16) := by kernel_rfl
 cases hi : Tryz.prog.info? 9 with
 | none => rw [hi] at h; cases h
 | some i =>
   rw [hi] at h; simp only [Option.map_some, Option.some.injEq, Prod.mk.injEq] at h; exact ⟨i, rfl, h.1, h.2.1, h.2.2⟩
theorem make_strs (n : Nat) (hn : n ≤ 1000000) (W : World) : (Instr.makeSlice 173 (.int .i64 n) (.int .i64 n)).run Tryz.prog W = .ok (.slice (some ⟨W.heap.size, 0, none⟩) n n) (W.alloc (.cells (Lib.cellsOf [] n) 9)) := by
 obtain ⟨i, hi, hz, hs, hb⟩ := strInfo; have := run_make W 173 9 i _ (by kernel_rfl) hi hz .i64 .i64 n n (by omega) (Int.le_refl _) (by rw [hb]; omega) (by omega); rw [hs, Int.toNat_natCast, Nat.mul_one] at this; rw [Lib.cellsOf_nil]; exact this
def wordsTo (l : List Int) (k : Nat) : List ByteArray := (l.take k).map fun n => ⟨(Lib.itoa n).toArray⟩
set_option maxHeartbeats 4000000 in
theorem text_any (b : Book) (w : World) (h : b.At w) (G : Glob w) (hs : b.stays.length ≤ 1000) (hj : b.jobs.length ≤ 1000) (hi : ∀ n ∈ numsOf b.last b.stays b.jobs, 0 ≤ n ∧ n ≤ 999999) (hlen : (textL b.last b.stays b.jobs).length ≤ 100000000) :
  Calls Tryz.prog 88 #[b.val] w fun e w' => e = .returned (.string ⟨(textL b.last b.stays b.jobs).toArray⟩) ∧ Below w.heap.size w w' := by
 obtain ⟨last, sa, sc, ja, jc, stays, jobs⟩ := b; have H1 : Hid (∀ W, Below w.heap.size w W → RowsAt W sa sc 8 Stay.enc stays) := fun W hb => h.1.below hb
 have H2 : Hid (∀ W, Below w.heap.size w W → RowsAt W ja jc 2 Job.enc jobs) := fun W hb => h.2.below hb
 have hsc := h.1.1; have hsm := h.1.2.1; have hjc := h.2.1; have hjm := h.2.2.1; unfold maxLen at hsm hjm; simp only at hs hj hi hlen hsc hjc; have HI : Hid (∀ n ∈ numsOf last stays jobs, 0 ≤ n ∧ n ≤ 999999) := hi
 have HLN : Hid ((textL last stays jobs).length ≤ 100000000) := hlen; clear h hi hlen; obtain ⟨i0, ii, iz, is, ib⟩ := intInfo; generalize hPP : (fun (e : Ending) (w' : World) => e = .returned (.string ⟨(textL last stays jobs).toArray⟩) ∧ Below w.heap.size w w') = PP
 have HP : Hid (∀ w', Below w.heap.size w w' → PP (.returned (.string ⟨(textL last stays jobs).toArray⟩)) w') := fun w' hb => by rw [← hPP]; exact ⟨rfl, hb⟩
 clear hPP; unfold Book.val; simp only
 have T0 : Hid (TI w ((w.alloc (.cells #[.int .i64 last, .slice sa stays.length sc, .slice ja jobs.length jc] 39)).alloc (.cells #[.int .i64 last, .int .i64 stays.length, .int .i64 jobs.length] 3)) #[.int .i64 last, .slice sa stays.length sc, .slice ja jobs.length jc] (.slice (some ⟨w.heap.size + 1, 0, none⟩) 3 3) [last, (stays.length : Int), (jobs.length : Int)]) := by
  refine ⟨⟨rfl, Or.inr ⟨w.heap.size + 1, 3, _, rfl, by omega, Blk.new1 (by simp) _ _, Nat.le_refl _, by decide, rfl, rfl⟩⟩, (B.new1 _ _).alloc (by simp) _, (Blk.new _ _ _).old _⟩
 go_enter Tryz.func88, Tryz.ntmps88
 go_wp2_with fail
 go_loopg [3, 24] stays.length (fun gg s3 s24 wr => ∃ k : Nat, k ≤ stays.length ∧ stays.length - k ≤ gg ∧ s24 = .int .i64 k ∧ Hid (TI w wr #[.int .i64 last, .slice sa stays.length sc, .slice ja jobs.length jc] s3 ([last, (stays.length : Int), (jobs.length : Int)] ++ (stays.take k).flatMap stayNs)))
 case atStart => exact ⟨0, Nat.zero_le _, by omega, rfl, by simpa using T0⟩
 case round =>
  clear T0; obtain ⟨k, hk, hg, rfl, M⟩ := hrel
  by_cases hlt : k < stays.length
  ·have hltz : (k : Int) < (stays.length : Int) := by omega
   obtain ⟨sb, soff, rfl⟩ := rowsSome (H1.out _ M.out.bel) (by omega); have s0 := rowsCell (H1.out _ M.out.bel) k hlt 0 _ rfl; have s1 := rowsCell (H1.out _ M.out.bel) k hlt 1 _ rfl; have s2 := rowsCell (H1.out _ M.out.bel) k hlt 2 _ rfl; have s3 := rowsCell (H1.out _ M.out.bel) k hlt 3 _ rfl; have s4 := rowsCell (H1.out _ M.out.bel) k hlt 4 _ rfl; have s5 := rowsCell (H1.out _ M.out.bel) k hlt 5 _ rfl; have s6 := rowsCell (H1.out _ M.out.bel) k hlt 6 _ rfl; have s7 := rowsCell (H1.out _ M.out.bel) k hlt 7 _ rfl; simp only [Nat.add_zero] at s0
   have HN : Hid ([last, (stays.length : Int), (jobs.length : Int)] ++ (stays.take (k + 1)).flatMap stayNs = ([last, (stays.length : Int), (jobs.length : Int)] ++ (stays.take k).flatMap stayNs) ++ stayNs stays[k]!) := by
    show _ = _
    rw [List.take_succ_eq_append_getElem hlt, getElem!_pos stays k hlt]; simp only [List.flatMap_append, List.flatMap_singleton, List.append_assoc]
   have HL : Hid (([last, (stays.length : Int), (jobs.length : Int)] ++ (stays.take k).flatMap stayNs).length ≤ 10000) := by
    show _ ≤ _
    rw [List.length_append, List.length_flatMap]; have e8 : (List.map (fun a => (stayNs a).length) (stays.take k)) = (stays.take k).map fun _ => 8 := rfl
    rw [e8, List.map_const', List.sum_replicate_nat, List.length_take]; simp only [List.length_cons, List.length_nil]
    omega
   generalize stays[k]! = sv at *; obtain ⟨L, hL⟩ : ∃ L, [last, (stays.length : Int), (jobs.length : Int)] ++ (stays.take k).flatMap stayNs = L := ⟨_, rfl⟩
   rw [hL] at M HN HL; clear hL; have hL10 := HL.out; obtain ⟨wa, hwa⟩ : ∃ wa, wr.alloc (.cells #[.int .i64 sv.t, .int .i64 sv.id, .int .i64 sv.a, .int .i64 sv.b, .int .i64 sv.c, .int .i64 sv.x, .int .i64 sv.y, .int .i64 sv.z] 67) = wa := ⟨_, rfl⟩
   have NA : Hid (Below wr.heap.size wr wa) := by show Below _ _ _; rw [← hwa]; exact B.new1 _ _
   have KA : Hid (Blk wa wr.heap.size #[.int .i64 sv.t, .int .i64 sv.id, .int .i64 sv.a, .int .i64 sv.b, .int .i64 sv.c, .int .i64 sv.x, .int .i64 sv.y, .int .i64 sv.z] 67) := by show Blk _ _ _ _; rw [← hwa]; exact Blk.new _ _ _
   have rv := KA.out.cell; obtain ⟨wb, hwb⟩ : ∃ wb, wa.alloc (.cells #[.int .i64 sv.t, .int .i64 sv.id, .int .i64 sv.a, .int .i64 sv.b, .int .i64 sv.c, .int .i64 sv.x, .int .i64 sv.y, .int .i64 sv.z] 3) = wb := ⟨_, rfl⟩
   have NB : Hid (TI w wb #[.int .i64 last, .slice (some ⟨sb, soff, none⟩) stays.length sc, .slice ja jobs.length jc] u3 L ∧ (∀ j u, ((stayNs sv).map (Value.int .i64))[j]? = some u → wb.cell? ((⟨wa.heap.size, 0, none⟩ : Addr).add j) = some u) ∧ w.heap.size ≤ wb.heap.size) := by
    have hb : Below wa.heap.size wa wb := by rw [← hwb]; exact B.new1 _ _
    have h1 := (M.out.below NA.out).below hb; refine ⟨h1, ?_, h1.bel.size⟩; rw [← hwb]; exact news_new wa ((stayNs sv).map (Value.int .i64)) 3 _ rfl
   clear M KA NA; have hbb := NB.out.2.2
   go_wp2_with (at_builtin; refine wpList_append_own _ rfl _ _ 56 rfl w.heap.size 3 i0 (.int .i64 0) 1 8 Tryz.underlying56 ii iz is ib rfl (by decide) u3 L.length (L.map (Value.int .i64)) rfl NB.out.1.own ⟨wa.heap.size, 0, none⟩ 8 8 ((stayNs sv).map (Value.int .i64)) rfl rfl NB.out.2.1 (ints_one _) (by unfold maxLen; omega) (by omega) hbb ?_; intro v' w' ho hgr hnil)
   have N2 : Hid (TI w w' #[.int .i64 last, .slice (some ⟨sb, soff, none⟩) stays.length sc, .slice ja jobs.length jc] v' (L ++ stayNs sv)) := NB.out.1.more (m := stayNs sv) ho hgr; clear ho hgr hnil NB; rw [← HN.out] at N2; go_wp2
   go_roundg (stays.length - (k + 1))
   case measure => omega
   case rel => exact ⟨k + 1, by omega, by omega, by go_num, N2⟩
  ·have hltz : ¬ (k : Int) < (stays.length : Int) := by omega
   have hke : k = stays.length := by omega
   subst hke; rw [List.take_length] at M; have ra := M.out.box.cell; go_wp2_with fail; clear ra; have T1 : Hid (TI w wr #[.int .i64 last, .slice sa stays.length sc, .slice ja jobs.length jc] u3 ([last, (stays.length : Int), (jobs.length : Int)] ++ stays.flatMap stayNs)) := M; clear M
   have HLS : Hid (([last, (stays.length : Int), (jobs.length : Int)] ++ stays.flatMap stayNs).length ≤ 10000) := by
    show _ ≤ _
    rw [List.length_append, List.length_flatMap]; have e8 : (List.map (fun a => (stayNs a).length) stays) = stays.map fun _ => 8 := rfl
    rw [e8, List.map_const', List.sum_replicate_nat]; simp only [List.length_cons, List.length_nil]
    omega
   have HLS3 : Hid (3 ≤ ([last, (stays.length : Int), (jobs.length : Int)] ++ stays.flatMap stayNs).length) := by show _ ≤ _; rw [List.length_append]; simp only [List.length_cons, List.length_nil]; omega
   have HNS : Hid (numsOf last stays jobs = ([last, (stays.length : Int), (jobs.length : Int)] ++ stays.flatMap stayNs) ++ jobs.flatMap jobNs) := rfl; generalize [last, (stays.length : Int), (jobs.length : Int)] ++ stays.flatMap stayNs = LS at T1 HLS HLS3 HNS
   go_loopg [3, 61] jobs.length (fun gg s3 s61 wr => ∃ k : Nat, k ≤ jobs.length ∧ jobs.length - k ≤ gg ∧ s61 = .int .i64 k ∧ Hid (TI w wr #[.int .i64 last, .slice sa stays.length sc, .slice ja jobs.length jc] s3 (LS ++ (jobs.take k).flatMap jobNs)))
   case atStart => exact ⟨0, Nat.zero_le _, by omega, rfl, by simpa using T1⟩
   case round =>
    clear T1; obtain ⟨k, hk, hg, rfl, M⟩ := hrel
    by_cases hlt : k < jobs.length
    ·have hltz : (k : Int) < (jobs.length : Int) := by omega
     obtain ⟨sb, soff, rfl⟩ := rowsSome (H2.out _ M.out.bel) (by omega); have s0 := rowsCell (H2.out _ M.out.bel) k hlt 0 _ rfl; have s1 := rowsCell (H2.out _ M.out.bel) k hlt 1 _ rfl; simp only [Nat.add_zero] at s0
     have HN : Hid (LS ++ (jobs.take (k + 1)).flatMap jobNs = (LS ++ (jobs.take k).flatMap jobNs) ++ jobNs jobs[k]!) := by
      show _ = _
      rw [List.take_succ_eq_append_getElem hlt, getElem!_pos jobs k hlt]; simp only [List.flatMap_append, List.flatMap_singleton, List.append_assoc]
     have HL : Hid ((LS ++ (jobs.take k).flatMap jobNs).length ≤ 20000) := by
      show _ ≤ _
      rw [List.length_append, List.length_flatMap]; have e8 : (List.map (fun a => (jobNs a).length) (jobs.take k)) = (jobs.take k).map fun _ => 2 := rfl
      rw [e8, List.map_const', List.sum_replicate_nat, List.length_take]; have := HLS.out
      omega
     generalize jobs[k]! = jv at *; obtain ⟨L, hL⟩ : ∃ L, LS ++ (jobs.take k).flatMap jobNs = L := ⟨_, rfl⟩
     rw [hL] at M HN HL; clear hL; have hL10 := HL.out; obtain ⟨jt, jf⟩ := jv; simp only at s0 s1
     have go : ∀ wa : World, Below wr.heap.size wr wa → ∀ x : Int, ∃ wb, wa.alloc (.cells #[.int .i64 jt, .int .i64 x] 3) = wb ∧ Hid (TI w wb #[.int .i64 last, .slice sa stays.length sc, .slice (some ⟨sb, soff, none⟩) jobs.length jc] u3 L ∧ (∀ j u, ([jt, x].map (Value.int .i64))[j]? = some u → wb.cell? ((⟨wa.heap.size, 0, none⟩ : Addr).add j) = some u) ∧ w.heap.size ≤ wb.heap.size) := by
      intro wa hwa x
      refine ⟨_, rfl, ?_⟩; have hb : Below wa.heap.size wa (wa.alloc (.cells #[.int .i64 jt, .int .i64 x] 3)) := B.new1 _ _; have h1 := (M.out.below hwa).below hb; exact ⟨h1, news_new wa ([jt, x].map (Value.int .i64)) 3 _ rfl, h1.bel.size⟩
     clear M
     cases jf
     ·obtain ⟨wz, hwz⟩ : ∃ wz, wr.alloc (.cells #[.int .i64 jt, .bool false] 88) = wz := ⟨_, rfl⟩
      obtain ⟨wa, hwa⟩ : ∃ wa, wz.setCell ⟨wr.heap.size, 1, none⟩ (.bool false) = wa := ⟨_, rfl⟩
      have NA : Hid (Below wr.heap.size wr wa) := by show Below _ _ _; rw [← hwa, ← hwz]; exact (B.new1 _ _).setCell (Nat.le_refl _) _
      have KA : Hid (Blk wa wr.heap.size #[.int .i64 jt, .bool false] 88) := by show Blk _ _ _ _; rw [← hwa, ← hwz]; exact (Blk.new _ _ _).set 1 _
      have rv := KA.out.cell; have KZ : Hid (Blk wz wr.heap.size #[.int .i64 jt, .bool false] 88) := by show Blk _ _ _ _; rw [← hwz]; exact Blk.new _ _ _
      have rz := KZ.out.cell; have fz := KZ.out.free; obtain ⟨wb, hwb, NB⟩ := go wa NA.out 0; clear go NA KA; have hbb := NB.out.2.2
      go_wp2_with (at_builtin; refine wpList_append_own _ rfl _ _ 56 rfl w.heap.size 3 i0 (.int .i64 0) 1 8 Tryz.underlying56 ii iz is ib rfl (by decide) u3 L.length (L.map (Value.int .i64)) rfl NB.out.1.own ⟨wa.heap.size, 0, none⟩ 2 2 ([jt, 0].map (Value.int .i64)) rfl rfl NB.out.2.1 (ints_one _) (by unfold maxLen; omega) (by omega) hbb ?_; intro v' w' ho hgr hnil)
      have N2 : Hid (TI w w' #[.int .i64 last, .slice sa stays.length sc, .slice (some ⟨sb, soff, none⟩) jobs.length jc] v' (L ++ jobNs ⟨jt, false⟩)) := NB.out.1.more (m := [jt, 0]) ho hgr; clear ho hgr hnil NB; rw [← HN.out] at N2; go_wp2
      go_roundg (jobs.length - (k + 1))
      case measure => omega
      case rel => exact ⟨k + 1, by omega, by omega, by go_num, N2⟩
     ·obtain ⟨wa, hwa⟩ : ∃ wa, wr.alloc (.cells #[.int .i64 jt, .bool true] 88) = wa := ⟨_, rfl⟩
      have NA : Hid (Below wr.heap.size wr wa) := by show Below _ _ _; rw [← hwa]; exact B.new1 _ _
      have KA : Hid (Blk wa wr.heap.size #[.int .i64 jt, .bool true] 88) := by show Blk _ _ _ _; rw [← hwa]; exact Blk.new _ _ _
      have rv := KA.out.cell; obtain ⟨wb, hwb, NB⟩ := go wa NA.out 1; clear go NA KA; have hbb := NB.out.2.2
      go_wp2_with (at_builtin; refine wpList_append_own _ rfl _ _ 56 rfl w.heap.size 3 i0 (.int .i64 0) 1 8 Tryz.underlying56 ii iz is ib rfl (by decide) u3 L.length (L.map (Value.int .i64)) rfl NB.out.1.own ⟨wa.heap.size, 0, none⟩ 2 2 ([jt, 1].map (Value.int .i64)) rfl rfl NB.out.2.1 (ints_one _) (by unfold maxLen; omega) (by omega) hbb ?_; intro v' w' ho hgr hnil)
      have N2 : Hid (TI w w' #[.int .i64 last, .slice sa stays.length sc, .slice (some ⟨sb, soff, none⟩) jobs.length jc] v' (L ++ jobNs ⟨jt, true⟩)) := NB.out.1.more (m := [jt, 1]) ho hgr; clear ho hgr hnil NB; rw [← HN.out] at N2; go_wp2
      go_roundg (jobs.length - (k + 1))
      case measure => omega
      case rel => exact ⟨k + 1, by omega, by omega, by go_num, N2⟩
    ·have hltz : ¬ (k : Int) < (jobs.length : Int) := by omega
     have hke : k = jobs.length := by omega
     subst hke; rw [List.take_length] at M; have hT := M.out; rw [← HNS.out] at hT
     have HLN2 : Hid ((numsOf last stays jobs).length ≤ 20000 ∧ 3 ≤ (numsOf last stays jobs).length) := by
      show _ ∧ _
      rw [HNS.out, List.length_append, List.length_flatMap]; have e8 : (List.map (fun a => (jobNs a).length) jobs) = jobs.map fun _ => 2 := rfl
      rw [e8, List.map_const', List.sum_replicate_nat]
      have h3 : 3 ≤ LS.length := by
       have := HLS3.out; exact this
      have := HLS.out
      omega
     have HTL : Hid (textL last stays jobs = Lib.join ((numsOf last stays jobs).map Lib.itoa) [32]) := rfl; generalize numsOf last stays jobs = L at *; generalize textL last stays jobs = TT at *; obtain ⟨g, cap, cur, rfl, hg1, hgb, hgc, hgm, hgs, hgt⟩ := hT.own.2.resolve_left (fun e => by have := e.2; have := HLN2.out.2; omega)
     have hL1 := HLN2.out.1; have hL3 := HLN2.out.2; unfold maxLen at hgm; have hmk := make_strs L.length (by omega)
     have HC : Hid (∀ W, Below wr.heap.size wr W → ∀ j, j < L.length → W.cell? ⟨g, j, none⟩ = some (.int .i64 L[j]!)) := fun W hb j hj => by
      have hbk : Blk wr g cur 3 := hgb; rw [(hbk.below hb).cell]; have h1 : (cur.toList.take (L.length * 1))[j]? = (L.map (Value.int .i64))[j]? := by rw [hgt]
      rw [List.getElem?_take_of_lt (by omega), List.getElem?_map, List.getElem?_eq_getElem hj] at h1; rw [getElem!_pos L j hj]
      simpa using h1
     have T2 : Hid (Below w.heap.size w wr) := hT.bel; have HGl : Hid (g < wr.heap.size) := (show Blk wr g cur 3 from hgb).lt
     clear hT M hgb hgs hgt HNS HLS; obtain ⟨wm, hwm⟩ : ∃ wm, wr.alloc (.cells (Lib.cellsOf [] L.length) 9) = wm := ⟨_, rfl⟩
     have W0 : Hid (Below wr.heap.size wr wm ∧ Blk wm wr.heap.size (Lib.cellsOf (wordsTo L 0) L.length) 9) := by
      show _ ∧ _
      rw [← hwm]; exact ⟨B.new1 _ _, Blk.new _ _ _⟩
     go_wp2_with fail; clear hwm hmk; have HGW : Hid (∀ W, Below w.heap.size w W → Glob W) := fun W hb => G.new hb
     have HNW : Hid (w.heap.size ≤ wr.heap.size) := T2.out.size; generalize wr = w0 at *; have W1 : Hid (Below w0.heap.size w0 wm ∧ Blk wm w0.heap.size (Lib.cellsOf (wordsTo L 0) L.length) 9) := W0; clear W0
     go_loopg [79] L.length (fun gg s79 wr => ∃ k : Nat, k ≤ L.length ∧ L.length - k ≤ gg ∧ s79 = .int .i64 k ∧ Hid (Below w0.heap.size w0 wr ∧ Blk wr w0.heap.size (Lib.cellsOf (wordsTo L k) L.length) 9))
     case atStart => exact ⟨0, Nat.zero_le _, by omega, rfl, W1⟩
     case round =>
      clear W1; obtain ⟨k, hk, hg, rfl, M⟩ := hrel
      by_cases hlt : k < L.length
      ·have hltz : (k : Int) < (L.length : Int) := by omega
       have cg := HC.out wr M.out.1 k hlt; have hin := HI.out L[k]! (by rw [getElem!_pos L k hlt]; exact List.getElem_mem hlt)
       have HWN : Hid (wordsTo L (k + 1) = wordsTo L k ++ [⟨(Lib.itoa L[k]!).toArray⟩]) := by
        show _ = _
        unfold wordsTo; rw [List.take_succ_eq_append_getElem hlt, List.map_append, getElem!_pos L k hlt]
        rfl
       have HWL : Hid ((wordsTo L k).length = k) := by show _ = _; unfold wordsTo; rw [List.length_map, List.length_take]; omega
       generalize L[k]! = nv at *; have HIT : Hid (Calls Tryz.prog 129 #[.int .i64 nv] wr fun e w' => e = .returned (.string ⟨(Lib.itoa nv).toArray⟩) ∧ Below wr.heap.size wr w') := itoa_any nv wr (by omega) (by omega) (HGW.out wr (B.next T2.out M.out.1 T2.out.size))
       generalize (⟨(Lib.itoa nv).toArray⟩ : ByteArray) = sv at *; go_wp2_with fail; refine HIT.out.mono ?_; rintro e w1 ⟨rfl, b1⟩; have N1 : Hid (Below w0.heap.size w0 w1 ∧ Blk w1 w0.heap.size (Lib.cellsOf (wordsTo L k) L.length) 9) := ⟨B.next M.out.1 b1 M.out.1.size, M.out.2.below b1⟩; clear b1 M HIT cg; have hfr := N1.out.2.free
       have cn : w1.cell? ⟨w0.heap.size, k, none⟩ = some (.string ByteArray.empty) := by
        rw [N1.out.2.cell]; have := Lib.cellsOf_next (done := wordsTo L k) (N := L.length) (by rw [HWL.out]; exact hlt)
        rwa [HWL.out] at this
       have N2 : Hid (Below w0.heap.size w0 (w1.setCell ⟨w0.heap.size, k, none⟩ (.string sv)) ∧ Blk (w1.setCell ⟨w0.heap.size, k, none⟩ (.string sv)) w0.heap.size (Lib.cellsOf (wordsTo L (k + 1)) L.length) 9) := by
        refine ⟨N1.out.1.setCell (p := ⟨w0.heap.size, k, none⟩) (Nat.le_refl _) _, ?_⟩; have h1 := N1.out.2.set k (.string sv); have h2 := Lib.cellsOf_set (done := wordsTo L k) (N := L.length) (by rw [HWL.out]; exact hlt) sv; rw [HWL.out] at h2; rw [h2, ← HWN.out] at h1; exact h1
       clear N1; go_wp2
       go_roundg (L.length - (k + 1))
       case measure => omega
       case rel => exact ⟨k + 1, by omega, by omega, by go_num, N2⟩
      ·have hltz : ¬ (k : Int) < (L.length : Int) := by omega
       have hke : k = L.length := by omega
       subst hke
       have HJ : Hid (Calls Tryz.prog 130 #[.slice (some ⟨w0.heap.size, 0, none⟩) L.length L.length, .string ⟨#[32]⟩] wr fun e w' => e = .returned (.string ⟨TT.toArray⟩) ∧ Below wr.heap.size wr w') := by
        have hx : (wordsTo L L.length).map (·.data.toList) = L.map Lib.itoa := by
         unfold wordsTo; rw [List.take_length, List.map_map]; exact List.map_congr_left fun n _ => by simp
        have hwl : (wordsTo L L.length).length = L.length := by unfold wordsTo; rw [List.length_map, List.take_length]
        have := join_any w0.heap.size L.length (wordsTo L L.length) wr (fun j x hj => by
         rw [M.out.2.cell]; unfold Lib.cellsOf; have hjl : j < L.length := by rw [← hwl]; exact (List.getElem?_eq_some_iff.1 hj).1
         rw [List.getElem?_toArray, List.getElem?_append_left (by rw [List.length_map, hwl]; exact hjl), List.getElem?_map, hj]
         rfl) M.out.2.lt (by rw [hwl]; omega) (by rw [hwl]; exact Nat.le_refl _) (by rw [hx, ← HTL.out]; exact HLN.out)
        rw [hx, hwl, ← HTL.out] at this; exact this
       have HB3 : Hid (Below w.heap.size w wr) := B.next T2.out M.out.1 T2.out.size; clear M HC; go_wp2_with fail; refine HJ.out.mono ?_; rintro e w1 ⟨rfl, b1⟩; have HF : Hid (PP (.returned (.string ⟨TT.toArray⟩)) w1) := HP.out _ (B.next HB3.out b1 HB3.out.size); clear b1; go_wp2; exact HF.out
end Tx
end Go.Proofs.YtopgllmjeliklaaGreatDoor
