/- ViewG. -/
import Derived.Test.YtopgllmjeliklaaGreatDoorKhViewF
set_option maxRecDepth 100000
set_option linter.unusedSimpArgs false
set_option linter.unusedVariables false
namespace Go.Proofs.YtopgllmjeliklaaGreatDoor
open Go.Shelf Go.Lib Go.ChangeShapes Go.WideShapes Go.ChangeAt Go.RowKit
namespace Tn
open Bk Pl
def vB (b : Book) : Bool := decide (b.jobs ≠ [])
def vJ (b : Book) (s : St) : Job := if b.jobs = [] then ⟨0, false⟩ else firstJ b s
def vS (b : Book) (s : St) : Stay := if b.jobs = [] then zS else StayOfJob b (firstJ b s).t
theorem vS_ok (b : Book) (s : St) (hst : ∀ x ∈ b.stays, sIn x) : sOk (vS b s) := by
 unfold vS
 split
 ·unfold sOk zS; decide
 ·unfold StayOfJob
  cases h : tickO b (firstJ b s).t with
  | none => show sOk zS; unfold sOk zS; decide
  | some x =>
    have := hst x (List.mem_of_find?_eq_some h); exact ⟨Int.le_trans (by decide) this.1, this.2.1, this.2.2.1, this.2.2.2.1, this.2.2.2.2.1, this.2.2.2.2.2⟩
def spareB (b : Book) (s : St) (lv : Int) (bz jf : Bool) (vs : Stay) : Bool := carOf s.D lv 1 0 != 0 && !blocksB b s bz jf vs (carOf s.D lv 1 0)
def NextL (b : Book) (s : St) (lv : Int) (bz : Bool) (jt : Int) (jf : Bool) (vs : Stay) (l : List (Int × Int)) : Prop :=
 (s.li ≠ 0 ∧ l = unloadG b s bz jt jf vs lv 1 0) ∨ (s.li = 0 ∧ spareB b s lv bz jf vs = true ∧ l = gThere 3 lv 1 0) ∨
 (s.li = 0 ∧ spareB b s lv bz jf vs = false ∧ bz = false ∧ l = welG s) ∨
 (s.li = 0 ∧ spareB b s lv bz jf vs = false ∧ bz = true ∧ overB s jf vs = false ∧ ((jf = true ∧ FetchP s vs l) ∨ (jf = false ∧ l = putG s vs)))
def NextC (b : Book) (s : St) (lv : Int) (bz jf : Bool) (vs : Stay) : Prop := s.li = 0 ∧ spareB b s lv bz jf vs = false ∧ bz = true ∧ overB s jf vs = true
def NextPost (b : Book) (s : St) (lv : Int) (w : World) (e : Ending) (w' : World) : Prop :=
 (∃ v l, e = .returned (.tuple #[v, .agg #[.int .i64 0, .slice none 0 0, .slice none 0 0], .bool false]) ∧ NextL b s lv (vB b) (vJ b s).t (vJ b s).f (vS b s) l ∧ Goals w' v l ∧ Below w.heap.size w w') ∨
 (NextC b s lv (vB b) (vJ b s).f (vS b s) ∧ ∃ xs xj, e = .returned (.tuple #[.slice none 0 0, .agg #[.int .i64 b.last, xs, xj], .bool true]) ∧ OwnBook w' w.heap.size xs xj (doneStays (vJ b s).t ((vJ b s).f || !hasB s (vS b s).id) b.stays) (doneJobs (vJ b s).t (vJ b s).f ((vJ b s).f || !hasB s (vS b s).id) b.jobs) ∧ Below w.heap.size w w')
theorem Goals.set {w : World} {v : Value} {l : List (Int × Int)} (h : Goals w v l) {n : Nat} {l1 : Value} {a1 a2 : Option Addr} {n1 c1 n2 c2 : Nat} {T : TypeId} (hB : Blk w n #[l1, .slice a1 n1 c1, .slice a2 n2 c2] T) (o : Nat) (u : Value) : Goals (w.setCell ⟨n, o, none⟩ u) v l := by
 rcases h with h | ⟨g, cap, hv, hg, hl, hc⟩
 ·exact Or.inl h
 ·have hT : ∃ cur, (w.setCell ⟨n, o, none⟩ u).heap[g]? = some (.cells cur 102 (0, 0)) := by
   obtain ⟨cur, hk⟩ := hl.2.2.2
   by_cases e : g = n
   ·subst e
    exact ⟨_, Blk.set (arr := cur) hk o u⟩
   ·exact ⟨cur, (Below.heap_setCell w ⟨n, o, none⟩ u g e).trans hk⟩
  refine Or.inr ⟨g, cap, hv, by rw [size_setCell]; exact hg, ⟨hl.1, hl.2.1, hl.2.2.1, hT⟩, fun k hk => ?_⟩
  have hne : g ≠ n := by
   rintro rfl; have h1 := (hc 0 (by omega)).2; rw [hB.cell] at h1
   simp at h1
  have hbk := Below.heap_setCell w ⟨n, o, none⟩ u g hne; exact ⟨(World.cell?_of_block (a := ⟨g, k * 2, none⟩) hbk).trans (hc k hk).1, (World.cell?_of_block (a := ⟨g, k * 2 + 1, none⟩) hbk).trans (hc k hk).2⟩
theorem Goals.set3 {w : World} {v : Value} {l : List (Int × Int)} (h : Goals w v l) {n : Nat} {T : TypeId} (hB : Blk w n #[.int .i64 0, .slice none 0 0, .slice none 0 0] T) : Goals (((w.setCell ⟨n, 0, none⟩ (.int .i64 0)).setCell ⟨n, 1, none⟩ (.slice none 0 0)).setCell ⟨n, 2, none⟩ (.slice none 0 0)) v l :=
 Goals.set (Goals.set (Goals.set h hB 0 _) (l1 := .int .i64 0) (hB.set 0 _) 1 _) (l1 := .int .i64 0) ((hB.set 0 (.int .i64 0)).set 1 (.slice none 0 0)) 2 _
set_option maxHeartbeats 4000000 in
theorem tnext_any (b : Book) (lv : Int) (pb mb n : Nat) (s : St) (w : World) (hp : IsP w pb mb n s) (hk : b.At w) (iv : Inv s) (hlv : 1 ≤ lv ∧ lv ≤ 4) (hst : ∀ x ∈ b.stays, sIn x) (hl1 : b.stays.length ≤ 1000) (hl2 : b.jobs.length ≤ 1000) :
  Calls Tryz.prog 52 #[b.val, .int .i64 lv, .pointer (some ⟨pb, 0, none⟩)] w (NextPost b s lv w) := by
 have HPL0 : Hid (∀ v l w', NextL b s lv (vB b) (vJ b s).t (vJ b s).f (vS b s) l → Goals w' v l → Below w.heap.size w w' → NextPost b s lv w (.returned (.tuple #[v, .agg #[.int .i64 0, .slice none 0 0, .slice none 0 0], .bool false])) w') := fun v l w' h1 h2 h3 => Or.inl ⟨v, l, rfl, h1, h2, h3⟩
 have HPC0 : Hid (NextC b s lv (vB b) (vJ b s).f (vS b s) → ∀ xs xj w', OwnBook w' w.heap.size xs xj (doneStays (vJ b s).t ((vJ b s).f || !hasB s (vS b s).id) b.stays) (doneJobs (vJ b s).t (vJ b s).f ((vJ b s).f || !hasB s (vS b s).id) b.jobs) → Below w.heap.size w w' → NextPost b s lv w (.returned (.tuple #[.slice none 0 0, .agg #[.int .i64 b.last, xs, xj], .bool true])) w') := fun h xs xj w' h1 h2 => Or.inr ⟨h, xs, xj, rfl, h1, h2⟩
 have HOK0 : Hid (sOk (vS b s)) := vS_ok b s hst; generalize NextPost b s lv w = PP at *; have HSE : Hid (∀ wx, Below w.heap.size w wx → Calls Tryz.prog 19 #[.pointer (some ⟨pb, 0, none⟩)] wx fun e w' => e = .returned (senseV s) ∧ Below wx.heap.size wx w') := fun wx h => sense_any pb mb n s wx (hp.below h) iv.ok
 obtain ⟨q1, hq1⟩ : ∃ q, (carAtI s.D s.lv s.h s.ex != 0) = q := ⟨_, rfl⟩
 obtain ⟨q2, hq2⟩ : ∃ q, (carAtI s.D s.lv s.h (s.ex - 1) != 0) = q := ⟨_, rfl⟩
 obtain ⟨q3, hq3⟩ : ∃ q, (carAtI s.D s.lv s.h (s.ex + 1) != 0) = q := ⟨_, rfl⟩
 have hsv : senseV s = .agg #[.int .i64 s.h, .int .i64 s.ex, .bool s.op, .int .i64 s.pe, .int .i64 s.li, .int .i64 s.ba, .bool q1, .bool q2, .bool q3] := by
  unfold senseV; rw [hq1, hq2, hq3]
 rw [hsv] at HSE; clear hsv hq1 hq2 hq3; simp only [Book.val]; obtain ⟨w0, hw0⟩ : ∃ w0, (w.alloc (.cells #[.int .i64 b.last, .slice b.sa b.stays.length b.sc, .slice b.ja b.jobs.length b.jc] 39)).alloc (.cells #[.int .i64 0, .slice none 0 0, .slice none 0 0] 39) = w0 := ⟨_, rfl⟩
 have N0 : Hid (Below w.heap.size w w0 ∧ Blk w0 w.heap.size #[.int .i64 b.last, .slice b.sa b.stays.length b.sc, .slice b.ja b.jobs.length b.jc] 39 ∧ Blk w0 (w.heap.size + 1) #[.int .i64 0, .slice none 0 0, .slice none 0 0] 39) := by
  show _ ∧ _ ∧ _
  rw [← hw0]; exact ⟨(B.new1 _ _).alloc (by simp) _, (Blk.new _ _ _).old _, Blk.new1 (by simp) _ _⟩
 have HNV : Hid (w.heap.size ≤ w0.heap.size) := N0.out.1.size; have HP0 : Hid (IsP w0 pb mb n s) := hp.below N0.out.1; have HK0 : Hid (b.At w0) := hk.below N0.out.1; have HST : Hid (∀ x ∈ b.stays, sIn x) := hst
 have HIV : Hid (Inv s) := iv; clear hst; have HN2 : Hid (w.heap.size + 2 ≤ w0.heap.size) := N0.out.2.2.lt
 go_enter Tryz.func52, Tryz.ntmps52
 go_upto_region 1 with fail
 clear hw0; have HS : Hid (∀ W, Blk W w.heap.size #[.int .i64 b.last, .slice b.sa b.stays.length b.sc, .slice b.ja b.jobs.length b.jc] 39 → W.cell? ⟨w.heap.size, 0, none⟩ = some (.int .i64 b.last) ∧ W.cell? ⟨w.heap.size, 1, none⟩ = some (.slice b.sa b.stays.length b.sc) ∧ W.cell? ⟨w.heap.size, 2, none⟩ = some (.slice b.ja b.jobs.length b.jc)) := fun W h => ⟨h.cell 0, h.cell 1, h.cell 2⟩
 have D0 : Hid (Below w0.heap.size w0 w0.drew) := (Below.refl _ _).drew; have HSD : Hid ((fun W : World => W.cell? ⟨w.heap.size, 0, none⟩ = some (.int .i64 b.last) ∧ W.cell? ⟨w.heap.size, 1, none⟩ = some (.slice b.sa b.stays.length b.sc) ∧ W.cell? ⟨w.heap.size, 2, none⟩ = some (.slice b.ja b.jobs.length b.jc)) w0.drew) := HS.out _ (N0.out.2.1.below D0.out)
 go_cut [9] (fun s9 wx => ∃ vb : Nat, s9 = .pointer (some ⟨vb, 0, none⟩) ∧ Hid (Below w0.heap.size w0 wx ∧ Blk wx vb (vArr b s pb q1 q2 q3 false 0 false zS) 135 ∧ w0.heap.size ≤ vb))
 case first =>
  refine wp_region_held (S := fun W => W.cell? ⟨w.heap.size, 0, none⟩ = some (.int .i64 b.last) ∧ W.cell? ⟨w.heap.size, 1, none⟩ = some (.slice b.sa b.stays.length b.sc) ∧ W.cell? ⟨w.heap.size, 2, none⟩ = some (.slice b.ja b.jobs.length b.jc)) (by kernel_rfl) ?_
  refine wpAnyH_take (fuel := 11) (i := 0) (v := .agg #[.int .i64 b.last, .slice b.sa b.stays.length b.sc, .slice b.ja b.jobs.length b.jc]) rfl (by kernel_rfl) (by kernel_rfl) (by kernel_rfl) (fun _ _ _ h => h) (Or.inl ⟨by rfl, ?_⟩) HSD.out ?_
  ·intro W hSw
   (try dsimp only at hSw)
   obtain ⟨y0, y1, y2⟩ := hSw
   go_simp
   try rfl
  (try simp only [Act.put, List.setIfInBounds_toArray, List.set_cons_zero, List.set_cons_succ])
  refine wpAnyH_take (fuel := 10) (i := 1) (v := .pointer (some ⟨pb, 0, none⟩)) rfl (by kernel_rfl) (by kernel_rfl) (by kernel_rfl) (fun _ _ _ h => h) (Or.inl ⟨by rfl, ?_⟩) HSD.out ?_
  ·intro W hSw
   (try dsimp only at hSw)
   obtain ⟨y0, y1, y2⟩ := hSw
   go_simp
   try rfl
  (try simp only [Act.put, List.setIfInBounds_toArray, List.set_cons_zero, List.set_cons_succ])
  refine wpAnyH_take (fuel := 9) (i := 3) (v := .pointer (some ⟨pb, 0, none⟩)) rfl (by kernel_rfl) (by kernel_rfl) (by kernel_rfl) (fun _ _ _ h => h) (Or.inl ⟨by rfl, ?_⟩) HSD.out ?_
  ·intro W hSw
   (try dsimp only at hSw)
   obtain ⟨y0, y1, y2⟩ := hSw
   go_simp
   try rfl
  (try simp only [Act.put, List.setIfInBounds_toArray, List.set_cons_zero, List.set_cons_succ])
  refine wpAnyH_take (fuel := 8) (i := 4) (v := .func (.func 34) #[.pointer (some ⟨pb, 0, none⟩)] #[]) rfl (by kernel_rfl) (by kernel_rfl) (by kernel_rfl) (fun _ _ _ h => h) (Or.inl ⟨by rfl, ?_⟩) HSD.out ?_
  ·intro W hSw
   (try dsimp only at hSw)
   obtain ⟨y0, y1, y2⟩ := hSw
   go_simp
   try rfl
  (try simp only [Act.put, List.setIfInBounds_toArray, List.set_cons_zero, List.set_cons_succ])
  refine wpAnyH_take (fuel := 7) (i := 5) (v := .pointer (some ⟨pb, 0, none⟩)) rfl (by kernel_rfl) (by kernel_rfl) (by kernel_rfl) (fun _ _ _ h => h) (Or.inl ⟨by rfl, ?_⟩) HSD.out ?_
  ·intro W hSw
   (try dsimp only at hSw)
   obtain ⟨y0, y1, y2⟩ := hSw
   go_simp
   try rfl
  (try simp only [Act.put, List.setIfInBounds_toArray, List.set_cons_zero, List.set_cons_succ])
  refine wpAnyH_take (fuel := 6) (i := 6) (v := .func (.func 31) #[.pointer (some ⟨pb, 0, none⟩)] #[]) rfl (by kernel_rfl) (by kernel_rfl) (by kernel_rfl) (fun _ _ _ h => h) (Or.inl ⟨by rfl, ?_⟩) HSD.out ?_
  ·intro W hSw
   (try dsimp only at hSw)
   obtain ⟨y0, y1, y2⟩ := hSw
   go_simp
   try rfl
  (try simp only [Act.put, List.setIfInBounds_toArray, List.set_cons_zero, List.set_cons_succ])
  refine wpAnyH_take (fuel := 5) (i := 7) (v := .pointer (some ⟨pb, 0, none⟩)) rfl (by kernel_rfl) (by kernel_rfl) (by kernel_rfl) (fun _ _ _ h => h) (Or.inl ⟨by rfl, ?_⟩) HSD.out ?_
  ·intro W hSw
   (try dsimp only at hSw)
   obtain ⟨y0, y1, y2⟩ := hSw
   go_simp
   try rfl
  (try simp only [Act.put, List.setIfInBounds_toArray, List.set_cons_zero, List.set_cons_succ])
  refine wpAnyH_take (fuel := 4) (i := 8) (v := .func (.func 56) #[.pointer (some ⟨pb, 0, none⟩)] #[]) rfl (by kernel_rfl) (by kernel_rfl) (by kernel_rfl) (fun _ _ _ h => h) (Or.inl ⟨by rfl, ?_⟩) HSD.out ?_
  ·intro W hSw
   (try dsimp only at hSw)
   obtain ⟨y0, y1, y2⟩ := hSw
   go_simp
   try rfl
  (try simp only [Act.put, List.setIfInBounds_toArray, List.set_cons_zero, List.set_cons_succ])
  refine wpAnyH_ready (fuel := 3) (rs := [2, 10]) (by kernel_rfl) (by simp) ?_; refine AllReadyH.cons rfl (fun K hK => ?_) (AllReadyH.cons rfl (fun K hK => ?_) AllReadyH.nil)
  ·go_simp
   refine (HSE.out w0.drew (B.next N0.out.1 D0.out N0.out.1.size)).mono ?_; rintro e wq ⟨rfl, bq⟩; have BQ : Hid (Below w0.heap.size w0 wq) := B.next D0.out bq D0.out.size; have HSQ : Hid ((fun W : World => W.cell? ⟨w.heap.size, 0, none⟩ = some (.int .i64 b.last) ∧ W.cell? ⟨w.heap.size, 1, none⟩ = some (.slice b.sa b.stays.length b.sc) ∧ W.cell? ⟨w.heap.size, 2, none⟩ = some (.slice b.ja b.jobs.length b.jc)) wq) := HS.out _ (N0.out.2.1.below BQ.out)
   clear bq; simp only []; refine hK.out _ _ HSQ.out (fun _ => ?_)
   clear hK K; refine wpAnyH_take (fuel := 2) (i := 9) (v := .agg #[.int .i64 b.last, .slice b.sa b.stays.length b.sc, .slice b.ja b.jobs.length b.jc, .int .i64 s.h, .int .i64 s.ex, .bool s.op, .int .i64 s.pe, .int .i64 s.li, .int .i64 s.ba, .bool q1, .bool q2, .bool q3, .func (.func 34) #[.pointer (some ⟨pb, 0, none⟩)] #[], .func (.func 31) #[.pointer (some ⟨pb, 0, none⟩)] #[], .func (.func 56) #[.pointer (some ⟨pb, 0, none⟩)] #[], .bool false, .int .i64 0, .bool false, .int .i64 0, .int .i64 0, .int .i64 0, .int .i64 0, .int .i64 0, .int .i64 0, .int .i64 0, .int .i64 0]) rfl (by kernel_rfl) (by kernel_rfl) (by kernel_rfl) (fun _ _ _ h => h) (Or.inl ⟨by rfl, ?_⟩) HSQ.out ?_
   ·intro W hSw
    clear hSw
    go_simp
   (try simp only [Act.put, List.setIfInBounds_toArray, List.set_cons_zero, List.set_cons_succ])
   refine wpAnyH_ready (fuel := 1) (rs := [10]) (by kernel_rfl) (by simp) ?_; refine AllReadyH.cons rfl (fun K hK => ?_) AllReadyH.nil
   obtain ⟨wz, hwz⟩ : ∃ wz, wq.alloc (.cells #[.int .i64 0, .slice none 0 0, .slice none 0 0, .int .i64 0, .int .i64 0, .bool false, .int .i64 0, .int .i64 0, .int .i64 0, .bool false, .bool false, .bool false, .nilFunc, .nilFunc, .nilFunc, .bool false, .int .i64 0, .bool false, .int .i64 0, .int .i64 0, .int .i64 0, .int .i64 0, .int .i64 0, .int .i64 0, .int .i64 0, .int .i64 0] 135) = wz := ⟨_, rfl⟩
   have NZ : Hid (Below w0.heap.size w0 wz ∧ Blk wz wq.heap.size #[.int .i64 0, .slice none 0 0, .slice none 0 0, .int .i64 0, .int .i64 0, .bool false, .int .i64 0, .int .i64 0, .int .i64 0, .bool false, .bool false, .bool false, .nilFunc, .nilFunc, .nilFunc, .bool false, .int .i64 0, .bool false, .int .i64 0, .int .i64 0, .int .i64 0, .int .i64 0, .int .i64 0, .int .i64 0, .int .i64 0, .int .i64 0] 135 ∧ w0.heap.size ≤ wq.heap.size) := by
    show _ ∧ _ ∧ _
    rw [← hwz]; exact ⟨BQ.out.alloc BQ.out.size _, Blk.new _ _ _, BQ.out.size⟩
   go_simp
   clear hwz; refine hK.out _ _ (HS.out _ (N0.out.2.1.below NZ.out.1)) (fun _ => ?_)
   clear hK K; refine wpAnyH_ready (fuel := 0) (rs := [11]) (by kernel_rfl) (by simp) ?_; refine AllReadyH.cons rfl (fun K hK => ?_) AllReadyH.nil
   rw [if_pos (by rfl)]; have NT : wz.there wq.heap.size 0 26 := Blk.there NZ.out.2.1; refine wp_store_mid 135 _ _ rfl wq.heap.size 0 #[.int .i64 b.last, .slice b.sa b.stays.length b.sc, .slice b.ja b.jobs.length b.jc, .int .i64 s.h, .int .i64 s.ex, .bool s.op, .int .i64 s.pe, .int .i64 s.li, .int .i64 s.ba, .bool q1, .bool q2, .bool q3, .func (.func 34) #[.pointer (some ⟨pb, 0, none⟩)] #[], .func (.func 31) #[.pointer (some ⟨pb, 0, none⟩)] #[], .func (.func 56) #[.pointer (some ⟨pb, 0, none⟩)] #[], .bool false, .int .i64 0, .bool false, .int .i64 0, .int .i64 0, .int .i64 0, .int .i64 0, .int .i64 0, .int .i64 0, .int .i64 0, .int .i64 0] rfl rfl NT (by kernel_rfl) (by kernel_rfl) ?_; obtain ⟨w1, hw1⟩ : ∃ w1, wz.setCells wq.heap.size 0 (#[.int .i64 b.last, .slice b.sa b.stays.length b.sc, .slice b.ja b.jobs.length b.jc, .int .i64 s.h, .int .i64 s.ex, .bool s.op, .int .i64 s.pe, .int .i64 s.li, .int .i64 s.ba, .bool q1, .bool q2, .bool q3, .func (.func 34) #[.pointer (some ⟨pb, 0, none⟩)] #[], .func (.func 31) #[.pointer (some ⟨pb, 0, none⟩)] #[], .func (.func 56) #[.pointer (some ⟨pb, 0, none⟩)] #[], .bool false, .int .i64 0, .bool false, .int .i64 0, .int .i64 0, .int .i64 0, .int .i64 0, .int .i64 0, .int .i64 0, .int .i64 0, .int .i64 0] : Array Value).toList = w1 := ⟨_, rfl⟩
   have N1 : Hid (Below w0.heap.size w0 w1 ∧ Blk w1 wq.heap.size (vArr b s pb q1 q2 q3 false 0 false zS) 135 ∧ w0.heap.size ≤ wq.heap.size) := by
    show _ ∧ _ ∧ _
    rw [← hw1]; exact ⟨below_setCells NZ.out.2.2 _ 0 NZ.out.1, Blk.setAll NZ.out.2.1 _ rfl, NZ.out.2.2⟩
   rw [hw1]; refine hK.out _ _ (HS.out _ (N0.out.2.1.below N1.out.1)) (fun _ => ?_)
   clear hK K; refine wpAnyH_done (by kernel_rfl) ?_ _
   (try simp only [Act.put])
   go_wp2
   go_meet
   exact ⟨_, rfl, N1⟩
  ·obtain ⟨wz, hwz⟩ : ∃ wz, w0.drew.alloc (.cells #[.int .i64 0, .slice none 0 0, .slice none 0 0, .int .i64 0, .int .i64 0, .bool false, .int .i64 0, .int .i64 0, .int .i64 0, .bool false, .bool false, .bool false, .nilFunc, .nilFunc, .nilFunc, .bool false, .int .i64 0, .bool false, .int .i64 0, .int .i64 0, .int .i64 0, .int .i64 0, .int .i64 0, .int .i64 0, .int .i64 0, .int .i64 0] 135) = wz := ⟨_, rfl⟩
   have NZ : Hid (Below w0.heap.size w0 wz ∧ Blk wz w0.heap.size #[.int .i64 0, .slice none 0 0, .slice none 0 0, .int .i64 0, .int .i64 0, .bool false, .int .i64 0, .int .i64 0, .int .i64 0, .bool false, .bool false, .bool false, .nilFunc, .nilFunc, .nilFunc, .bool false, .int .i64 0, .bool false, .int .i64 0, .int .i64 0, .int .i64 0, .int .i64 0, .int .i64 0, .int .i64 0, .int .i64 0, .int .i64 0] 135) := by
    show _ ∧ _
    rw [← hwz]; exact ⟨D0.out.alloc (Nat.le_refl _) _, Blk.new1 (w := w0.drew) rfl _ _⟩
   have HSZ : Hid ((fun W : World => W.cell? ⟨w.heap.size, 0, none⟩ = some (.int .i64 b.last) ∧ W.cell? ⟨w.heap.size, 1, none⟩ = some (.slice b.sa b.stays.length b.sc) ∧ W.cell? ⟨w.heap.size, 2, none⟩ = some (.slice b.ja b.jobs.length b.jc)) wz) := HS.out _ (N0.out.2.1.below NZ.out.1)
   go_simp
   clear hwz; refine hK.out _ _ HSZ.out (fun _ => ?_)
   clear hK K; refine wpAnyH_ready (fuel := 2) (rs := [2]) (by kernel_rfl) (by simp) ?_; refine AllReadyH.cons rfl (fun K hK => ?_) AllReadyH.nil
   go_simp
   refine (HSE.out wz (B.next N0.out.1 NZ.out.1 N0.out.1.size)).mono ?_; rintro e wq ⟨rfl, bq⟩; have BQ : Hid (Below w0.heap.size w0 wq ∧ Blk wq w0.heap.size #[.int .i64 0, .slice none 0 0, .slice none 0 0, .int .i64 0, .int .i64 0, .bool false, .int .i64 0, .int .i64 0, .int .i64 0, .bool false, .bool false, .bool false, .nilFunc, .nilFunc, .nilFunc, .bool false, .int .i64 0, .bool false, .int .i64 0, .int .i64 0, .int .i64 0, .int .i64 0, .int .i64 0, .int .i64 0, .int .i64 0, .int .i64 0] 135) := ⟨B.next NZ.out.1 bq NZ.out.1.size, NZ.out.2.below bq⟩; have HSQ : Hid ((fun W : World => W.cell? ⟨w.heap.size, 0, none⟩ = some (.int .i64 b.last) ∧ W.cell? ⟨w.heap.size, 1, none⟩ = some (.slice b.sa b.stays.length b.sc) ∧ W.cell? ⟨w.heap.size, 2, none⟩ = some (.slice b.ja b.jobs.length b.jc)) wq) := HS.out _ (N0.out.2.1.below BQ.out.1)
   clear bq; simp only []; refine hK.out _ _ HSQ.out (fun _ => ?_)
   clear hK K; refine wpAnyH_take (fuel := 1) (i := 9) (v := .agg #[.int .i64 b.last, .slice b.sa b.stays.length b.sc, .slice b.ja b.jobs.length b.jc, .int .i64 s.h, .int .i64 s.ex, .bool s.op, .int .i64 s.pe, .int .i64 s.li, .int .i64 s.ba, .bool q1, .bool q2, .bool q3, .func (.func 34) #[.pointer (some ⟨pb, 0, none⟩)] #[], .func (.func 31) #[.pointer (some ⟨pb, 0, none⟩)] #[], .func (.func 56) #[.pointer (some ⟨pb, 0, none⟩)] #[], .bool false, .int .i64 0, .bool false, .int .i64 0, .int .i64 0, .int .i64 0, .int .i64 0, .int .i64 0, .int .i64 0, .int .i64 0, .int .i64 0]) rfl (by kernel_rfl) (by kernel_rfl) (by kernel_rfl) (fun _ _ _ h => h) (Or.inl ⟨by rfl, ?_⟩) HSQ.out ?_
   ·intro W hSw
    clear hSw
    go_simp
   (try simp only [Act.put, List.setIfInBounds_toArray, List.set_cons_zero, List.set_cons_succ])
   have NZ2 : Hid (Below w0.heap.size w0 wq ∧ Blk wq w0.heap.size #[.int .i64 0, .slice none 0 0, .slice none 0 0, .int .i64 0, .int .i64 0, .bool false, .int .i64 0, .int .i64 0, .int .i64 0, .bool false, .bool false, .bool false, .nilFunc, .nilFunc, .nilFunc, .bool false, .int .i64 0, .bool false, .int .i64 0, .int .i64 0, .int .i64 0, .int .i64 0, .int .i64 0, .int .i64 0, .int .i64 0, .int .i64 0] 135 ∧ w0.heap.size ≤ w0.heap.size) := ⟨BQ.out.1, BQ.out.2, Nat.le_refl _⟩; clear NZ; have NZ := NZ2; clear NZ2; refine wpAnyH_ready (fuel := 0) (rs := [11]) (by kernel_rfl) (by simp) ?_; refine AllReadyH.cons rfl (fun K hK => ?_) AllReadyH.nil
   rw [if_pos (by rfl)]; have NT : wq.there w0.heap.size 0 26 := Blk.there NZ.out.2.1; refine wp_store_mid 135 _ _ rfl w0.heap.size 0 #[.int .i64 b.last, .slice b.sa b.stays.length b.sc, .slice b.ja b.jobs.length b.jc, .int .i64 s.h, .int .i64 s.ex, .bool s.op, .int .i64 s.pe, .int .i64 s.li, .int .i64 s.ba, .bool q1, .bool q2, .bool q3, .func (.func 34) #[.pointer (some ⟨pb, 0, none⟩)] #[], .func (.func 31) #[.pointer (some ⟨pb, 0, none⟩)] #[], .func (.func 56) #[.pointer (some ⟨pb, 0, none⟩)] #[], .bool false, .int .i64 0, .bool false, .int .i64 0, .int .i64 0, .int .i64 0, .int .i64 0, .int .i64 0, .int .i64 0, .int .i64 0, .int .i64 0] rfl rfl NT (by kernel_rfl) (by kernel_rfl) ?_; obtain ⟨w1, hw1⟩ : ∃ w1, wq.setCells w0.heap.size 0 (#[.int .i64 b.last, .slice b.sa b.stays.length b.sc, .slice b.ja b.jobs.length b.jc, .int .i64 s.h, .int .i64 s.ex, .bool s.op, .int .i64 s.pe, .int .i64 s.li, .int .i64 s.ba, .bool q1, .bool q2, .bool q3, .func (.func 34) #[.pointer (some ⟨pb, 0, none⟩)] #[], .func (.func 31) #[.pointer (some ⟨pb, 0, none⟩)] #[], .func (.func 56) #[.pointer (some ⟨pb, 0, none⟩)] #[], .bool false, .int .i64 0, .bool false, .int .i64 0, .int .i64 0, .int .i64 0, .int .i64 0, .int .i64 0, .int .i64 0, .int .i64 0, .int .i64 0] : Array Value).toList = w1 := ⟨_, rfl⟩
   have N1 : Hid (Below w0.heap.size w0 w1 ∧ Blk w1 w0.heap.size (vArr b s pb q1 q2 q3 false 0 false zS) 135 ∧ w0.heap.size ≤ w0.heap.size) := by
    show _ ∧ _ ∧ _
    rw [← hw1]; exact ⟨below_setCells NZ.out.2.2 _ 0 NZ.out.1, Blk.setAll NZ.out.2.1 _ rfl, NZ.out.2.2⟩
   rw [hw1]; refine hK.out _ _ (HS.out _ (N0.out.2.1.below N1.out.1)) (fun _ => ?_)
   clear hK K; refine wpAnyH_done (by kernel_rfl) ?_ _
   (try simp only [Act.put])
   go_wp2
   go_meet
   exact ⟨_, rfl, N1⟩
 case rest =>
 obtain ⟨vb, rfl, N1⟩ := hcut; clear HS D0 HSD HN2 HSE; go_wp2_with fail; refine (vchoose_any vb pb mb n s b q1 q2 q3 w0 _ HP0.out HK0.out N1.out.1 N1.out.2.2 N1.out.2.1).mono ?_; rintro e w2 ⟨rfl, b2, hd⟩; have HVB : Hid (w0.heap.size ≤ vb) := N1.out.2.2
 have hcv : Blk w2 vb (vArr b s pb q1 q2 q3 (vB b) (vJ b s).t (vJ b s).f (vS b s)) 135 := by
  unfold vB vJ vS
  rcases hd with ⟨h1, h2⟩ | ⟨h1, h2⟩
  ·rw [if_pos h1, if_pos h1, decide_eq_false (by simp [h1])]; exact h2
  ·rw [if_neg h1, if_neg h1, decide_eq_true h1]; exact h2
 obtain ⟨bz, hbz⟩ : ∃ bz, vB b = bz := ⟨_, rfl⟩
 obtain ⟨jv, hjv⟩ : ∃ jv, vJ b s = jv := ⟨_, rfl⟩
 obtain ⟨vs, hvs⟩ : ∃ vs, vS b s = vs := ⟨_, rfl⟩
 rw [hbz, hjv, hvs] at HPL0 HPC0 hcv; rw [hvs] at HOK0; obtain ⟨jt, jf⟩ := jv; simp only at HPL0 HPC0 hcv; have N2 : Hid (Below w0.heap.size w0 w2 ∧ Blk w2 vb (vArr b s pb q1 q2 q3 bz jt jf vs) 135) := ⟨b2, hcv⟩; clear hbz hjv hvs hcv hd b2 N1; have HVA : Hid (∀ wx, Below w0.heap.size w0 wx → Blk wx vb (vArr b s pb q1 q2 q3 bz jt jf vs) 135 → ViewAt wx vb pb mb n s b q1 q2 q3 bz jt jf vs) := fun wx h1 h2 => ⟨HP0.out.below h1, h2, HK0.out.below h1⟩
 go_wp2_with fail; refine (spare_any lv _).mono ?_; rintro e w3 ⟨rfl, b3⟩; obtain ⟨w4, hw4⟩ : ∃ w4, w3.alloc (.cells #[.int .i64 lv, .int .i64 1, .int .i64 0] 65) = w4 := ⟨_, rfl⟩
 obtain ⟨sp, hsp⟩ : ∃ sp, w3.heap.size = sp := ⟨_, rfl⟩
 have N4 : Hid (Below w0.heap.size w0 w4 ∧ Blk w4 vb (vArr b s pb q1 q2 q3 bz jt jf vs) 135 ∧ Blk w4 sp #[.int .i64 lv, .int .i64 1, .int .i64 0] 65) := by
  show _ ∧ _ ∧ _
  rw [← hw4]; have b4 := B.next N2.out.1 b3 N2.out.1.size; exact ⟨b4.alloc b4.size _, (N2.out.2.below b3).old _, Blk.new1 hsp.symm _ _⟩
 have HW4 : Hid (w3.alloc (.cells #[.int .i64 lv, .int .i64 1, .int .i64 0] 65) = w4) := hw4; clear hw4 N2 b3
 go_upto_region 4 with fail
 simp only [HW4.out, hsp]; clear HW4 hsp
 have HRET : Hid (∀ wx v l, Below w0.heap.size w0 wx → NextL b s lv bz jt jf vs l → Goals wx v l → PP (.returned (.tuple #[v, .agg #[.int .i64 0, .slice none 0 0, .slice none 0 0], .bool false])) (((wx.setCell ⟨w.heap.size + 1, 0, none⟩ (.int .i64 0)).setCell ⟨w.heap.size + 1, 1, none⟩ (.slice none 0 0)).setCell ⟨w.heap.size + 1, 2, none⟩ (.slice none 0 0))) := fun wx v l hb hn hg =>
  HPL0.out v l _ hn (Goals.set3 hg (N0.out.2.2.below hb)) (below_set (below_set (below_set (B.next N0.out.1 hb N0.out.1.size) (Nat.le_succ _) _ _) (Nat.le_succ _) _ _) (Nat.le_succ _) _ _)
 have rv := N4.out.2.1.cell; unfold vArr at rv
 by_cases hli : s.li = 0
 case neg =>
  have hlz : (s.li != 0) = true := by simpa using hli
  have rs := N4.out.2.2.cell; go_wp2_with fail; clear rs rv; refine (vunload_any vb pb mb n s b q1 q2 q3 bz jt jf vs lv 1 0 _ (HVA.out _ N4.out.1 N4.out.2.1) HOK0.out hlv (by decide) HST.out).mono ?_; rintro e w5 ⟨v, rfl, hG, b5⟩; have X : Hid (Below w0.heap.size w0 w5 ∧ NextL b s lv bz jt jf vs (unloadG b s bz jt jf vs lv 1 0) ∧ Goals w5 v (unloadG b s bz jt jf vs lv 1 0)) := ⟨B.next N4.out.1 b5 N4.out.1.size, Or.inl ⟨hli, rfl⟩, hG⟩; clear hG b5 N4; have gg := (N0.out.2.2.below X.out.1).cell; have ff := (N0.out.2.2.below X.out.1).free; go_wp2
  (try simp only [Exit.inBlock, Exit.then])
  refine bodyPost_ret (v := .tuple #[v, .agg #[.int .i64 0, .slice none 0 0, .slice none 0 0], .bool false]) (by simp [results, Tryz.results52, go_sem, set3_0 gg, set3_1 gg, set3_2 gg]; try rfl) rfl ?_; exact HRET.out _ _ _ X.out.1 X.out.2.1 X.out.2.2
 have hlz : (s.li != 0) = false := by simpa using hli
 have rs := N4.out.2.2.cell; go_wp2_with fail; clear rs rv; refine (vat_any vb pb mb n s b q1 q2 q3 bz jt jf vs lv 1 0 _ (HVA.out _ N4.out.1 N4.out.2.1) ⟨Int.le_trans (by decide) hlv.1, hlv.2⟩ (by decide) (by decide)).mono ?_; rintro e w5 ⟨rfl, b5⟩; have N5 : Hid (Below w0.heap.size w0 w5 ∧ Blk w5 vb (vArr b s pb q1 q2 q3 bz jt jf vs) 135 ∧ Blk w5 sp #[.int .i64 lv, .int .i64 1, .int .i64 0] 65) := ⟨B.next N4.out.1 b5 N4.out.1.size, N4.out.2.1.below b5, N4.out.2.2.below b5⟩; clear b5 N4; obtain ⟨sq, hsq⟩ : ∃ sq, spareB b s lv bz jf vs = sq := ⟨_, rfl⟩
 have KS : Hid (sq = (carOf s.D lv 1 0 != 0 && !blocksB b s bz jf vs (carOf s.D lv 1 0))) := hsq.symm; obtain ⟨cs, hcs⟩ : ∃ cs, carOf s.D lv 1 0 = cs := ⟨_, rfl⟩
 rw [hcs] at KS ⊢; clear hcs
 go_upto_region 7 with fail
 go_cut [42] (fun s42 wx => s42 = .bool sq ∧ Hid (Below w0.heap.size w0 wx ∧ Blk wx vb (vArr b s pb q1 q2 q3 bz jt jf vs) 135 ∧ Blk wx sp #[.int .i64 lv, .int .i64 1, .int .i64 0] 65))
 case first =>
  by_cases hc : cs = 0
  ·have hcz : (cs != 0) = false := by simpa using hc
   have K2 : Hid (sq = false) := by show _ = _; rw [KS.out, hcz]; rfl
   clear KS hsq; go_wp2
   go_meet
   exact ⟨congrArg Value.bool K2.out.symm, N5⟩
  ·have hcz : (cs != 0) = true := by simpa using hc
   have K2 : Hid (sq = !blocksB b s bz jf vs cs) := by show _ = _; rw [KS.out, hcz]; rfl
   clear KS hsq; go_wp2_with fail; refine (vblocks_any vb pb mb n s b q1 q2 q3 bz jt jf vs cs _ (HVA.out _ N5.out.1 N5.out.2.1) HOK0.out).mono ?_; rintro e w6 ⟨rfl, b6⟩; have N6 : Hid (Below w0.heap.size w0 w6 ∧ Blk w6 vb (vArr b s pb q1 q2 q3 bz jt jf vs) 135 ∧ Blk w6 sp #[.int .i64 lv, .int .i64 1, .int .i64 0] 65) := ⟨B.next N5.out.1 b6 N5.out.1.size, N5.out.2.1.below b6, N5.out.2.2.below b6⟩; clear b6; go_wp2
   go_meet
   exact ⟨congrArg Value.bool K2.out.symm, N6⟩
 case rest =>
 clear N5 KS; obtain ⟨rfl, N5⟩ := hcut
 cases sq
 case true =>
  have rs := N5.out.2.2.cell; go_wp2_with fail; clear rs; refine (fetch_any lv 1 0 _ hlv.1 hlv.2 (by decide) (by decide)).mono ?_; rintro e w6 ⟨v, rfl, hG, b6⟩; have X : Hid (Below w0.heap.size w0 w6 ∧ NextL b s lv bz jt jf vs (gThere 3 lv 1 0) ∧ Goals w6 v (gThere 3 lv 1 0)) := ⟨B.next N5.out.1 b6 N5.out.1.size, Or.inr (Or.inl ⟨hli, hsq, rfl⟩), Or.inr hG⟩; clear hG b6 N5; have gg := (N0.out.2.2.below X.out.1).cell; have ff := (N0.out.2.2.below X.out.1).free; go_wp2
  (try simp only [Exit.inBlock, Exit.then])
  refine bodyPost_ret (v := .tuple #[v, .agg #[.int .i64 0, .slice none 0 0, .slice none 0 0], .bool false]) (by simp [results, Tryz.results52, go_sem, set3_0 gg, set3_1 gg, set3_2 gg]; try rfl) rfl ?_; exact HRET.out _ _ _ X.out.1 X.out.2.1 X.out.2.2
 have rv := N5.out.2.1.cell; unfold vArr at rv
 cases bz
 ·go_wp2_with fail
  clear rv; refine (vwelcome_any vb pb mb n s b q1 q2 q3 false jt jf vs _ (HVA.out _ N5.out.1 N5.out.2.1)).mono ?_; rintro e w6 ⟨v, rfl, hG, b6⟩; have X : Hid (Below w0.heap.size w0 w6 ∧ NextL b s lv false jt jf vs (welG s) ∧ Goals w6 v (welG s)) := ⟨B.next N5.out.1 b6 N5.out.1.size, Or.inr (Or.inr (Or.inl ⟨hli, hsq, rfl, rfl⟩)), hG⟩; clear hG b6 N5; have gg := (N0.out.2.2.below X.out.1).cell; have ff := (N0.out.2.2.below X.out.1).free; go_wp2
  (try simp only [Exit.inBlock, Exit.then])
  refine bodyPost_ret (v := .tuple #[v, .agg #[.int .i64 0, .slice none 0 0, .slice none 0 0], .bool false]) (by simp [results, Tryz.results52, go_sem, set3_0 gg, set3_1 gg, set3_2 gg]; try rfl) rfl ?_; exact HRET.out _ _ _ X.out.1 X.out.2.1 X.out.2.2
 go_wp2_with fail; clear rv; refine (vover_any vb pb mb n s b q1 q2 q3 true jt jf vs _ (HVA.out _ N5.out.1 N5.out.2.1) HOK0.out HIV.out).mono ?_; rintro e w6 ⟨rfl, b6⟩; have N6 : Hid (Below w0.heap.size w0 w6 ∧ Blk w6 vb (vArr b s pb q1 q2 q3 true jt jf vs) 135 ∧ Blk w6 sp #[.int .i64 lv, .int .i64 1, .int .i64 0] 65) := ⟨B.next N5.out.1 b6 N5.out.1.size, N5.out.2.1.below b6, N5.out.2.2.below b6⟩; clear b6 N5
 cases hov : overB s jf vs
 ·have rv := N6.out.2.1.cell
  unfold vArr at rv
  cases jf
  ·go_wp2_with fail
   clear rv; refine (vputAway_any vb pb mb n s b q1 q2 q3 true jt false vs _ (HVA.out _ N6.out.1 N6.out.2.1)).mono ?_; rintro e w7 ⟨v, rfl, hG, b7⟩; have X : Hid (Below w0.heap.size w0 w7 ∧ NextL b s lv true jt false vs (putG s vs) ∧ Goals w7 v (putG s vs)) := ⟨B.next N6.out.1 b7 N6.out.1.size, Or.inr (Or.inr (Or.inr ⟨hli, hsq, rfl, hov, Or.inr ⟨rfl, rfl⟩⟩)), hG⟩; clear hG b7 N6; have gg := (N0.out.2.2.below X.out.1).cell; have ff := (N0.out.2.2.below X.out.1).free; go_wp2
   (try simp only [Exit.inBlock, Exit.then])
   refine bodyPost_ret (v := .tuple #[v, .agg #[.int .i64 0, .slice none 0 0, .slice none 0 0], .bool false]) (by simp [results, Tryz.results52, go_sem, set3_0 gg, set3_1 gg, set3_2 gg]; try rfl) rfl ?_; exact HRET.out _ _ _ X.out.1 X.out.2.1 X.out.2.2
  ·go_wp2_with fail
   clear rv; refine (vfetch_any vb pb mb n s b q1 q2 q3 true jt true vs _ (HVA.out _ N6.out.1 N6.out.2.1) HIV.out).mono ?_; rintro e w7 ⟨v, l, rfl, hF, hG, b7⟩; have X : Hid (Below w0.heap.size w0 w7 ∧ NextL b s lv true jt true vs l ∧ Goals w7 v l) := ⟨B.next N6.out.1 b7 N6.out.1.size, Or.inr (Or.inr (Or.inr ⟨hli, hsq, rfl, hov, Or.inl ⟨rfl, hF⟩⟩)), hG⟩; clear hF hG b7 N6; have gg := (N0.out.2.2.below X.out.1).cell; have ff := (N0.out.2.2.below X.out.1).free; go_wp2
   (try simp only [Exit.inBlock, Exit.then])
   refine bodyPost_ret (v := .tuple #[v, .agg #[.int .i64 0, .slice none 0 0, .slice none 0 0], .bool false]) (by simp [results, Tryz.results52, go_sem, set3_0 gg, set3_1 gg, set3_2 gg]; try rfl) rfl ?_; exact HRET.out _ _ _ X.out.1 X.out.2.1 X.out.2.2
 ·have HPC : Hid (∀ xs xj w', OwnBook w' w.heap.size xs xj (doneStays jt (jf || !hasB s vs.id) b.stays) (doneJobs jt jf (jf || !hasB s vs.id) b.jobs) → Below w.heap.size w w' → PP (.returned (.tuple #[.slice none 0 0, .agg #[.int .i64 b.last, xs, xj], .bool true])) w') := HPC0.out ⟨hli, hsq, rfl, hov⟩
  clear HPC0 HPL0 HRET hov; have HS : Hid (∀ W, Blk W w.heap.size #[.int .i64 b.last, .slice b.sa b.stays.length b.sc, .slice b.ja b.jobs.length b.jc] 39 → Blk W vb (vArr b s pb q1 q2 q3 true jt jf vs) 135 → W.cell? ⟨w.heap.size, 0, none⟩ = some (.int .i64 b.last) ∧ W.cell? ⟨w.heap.size, 1, none⟩ = some (.slice b.sa b.stays.length b.sc) ∧ W.cell? ⟨w.heap.size, 2, none⟩ = some (.slice b.ja b.jobs.length b.jc) ∧ W.cell? ⟨vb, 14, none⟩ = some (.func (.func 56) #[.pointer (some ⟨pb, 0, none⟩)] #[]) ∧ W.cell? ⟨vb, 16, none⟩ = some (.int .i64 jt) ∧ W.cell? ⟨vb, 17, none⟩ = some (.bool jf) ∧ W.cell? ⟨vb, 19, none⟩ = some (.int .i64 vs.id)) := fun W h1 h2 => ⟨h1.cell 0, h1.cell 1, h1.cell 2, h2.cell 14, h2.cell 16, h2.cell 17, h2.cell 19⟩
  have HSB : Hid (∀ W, Below w6.heap.size w6 W → W.cell? ⟨w.heap.size, 0, none⟩ = some (.int .i64 b.last) ∧ W.cell? ⟨w.heap.size, 1, none⟩ = some (.slice b.sa b.stays.length b.sc) ∧ W.cell? ⟨w.heap.size, 2, none⟩ = some (.slice b.ja b.jobs.length b.jc) ∧ W.cell? ⟨vb, 14, none⟩ = some (.func (.func 56) #[.pointer (some ⟨pb, 0, none⟩)] #[]) ∧ W.cell? ⟨vb, 16, none⟩ = some (.int .i64 jt) ∧ W.cell? ⟨vb, 17, none⟩ = some (.bool jf) ∧ W.cell? ⟨vb, 19, none⟩ = some (.int .i64 vs.id)) := fun W h => HS.out W ((N0.out.2.1.below N6.out.1).below h) (N6.out.2.1.below h)
  have D0 : Hid (Below w6.heap.size w6 w6.drew) := (Below.refl _ _).drew; have HHA : Hid (∀ wx, Below w6.heap.size w6 wx → Calls Tryz.prog 56 #[.pointer (some ⟨pb, 0, none⟩), .int .i64 vs.id] wx fun e w' => e = .returned (.bool (hasB s vs.id)) ∧ Below wx.heap.size wx w') := fun wx h => has_any pb mb n s vs.id wx (HP0.out.below (B.next N6.out.1 h N6.out.1.size)) HIV.out
  have HDN : Hid (∀ wx, Below w6.heap.size w6 wx → Calls Tryz.prog 84 #[.agg #[.int .i64 b.last, .slice b.sa b.stays.length b.sc, .slice b.ja b.jobs.length b.jc], .agg #[.int .i64 jt, .bool jf], .bool (!hasB s vs.id)] wx fun e w' => ∃ xs xj, e = .returned (.agg #[.int .i64 b.last, xs, xj]) ∧ OwnBook w' wx.heap.size xs xj (doneStays jt (jf || !hasB s vs.id) b.stays) (doneJobs jt jf (jf || !hasB s vs.id) b.jobs) ∧ Below wx.heap.size wx w') := fun wx h => done_any b jt jf (!hasB s vs.id) wx (HK0.out.below (B.next N6.out.1 h N6.out.1.size)) hl1 hl2
  have HSZ : Hid (w.heap.size + 1 < w6.heap.size) := (N0.out.2.2.below N6.out.1).lt; have HRB : Hid (∀ wx, Below w6.heap.size w6 wx → Blk wx (w.heap.size + 1) #[.int .i64 0, .slice none 0 0, .slice none 0 0] 39) := fun wx h => (N0.out.2.2.below N6.out.1).below h
  have HST3 : Hid (∀ wx, Below w6.heap.size w6 wx → ∀ a c d : Value, (fun W : World => W.cell? ⟨w.heap.size, 0, none⟩ = some (.int .i64 b.last) ∧ W.cell? ⟨w.heap.size, 1, none⟩ = some (.slice b.sa b.stays.length b.sc) ∧ W.cell? ⟨w.heap.size, 2, none⟩ = some (.slice b.ja b.jobs.length b.jc) ∧ W.cell? ⟨vb, 14, none⟩ = some (.func (.func 56) #[.pointer (some ⟨pb, 0, none⟩)] #[]) ∧ W.cell? ⟨vb, 16, none⟩ = some (.int .i64 jt) ∧ W.cell? ⟨vb, 17, none⟩ = some (.bool jf) ∧ W.cell? ⟨vb, 19, none⟩ = some (.int .i64 vs.id)) (((wx.setCell ⟨w.heap.size + 1, 0, none⟩ a).setCell ⟨w.heap.size + 1, 1, none⟩ c).setCell ⟨w.heap.size + 1, 2, none⟩ d)) := fun wx h a c d => by
   have hvb : w.heap.size + 1 ≠ vb := by
    have h1 := HVB.out; have h2 := N0.out.2.2.lt
    omega
   exact HS.out _ (((((N0.out.2.1.below N6.out.1).below h).other (by omega) _ _).other (by omega) _ _).other (by omega) _ _) ((((N6.out.2.1.below h).other hvb _ _).other hvb _ _).other hvb _ _)
  have HBW : Hid (∀ wx, Below w6.heap.size w6 wx → Below w.heap.size w wx) := fun wx h => B.next N0.out.1 (B.next N6.out.1 h N6.out.1.size) N0.out.1.size
  generalize hasB s vs.id = hq at HPC HHA HDN; generalize doneStays jt (jf || !hq) b.stays = S2 at HPC HDN
  generalize doneJobs jt jf (jf || !hq) b.jobs = J2 at HPC HDN
  go_upto_region 12 with fail
  clear N6 HS
  go_region_held3 (fun W => W.cell? ⟨w.heap.size, 0, none⟩ = some (.int .i64 b.last) ∧ W.cell? ⟨w.heap.size, 1, none⟩ = some (.slice b.sa b.stays.length b.sc) ∧ W.cell? ⟨w.heap.size, 2, none⟩ = some (.slice b.ja b.jobs.length b.jc) ∧ W.cell? ⟨vb, 14, none⟩ = some (.func (.func 56) #[.pointer (some ⟨pb, 0, none⟩)] #[]) ∧ W.cell? ⟨vb, 16, none⟩ = some (.int .i64 jt) ∧ W.cell? ⟨vb, 17, none⟩ = some (.bool jf) ∧ W.cell? ⟨vb, 19, none⟩ = some (.int .i64 vs.id)) (first | with_reducible exact HSB.out _ D0.out | with_reducible exact HSB.out _ BQ.out | with_reducible exact HSB.out _ BD.out | with_reducible exact HST3.out _ BD.out _ _ _ | go_keep)
   (first
     | (go_at_call 56; refine (HHA.out w6.drew D0.out).mono ?_; rintro e wq ⟨rfl, bq⟩; have BQ : Hid (Below w6.heap.size w6 wq) := B.next D0.out bq D0.out.size; clear bq)
     | (go_at_call 84; refine (HDN.out wq BQ.out).mono ?_; rintro e wd ⟨xs, xj, rfl, ho, bd⟩; obtain ⟨a1, c1, hx1, _⟩ := ho.s.rows; obtain ⟨a2, c2, hx2, _⟩ := ho.j.rows; subst hx1 hx2; have BD : Hid (Below w6.heap.size w6 wd) := B.next BQ.out bd BQ.out.size; have OD : Hid (OwnBook wd wq.heap.size (.slice a1 S2.length c1) (.slice a2 J2.length c2) S2 J2) := ho; have gd := (HRB.out wd BD.out).cell; have fd := (HRB.out wd BD.out).free; clear ho bd))
  have HN1 : Hid (w.heap.size + 1 < wq.heap.size) := Nat.lt_of_lt_of_le HSZ.out BQ.out.size
  have HFIN : Hid (∀ a c d : Value, PP (.returned (.tuple #[.slice none 0 0, .agg #[.int .i64 b.last, .slice a1 S2.length c1, .slice a2 J2.length c2], .bool true])) (((wd.setCell ⟨w.heap.size + 1, 0, none⟩ a).setCell ⟨w.heap.size + 1, 1, none⟩ c).setCell ⟨w.heap.size + 1, 2, none⟩ d)) := fun a c d =>
   HPC.out _ _ _ ⟨(((OD.out.s.set _ HN1.out).set _ HN1.out).set _ HN1.out).base (by have := HN1.out; omega), (((OD.out.j.set _ HN1.out).set _ HN1.out).set _ HN1.out).base (by have := HN1.out; omega), OD.out.ne⟩ (below_set (below_set (below_set (HBW.out _ BD.out) (Nat.le_succ _) _ _) (Nat.le_succ _) _ _) (Nat.le_succ _) _ _)
  go_wp2
  (try simp only [Exit.inBlock, Exit.then])
  refine bodyPost_ret (v := .tuple #[.slice none 0 0, .agg #[.int .i64 b.last, .slice a1 S2.length c1, .slice a2 J2.length c2], .bool true]) (by simp [results, Tryz.results52, go_sem, set3_0 gd, set3_1 gd, set3_2 gd]; try rfl) rfl ?_; exact HFIN.out _ _ _
end Tn
end Go.Proofs.YtopgllmjeliklaaGreatDoor
