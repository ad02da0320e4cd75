/- BookCheck. -/
import Derived.Test.YtopgllmjeliklaaGreatDoorKhRead
set_option maxRecDepth 100000
set_option linter.unusedSimpArgs false
set_option linter.unusedVariables false
namespace Go.Proofs.YtopgllmjeliklaaGreatDoor
open Go.Shelf Go.Lib Go.ChangeShapes Go.WideShapes Go.ChangeAt Go.RowKit
namespace Bk
def clash (s a : Stay) : Bool := eqP a.x a.y a.z s.x s.y s.z || a.id == s.id
def stayN (last : Int) (n : Nat) (ahead : List Stay) (s : Stay) : Int :=
 if carN s.id s.a s.b s.c ≠ 0 then 1 else if placeB s.x s.y s.z n = false then 1 else if decide (1 ≤ s.t ∧ s.t ≤ last) = false then 1 else
 if hasPlace (placesTo n (2 * n)) (s.x, s.y, s.z) = false then 3 else if 0 < ahead.length ∧ s.t ≤ (ahead.getD (ahead.length - 1) default).t then 3 else
 if ahead.any (clash s) = true then 3 else 0
set_option maxHeartbeats 1000000 in
theorem clash1_any (P0 : Nat) (s a : Stay) (w : World) (hb : Blk w P0 #[.int .i64 s.t, .int .i64 s.id, .int .i64 s.a, .int .i64 s.b, .int .i64 s.c, .int .i64 s.x, .int .i64 s.y, .int .i64 s.z] 67) :
  Calls Tryz.prog 95 #[.agg #[.int .i64 a.t, .int .i64 a.id, .int .i64 a.a, .int .i64 a.b, .int .i64 a.c, .int .i64 a.x, .int .i64 a.y, .int .i64 a.z], .pointer (some ⟨P0, 0, none⟩)] w fun e w' => e = .returned (.bool (clash s a)) ∧ Below w.heap.size w w' := by
 have hP := hb.lt; have hne : ¬ P0 = w.heap.size := by omega
 obtain ⟨t, id, sa, sb, sc, x, y, z⟩ := s; obtain ⟨t', id', sa', sb', sc', x', y', z'⟩ := a; simp only at *; have c1 : ∀ o, (w.alloc o).cell? ⟨P0, 1, none⟩ = some (.int .i64 id) := fun o => (hb.old o).cell 1
 have c5 : ∀ o, (w.alloc o).cell? ⟨P0, 5, none⟩ = some (.int .i64 x) := fun o => (hb.old o).cell 5
 have c6 : ∀ o, (w.alloc o).cell? ⟨P0, 6, none⟩ = some (.int .i64 y) := fun o => (hb.old o).cell 6
 have c7 : ∀ o, (w.alloc o).cell? ⟨P0, 7, none⟩ = some (.int .i64 z) := fun o => (hb.old o).cell 7
 have e1 := eqP_run x' y' z' x y z; have g1 := eqP_guard x' y' z' x y z; have KB : Hid (clash ⟨t, id, sa, sb, sc, x, y, z⟩ ⟨t', id', sa', sb', sc', x', y', z'⟩ = (eqP x' y' z' x y z || id' == id)) := rfl
 rw [KB.out]; generalize eqP x' y' z' x y z = q at *; clear hb KB
 cases q
 ·go_enter Tryz.func95, Tryz.ntmps95
  go_wp2
  all_goals go_returns
  all_goals exact ⟨B.ret_bool (by simp [*]), by go_grown⟩
 ·go_enter Tryz.func95, Tryz.ntmps95
  go_wp2
  all_goals go_returns
  all_goals exact ⟨B.ret_bool (by simp [*]), by go_grown⟩
theorem stayN_eq {last : Int} {n : Nat} {ahead : List Stay} {s : Stay} (h1 : carN s.id s.a s.b s.c = 0) (h2 : placeB s.x s.y s.z n = true) (h3 : decide (1 ≤ s.t ∧ s.t ≤ last) = true) :
  stayN last n ahead s = if hasPlace (placesTo n (2 * n)) (s.x, s.y, s.z) = false then 3 else if 0 < ahead.length ∧ s.t ≤ (ahead.getD (ahead.length - 1) default).t then 3 else if ahead.any (clash s) = true then 3 else 0 := by
 unfold stayN; rw [if_neg (by rw [h1]; simp), if_neg (by rw [h2]; simp), if_neg (by rw [h3]; simp)]
structure CS (w wx : World) (sb off sl sc : Nat) (ja : Option Addr) (jl jc : Nat) (last : Int) (s : Stay) : Prop where
 below : Below w.heap.size w wx
 b0 : Blk wx w.heap.size #[.int .i64 last, .slice (some ⟨sb, off, none⟩) sl sc, .slice ja jl jc] 39
 b1 : Blk wx (w.heap.size + 1) #[.int .i64 s.t, .int .i64 s.id, .int .i64 s.a, .int .i64 s.b, .int .i64 s.c, .int .i64 s.x, .int .i64 s.y, .int .i64 s.z] 67
theorem CS.next {w wx wy : World} {sb off sl sc : Nat} {ja : Option Addr} {jl jc : Nat} {last : Int} {s : Stay} (h : CS w wx sb off sl sc ja jl jc last s) (hb : Below wx.heap.size wx wy) : CS w wy sb off sl sc ja jl jc last s :=
 ⟨B.next h.below hb h.below.size, h.b0.below hb, h.b1.below hb⟩
theorem _root_.Go.Proofs.YtopgllmjeliklaaGreatDoor.PlacesAt.rows {w : World} {g : Nat} {l : List (Int × Int × Int)} (h : PlacesAt w g l.length (fun k => l.getD k (0, 0, 0))) : ∀ j, j < l.length → ∀ i v, (encP l[j]!)[i]? = some v → w.cell? ⟨g, 0 + j * 3 + i, none⟩ = some v := by
 intro j hj i v hv
 obtain ⟨c0, c1, c2⟩ := h.2 j hj; have e : l.getD j (0, 0, 0) = l[j]! := by rw [getElem!_pos l j hj]; simp [List.getD, hj]
 simp only [e] at c0 c1 c2; rw [Nat.zero_add]
 match i, hv with
 | 0, hv => simp only [encP, List.getElem?_cons_zero, Option.some.injEq] at hv; rw [← hv]; exact c0
 | 1, hv => simp only [encP, List.getElem?_cons_succ, List.getElem?_cons_zero, Option.some.injEq] at hv; rw [← hv]; exact c1
 | 2, hv => simp only [encP, List.getElem?_cons_succ, List.getElem?_cons_zero, Option.some.injEq] at hv; rw [← hv]; exact c2
 | i + 3, hv => simp [encP] at hv
set_option maxHeartbeats 8000000 in
theorem checkStay_any (b : Book) (i n : Nat) (w : World) (h : b.At w) (hi : i < b.stays.length) (h16 : b.stays.length ≤ 16) (n1 : 1 ≤ n) (n4 : n ≤ 4) :
  Calls Tryz.prog 61 #[b.val, .int .i64 i, .int .i64 n] w fun e w' => e = .returned (errV (stayN b.last n (b.stays.take i) b.stays[i]!)) ∧ Below w.heap.size w w' := by
 obtain ⟨last, sa, sc, ja, jc, stays, jobs⟩ := b; obtain ⟨h1, h2⟩ := h; simp only [Book.val] at *; have HR : Hid (RowsAt w sa sc 8 Stay.enc stays) := h1; obtain ⟨hl, hm, hc⟩ := h1; unfold maxLen at hm; obtain ⟨sb, off, rfl, hb, hcell⟩ := hc (by omega); have d0 := hcell i hi 0 _ rfl; have d1 := hcell i hi 1 _ rfl; have d2 := hcell i hi 2 _ rfl; have d3 := hcell i hi 3 _ rfl; have d4 := hcell i hi 4 _ rfl; have d5 := hcell i hi 5 _ rfl; have d6 := hcell i hi 6 _ rfl; have d7 := hcell i hi 7 _ rfl; have HX : Hid (∀ j, j < stays.length → w.cell? ⟨sb, off + j * 8, none⟩ = some (.int .i64 stays[j]!.t)) := fun j hj => hcell j hj 0 _ rfl
 clear hcell hc h2; generalize hs : stays[i]! = s at *; clear hs; obtain ⟨t, id, ba, bb, bc, x, y, z⟩ := s; simp only [Nat.add_zero] at d0 d1 d2 d3 d4 d5 d6 d7; have hne : ¬ sb = w.heap.size := by omega
 have hiz : (i : Int) < (stays.length : Int) := by omega
 have hic : (i : Int) ≤ (sc : Int) := by omega
 have hlen : (stays.length : Int) ≤ 16 := by omega
 have A1 : ∀ o k v, w.cell? ⟨sb, k, none⟩ = some v → (w.alloc o).cell? ⟨sb, k, none⟩ = some v := fun o k v h => ((B.new1 w o).cell (p := ⟨sb, k, none⟩) hb).trans h
 have e0 := fun o => A1 o _ _ d0; have e1 := fun o => A1 o _ _ d1; have e2 := fun o => A1 o _ _ d2; have e3 := fun o => A1 o _ _ d3
 have e4 := fun o => A1 o _ _ d4; have e5 := fun o => A1 o _ _ d5; have e6 := fun o => A1 o _ _ d6; have e7 := fun o => A1 o _ _ d7
 clear A1 d0 d1 d2 d3 d4 d5 d6 d7
 go_enter Tryz.func61, Tryz.ntmps61
 go_wp2_with fail
 go_region
 obtain ⟨W0, hW0⟩ : ∃ W0, ((w.alloc (.cells #[.int .i64 last, .slice (some ⟨sb, off, none⟩) stays.length sc, .slice ja jobs.length jc] 39)).alloc (.cells #[.int .i64 t, .int .i64 id, .int .i64 ba, .int .i64 bb, .int .i64 bc, .int .i64 x, .int .i64 y, .int .i64 z] 67)).drew = W0 := ⟨_, rfl⟩
 have F0 : Hid (CS w W0 sb off stays.length sc ja jobs.length jc last ⟨t, id, ba, bb, bc, x, y, z⟩) := by
  show CS _ _ _ _ _ _ _ _ _ _ _
  rw [← hW0]; exact ⟨((B.new1 _ _).alloc (by simp) _).drew, ((Blk.new _ _ _).old _).below ((Below.refl _ _).drew), (Blk.new1 (by simp) _ _).below ((Below.refl _ _).drew)⟩
 rw [hW0]; clear hW0 e0 e1 e2 e3 e4 e5 e6 e7; have r0 := F0.out.b0.cell; have r1 := F0.out.b1.cell; simp only at r1
 have KS : Hid (stayN last n (stays.take i) ⟨t, id, ba, bb, bc, x, y, z⟩ = if carN id ba bb bc ≠ 0 then 1 else if placeB x y z n = false then 1 else if decide (1 ≤ t ∧ t ≤ last) = false then 1 else
  if hasPlace (placesTo n (2 * n)) (x, y, z) = false then 3 else if 0 < (stays.take i).length ∧ t ≤ ((stays.take i).getD ((stays.take i).length - 1) default).t then 3 else if (stays.take i).any (clash ⟨t, id, ba, bb, bc, x, y, z⟩) = true then 3 else 0) := rfl
 have HCar : Hid (carN id ba bb bc = 0 ∨ carN id ba bb bc = 1) := by show _ ∨ _; unfold carN faultN; split <;> simp
 go_wp2_with fail; refine (checkCar_any _ _ _ _ _).mono ?_; rintro e W1 ⟨rfl, b1⟩; have F1 := F0.out.next b1; clear b1 r0 r1 F0; have r0 := F1.b0.cell; have r1 := F1.b1.cell; simp only at r1
 rcases HCar.out with hcar | hcar
 ·rw [hcar, errV0]
  clear HCar; have HK1 : Hid (carN id ba bb bc = 0) := hcar; clear hcar; have F1' : Hid (CS w W1 sb off stays.length sc ja jobs.length jc last ⟨t, id, ba, bb, bc, x, y, z⟩) := F1; clear F1; go_wp2_with fail; refine (checkPlace_any _ _ _ _ _).mono ?_; rintro e W2 ⟨rfl, b2⟩; have F2 : Hid (CS w W2 sb off stays.length sc ja jobs.length jc last ⟨t, id, ba, bb, bc, x, y, z⟩) := F1'.out.next b2; clear b2 r0 r1 F1'; have r0 := F2.out.b0.cell; have r1 := F2.out.b1.cell; simp only at r1
  cases hpl : placeB x y z n
  ·have HK2 : Hid (placeB x y z n = false) := hpl
   clear hpl; rw [faultN_f, errV_ne (by decide)]; go_wp2; go_returns; refine ⟨?_, F2.out.below⟩; rw [KS.out, HK1.out, HK2.out]
   rfl
  ·have HK2 : Hid (placeB x y z n = true) := hpl
   clear hpl; rw [faultN_t, errV0]; go_wp2_with fail; refine (bwithin_any _ _ _ _).mono ?_; rintro e W3 ⟨rfl, hw3⟩; subst hw3
   cases htt : decide (1 ≤ t ∧ t ≤ last)
   ·have HK3 : Hid (decide (1 ≤ t ∧ t ≤ last) = false) := htt
    clear htt; go_wp2; go_returns; refine ⟨?_, F2.out.below⟩; rw [KS.out, HK1.out, HK2.out, HK3.out]
    rfl
   ·have HK3 : Hid (decide (1 ≤ t ∧ t ≤ last) = true) := htt
    clear htt; have HPL : Hid (∀ wx, Calls Tryz.prog 65 #[.int .i64 n] wx fun e w' => ∃ v, e = .returned v ∧ PlacesOwn wx w' v (placesTo n (2 * n))) := fun wx => places_any n wx n1 n4
    have hp1 : 0 < (placesTo n (2 * n)).length := by rw [places_len n n1 n4]; omega
    have hp2 : (placesTo n (2 * n)).length ≤ 9223372036854775807 := by rw [places_len n n1 n4]; omega
    obtain ⟨pl, HPLE⟩ : ∃ pl, Hid (placesTo n (2 * n) = pl) := ⟨_, rfl⟩
    rw [HPLE.out] at hp1 hp2; rw [HPLE.out] at HPL; obtain ⟨q4, HK4⟩ : ∃ q, Hid (hasPlace pl (x, y, z) = q) := ⟨_, rfl⟩
    obtain ⟨qc, HQC⟩ : ∃ q, Hid ((stays.take i).any (clash ⟨t, id, ba, bb, bc, x, y, z⟩) = q) := ⟨_, rfl⟩
    have HC : Hid (∀ wx, CS w wx sb off stays.length sc ja jobs.length jc last ⟨t, id, ba, bb, bc, x, y, z⟩ → Calls Tryz.prog 94 #[.slice (some ⟨sb, off, none⟩) i sc, .func (.func 95) #[] #[.pointer (some ⟨w.heap.size + 1, 0, none⟩)]] wx fun e w' => e = .returned (.bool qc) ∧ Below wx.heap.size wx w') := fun wx hx => by
     have e := hasStay_any (clash ⟨t, id, ba, bb, bc, x, y, z⟩) 95 #[.pointer (some ⟨w.heap.size + 1, 0, none⟩)] (enters_of Tryz.func95 (by kernel_rfl) rfl) (some ⟨sb, off, none⟩) sc (stays.take i) wx ((HR.out.below hx.below).take i (by omega)) (fun W a hb => (clash1_any (w.heap.size + 1) ⟨t, id, ba, bb, bc, x, y, z⟩ a W (hx.b1.below hb)).mono fun e w' ⟨he, hb'⟩ => ⟨he, B.next hb hb' hb.size⟩)
     rw [HQC.out, List.length_take, Nat.min_eq_left (by omega)] at e; exact e
    clear hic
    cases q4
    ·go_wp2_with fail
     refine wp_region_any (by kernel_rfl) ?_; refine wpAny_take (fuel := 20) (i := 0) (v := .int .i64 n) rfl (by kernel_rfl) (by kernel_rfl) (by kernel_rfl) (fun _ _ _ h => h) (Or.inl ⟨by kernel_rfl, fun _ => by kernel_rfl⟩) ?_
     refine wpAny_ready (fuel := 19) (rs := [1, 2]) (by kernel_rfl) (by simp) ?_; refine AllReady.cons rfl (fun K hK => ?_) (AllReady.cons rfl (fun K hK => ?_) AllReady.nil)
     ·go_simp
      refine (HPL.out _).mono ?_; rintro e wp ⟨v, rfl, ho⟩; obtain ⟨g, cap, rfl, pa⟩ := ho.at hp1; have Fp : Hid (CS w wp sb off stays.length sc ja jobs.length jc last ⟨t, id, ba, bb, bc, x, y, z⟩) := (F2.out.next ((Below.refl _ _).drew)).next ho.2; have HQ : Hid (∀ p : BelowW wp, Calls Tryz.prog 93 #[.slice (some ⟨g, 0, none⟩) pl.length cap, .agg #[.int .i64 x, .int .i64 y, .int .i64 z]] p.wd fun e w' => e = .returned (.bool false) ∧ Below p.wd.heap.size p.wd w') := fun p => (hasPlace_some g 0 cap pl x y z p.wd hp2 (pa.below p.hb).rows).mono fun e w' ⟨he, hbb⟩ => ⟨he.trans (by rw [HK4.out]), hbb⟩
      clear ho pa; refine hK _ _ ?_; clear hK K; refine wpAny_below 2 rfl (by kernel_rfl) (by kernel_rfl) ?_; simp only [List.drop_succ_cons, List.drop_zero]; have x0 := fun p : BelowW wp => (Fp.out.b1.below p.hb).cell 0
      have x5 := fun p : BelowW wp => (Fp.out.b1.below p.hb).cell 5
      have x6 := fun p : BelowW wp => (Fp.out.b1.below p.hb).cell 6
      have x7 := fun p : BelowW wp => (Fp.out.b1.below p.hb).cell 7
      simp only at x0 x5 x6 x7; clear r0 r1
      iterate 2 ((with_reducible refine wpQuiet_step (fun K hK => ?_)); go_simp; (with_reducible refine hK _ ?_); clear hK K)
      (refine wpQuiet_step (fun K hK => ?_); go_simp; apply Exists.intro; refine ⟨fun _ => ?_, hK _ ?_⟩; (go_at_call 93; exact Calls.wof (HQ.out _)); clear hK K)
      iterate 5 ((with_reducible refine wpQuiet_step (fun K hK => ?_)); go_simp; (with_reducible refine hK _ ?_); clear hK K)
      iterate 9 ((with_reducible refine wpQuiet_skip ?_ ?_); kernel_rfl; simp only [Act.put, List.setIfInBounds_toArray, List.set_cons_zero, List.set_cons_succ])
      iterate 2 ((with_reducible refine wpQuiet_step (fun K hK => ?_)); go_simp; (with_reducible refine hK _ ?_); clear hK K)
      refine wpQuiet_nil ?_; rintro wq ⟨⟨_, NQ⟩, rfl⟩; have Fq : Hid (CS w wq sb off stays.length sc ja jobs.length jc last ⟨t, id, ba, bb, bc, x, y, z⟩) := Fp.out.next NQ; go_wp2; go_returns; refine ⟨?_, Fq.out.below⟩; rw [stayN_eq HK1.out HK2.out HK3.out, if_pos (by rw [HPLE.out]; exact HK4.out)]
      rfl
     ·go_simp
      refine hK _ _ ?_; clear hK K; refine wpAny_ready (fuel := 18) (rs := [1, 3]) (by kernel_rfl) (by simp) ?_; refine AllReady.cons rfl (fun K hK => ?_) (AllReady.cons rfl (fun K hK => ?_) AllReady.nil)
      ·go_simp
       refine (HPL.out _).mono ?_; rintro e wp ⟨v, rfl, ho⟩; obtain ⟨g, cap, rfl, pa⟩ := ho.at hp1; have Fp : Hid (CS w wp sb off stays.length sc ja jobs.length jc last ⟨t, id, ba, bb, bc, x, y, z⟩) := (F2.out.next ((Below.refl _ _).drew)).next ho.2; have HQ : Hid (∀ p : BelowW wp, Calls Tryz.prog 93 #[.slice (some ⟨g, 0, none⟩) pl.length cap, .agg #[.int .i64 x, .int .i64 y, .int .i64 z]] p.wd fun e w' => e = .returned (.bool false) ∧ Below p.wd.heap.size p.wd w') := fun p => (hasPlace_some g 0 cap pl x y z p.wd hp2 (pa.below p.hb).rows).mono fun e w' ⟨he, hbb⟩ => ⟨he.trans (by rw [HK4.out]), hbb⟩
       clear ho pa; refine hK _ _ ?_; clear hK K; refine wpAny_below 3 rfl (by kernel_rfl) (by kernel_rfl) ?_; simp only [List.drop_succ_cons, List.drop_zero]; have x0 := fun p : BelowW wp => (Fp.out.b1.below p.hb).cell 0
       have x5 := fun p : BelowW wp => (Fp.out.b1.below p.hb).cell 5
       have x6 := fun p : BelowW wp => (Fp.out.b1.below p.hb).cell 6
       have x7 := fun p : BelowW wp => (Fp.out.b1.below p.hb).cell 7
       simp only at x0 x5 x6 x7; clear r0 r1
       ((with_reducible refine wpQuiet_step (fun K hK => ?_)); go_simp; (with_reducible refine hK _ ?_); clear hK K)
       (refine wpQuiet_step (fun K hK => ?_); go_simp; apply Exists.intro; refine ⟨fun _ => ?_, hK _ ?_⟩; (go_at_call 93; exact Calls.wof (HQ.out _)); clear hK K)
       iterate 5 ((with_reducible refine wpQuiet_step (fun K hK => ?_)); go_simp; (with_reducible refine hK _ ?_); clear hK K)
       iterate 9 ((with_reducible refine wpQuiet_skip ?_ ?_); kernel_rfl; simp only [Act.put, List.setIfInBounds_toArray, List.set_cons_zero, List.set_cons_succ])
       iterate 2 ((with_reducible refine wpQuiet_step (fun K hK => ?_)); go_simp; (with_reducible refine hK _ ?_); clear hK K)
       refine wpQuiet_nil ?_; rintro wq ⟨⟨_, NQ⟩, rfl⟩; have Fq : Hid (CS w wq sb off stays.length sc ja jobs.length jc last ⟨t, id, ba, bb, bc, x, y, z⟩) := Fp.out.next NQ; go_wp2; go_returns; refine ⟨?_, Fq.out.below⟩; rw [stayN_eq HK1.out HK2.out HK3.out, if_pos (by rw [HPLE.out]; exact HK4.out)]
       rfl
      ·go_simp
       refine hK _ _ ?_; clear hK K; refine wpAny_ready (fuel := 17) (rs := [1]) (by kernel_rfl) (by simp) ?_; refine AllReady.cons rfl (fun K hK => ?_) AllReady.nil
       go_simp
       refine (HPL.out _).mono ?_; rintro e wp ⟨v, rfl, ho⟩; obtain ⟨g, cap, rfl, pa⟩ := ho.at hp1; have Fp : Hid (CS w wp sb off stays.length sc ja jobs.length jc last ⟨t, id, ba, bb, bc, x, y, z⟩) := (F2.out.next ((Below.refl _ _).drew)).next ho.2; have HQ : Hid (∀ p : BelowW wp, Calls Tryz.prog 93 #[.slice (some ⟨g, 0, none⟩) pl.length cap, .agg #[.int .i64 x, .int .i64 y, .int .i64 z]] p.wd fun e w' => e = .returned (.bool false) ∧ Below p.wd.heap.size p.wd w') := fun p => (hasPlace_some g 0 cap pl x y z p.wd hp2 (pa.below p.hb).rows).mono fun e w' ⟨he, hbb⟩ => ⟨he.trans (by rw [HK4.out]), hbb⟩
       clear ho pa; refine hK _ _ ?_; clear hK K; refine wpAny_below 4 rfl (by kernel_rfl) (by kernel_rfl) ?_; simp only [List.drop_succ_cons, List.drop_zero]; have x0 := fun p : BelowW wp => (Fp.out.b1.below p.hb).cell 0
       have x5 := fun p : BelowW wp => (Fp.out.b1.below p.hb).cell 5
       have x6 := fun p : BelowW wp => (Fp.out.b1.below p.hb).cell 6
       have x7 := fun p : BelowW wp => (Fp.out.b1.below p.hb).cell 7
       simp only at x0 x5 x6 x7; clear r0 r1
       (refine wpQuiet_step (fun K hK => ?_); go_simp; apply Exists.intro; refine ⟨fun _ => ?_, hK _ ?_⟩; (go_at_call 93; exact Calls.wof (HQ.out _)); clear hK K)
       iterate 5 ((with_reducible refine wpQuiet_step (fun K hK => ?_)); go_simp; (with_reducible refine hK _ ?_); clear hK K)
       iterate 9 ((with_reducible refine wpQuiet_skip ?_ ?_); kernel_rfl; simp only [Act.put, List.setIfInBounds_toArray, List.set_cons_zero, List.set_cons_succ])
       iterate 2 ((with_reducible refine wpQuiet_step (fun K hK => ?_)); go_simp; (with_reducible refine hK _ ?_); clear hK K)
       refine wpQuiet_nil ?_; rintro wq ⟨⟨_, NQ⟩, rfl⟩; have Fq : Hid (CS w wq sb off stays.length sc ja jobs.length jc last ⟨t, id, ba, bb, bc, x, y, z⟩) := Fp.out.next NQ; go_wp2; go_returns; refine ⟨?_, Fq.out.below⟩; rw [stayN_eq HK1.out HK2.out HK3.out, if_pos (by rw [HPLE.out]; exact HK4.out)]
       rfl
    ·by_cases hi0 : i = 0
     ·subst hi0
      go_wp2_with fail; refine wp_region_any (by kernel_rfl) ?_; refine wpAny_take (fuel := 20) (i := 0) (v := .int .i64 n) rfl (by kernel_rfl) (by kernel_rfl) (by kernel_rfl) (fun _ _ _ h => h) (Or.inl ⟨by kernel_rfl, fun _ => by kernel_rfl⟩) ?_
      refine wpAny_ready (fuel := 19) (rs := [1, 2]) (by kernel_rfl) (by simp) ?_; refine AllReady.cons rfl (fun K hK => ?_) (AllReady.cons rfl (fun K hK => ?_) AllReady.nil)
      ·go_simp
       refine (HPL.out _).mono ?_; rintro e wp ⟨v, rfl, ho⟩; obtain ⟨g, cap, rfl, pa⟩ := ho.at hp1; have Fp : Hid (CS w wp sb off stays.length sc ja jobs.length jc last ⟨t, id, ba, bb, bc, x, y, z⟩) := (F2.out.next ((Below.refl _ _).drew)).next ho.2; have HQ : Hid (∀ p : BelowW wp, Calls Tryz.prog 93 #[.slice (some ⟨g, 0, none⟩) pl.length cap, .agg #[.int .i64 x, .int .i64 y, .int .i64 z]] p.wd fun e w' => e = .returned (.bool true) ∧ Below p.wd.heap.size p.wd w') := fun p => (hasPlace_some g 0 cap pl x y z p.wd hp2 (pa.below p.hb).rows).mono fun e w' ⟨he, hbb⟩ => ⟨he.trans (by rw [HK4.out]), hbb⟩
       clear ho pa; refine hK _ _ ?_; clear hK K; refine wpAny_below 2 rfl (by kernel_rfl) (by kernel_rfl) ?_; simp only [List.drop_succ_cons, List.drop_zero]; have x0 := fun p : BelowW wp => (Fp.out.b1.below p.hb).cell 0
       have x5 := fun p : BelowW wp => (Fp.out.b1.below p.hb).cell 5
       have x6 := fun p : BelowW wp => (Fp.out.b1.below p.hb).cell 6
       have x7 := fun p : BelowW wp => (Fp.out.b1.below p.hb).cell 7
       simp only at x0 x5 x6 x7; clear r0 r1
       iterate 2 ((with_reducible refine wpQuiet_step (fun K hK => ?_)); go_simp; (with_reducible refine hK _ ?_); clear hK K)
       (refine wpQuiet_step (fun K hK => ?_); go_simp; apply Exists.intro; refine ⟨fun _ => ?_, hK _ ?_⟩; (go_at_call 93; exact Calls.wof (HQ.out _)); clear hK K)
       iterate 16 ((with_reducible refine wpQuiet_step (fun K hK => ?_)); go_simp; (with_reducible refine hK _ ?_); clear hK K)
       refine wpQuiet_nil ?_; rintro wq ⟨⟨_, NQ⟩, rfl⟩; have Fq : Hid (CS w wq sb off stays.length sc ja jobs.length jc last ⟨t, id, ba, bb, bc, x, y, z⟩) := Fp.out.next NQ; have hmf := makeFunc_run; go_wp2_with fail; refine (HC.out _ Fq.out).mono ?_; rintro e wz ⟨rfl, bz⟩; have Fz : Hid (CS w wz sb off stays.length sc ja jobs.length jc last ⟨t, id, ba, bb, bc, x, y, z⟩) := Fq.out.next bz; clear bz
       cases qc
       ·go_wp2
        go_returns; refine ⟨?_, Fz.out.below⟩; rw [stayN_eq HK1.out HK2.out HK3.out, if_neg (by rw [HPLE.out, HK4.out]; decide), if_neg (by simp), if_neg (by rw [HQC.out]; decide)]
        rfl
       ·go_wp2
        go_returns; refine ⟨?_, Fz.out.below⟩; rw [stayN_eq HK1.out HK2.out HK3.out, if_neg (by rw [HPLE.out, HK4.out]; decide), if_neg (by simp), if_pos HQC.out]
        rfl
      ·go_simp
       refine hK _ _ ?_; clear hK K; refine wpAny_ready (fuel := 18) (rs := [1, 3]) (by kernel_rfl) (by simp) ?_; refine AllReady.cons rfl (fun K hK => ?_) (AllReady.cons rfl (fun K hK => ?_) AllReady.nil)
       ·go_simp
        refine (HPL.out _).mono ?_; rintro e wp ⟨v, rfl, ho⟩; obtain ⟨g, cap, rfl, pa⟩ := ho.at hp1; have Fp : Hid (CS w wp sb off stays.length sc ja jobs.length jc last ⟨t, id, ba, bb, bc, x, y, z⟩) := (F2.out.next ((Below.refl _ _).drew)).next ho.2; have HQ : Hid (∀ p : BelowW wp, Calls Tryz.prog 93 #[.slice (some ⟨g, 0, none⟩) pl.length cap, .agg #[.int .i64 x, .int .i64 y, .int .i64 z]] p.wd fun e w' => e = .returned (.bool true) ∧ Below p.wd.heap.size p.wd w') := fun p => (hasPlace_some g 0 cap pl x y z p.wd hp2 (pa.below p.hb).rows).mono fun e w' ⟨he, hbb⟩ => ⟨he.trans (by rw [HK4.out]), hbb⟩
        clear ho pa; refine hK _ _ ?_; clear hK K; refine wpAny_below 3 rfl (by kernel_rfl) (by kernel_rfl) ?_; simp only [List.drop_succ_cons, List.drop_zero]; have x0 := fun p : BelowW wp => (Fp.out.b1.below p.hb).cell 0
        have x5 := fun p : BelowW wp => (Fp.out.b1.below p.hb).cell 5
        have x6 := fun p : BelowW wp => (Fp.out.b1.below p.hb).cell 6
        have x7 := fun p : BelowW wp => (Fp.out.b1.below p.hb).cell 7
        simp only at x0 x5 x6 x7; clear r0 r1
        ((with_reducible refine wpQuiet_step (fun K hK => ?_)); go_simp; (with_reducible refine hK _ ?_); clear hK K)
        (refine wpQuiet_step (fun K hK => ?_); go_simp; apply Exists.intro; refine ⟨fun _ => ?_, hK _ ?_⟩; (go_at_call 93; exact Calls.wof (HQ.out _)); clear hK K)
        iterate 16 ((with_reducible refine wpQuiet_step (fun K hK => ?_)); go_simp; (with_reducible refine hK _ ?_); clear hK K)
        refine wpQuiet_nil ?_; rintro wq ⟨⟨_, NQ⟩, rfl⟩; have Fq : Hid (CS w wq sb off stays.length sc ja jobs.length jc last ⟨t, id, ba, bb, bc, x, y, z⟩) := Fp.out.next NQ; have hmf := makeFunc_run; go_wp2_with fail; refine (HC.out _ Fq.out).mono ?_; rintro e wz ⟨rfl, bz⟩; have Fz : Hid (CS w wz sb off stays.length sc ja jobs.length jc last ⟨t, id, ba, bb, bc, x, y, z⟩) := Fq.out.next bz; clear bz
        cases qc
        ·go_wp2
         go_returns; refine ⟨?_, Fz.out.below⟩; rw [stayN_eq HK1.out HK2.out HK3.out, if_neg (by rw [HPLE.out, HK4.out]; decide), if_neg (by simp), if_neg (by rw [HQC.out]; decide)]
         rfl
        ·go_wp2
         go_returns; refine ⟨?_, Fz.out.below⟩; rw [stayN_eq HK1.out HK2.out HK3.out, if_neg (by rw [HPLE.out, HK4.out]; decide), if_neg (by simp), if_pos HQC.out]
         rfl
       ·go_simp
        refine hK _ _ ?_; clear hK K; refine wpAny_ready (fuel := 17) (rs := [1]) (by kernel_rfl) (by simp) ?_; refine AllReady.cons rfl (fun K hK => ?_) AllReady.nil
        go_simp
        refine (HPL.out _).mono ?_; rintro e wp ⟨v, rfl, ho⟩; obtain ⟨g, cap, rfl, pa⟩ := ho.at hp1; have Fp : Hid (CS w wp sb off stays.length sc ja jobs.length jc last ⟨t, id, ba, bb, bc, x, y, z⟩) := (F2.out.next ((Below.refl _ _).drew)).next ho.2; have HQ : Hid (∀ p : BelowW wp, Calls Tryz.prog 93 #[.slice (some ⟨g, 0, none⟩) pl.length cap, .agg #[.int .i64 x, .int .i64 y, .int .i64 z]] p.wd fun e w' => e = .returned (.bool true) ∧ Below p.wd.heap.size p.wd w') := fun p => (hasPlace_some g 0 cap pl x y z p.wd hp2 (pa.below p.hb).rows).mono fun e w' ⟨he, hbb⟩ => ⟨he.trans (by rw [HK4.out]), hbb⟩
        clear ho pa; refine hK _ _ ?_; clear hK K; refine wpAny_below 4 rfl (by kernel_rfl) (by kernel_rfl) ?_; simp only [List.drop_succ_cons, List.drop_zero]; have x0 := fun p : BelowW wp => (Fp.out.b1.below p.hb).cell 0
        have x5 := fun p : BelowW wp => (Fp.out.b1.below p.hb).cell 5
        have x6 := fun p : BelowW wp => (Fp.out.b1.below p.hb).cell 6
        have x7 := fun p : BelowW wp => (Fp.out.b1.below p.hb).cell 7
        simp only at x0 x5 x6 x7; clear r0 r1
        (refine wpQuiet_step (fun K hK => ?_); go_simp; apply Exists.intro; refine ⟨fun _ => ?_, hK _ ?_⟩; (go_at_call 93; exact Calls.wof (HQ.out _)); clear hK K)
        iterate 16 ((with_reducible refine wpQuiet_step (fun K hK => ?_)); go_simp; (with_reducible refine hK _ ?_); clear hK K)
        refine wpQuiet_nil ?_; rintro wq ⟨⟨_, NQ⟩, rfl⟩; have Fq : Hid (CS w wq sb off stays.length sc ja jobs.length jc last ⟨t, id, ba, bb, bc, x, y, z⟩) := Fp.out.next NQ; have hmf := makeFunc_run; go_wp2_with fail; refine (HC.out _ Fq.out).mono ?_; rintro e wz ⟨rfl, bz⟩; have Fz : Hid (CS w wz sb off stays.length sc ja jobs.length jc last ⟨t, id, ba, bb, bc, x, y, z⟩) := Fq.out.next bz; clear bz
        cases qc
        ·go_wp2
         go_returns; refine ⟨?_, Fz.out.below⟩; rw [stayN_eq HK1.out HK2.out HK3.out, if_neg (by rw [HPLE.out, HK4.out]; decide), if_neg (by simp), if_neg (by rw [HQC.out]; decide)]
         rfl
        ·go_wp2
         go_returns; refine ⟨?_, Fz.out.below⟩; rw [stayN_eq HK1.out HK2.out HK3.out, if_neg (by rw [HPLE.out, HK4.out]; decide), if_neg (by simp), if_pos HQC.out]
         rfl
     ·obtain ⟨k, rfl⟩ : ∃ k, i = k + 1 := ⟨i - 1, by omega⟩
      have hk0 : (0 : Int) ≤ (k : Int) := by omega
      have hk1 : (k : Int) < ((k : Int) + 1) := by omega
      have hkw : IntKind.i64.wrap (k : Int) = (k : Int) := by rw [IntKind.wrap_i64]; omega
      obtain ⟨u, HU⟩ : ∃ u, Hid (stays[k]!.t = u) := ⟨_, rfl⟩
      have HTL : Hid ((stays.take (k + 1)).length = k + 1) := by show _ = _; rw [List.length_take, Nat.min_eq_left (by omega)]
      have HUU : Hid (((stays.take (k + 1)).getD (k + 1 - 1) default).t = u) := by
       show _ = _
       rw [← HU.out, Nat.add_sub_cancel, List.getD_eq_getElem?_getD, List.getElem?_take_of_lt (by omega)]
       simp [getElem!_pos, List.getElem?_eq_getElem (show k < stays.length by omega), show k < stays.length by omega]
      have HD : Hid (∀ wx, Below w.heap.size w wx → wx.cell? ⟨sb, off + k * 8, none⟩ = some (.int .i64 u)) := fun wx hbx => by rw [← HU.out]; exact (hbx.cell (p := ⟨sb, _, none⟩) hb).trans (HX.out k (by omega))
      go_wp2_with fail; refine wp_region_any (by kernel_rfl) ?_; refine wpAny_take (fuel := 20) (i := 0) (v := .int .i64 n) rfl (by kernel_rfl) (by kernel_rfl) (by kernel_rfl) (fun _ _ _ h => h) (Or.inl ⟨by kernel_rfl, fun _ => by kernel_rfl⟩) ?_
      refine wpAny_ready (fuel := 19) (rs := [1, 2]) (by kernel_rfl) (by simp) ?_; refine AllReady.cons rfl (fun K hK => ?_) (AllReady.cons rfl (fun K hK => ?_) AllReady.nil)
      ·go_simp
       refine (HPL.out _).mono ?_; rintro e wp ⟨v, rfl, ho⟩; obtain ⟨g, cap, rfl, pa⟩ := ho.at hp1; have Fp : Hid (CS w wp sb off stays.length sc ja jobs.length jc last ⟨t, id, ba, bb, bc, x, y, z⟩) := (F2.out.next ((Below.refl _ _).drew)).next ho.2; have HQ : Hid (∀ p : BelowW wp, Calls Tryz.prog 93 #[.slice (some ⟨g, 0, none⟩) pl.length cap, .agg #[.int .i64 x, .int .i64 y, .int .i64 z]] p.wd fun e w' => e = .returned (.bool true) ∧ Below p.wd.heap.size p.wd w') := fun p => (hasPlace_some g 0 cap pl x y z p.wd hp2 (pa.below p.hb).rows).mono fun e w' ⟨he, hbb⟩ => ⟨he.trans (by rw [HK4.out]), hbb⟩
       clear ho pa; refine hK _ _ ?_; clear hK K; refine wpAny_below 2 rfl (by kernel_rfl) (by kernel_rfl) ?_; simp only [List.drop_succ_cons, List.drop_zero]; have x0 := fun p : BelowW wp => (Fp.out.b1.below p.hb).cell 0
       have x5 := fun p : BelowW wp => (Fp.out.b1.below p.hb).cell 5
       have x6 := fun p : BelowW wp => (Fp.out.b1.below p.hb).cell 6
       have x7 := fun p : BelowW wp => (Fp.out.b1.below p.hb).cell 7
       simp only at x0 x5 x6 x7; have xd := fun p : BelowW wp => HD.out p.wd (B.next Fp.out.below p.hb Fp.out.below.size)
       clear r0 r1
       iterate 2 ((with_reducible refine wpQuiet_step (fun K hK => ?_)); go_simp; (with_reducible refine hK _ ?_); clear hK K)
       (refine wpQuiet_step (fun K hK => ?_); go_simp; apply Exists.intro; refine ⟨fun _ => ?_, hK _ ?_⟩; (go_at_call 93; exact Calls.wof (HQ.out _)); clear hK K)
       iterate 16 ((with_reducible refine wpQuiet_step (fun K hK => ?_)); go_simp; (with_reducible refine hK _ ?_); clear hK K)
       refine wpQuiet_nil ?_; rintro wq ⟨⟨_, NQ⟩, rfl⟩; have Fq : Hid (CS w wq sb off stays.length sc ja jobs.length jc last ⟨t, id, ba, bb, bc, x, y, z⟩) := Fp.out.next NQ; have hmf := makeFunc_run
       by_cases hle : t ≤ u
       ·have HLE : Hid (t ≤ u) := hle
        go_wp2; go_returns; refine ⟨?_, Fq.out.below⟩; rw [stayN_eq HK1.out HK2.out HK3.out, if_neg (by rw [HPLE.out, HK4.out]; decide), if_pos ⟨by rw [HTL.out]; omega, by rw [HTL.out, HUU.out]; exact HLE.out⟩]
        rfl
       ·have HLE : Hid (¬ t ≤ u) := hle
        go_wp2_with fail; refine (HC.out _ Fq.out).mono ?_; rintro e wz ⟨rfl, bz⟩; have Fz : Hid (CS w wz sb off stays.length sc ja jobs.length jc last ⟨t, id, ba, bb, bc, x, y, z⟩) := Fq.out.next bz; clear bz
        cases qc
        ·go_wp2
         go_returns; refine ⟨?_, Fz.out.below⟩; rw [stayN_eq HK1.out HK2.out HK3.out, if_neg (by rw [HPLE.out, HK4.out]; decide), if_neg (fun h => absurd h.2 (by rw [HTL.out, HUU.out]; show ¬ t ≤ u; have := HLE.out; omega)), if_neg (by rw [HQC.out]; decide)]
         rfl
        ·go_wp2
         go_returns; refine ⟨?_, Fz.out.below⟩; rw [stayN_eq HK1.out HK2.out HK3.out, if_neg (by rw [HPLE.out, HK4.out]; decide), if_neg (fun h => absurd h.2 (by rw [HTL.out, HUU.out]; show ¬ t ≤ u; have := HLE.out; omega)), if_pos HQC.out]
         rfl
      ·go_simp
       refine hK _ _ ?_; clear hK K; refine wpAny_ready (fuel := 18) (rs := [1, 3]) (by kernel_rfl) (by simp) ?_; refine AllReady.cons rfl (fun K hK => ?_) (AllReady.cons rfl (fun K hK => ?_) AllReady.nil)
       ·go_simp
        refine (HPL.out _).mono ?_; rintro e wp ⟨v, rfl, ho⟩; obtain ⟨g, cap, rfl, pa⟩ := ho.at hp1; have Fp : Hid (CS w wp sb off stays.length sc ja jobs.length jc last ⟨t, id, ba, bb, bc, x, y, z⟩) := (F2.out.next ((Below.refl _ _).drew)).next ho.2; have HQ : Hid (∀ p : BelowW wp, Calls Tryz.prog 93 #[.slice (some ⟨g, 0, none⟩) pl.length cap, .agg #[.int .i64 x, .int .i64 y, .int .i64 z]] p.wd fun e w' => e = .returned (.bool true) ∧ Below p.wd.heap.size p.wd w') := fun p => (hasPlace_some g 0 cap pl x y z p.wd hp2 (pa.below p.hb).rows).mono fun e w' ⟨he, hbb⟩ => ⟨he.trans (by rw [HK4.out]), hbb⟩
        clear ho pa; refine hK _ _ ?_; clear hK K; refine wpAny_below 3 rfl (by kernel_rfl) (by kernel_rfl) ?_; simp only [List.drop_succ_cons, List.drop_zero]; have x0 := fun p : BelowW wp => (Fp.out.b1.below p.hb).cell 0
        have x5 := fun p : BelowW wp => (Fp.out.b1.below p.hb).cell 5
        have x6 := fun p : BelowW wp => (Fp.out.b1.below p.hb).cell 6
        have x7 := fun p : BelowW wp => (Fp.out.b1.below p.hb).cell 7
        simp only at x0 x5 x6 x7; have xd := fun p : BelowW wp => HD.out p.wd (B.next Fp.out.below p.hb Fp.out.below.size)
        clear r0 r1
        ((with_reducible refine wpQuiet_step (fun K hK => ?_)); go_simp; (with_reducible refine hK _ ?_); clear hK K)
        (refine wpQuiet_step (fun K hK => ?_); go_simp; apply Exists.intro; refine ⟨fun _ => ?_, hK _ ?_⟩; (go_at_call 93; exact Calls.wof (HQ.out _)); clear hK K)
        iterate 16 ((with_reducible refine wpQuiet_step (fun K hK => ?_)); go_simp; (with_reducible refine hK _ ?_); clear hK K)
        refine wpQuiet_nil ?_; rintro wq ⟨⟨_, NQ⟩, rfl⟩; have Fq : Hid (CS w wq sb off stays.length sc ja jobs.length jc last ⟨t, id, ba, bb, bc, x, y, z⟩) := Fp.out.next NQ; have hmf := makeFunc_run
        by_cases hle : t ≤ u
        ·have HLE : Hid (t ≤ u) := hle
         go_wp2; go_returns; refine ⟨?_, Fq.out.below⟩; rw [stayN_eq HK1.out HK2.out HK3.out, if_neg (by rw [HPLE.out, HK4.out]; decide), if_pos ⟨by rw [HTL.out]; omega, by rw [HTL.out, HUU.out]; exact HLE.out⟩]
         rfl
        ·have HLE : Hid (¬ t ≤ u) := hle
         go_wp2_with fail; refine (HC.out _ Fq.out).mono ?_; rintro e wz ⟨rfl, bz⟩; have Fz : Hid (CS w wz sb off stays.length sc ja jobs.length jc last ⟨t, id, ba, bb, bc, x, y, z⟩) := Fq.out.next bz; clear bz
         cases qc
         ·go_wp2
          go_returns; refine ⟨?_, Fz.out.below⟩; rw [stayN_eq HK1.out HK2.out HK3.out, if_neg (by rw [HPLE.out, HK4.out]; decide), if_neg (fun h => absurd h.2 (by rw [HTL.out, HUU.out]; show ¬ t ≤ u; have := HLE.out; omega)), if_neg (by rw [HQC.out]; decide)]
          rfl
         ·go_wp2
          go_returns; refine ⟨?_, Fz.out.below⟩; rw [stayN_eq HK1.out HK2.out HK3.out, if_neg (by rw [HPLE.out, HK4.out]; decide), if_neg (fun h => absurd h.2 (by rw [HTL.out, HUU.out]; show ¬ t ≤ u; have := HLE.out; omega)), if_pos HQC.out]
          rfl
       ·go_simp
        refine hK _ _ ?_; clear hK K; refine wpAny_ready (fuel := 17) (rs := [1]) (by kernel_rfl) (by simp) ?_; refine AllReady.cons rfl (fun K hK => ?_) AllReady.nil
        go_simp
        refine (HPL.out _).mono ?_; rintro e wp ⟨v, rfl, ho⟩; obtain ⟨g, cap, rfl, pa⟩ := ho.at hp1; have Fp : Hid (CS w wp sb off stays.length sc ja jobs.length jc last ⟨t, id, ba, bb, bc, x, y, z⟩) := (F2.out.next ((Below.refl _ _).drew)).next ho.2; have HQ : Hid (∀ p : BelowW wp, Calls Tryz.prog 93 #[.slice (some ⟨g, 0, none⟩) pl.length cap, .agg #[.int .i64 x, .int .i64 y, .int .i64 z]] p.wd fun e w' => e = .returned (.bool true) ∧ Below p.wd.heap.size p.wd w') := fun p => (hasPlace_some g 0 cap pl x y z p.wd hp2 (pa.below p.hb).rows).mono fun e w' ⟨he, hbb⟩ => ⟨he.trans (by rw [HK4.out]), hbb⟩
        clear ho pa; refine hK _ _ ?_; clear hK K; refine wpAny_below 4 rfl (by kernel_rfl) (by kernel_rfl) ?_; simp only [List.drop_succ_cons, List.drop_zero]; have x0 := fun p : BelowW wp => (Fp.out.b1.below p.hb).cell 0
        have x5 := fun p : BelowW wp => (Fp.out.b1.below p.hb).cell 5
        have x6 := fun p : BelowW wp => (Fp.out.b1.below p.hb).cell 6
        have x7 := fun p : BelowW wp => (Fp.out.b1.below p.hb).cell 7
        simp only at x0 x5 x6 x7; have xd := fun p : BelowW wp => HD.out p.wd (B.next Fp.out.below p.hb Fp.out.below.size)
        clear r0 r1
        (refine wpQuiet_step (fun K hK => ?_); go_simp; apply Exists.intro; refine ⟨fun _ => ?_, hK _ ?_⟩; (go_at_call 93; exact Calls.wof (HQ.out _)); clear hK K)
        iterate 16 ((with_reducible refine wpQuiet_step (fun K hK => ?_)); go_simp; (with_reducible refine hK _ ?_); clear hK K)
        refine wpQuiet_nil ?_; rintro wq ⟨⟨_, NQ⟩, rfl⟩; have Fq : Hid (CS w wq sb off stays.length sc ja jobs.length jc last ⟨t, id, ba, bb, bc, x, y, z⟩) := Fp.out.next NQ; have hmf := makeFunc_run
        by_cases hle : t ≤ u
        ·have HLE : Hid (t ≤ u) := hle
         go_wp2; go_returns; refine ⟨?_, Fq.out.below⟩; rw [stayN_eq HK1.out HK2.out HK3.out, if_neg (by rw [HPLE.out, HK4.out]; decide), if_pos ⟨by rw [HTL.out]; omega, by rw [HTL.out, HUU.out]; exact HLE.out⟩]
         rfl
        ·have HLE : Hid (¬ t ≤ u) := hle
         go_wp2_with fail; refine (HC.out _ Fq.out).mono ?_; rintro e wz ⟨rfl, bz⟩; have Fz : Hid (CS w wz sb off stays.length sc ja jobs.length jc last ⟨t, id, ba, bb, bc, x, y, z⟩) := Fq.out.next bz; clear bz
         cases qc
         ·go_wp2
          go_returns; refine ⟨?_, Fz.out.below⟩; rw [stayN_eq HK1.out HK2.out HK3.out, if_neg (by rw [HPLE.out, HK4.out]; decide), if_neg (fun h => absurd h.2 (by rw [HTL.out, HUU.out]; show ¬ t ≤ u; have := HLE.out; omega)), if_neg (by rw [HQC.out]; decide)]
          rfl
         ·go_wp2
          go_returns; refine ⟨?_, Fz.out.below⟩; rw [stayN_eq HK1.out HK2.out HK3.out, if_neg (by rw [HPLE.out, HK4.out]; decide), if_neg (fun h => absurd h.2 (by rw [HTL.out, HUU.out]; show ¬ t ≤ u; have := HLE.out; omega)), if_pos HQC.out]
          rfl
 ·rw [hcar, errV_ne (by decide)]
  go_wp2; go_returns; refine ⟨?_, F1.below⟩; rw [KS.out, hcar]
  rfl
end Bk
end Go.Proofs.YtopgllmjeliklaaGreatDoor
