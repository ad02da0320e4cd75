/- View ViewB ViewC Hs. -/
import Derived.Test.YtopgllmjeliklaaGreatDoorKhPlantK
set_option maxRecDepth 100000
set_option linter.unusedSimpArgs false
set_option linter.unusedVariables false
namespace Go.Proofs.YtopgllmjeliklaaGreatDoor
open Go.Shelf Go.Lib Go.ChangeShapes Go.WideShapes Go.ChangeAt Go.RowKit
namespace Tn
open Bk Pl
def carO (b : Book) (id : Int) : Option Stay := b.stays.find? (fun s => s.id == id)
theorem idx_find (p : Stay → Bool) (l : List Stay) : (stayIdx p l < 0 ∧ l.find? p = none) ∨ ∃ k, k < l.length ∧ stayIdx p l = (k : Int) ∧ l.find? p = some l[k]! := by
 have := idxByFrom_spec (fun (_ y : Stay) => p y) default l 0
 unfold stayIdx Lib.idxBy
 rcases this with ⟨e, h⟩ | ⟨k, hk, e, h1, h2⟩
 ·exact Or.inl ⟨by rw [e]; decide, find_not l h⟩
 ·exact Or.inr ⟨k, hk, by rw [e]; simp, find_upto l k hk h2 h1⟩
def vArr (b : Book) (s : St) (pb : Nat) (q1 q2 q3 bz : Bool) (jt : Int) (jf : Bool) (sv : Stay) : Array Value :=
 #[.int .i64 b.last, .slice b.sa b.stays.length b.sc, .slice b.ja b.jobs.length b.jc, .int .i64 s.h, .int .i64 s.ex, .bool s.op, .int .i64 s.pe, .int .i64 s.li, .int .i64 s.ba, .bool q1, .bool q2, .bool q3, .func (.func 34) #[.pointer (some ⟨pb, 0, none⟩)] #[], .func (.func 31) #[.pointer (some ⟨pb, 0, none⟩)] #[], .func (.func 56) #[.pointer (some ⟨pb, 0, none⟩)] #[], .bool bz, .int .i64 jt, .bool jf, .int .i64 sv.t, .int .i64 sv.id, .int .i64 sv.a, .int .i64 sv.b, .int .i64 sv.c, .int .i64 sv.x, .int .i64 sv.y, .int .i64 sv.z]
structure ViewAt (w : World) (vb pb mb n : Nat) (s : St) (b : Book) (q1 q2 q3 bz : Bool) (jt : Int) (jf : Bool) (sv : Stay) : Prop where
 p : IsP w pb mb n s
 v : Blk w vb (vArr b s pb q1 q2 q3 bz jt jf sv) 135
 k : b.At w
theorem ViewAt.next {w wx : World} {vb pb mb n : Nat} {s : St} {b : Book} {q1 q2 q3 bz : Bool} {jt : Int} {jf : Bool} {sv : Stay} (h : ViewAt w vb pb mb n s b q1 q2 q3 bz jt jf sv) (hb : Below w.heap.size w wx) : ViewAt wx vb pb mb n s b q1 q2 q3 bz jt jf sv :=
 ⟨h.p.below hb, h.v.below hb, h.k.below hb⟩
def StayPost (b : Book) (id : Int) (w : World) (e : Ending) (w' : World) : Prop := e = .returned (.tuple #[.agg (stayA (carO b id)), .bool (carO b id).isSome]) ∧ Below w.heap.size w w'
set_option maxHeartbeats 4000000 in
theorem vstayOf_any (vb pb mb n : Nat) (s : St) (b : Book) (q1 q2 q3 bz : Bool) (jt : Int) (jf : Bool) (vs : Stay) (id : Int) (w : World) (h : ViewAt w vb pb mb n s b q1 q2 q3 bz jt jf vs) :
  Calls Tryz.prog 114 #[.pointer (some ⟨vb, 0, none⟩), .int .i64 id] w (StayPost b id w) := by
 have HOF : Hid (∀ wx, Below w.heap.size w wx → Calls Tryz.prog 91 #[.agg #[.int .i64 b.last, .slice b.sa b.stays.length b.sc, .slice b.ja b.jobs.length b.jc], .int .i64 id] wx fun e w' => e = .returned (.int .i64 (ofI b id)) ∧ Below wx.heap.size wx w') := fun wx hx => of_any b id wx (h.k.below hx)
 have HRS : Hid (∀ wx, Below w.heap.size w wx → RowsAt wx b.sa b.sc 8 Stay.enc b.stays) := fun wx hx => h.k.1.below hx
 have HV : Hid (∀ wx, Below w.heap.size w wx → Blk wx vb (vArr b s pb q1 q2 q3 bz jt jf vs) 135) := fun wx hx => h.v.below hx
 have hm1 : b.sc ≤ maxLen := h.k.1.2.1; have hn1 : b.stays.length ≤ b.sc := h.k.1.1; unfold maxLen at hm1; have hix := idx_find (fun s : Stay => s.id == id) b.stays
 have HP : Hid (∀ (o : Option Stay) w', carO b id = o → Below w.heap.size w w' → StayPost b id w (.returned (.tuple #[.agg (stayA o), .bool o.isSome])) w') := fun o w' ho hb => by subst ho; exact ⟨rfl, hb⟩
 generalize StayPost b id w = PP at *; obtain ⟨w0, hw0⟩ : ∃ w0, w.alloc (.cells #[.int .i64 0, .int .i64 0, .int .i64 0, .int .i64 0, .int .i64 0, .int .i64 0, .int .i64 0, .int .i64 0] 67) = w0 := ⟨_, rfl⟩
 have N0 : Hid (Below w.heap.size w w0 ∧ Blk w0 w.heap.size #[.int .i64 0, .int .i64 0, .int .i64 0, .int .i64 0, .int .i64 0, .int .i64 0, .int .i64 0, .int .i64 0] 67) := by
  show _ ∧ _
  rw [← hw0]; exact ⟨B.new1 _ _, Blk.new _ _ _⟩
 have rv := (HV.out _ N0.out.1).cell; unfold vArr at rv; clear h
 go_enter Tryz.func114, Tryz.ntmps114
 go_wp2_with fail; clear hw0 rv; refine (HOF.out _ N0.out.1).mono ?_; rintro e w1 ⟨rfl, b1⟩; have N1 : Hid (Below w.heap.size w w1 ∧ Blk w1 w.heap.size #[.int .i64 0, .int .i64 0, .int .i64 0, .int .i64 0, .int .i64 0, .int .i64 0, .int .i64 0, .int .i64 0] 67) := ⟨B.next N0.out.1 b1 N0.out.1.size, N0.out.2.below b1⟩; clear b1 N0 HOF; have rv := (HV.out _ N1.out.1).cell; unfold vArr at rv
 rcases hix with ⟨hi, hf⟩ | ⟨k, hk, hi, hf⟩
 ·have hfi : carO b id = none := hf
  have hlt : ofI b id < 0 := hi; generalize ofI b id = qo at hlt ⊢; clear hi hf; obtain ⟨w9, hw9⟩ : ∃ w9, ((((((((w1.setCell ⟨w.heap.size, 0, none⟩ (.int .i64 0)).setCell ⟨w.heap.size, 1, none⟩ (.int .i64 0)).setCell ⟨w.heap.size, 2, none⟩ (.int .i64 0)).setCell ⟨w.heap.size, 3, none⟩ (.int .i64 0)).setCell ⟨w.heap.size, 4, none⟩ (.int .i64 0)).setCell ⟨w.heap.size, 5, none⟩ (.int .i64 0)).setCell ⟨w.heap.size, 6, none⟩ (.int .i64 0)).setCell ⟨w.heap.size, 7, none⟩ (.int .i64 0)) = w9 := ⟨_, rfl⟩
  have K9 : Hid (Blk w9 w.heap.size #[.int .i64 0, .int .i64 0, .int .i64 0, .int .i64 0, .int .i64 0, .int .i64 0, .int .i64 0, .int .i64 0] 67 ∧ Below w.heap.size w w9) := by
   show _ ∧ _
   rw [← hw9]; exact ⟨((((((((N1.out.2.set 0 (.int .i64 0)).set 1 (.int .i64 0)).set 2 (.int .i64 0)).set 3 (.int .i64 0)).set 4 (.int .i64 0)).set 5 (.int .i64 0)).set 6 (.int .i64 0)).set 7 (.int .i64 0)), ((((((((N1.out.1.setCell (p := ⟨w.heap.size, 0, none⟩) (Nat.le_refl _) _).setCell (p := ⟨w.heap.size, 1, none⟩) (Nat.le_refl _) _).setCell (p := ⟨w.heap.size, 2, none⟩) (Nat.le_refl _) _).setCell (p := ⟨w.heap.size, 3, none⟩) (Nat.le_refl _) _).setCell (p := ⟨w.heap.size, 4, none⟩) (Nat.le_refl _) _).setCell (p := ⟨w.heap.size, 5, none⟩) (Nat.le_refl _) _).setCell (p := ⟨w.heap.size, 6, none⟩) (Nat.le_refl _) _).setCell (p := ⟨w.heap.size, 7, none⟩) (Nat.le_refl _) _)⟩
  have HF : Hid (PP (.returned (.tuple #[.agg #[.int .i64 0, .int .i64 0, .int .i64 0, .int .i64 0, .int .i64 0, .int .i64 0, .int .i64 0, .int .i64 0], .bool false])) w9) := HP.out none w9 hfi K9.out.2; have g9 := K9.out.1.cell; have gg := N1.out.2.cell; have ff := N1.out.2.free; go_wp2
  (try simp only [Exit.inBlock, Exit.then])
  refine bodyPost_ret (v := .tuple #[.agg #[.int .i64 0, .int .i64 0, .int .i64 0, .int .i64 0, .int .i64 0, .int .i64 0, .int .i64 0, .int .i64 0], .bool false]) (by simp [results, Tryz.results114, go_sem, g9]; try rfl) rfl ?_; exact HF.out
 ·have hfi : carO b id = some b.stays[k]! := hf
  have hoi : ofI b id = (k : Int) := hi; rw [hoi]; clear hi hf hoi; have hkz : (k : Int) < (b.stays.length : Int) := by omega
  obtain ⟨sb, soff, hsa⟩ := rows_some (HRS.out _ N1.out.1) (by omega); have hrr := HRS.out _ N1.out.1; rw [hsa] at hrr rv; have s0 := rows_cell hrr k hk 0 _ rfl; have s1 := rows_cell hrr k hk 1 _ rfl; have s2 := rows_cell hrr k hk 2 _ rfl; have s3 := rows_cell hrr k hk 3 _ rfl; have s4 := rows_cell hrr k hk 4 _ rfl; have s5 := rows_cell hrr k hk 5 _ rfl; have s6 := rows_cell hrr k hk 6 _ rfl; have s7 := rows_cell hrr k hk 7 _ rfl; simp only [Nat.add_zero] at s0; generalize b.stays[k]! = sv at *; clear hrr; obtain ⟨w9, hw9⟩ : ∃ w9, ((((((((w1.setCell ⟨w.heap.size, 0, none⟩ (.int .i64 sv.t)).setCell ⟨w.heap.size, 1, none⟩ (.int .i64 sv.id)).setCell ⟨w.heap.size, 2, none⟩ (.int .i64 sv.a)).setCell ⟨w.heap.size, 3, none⟩ (.int .i64 sv.b)).setCell ⟨w.heap.size, 4, none⟩ (.int .i64 sv.c)).setCell ⟨w.heap.size, 5, none⟩ (.int .i64 sv.x)).setCell ⟨w.heap.size, 6, none⟩ (.int .i64 sv.y)).setCell ⟨w.heap.size, 7, none⟩ (.int .i64 sv.z)) = w9 := ⟨_, rfl⟩
  have K9 : Hid (Blk w9 w.heap.size #[.int .i64 sv.t, .int .i64 sv.id, .int .i64 sv.a, .int .i64 sv.b, .int .i64 sv.c, .int .i64 sv.x, .int .i64 sv.y, .int .i64 sv.z] 67 ∧ Below w.heap.size w w9) := by
   show _ ∧ _
   rw [← hw9]; exact ⟨((((((((N1.out.2.set 0 (.int .i64 sv.t)).set 1 (.int .i64 sv.id)).set 2 (.int .i64 sv.a)).set 3 (.int .i64 sv.b)).set 4 (.int .i64 sv.c)).set 5 (.int .i64 sv.x)).set 6 (.int .i64 sv.y)).set 7 (.int .i64 sv.z)), ((((((((N1.out.1.setCell (p := ⟨w.heap.size, 0, none⟩) (Nat.le_refl _) _).setCell (p := ⟨w.heap.size, 1, none⟩) (Nat.le_refl _) _).setCell (p := ⟨w.heap.size, 2, none⟩) (Nat.le_refl _) _).setCell (p := ⟨w.heap.size, 3, none⟩) (Nat.le_refl _) _).setCell (p := ⟨w.heap.size, 4, none⟩) (Nat.le_refl _) _).setCell (p := ⟨w.heap.size, 5, none⟩) (Nat.le_refl _) _).setCell (p := ⟨w.heap.size, 6, none⟩) (Nat.le_refl _) _).setCell (p := ⟨w.heap.size, 7, none⟩) (Nat.le_refl _) _)⟩
  have HF : Hid (PP (.returned (.tuple #[.agg #[.int .i64 sv.t, .int .i64 sv.id, .int .i64 sv.a, .int .i64 sv.b, .int .i64 sv.c, .int .i64 sv.x, .int .i64 sv.y, .int .i64 sv.z], .bool true])) w9) := HP.out (some sv) w9 hfi K9.out.2; have g9 := K9.out.1.cell; have gg := N1.out.2.cell; have ff := N1.out.2.free; go_wp2
  (try simp only [Exit.inBlock, Exit.then])
  refine bodyPost_ret (v := .tuple #[.agg #[.int .i64 sv.t, .int .i64 sv.id, .int .i64 sv.a, .int .i64 sv.b, .int .i64 sv.c, .int .i64 sv.x, .int .i64 sv.y, .int .i64 sv.z], .bool true]) (by simp [results, Tryz.results114, go_sem, g9]; try rfl) rfl ?_; exact HF.out
end Tn
namespace Tn
open Bk Pl
def sOk (v : Stay) : Prop := 0 ≤ v.x ∧ v.x ≤ 4 ∧ 0 ≤ v.y ∧ v.y ≤ 1 ∧ 0 ≤ v.z ∧ v.z ≤ 1
def blocksO (D : DataW Unit) (bz jf : Bool) (vs : Stay) : Option Stay → Bool
 | none => false
 | some x => bz && jf && vs.z == 1 && carOf D vs.x vs.y vs.z == vs.id && eqP vs.x vs.y 0 x.x x.y x.z
def blocksB (b : Book) (s : St) (bz jf : Bool) (vs : Stay) (id : Int) : Bool := blocksO s.D bz jf vs (carO b id)
theorem vat_any (vb pb mb n : Nat) (s : St) (b : Book) (q1 q2 q3 bz : Bool) (jt : Int) (jf : Bool) (vs : Stay) (x y z : Int) (w : World) (h : ViewAt w vb pb mb n s b q1 q2 q3 bz jt jf vs) (hx : 0 ≤ x ∧ x ≤ 4) (hy : 0 ≤ y ∧ y ≤ 1) (hz : 0 ≤ z ∧ z ≤ 1) :
  Calls Tryz.prog 34 #[.pointer (some ⟨pb, 0, none⟩), .agg #[.int .i64 x, .int .i64 y, .int .i64 z]] w fun e w' => e = .returned (.int .i64 (carOf s.D x y z)) ∧ Below w.heap.size w w' :=
 at_any pb mb n s.D x y z w h.p.c7 h.p.cars (wfI (by omega)) (wfI (by omega)) (wfI (by omega))
set_option maxHeartbeats 8000000 in
theorem vblocks_any (vb pb mb n : Nat) (s : St) (b : Book) (q1 q2 q3 bz : Bool) (jt : Int) (jf : Bool) (vs : Stay) (id : Int) (w : World) (h : ViewAt w vb pb mb n s b q1 q2 q3 bz jt jf vs) (hs : sOk vs) :
  Calls Tryz.prog 80 #[.pointer (some ⟨vb, 0, none⟩), .int .i64 id] w fun e w' => e = .returned (.bool (blocksB b s bz jf vs id)) ∧ Below w.heap.size w w' := by
 have HSO : Hid (∀ wx, Below w.heap.size w wx → Calls Tryz.prog 114 #[.pointer (some ⟨vb, 0, none⟩), .int .i64 id] wx (StayPost b id wx)) := fun wx hx => vstayOf_any vb pb mb n s b q1 q2 q3 bz jt jf vs id wx (h.next hx)
 have HAT : Hid (∀ wx, Below w.heap.size w wx → Calls Tryz.prog 34 #[.pointer (some ⟨pb, 0, none⟩), .agg #[.int .i64 vs.x, .int .i64 vs.y, .int .i64 vs.z]] wx fun e w' => e = .returned (.int .i64 (carOf s.D vs.x vs.y vs.z)) ∧ Below wx.heap.size wx w') := fun wx hx => vat_any vb pb mb n s b q1 q2 q3 bz jt jf vs vs.x vs.y vs.z wx (h.next hx) ⟨hs.1, hs.2.1⟩ ⟨hs.2.2.1, hs.2.2.2.1⟩ ⟨hs.2.2.2.2.1, hs.2.2.2.2.2⟩
 have HFR : Hid (∀ wx, Calls Tryz.prog 98 #[.agg #[.int .i64 vs.x, .int .i64 vs.y, .int .i64 vs.z]] wx fun e w' => e = .returned (.agg #[.int .i64 vs.x, .int .i64 vs.y, .int .i64 0]) ∧ Below wx.heap.size wx w') := fun wx => front_any _ _ _ wx
 have HV : Hid (∀ wx, Below w.heap.size w wx → Blk wx vb (vArr b s pb q1 q2 q3 bz jt jf vs) 135) := fun wx hx => h.v.below hx
 have KB0 : Hid (blocksB b s bz jf vs id = blocksO s.D bz jf vs (carO b id)) := rfl; have HP : Hid (∀ (q : Bool) w', q = blocksB b s bz jf vs id → Below w.heap.size w w' → Ending.returned (.bool q) = .returned (.bool (blocksB b s bz jf vs id)) ∧ Below w.heap.size w w') := fun q w' hq hb => by subst hq; exact ⟨rfl, hb⟩
 generalize hPP : (fun (e : Ending) (w' : World) => e = .returned (.bool (blocksB b s bz jf vs id)) ∧ Below w.heap.size w w') = PP
 have HP2 : Hid (∀ (q : Bool) w', q = blocksB b s bz jf vs id → Below w.heap.size w w' → PP (.returned (.bool q)) w') := fun q w' hq hb => by rw [← hPP]; exact HP.out q w' hq hb
 clear hPP HP h; have HP := HP2; clear HP2; obtain ⟨bb, hbb⟩ : ∃ bb, blocksB b s bz jf vs id = bb := ⟨_, rfl⟩
 rw [hbb] at HP KB0; clear hbb; obtain ⟨cv, hcv⟩ : ∃ cv, carOf s.D vs.x vs.y vs.z = cv := ⟨_, rfl⟩
 rw [hcv] at HAT
 go_enter Tryz.func80, Tryz.ntmps80
 go_wp2_with fail; refine (HSO.out _ (Below.refl _ _)).mono ?_; rintro e w1 ⟨rfl, b1⟩; obtain ⟨o, ho⟩ : ∃ o, carO b id = o := ⟨_, rfl⟩
 rw [ho] at KB0 ⊢; clear ho HSO; have rv := (HV.out _ b1).cell; unfold vArr at rv
 cases o with
 | none =>
   simp only [stayA, Option.isSome]; have KB : Hid (bb = false) := KB0; clear KB0; obtain ⟨w3, hw3⟩ : ∃ w3, (w1.alloc (.cells #[.int .i64 0, .int .i64 0, .int .i64 0, .int .i64 0, .int .i64 0, .int .i64 0, .int .i64 0, .int .i64 0] 67)).alloc (.cells #[.int .i64 vs.x, .int .i64 vs.y, .int .i64 vs.z] 65) = w3 := ⟨_, rfl⟩
   have N3 : Hid (Below w.heap.size w w3 ∧ Below w.heap.size w w3) := by
    show _ ∧ _
    rw [← hw3]; have := (b1.alloc b1.size (.cells #[.int .i64 0, .int .i64 0, .int .i64 0, .int .i64 0, .int .i64 0, .int .i64 0, .int .i64 0, .int .i64 0] 67)).alloc (by have := b1.size; simp; omega) (.cells #[.int .i64 vs.x, .int .i64 vs.y, .int .i64 vs.z] 65); exact ⟨this, this⟩
   have HW3 : Hid ((w1.alloc (.cells #[.int .i64 0, .int .i64 0, .int .i64 0, .int .i64 0, .int .i64 0, .int .i64 0, .int .i64 0, .int .i64 0] 67)).alloc (.cells #[.int .i64 vs.x, .int .i64 vs.y, .int .i64 vs.z] 65) = w3) := hw3; clear hw3; have rv2 := (HV.out _ (b1.alloc b1.size (.cells #[.int .i64 0, .int .i64 0, .int .i64 0, .int .i64 0, .int .i64 0, .int .i64 0, .int .i64 0, .int .i64 0] 67))).cell; unfold vArr at rv2
   go_upto_region 3 with fail
   simp only [HW3.out]; clear rv2; clear HW3 rv HAT HV; have HAQ : Hid True := trivial; refine wp_region_below (by kernel_rfl) (by kernel_rfl) ?_
   repeat (go_big_quiet_step (first | (go_at_call 34; exact Calls.wof (HAQ.out _)) | (go_at_call 98; exact Calls.wof (HFR.out _))))
   refine wpQuiet_nil ?_; rintro wb ⟨⟨_, NQ⟩, rfl⟩; go_wp2; exact HP.out _ _ (by rw [KB.out]) (B.next N3.out.1 NQ N3.out.1.size)
 | some x =>
   simp only [stayA, Option.isSome]; have KB : Hid (bb = (bz && jf && vs.z == 1 && cv == vs.id && eqP vs.x vs.y 0 x.x x.y x.z)) := by show _ = _; rw [KB0.out, ← hcv]; rfl
   clear KB0 hcv; obtain ⟨w2, hw2⟩ : ∃ w2, w1.alloc (.cells #[.int .i64 x.t, .int .i64 x.id, .int .i64 x.a, .int .i64 x.b, .int .i64 x.c, .int .i64 x.x, .int .i64 x.y, .int .i64 x.z] 67) = w2 := ⟨_, rfl⟩
   obtain ⟨w3, hw3⟩ : ∃ w3, w2.alloc (.cells #[.int .i64 vs.x, .int .i64 vs.y, .int .i64 vs.z] 65) = w3 := ⟨_, rfl⟩
   obtain ⟨sb, hsb⟩ : ∃ sb, w1.heap.size = sb := ⟨_, rfl⟩
   obtain ⟨hb, hhb⟩ : ∃ hb, w2.heap.size = hb := ⟨_, rfl⟩
   have N3 : Hid (Below w.heap.size w w3 ∧ Blk w3 sb #[.int .i64 x.t, .int .i64 x.id, .int .i64 x.a, .int .i64 x.b, .int .i64 x.c, .int .i64 x.x, .int .i64 x.y, .int .i64 x.z] 67 ∧ Blk w3 hb #[.int .i64 vs.x, .int .i64 vs.y, .int .i64 vs.z] 65) := by
    show _ ∧ _ ∧ _
    rw [← hw3, ← hw2]; have hh2 : hb = (w1.alloc (.cells #[.int .i64 x.t, .int .i64 x.id, .int .i64 x.a, .int .i64 x.b, .int .i64 x.c, .int .i64 x.x, .int .i64 x.y, .int .i64 x.z] 67)).heap.size := by rw [hw2, hhb]
    exact ⟨(b1.alloc b1.size _).alloc (by have := b1.size; simp; omega) _, (Blk.new1 hsb.symm _ _).old _, Blk.new1 hh2 _ _⟩
   have HW2 : Hid (w1.alloc (.cells #[.int .i64 x.t, .int .i64 x.id, .int .i64 x.a, .int .i64 x.b, .int .i64 x.c, .int .i64 x.x, .int .i64 x.y, .int .i64 x.z] 67) = w2) := hw2; have HW3 : Hid (w2.alloc (.cells #[.int .i64 vs.x, .int .i64 vs.y, .int .i64 vs.z] 65) = w3) := hw3; have HSZ : Hid (sb + 1 = hb) := by show _ = _; rw [← hsb, ← hhb, ← hw2]; simp
   clear hw2 hw3 hhb; have rv2 := (HV.out _ (b1.alloc b1.size (.cells #[.int .i64 x.t, .int .i64 x.id, .int .i64 x.a, .int .i64 x.b, .int .i64 x.c, .int .i64 x.x, .int .i64 x.y, .int .i64 x.z] 67))).cell; unfold vArr at rv2
   go_upto_region 3 with fail
   clear rv2; simp only [HW2.out, HW3.out, HSZ.out, hsb]; clear HW2 HW3 HSZ hsb rv; have HAQ : Hid (∀ p : BelowW w3, Calls Tryz.prog 34 #[.pointer (some ⟨pb, 0, none⟩), .agg #[.int .i64 vs.x, .int .i64 vs.y, .int .i64 vs.z]] p.wd fun e w' => e = .returned (.int .i64 cv) ∧ Below p.wd.heap.size p.wd w') := fun p => HAT.out _ (B.next N3.out.1 p.hb N3.out.1.size)
   have HVC : Hid (∀ p : BelowW w3, Blk p.wd vb (vArr b s pb q1 q2 q3 bz jt jf vs) 135) := fun p => HV.out _ (B.next N3.out.1 p.hb N3.out.1.size)
   have v12 := fun p : BelowW w3 => (HVC.out p).cell 12
   have v15 := fun p : BelowW w3 => (HVC.out p).cell 15
   have v17 := fun p : BelowW w3 => (HVC.out p).cell 17
   have v19 := fun p : BelowW w3 => (HVC.out p).cell 19
   simp only [vArr] at v12 v15 v17 v19; have h0 := fun p : BelowW w3 => (N3.out.2.2.below p.hb).cell 0
   have h1 := fun p : BelowW w3 => (N3.out.2.2.below p.hb).cell 1
   have h2 := fun p : BelowW w3 => (N3.out.2.2.below p.hb).cell 2
   have x5 := fun p : BelowW w3 => (N3.out.2.1.below p.hb).cell 5
   have x6 := fun p : BelowW w3 => (N3.out.2.1.below p.hb).cell 6
   have x7 := fun p : BelowW w3 => (N3.out.2.1.below p.hb).cell 7
   have e1 := eqP_run vs.x vs.y 0 x.x x.y x.z; have g1 := eqP_guard vs.x vs.y 0 x.x x.y x.z; generalize eqP vs.x vs.y 0 x.x x.y x.z = qe at e1 KB; clear HVC HV HAT b1
   cases bz
   ·
    refine wp_region_below (by kernel_rfl) (by kernel_rfl) ?_
    repeat (go_big_quiet_step (first | (go_at_call 34; exact Calls.wof (HAQ.out _)) | (go_at_call 98; exact Calls.wof (HFR.out _))))
    refine wpQuiet_nil ?_; rintro wb ⟨⟨_, NQ⟩, rfl⟩; go_wp2; exact HP.out _ _ (by rw [KB.out]; simp) (B.next N3.out.1 NQ N3.out.1.size)
   ·
    cases jf
    ·
     refine wp_region_below (by kernel_rfl) (by kernel_rfl) ?_
     repeat (go_big_quiet_step (first | (go_at_call 34; exact Calls.wof (HAQ.out _)) | (go_at_call 98; exact Calls.wof (HFR.out _))))
     refine wpQuiet_nil ?_; rintro wb ⟨⟨_, NQ⟩, rfl⟩; go_wp2; exact HP.out _ _ (by rw [KB.out]; simp) (B.next N3.out.1 NQ N3.out.1.size)
    ·
     cases c3 : (vs.z == 1)
     ·
      rw [c3] at KB; refine wp_region_below (by kernel_rfl) (by kernel_rfl) ?_
      repeat (go_big_quiet_step (first | (go_at_call 34; exact Calls.wof (HAQ.out _)) | (go_at_call 98; exact Calls.wof (HFR.out _))))
      refine wpQuiet_nil ?_; rintro wb ⟨⟨_, NQ⟩, rfl⟩; go_wp2; exact HP.out _ _ (by rw [KB.out]; simp) (B.next N3.out.1 NQ N3.out.1.size)
     ·
      rw [c3] at KB
      cases c4 : (cv == vs.id)
      ·
       rw [c4] at KB; refine wp_region_below (by kernel_rfl) (by kernel_rfl) ?_
       repeat (go_big_quiet_step (first | (go_at_call 34; exact Calls.wof (HAQ.out _)) | (go_at_call 98; exact Calls.wof (HFR.out _))))
       refine wpQuiet_nil ?_; rintro wb ⟨⟨_, NQ⟩, rfl⟩; go_wp2; exact HP.out _ _ (by rw [KB.out]; simp) (B.next N3.out.1 NQ N3.out.1.size)
      ·
       rw [c4] at KB; refine wp_region_below (by kernel_rfl) (by kernel_rfl) ?_
       repeat (go_big_quiet_step (first | (go_at_call 34; exact Calls.wof (HAQ.out _)) | (go_at_call 98; exact Calls.wof (HFR.out _))))
       refine wpQuiet_nil ?_; rintro wb ⟨⟨_, NQ⟩, rfl⟩; go_wp2; exact HP.out _ _ (by rw [KB.out]; simp) (B.next N3.out.1 NQ N3.out.1.size)
end Tn
namespace Tn
open Bk Pl
def Goals (w : World) (v : Value) (l : List (Int × Int)) : Prop := (v = .slice none 0 0 ∧ l = []) ∨ GoalsAt w v l
theorem Goals.nil (w : World) : Goals w (.slice none 0 0) [] := Or.inl ⟨rfl, rfl⟩
def gGive : List (Int × Int) := [(2, 0), (5, 0), (1, 0), (8, 0), (6, 0)]
def gWel : List (Int × Int) := [(2, 0), (5, 0), (1, 0), (6, 0)]
def gTake : List (Int × Int) := [(2, 0), (5, 0), (1, 0), (7, 0)]
def gThere (kind x y z : Int) : List (Int × Int) := [(2, 0), (5, 0), (1, x * 3), (2, extI y z), (kind, 0), (2, 0)]
def welG (s : St) : List (Int × Int) := if s.op = true then [] else gWel
def overB (s : St) (jf : Bool) (vs : Stay) : Bool := !hasB s vs.id || (if jf = true then s.ba == vs.id else carOf s.D vs.x vs.y vs.z == vs.id)
def putG (s : St) (vs : Stay) : List (Int × Int) := if (s.ba == vs.id) = true then gTake else []
set_option maxHeartbeats 2000000 in
theorem vwelcome_any (vb pb mb n : Nat) (s : St) (b : Book) (q1 q2 q3 bz : Bool) (jt : Int) (jf : Bool) (vs : Stay) (w : World) (h : ViewAt w vb pb mb n s b q1 q2 q3 bz jt jf vs) :
  Calls Tryz.prog 82 #[.pointer (some ⟨vb, 0, none⟩)] w fun e w' => ∃ v, e = .returned v ∧ Goals w' v (welG s) ∧ Below w.heap.size w w' := by
 have rv := h.v.cell; unfold vArr at rv; clear h; have KW : Hid (welG s = if s.op = true then [] else gWel) := rfl
 have HP : Hid (∀ v w', Goals w' v (welG s) → Below w.heap.size w w' → ∃ v', Ending.returned v = .returned v' ∧ Goals w' v' (welG s) ∧ Below w.heap.size w w') := fun v w' h1 h2 => ⟨v, rfl, h1, h2⟩
 generalize hPP : (fun (e : Ending) (w' : World) => ∃ v, e = .returned v ∧ Goals w' v (welG s) ∧ Below w.heap.size w w') = PP
 have HP2 : Hid (∀ v w', Goals w' v (welG s) → Below w.heap.size w w' → PP (.returned v) w') := fun v w' h1 h2 => by rw [← hPP]; exact HP.out v w' h1 h2
 clear hPP HP; have HP := HP2; clear HP2
 cases hop : s.op
 ·rw [hop] at rv
  have KW2 : Hid (welG s = gWel) := by show _ = _; rw [KW.out, hop]; rfl
  rw [KW2.out] at HP; clear KW KW2 hop
  go_enter Tryz.func82, Tryz.ntmps82
  go_wp2_with fail; refine (welcome_any _).mono ?_; rintro e w2 ⟨v, rfl, ho⟩; have X : Hid (Goals w2 v gWel ∧ Below w.heap.size w w2) := ⟨Or.inr (ho.at (by decide) (by decide)), ho.2⟩; clear ho; go_wp2; exact HP.out _ _ X.out.1 X.out.2
 ·rw [hop] at rv
  have KW2 : Hid (welG s = []) := by show _ = _; rw [KW.out, hop]; rfl
  rw [KW2.out] at HP; clear KW KW2 hop
  go_enter Tryz.func82, Tryz.ntmps82
  go_wp2; exact HP.out _ _ (Goals.nil _) (Below.refl _ _)
set_option maxHeartbeats 2000000 in
theorem vputAway_any (vb pb mb n : Nat) (s : St) (b : Book) (q1 q2 q3 bz : Bool) (jt : Int) (jf : Bool) (vs : Stay) (w : World) (h : ViewAt w vb pb mb n s b q1 q2 q3 bz jt jf vs) :
  Calls Tryz.prog 86 #[.pointer (some ⟨vb, 0, none⟩)] w fun e w' => ∃ v, e = .returned v ∧ Goals w' v (putG s vs) ∧ Below w.heap.size w w' := by
 have HVC : Hid (∀ p : BelowW w, Blk p.wd vb (vArr b s pb q1 q2 q3 bz jt jf vs) 135) := fun p => h.v.below p.hb
 have v8 := fun p : BelowW w => (HVC.out p).cell 8
 have v19 := fun p : BelowW w => (HVC.out p).cell 19
 simp only [vArr] at v8 v19; clear h HVC; have KW : Hid (putG s vs = if (s.ba == vs.id) = true then gTake else []) := rfl
 have HP : Hid (∀ v w', Goals w' v (putG s vs) → Below w.heap.size w w' → ∃ v', Ending.returned v = .returned v' ∧ Goals w' v' (putG s vs) ∧ Below w.heap.size w w') := fun v w' h1 h2 => ⟨v, rfl, h1, h2⟩
 generalize hPP : (fun (e : Ending) (w' : World) => ∃ v, e = .returned v ∧ Goals w' v (putG s vs) ∧ Below w.heap.size w w') = PP
 have HP2 : Hid (∀ v w', Goals w' v (putG s vs) → Below w.heap.size w w' → PP (.returned v) w') := fun v w' h1 h2 => by rw [← hPP]; exact HP.out v w' h1 h2
 clear hPP HP; have HP := HP2; clear HP2
 go_enter Tryz.func86, Tryz.ntmps86
 go_upto_region 1 with fail
 refine wp_region_below (by kernel_rfl) (by kernel_rfl) ?_
 repeat (go_big_quiet_step (fail))
 refine wpQuiet_nil ?_; rintro wb ⟨⟨_, NQ⟩, rfl⟩; clear v8 v19
 cases hc : (s.ba == vs.id)
 ·have KW2 : Hid (putG s vs = []) := by show _ = _; rw [KW.out, hc]; rfl
  rw [KW2.out] at HP; clear KW KW2; go_wp2; exact HP.out _ _ (Goals.nil _) NQ
 ·have KW2 : Hid (putG s vs = gTake) := by show _ = _; rw [KW.out, hc]; rfl
  rw [KW2.out] at HP; clear KW KW2; go_wp2_with fail; refine (takeIn_any _).mono ?_; rintro e w2 ⟨v, rfl, ho⟩; have X : Hid (Goals w2 v gTake ∧ Below w.heap.size w w2) := ⟨Or.inr (ho.at (by decide) (by decide)), B.next NQ ho.2 NQ.size⟩; clear ho; go_wp2; exact HP.out _ _ X.out.1 X.out.2
set_option maxHeartbeats 4000000 in
theorem vover_any (vb pb mb n : Nat) (s : St) (b : Book) (q1 q2 q3 bz : Bool) (jt : Int) (jf : Bool) (vs : Stay) (w : World) (h : ViewAt w vb pb mb n s b q1 q2 q3 bz jt jf vs) (hs : sOk vs) (iv : Inv s) :
  Calls Tryz.prog 83 #[.pointer (some ⟨vb, 0, none⟩)] w fun e w' => e = .returned (.bool (overB s jf vs)) ∧ Below w.heap.size w w' := by
 have HAT : Hid (∀ wx, Below w.heap.size w wx → Calls Tryz.prog 34 #[.pointer (some ⟨pb, 0, none⟩), .agg #[.int .i64 vs.x, .int .i64 vs.y, .int .i64 vs.z]] wx fun e w' => e = .returned (.int .i64 (carOf s.D vs.x vs.y vs.z)) ∧ Below wx.heap.size wx w') := fun wx hx => vat_any vb pb mb n s b q1 q2 q3 bz jt jf vs vs.x vs.y vs.z wx (h.next hx) ⟨hs.1, hs.2.1⟩ ⟨hs.2.2.1, hs.2.2.2.1⟩ ⟨hs.2.2.2.2.1, hs.2.2.2.2.2⟩
 have HHA : Hid (Calls Tryz.prog 56 #[.pointer (some ⟨pb, 0, none⟩), .int .i64 vs.id] w fun e w' => e = .returned (.bool (hasB s vs.id)) ∧ Below w.heap.size w w') := has_any pb mb n s vs.id w h.p iv
 have HV : Hid (∀ wx, Below w.heap.size w wx → Blk wx vb (vArr b s pb q1 q2 q3 bz jt jf vs) 135) := fun wx hx => h.v.below hx
 have rv := h.v.cell; unfold vArr at rv; clear h; have KO : Hid (overB s jf vs = (!hasB s vs.id || (if jf = true then s.ba == vs.id else carOf s.D vs.x vs.y vs.z == vs.id))) := rfl
 generalize hPP : (fun (e : Ending) (w' : World) => e = .returned (.bool (overB s jf vs)) ∧ Below w.heap.size w w') = PP
 have HP : Hid (∀ (q : Bool) w', q = overB s jf vs → Below w.heap.size w w' → PP (.returned (.bool q)) w') := fun q w' h1 h2 => by rw [← hPP]; subst h1; exact ⟨rfl, h2⟩
 clear hPP; generalize overB s jf vs = oo at *; generalize carOf s.D vs.x vs.y vs.z = cv at *
 go_enter Tryz.func83, Tryz.ntmps83
 go_wp2_with fail; clear rv; refine HHA.out.mono ?_; rintro e w1 ⟨rfl, b1⟩; obtain ⟨hq, hhq⟩ : ∃ hq, hasB s vs.id = hq := ⟨_, rfl⟩
 rw [hhq] at KO ⊢; clear hhq
 cases hq
 ·have K2 : Hid (oo = true) := by show _ = _; rw [KO.out]; rfl
  go_wp2; exact HP.out _ _ (by rw [K2.out]) b1
 ·have rv := (HV.out _ b1).cell
  unfold vArr at rv
  cases jf
  ·have K2 : Hid (oo = (cv == vs.id)) := by show _ = _; rw [KO.out]; rfl
   have HAQ : Hid (∀ p : BelowW w1, Calls Tryz.prog 34 #[.pointer (some ⟨pb, 0, none⟩), .agg #[.int .i64 vs.x, .int .i64 vs.y, .int .i64 vs.z]] p.wd fun e w' => e = .returned (.int .i64 cv) ∧ Below p.wd.heap.size p.wd w') := fun p => HAT.out _ (B.next b1 p.hb b1.size)
   have HVC : Hid (∀ p : BelowW w1, Blk p.wd vb (vArr b s pb q1 q2 q3 bz jt false vs) 135) := fun p => HV.out _ (B.next b1 p.hb b1.size)
   have v12 := fun p : BelowW w1 => (HVC.out p).cell 12
   have v23 := fun p : BelowW w1 => (HVC.out p).cell 23
   have v24 := fun p : BelowW w1 => (HVC.out p).cell 24
   have v25 := fun p : BelowW w1 => (HVC.out p).cell 25
   simp only [vArr] at v12 v23 v24 v25
   go_upto_region 6 with fail
   clear rv; refine wp_region_below (by kernel_rfl) (by kernel_rfl) ?_
   repeat (go_big_quiet_step (first | (go_at_call 34; exact Calls.wof (HAQ.out _))))
   refine wpQuiet_nil ?_; rintro wb ⟨⟨_, NQ⟩, rfl⟩; go_wp2; exact HP.out _ _ (by rw [K2.out]) (B.next b1 NQ b1.size)
  ·have K2 : Hid (oo = (s.ba == vs.id)) := by show _ = _; rw [KO.out]; rfl
   go_wp2; exact HP.out _ _ (by rw [K2.out]) b1
end Tn
namespace Hs
open Bk Lg Pl Dk Tx
theorem size_len (p : Int × Int × Int) : (Bk.encP p).length = 3 := rfl
theorem size_one : ∀ (l : List (Int × Int × Int)), ∀ u ∈ l.flatMap Bk.encP, u.oneCell' = true
 | [], u, h => by simp at h
 | x :: l, u, h => by
   rw [List.flatMap_cons, List.mem_append] at h
   rcases h with h | h
   ·simp [Bk.encP] at h
    rcases h with rfl | rfl | rfl <;> rfl
   ·exact size_one l u h
theorem infoSize : ∃ i0 : TypeInfo, Tryz.prog.info? 32 = some i0 ∧ i0.zero = some (.agg #[.int .i64 0, .int .i64 0, .int .i64 0]) ∧ i0.size = 3 ∧ i0.bytes = 24 := ⟨_, rfl, by kernel_rfl, by kernel_rfl, by kernel_rfl⟩
def rowsOf (f : Nat → Int × Int × Int) (n : Nat) : List (Int × Int × Int) := (List.range n).map f
theorem rowsOf_len (f : Nat → Int × Int × Int) (n : Nat) : (rowsOf f n).length = n := by simp [rowsOf]
theorem rowsOf_at (f : Nat → Int × Int × Int) (n i : Nat) (h : i < n) : (rowsOf f n)[i]! = f i := by
 rw [getElem!_pos _ i (by rw [rowsOf_len]; exact h)]
 simp [rowsOf]
theorem rows_of_sizes {w : World} {v : Value} {len : Nat} {f : Nat → Int × Int × Int} (h : SizesAt w v len f) : ∃ a cap, v = .slice a (rowsOf f len).length cap ∧ RowsAt w a cap 3 Bk.encP (rowsOf f len) := by
 obtain ⟨a, cap, rfl, h1, h2, h3⟩ := h; refine ⟨a, cap, by rw [rowsOf_len], ?_⟩
 refine ⟨by rw [rowsOf_len]; exact h1, h2, fun h0 => ?_⟩
 rw [rowsOf_len] at h0; obtain ⟨b, off, rfl, hb, hc⟩ := h3 h0; refine ⟨b, off, rfl, hb, fun j hj i u hu => ?_⟩
 rw [rowsOf_len] at hj; rw [rowsOf_at f len j hj] at hu; obtain ⟨c0, c1, c2⟩ := hc j hj
 match i, hu with
 | 0, hu => simp [Bk.encP] at hu; subst hu; exact c0
 | 1, hu => simp [Bk.encP] at hu; subst hu; exact c1
 | 2, hu => simp [Bk.encP] at hu; subst hu; exact c2
set_option maxHeartbeats 1000000 in
theorem cloneZ_any (a : Option Addr) (cap : Nat) (l : List (Int × Int × Int)) (w : World) (h : RowsAt w a cap 3 Bk.encP l) (hl : l.length ≤ 1000) :
  Calls Tryz.prog 69 #[.slice a l.length cap] w fun e w' => ∃ v, e = .returned v ∧ OwnAt w' w.heap.size 32 3 Bk.encP v l ∧ Below w.heap.size w w' := by
 obtain ⟨i0, hi, hz0, hz1, hz2⟩ := infoSize; have q22 : ∀ (w : World) (a : Option Addr) (n c n' c' : Nat), (binOp .eql 22 (.slice a n c) (.slice none n' c')).run Tryz.prog w = .ok (.bool a.isNone) w := fun w a n c n' c' => Lib.run_eql_slice_nil w _ _ a n c n' c' Tryz.underlying22
 cases a with
 | none =>
   have h0 : l = [] := by
    rcases l with _ | ⟨x, l⟩
    ·rfl
    ·obtain ⟨b, off, e, _⟩ := h.2.2 (by simp)
     cases e
   subst h0; clear h hi hz0 hz1 hz2
   go_enter Tryz.func69, Tryz.ntmps69
   go_wp2; go_returns; exact ⟨_, rfl, Or.inl ⟨rfl, rfl⟩, Below.refl _ _⟩
 | some ad =>
   have HA : Hid (∀ j u, (l.flatMap Bk.encP)[j]? = some u → w.cell? (ad.add j) = some u) := h.flat size_len
   have HL : Hid ((l.flatMap Bk.encP).length = l.length * 3) := flat_len Bk.encP 3 size_len l; have H1 : Hid (∀ u ∈ l.flatMap Bk.encP, u.oneCell' = true) := size_one l
   clear h
   go_enter Tryz.func69, Tryz.ntmps69
   go_wp2_with (at_builtin; refine wpList_append_own _ rfl _ _ 22 rfl w.heap.size 32 i0 _ 3 24 Tryz.underlying22 hi hz0 hz1 hz2 rfl (by omega) _ _ _ rfl (World.ownsRow_made w #[] 0 (Nat.le_refl _) (Nat.zero_le _) (by simp)) ad l.length cap (l.flatMap Bk.encP) rfl ?qc1 ?qc2 ?qc3 ?qc4 ?qc5 ?qc6 ?_)
   case qc1 => exact HL.out
   case qc2 => intro j u hj; exact Lib.cell?_alloc_some _ (HA.out j u hj)
   case qc3 => exact H1.out
   case qc4 => unfold maxLen; omega
   case qc5 => omega
   case qc6 => simp
   intro v' w1 hown hgrow hnil
   have o1 : w1.ownsRow w.heap.size 32 3 v' l.length (l.flatMap Bk.encP) := by simpa using hown
   have O1 : Hid (w1.ownsRow w.heap.size 32 3 v' l.length (l.flatMap Bk.encP)) := o1; clear o1; have G1 : Hid (Below w.heap.size w w1) := ((Below.refl _ w).alloc (Nat.le_refl _) _).grown hgrow (by simp) (by intro k hk; simp [Value.ownBlock] at hk; omega); clear hown hgrow hnil; go_wp2; go_returns; exact ⟨v', rfl, OwnAt.of_owns size_len O1.out, G1.out⟩
end Hs
end Go.Proofs.YtopgllmjeliklaaGreatDoor
