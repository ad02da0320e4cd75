/- Chapter 10: what whoever drives looks at: the view, the stay of a car, what blocks the way; contracts for the laws. -/
import Derived.Test.YtihapeagjikiaaaJBookPure
import Derived.Test.YtihapeagjikiaaaJRStayOf
import Derived.Test.YtihapeagjikiaaaJPlantK
import Derived.Test.YtihapeagjikiaaaJPlanLaw
import Derived.Deep.DeepCutAuto
namespace Go.Proofs.Ytihapeagjikiaaa
open Go.Shelf Go.Lib Go.ChangeShapes Go.WideShapes Go.ChangeAt Go.RowKit
set_option maxRecDepth 100000
set_option linter.unusedSimpArgs false
set_option linter.unusedVariables false

namespace Tn
open Bk Pl
/-- The stay of a car. -/
def carO (b : Book) (id : Int) : Option Stay := b.stays.find? (fun s => s.id == id)
theorem idx_find (p : Stay → Bool) (l : List Stay) : (stayIdx p l < 0 ∧ l.find? p = none) ∨ ∃ k, k < l.length ∧ stayIdx p l = (k : Int) ∧ l.find? p = some l[k]! := by
  have := idxByFrom_spec (fun (_ y : Stay) => p y) default l 0
  unfold stayIdx Lib.idxBy
  rcases this with ⟨e, h⟩ | ⟨k, hk, e, h1, h2⟩
  · exact Or.inl ⟨by rw [e]; decide, find_not l h⟩
  · exact Or.inr ⟨k, hk, by rw [e]; simp, find_upto l k hk h2 h1⟩
/-- The view's cells. -/
def vArr (b : Book) (s : St) (pb : Nat) (q1 q2 q3 bz : Bool) (jt : Int) (jf : Bool) (sv : Stay) : Array Value :=
  #[.int .i64 b.last, .slice b.sa b.stays.length b.sc, .slice b.ja b.jobs.length b.jc, .int .i64 s.h, .int .i64 s.ex, .bool s.op, .int .i64 s.pe, .int .i64 s.li, .int .i64 s.ba, .bool q1, .bool q2, .bool q3, .func (.func 93) #[.pointer (some ⟨pb, 0, none⟩)] #[], .func (.func 94) #[.pointer (some ⟨pb, 0, none⟩)] #[], .func (.func 95) #[.pointer (some ⟨pb, 0, none⟩)] #[], .bool bz, .int .i64 jt, .bool jf, .int .i64 sv.t, .int .i64 sv.id, .int .i64 sv.a, .int .i64 sv.b, .int .i64 sv.c, .int .i64 sv.x, .int .i64 sv.y, .int .i64 sv.z]
/-- Block vb is the view of machine s by book b. -/
structure ViewAt (w : World) (vb pb mb n : Nat) (s : St) (b : Book) (q1 q2 q3 bz : Bool) (jt : Int) (jf : Bool) (sv : Stay) : Prop where
  p : IsP w pb mb n s
  v : Blk w vb (vArr b s pb q1 q2 q3 bz jt jf sv) 169
  k : b.At w
theorem ViewAt.next {w wx : World} {vb pb mb n : Nat} {s : St} {b : Book} {q1 q2 q3 bz : Bool} {jt : Int} {jf : Bool} {sv : Stay} (h : ViewAt w vb pb mb n s b q1 q2 q3 bz jt jf sv) (hb : Below w.heap.size w wx) : ViewAt wx vb pb mb n s b q1 q2 q3 bz jt jf sv :=
  ⟨h.p.below hb, h.v.below hb, h.k.below hb⟩
def StayPost (b : Book) (id : Int) (w : World) (e : Ending) (w' : World) : Prop := e = .returned (.tuple #[.agg (stayA (carO b id)), .bool (carO b id).isSome]) ∧ Below w.heap.size w w'

set_option maxHeartbeats 4000000 in
theorem vstayOf_any (vb pb mb n : Nat) (s : St) (b : Book) (q1 q2 q3 bz : Bool) (jt : Int) (jf : Bool) (vs : Stay) (id : Int) (w : World) (h : ViewAt w vb pb mb n s b q1 q2 q3 bz jt jf vs) :
    Calls Try.prog 138 #[.pointer (some ⟨vb, 0, none⟩), .int .i64 id] w (StayPost b id w) := by
  have HOF : Hid (∀ wx, Below w.heap.size w wx → Calls Try.prog 60 #[.agg #[.int .i64 b.last, .slice b.sa b.stays.length b.sc, .slice b.ja b.jobs.length b.jc], .int .i64 id] wx fun e w' => e = .returned (.int .i64 (ofI b id)) ∧ Below wx.heap.size wx w') := fun wx hx => of_any b id wx (h.k.below hx)
  have HRS : Hid (∀ wx, Below w.heap.size w wx → RowsAt wx b.sa b.sc 8 Stay.enc b.stays) := fun wx hx => h.k.1.below hx
  have HV : Hid (∀ wx, Below w.heap.size w wx → Blk wx vb (vArr b s pb q1 q2 q3 bz jt jf vs) 169) := fun wx hx => h.v.below hx
  have hm1 : b.sc ≤ maxLen := h.k.1.2.1
  have hn1 : b.stays.length ≤ b.sc := h.k.1.1
  unfold maxLen at hm1
  have hix := idx_find (fun s : Stay => s.id == id) b.stays
  have HP : Hid (∀ (o : Option Stay) w', carO b id = o → Below w.heap.size w w' → StayPost b id w (.returned (.tuple #[.agg (stayA o), .bool o.isSome])) w') := fun o w' ho hb => by subst ho; exact ⟨rfl, hb⟩
  generalize StayPost b id w = PP at *
  obtain ⟨w0, hw0⟩ : ∃ w0, w.alloc (.cells #[.int .i64 0, .int .i64 0, .int .i64 0, .int .i64 0, .int .i64 0, .int .i64 0, .int .i64 0, .int .i64 0] 62) = w0 := ⟨_, rfl⟩
  have N0 : Hid (Below w.heap.size w w0 ∧ Blk w0 w.heap.size #[.int .i64 0, .int .i64 0, .int .i64 0, .int .i64 0, .int .i64 0, .int .i64 0, .int .i64 0, .int .i64 0] 62) := by
    show _ ∧ _
    rw [← hw0]
    exact ⟨B.new1 _ _, Blk.new _ _ _⟩
  have rv := (HV.out _ N0.out.1).cell
  unfold vArr at rv
  clear h
  go_enter Try.func138, Try.ntmps138
  go_wp2_with fail
  clear hw0 rv
  refine (HOF.out _ N0.out.1).mono ?_
  rintro e w1 ⟨rfl, b1⟩
  have N1 : Hid (Below w.heap.size w w1 ∧ Blk w1 w.heap.size #[.int .i64 0, .int .i64 0, .int .i64 0, .int .i64 0, .int .i64 0, .int .i64 0, .int .i64 0, .int .i64 0] 62) := ⟨B.next N0.out.1 b1 N0.out.1.size, N0.out.2.below b1⟩
  clear b1 N0 HOF
  have rv := (HV.out _ N1.out.1).cell
  unfold vArr at rv
  rcases hix with ⟨hi, hf⟩ | ⟨k, hk, hi, hf⟩
  · have hfi : carO b id = none := hf
    have hlt : ofI b id < 0 := hi
    generalize ofI b id = qo at hlt ⊢
    clear hi hf
    obtain ⟨w9, hw9⟩ : ∃ w9, ((((((((w1.setCell ⟨w.heap.size, 0, none⟩ (.int .i64 0)).setCell ⟨w.heap.size, 1, none⟩ (.int .i64 0)).setCell ⟨w.heap.size, 2, none⟩ (.int .i64 0)).setCell ⟨w.heap.size, 3, none⟩ (.int .i64 0)).setCell ⟨w.heap.size, 4, none⟩ (.int .i64 0)).setCell ⟨w.heap.size, 5, none⟩ (.int .i64 0)).setCell ⟨w.heap.size, 6, none⟩ (.int .i64 0)).setCell ⟨w.heap.size, 7, none⟩ (.int .i64 0)) = w9 := ⟨_, rfl⟩
    have K9 : Hid (Blk w9 w.heap.size #[.int .i64 0, .int .i64 0, .int .i64 0, .int .i64 0, .int .i64 0, .int .i64 0, .int .i64 0, .int .i64 0] 62 ∧ Below w.heap.size w w9) := by
      show _ ∧ _
      rw [← hw9]
      exact ⟨((((((((N1.out.2.set 0 (.int .i64 0)).set 1 (.int .i64 0)).set 2 (.int .i64 0)).set 3 (.int .i64 0)).set 4 (.int .i64 0)).set 5 (.int .i64 0)).set 6 (.int .i64 0)).set 7 (.int .i64 0)), ((((((((N1.out.1.setCell (p := ⟨w.heap.size, 0, none⟩) (Nat.le_refl _) _).setCell (p := ⟨w.heap.size, 1, none⟩) (Nat.le_refl _) _).setCell (p := ⟨w.heap.size, 2, none⟩) (Nat.le_refl _) _).setCell (p := ⟨w.heap.size, 3, none⟩) (Nat.le_refl _) _).setCell (p := ⟨w.heap.size, 4, none⟩) (Nat.le_refl _) _).setCell (p := ⟨w.heap.size, 5, none⟩) (Nat.le_refl _) _).setCell (p := ⟨w.heap.size, 6, none⟩) (Nat.le_refl _) _).setCell (p := ⟨w.heap.size, 7, none⟩) (Nat.le_refl _) _)⟩
    have HF : Hid (PP (.returned (.tuple #[.agg #[.int .i64 0, .int .i64 0, .int .i64 0, .int .i64 0, .int .i64 0, .int .i64 0, .int .i64 0, .int .i64 0], .bool false])) w9) := HP.out none w9 hfi K9.out.2
    have g9 := K9.out.1.cell
    have gg := N1.out.2.cell
    have ff := N1.out.2.free
    go_wp2
    (try simp only [Exit.inBlock, Exit.then])
    refine bodyPost_ret (v := .tuple #[.agg #[.int .i64 0, .int .i64 0, .int .i64 0, .int .i64 0, .int .i64 0, .int .i64 0, .int .i64 0, .int .i64 0], .bool false]) (by simp [results, Try.results138, go_sem, g9]; try rfl) rfl ?_
    exact HF.out
  · have hfi : carO b id = some b.stays[k]! := hf
    have hoi : ofI b id = (k : Int) := hi
    rw [hoi]
    clear hi hf hoi
    have hkz : (k : Int) < (b.stays.length : Int) := by omega
    obtain ⟨sb, soff, hsa⟩ := rows_some (HRS.out _ N1.out.1) (by omega)
    have hrr := HRS.out _ N1.out.1
    rw [hsa] at hrr rv
    have s0 := rows_cell hrr k hk 0 _ rfl
    have s1 := rows_cell hrr k hk 1 _ rfl
    have s2 := rows_cell hrr k hk 2 _ rfl
    have s3 := rows_cell hrr k hk 3 _ rfl
    have s4 := rows_cell hrr k hk 4 _ rfl
    have s5 := rows_cell hrr k hk 5 _ rfl
    have s6 := rows_cell hrr k hk 6 _ rfl
    have s7 := rows_cell hrr k hk 7 _ rfl
    simp only [Nat.add_zero] at s0
    generalize b.stays[k]! = sv at *
    clear hrr
    obtain ⟨w9, hw9⟩ : ∃ w9, ((((((((w1.setCell ⟨w.heap.size, 0, none⟩ (.int .i64 sv.t)).setCell ⟨w.heap.size, 1, none⟩ (.int .i64 sv.id)).setCell ⟨w.heap.size, 2, none⟩ (.int .i64 sv.a)).setCell ⟨w.heap.size, 3, none⟩ (.int .i64 sv.b)).setCell ⟨w.heap.size, 4, none⟩ (.int .i64 sv.c)).setCell ⟨w.heap.size, 5, none⟩ (.int .i64 sv.x)).setCell ⟨w.heap.size, 6, none⟩ (.int .i64 sv.y)).setCell ⟨w.heap.size, 7, none⟩ (.int .i64 sv.z)) = w9 := ⟨_, rfl⟩
    have K9 : Hid (Blk w9 w.heap.size #[.int .i64 sv.t, .int .i64 sv.id, .int .i64 sv.a, .int .i64 sv.b, .int .i64 sv.c, .int .i64 sv.x, .int .i64 sv.y, .int .i64 sv.z] 62 ∧ Below w.heap.size w w9) := by
      show _ ∧ _
      rw [← hw9]
      exact ⟨((((((((N1.out.2.set 0 (.int .i64 sv.t)).set 1 (.int .i64 sv.id)).set 2 (.int .i64 sv.a)).set 3 (.int .i64 sv.b)).set 4 (.int .i64 sv.c)).set 5 (.int .i64 sv.x)).set 6 (.int .i64 sv.y)).set 7 (.int .i64 sv.z)), ((((((((N1.out.1.setCell (p := ⟨w.heap.size, 0, none⟩) (Nat.le_refl _) _).setCell (p := ⟨w.heap.size, 1, none⟩) (Nat.le_refl _) _).setCell (p := ⟨w.heap.size, 2, none⟩) (Nat.le_refl _) _).setCell (p := ⟨w.heap.size, 3, none⟩) (Nat.le_refl _) _).setCell (p := ⟨w.heap.size, 4, none⟩) (Nat.le_refl _) _).setCell (p := ⟨w.heap.size, 5, none⟩) (Nat.le_refl _) _).setCell (p := ⟨w.heap.size, 6, none⟩) (Nat.le_refl _) _).setCell (p := ⟨w.heap.size, 7, none⟩) (Nat.le_refl _) _)⟩
    have HF : Hid (PP (.returned (.tuple #[.agg #[.int .i64 sv.t, .int .i64 sv.id, .int .i64 sv.a, .int .i64 sv.b, .int .i64 sv.c, .int .i64 sv.x, .int .i64 sv.y, .int .i64 sv.z], .bool true])) w9) := HP.out (some sv) w9 hfi K9.out.2
    have g9 := K9.out.1.cell
    have gg := N1.out.2.cell
    have ff := N1.out.2.free
    go_wp2
    (try simp only [Exit.inBlock, Exit.then])
    refine bodyPost_ret (v := .tuple #[.agg #[.int .i64 sv.t, .int .i64 sv.id, .int .i64 sv.a, .int .i64 sv.b, .int .i64 sv.c, .int .i64 sv.x, .int .i64 sv.y, .int .i64 sv.z], .bool true]) (by simp [results, Try.results138, go_sem, g9]; try rfl) rfl ?_
    exact HF.out

end Tn
end Go.Proofs.Ytihapeagjikiaaa

namespace Go.Proofs.Ytihapeagjikiaaa
open Go.Shelf Go.Lib Go.ChangeShapes Go.WideShapes Go.ChangeAt Go.RowKit
set_option maxRecDepth 100000
set_option linter.unusedSimpArgs false
set_option linter.unusedVariables false

namespace Tn
open Bk Pl
/-- A stay whose place is one (or none). -/
def sOk (v : Stay) : Prop := 0 ≤ v.x ∧ v.x ≤ 4 ∧ 0 ≤ v.y ∧ v.y ≤ 1 ∧ 0 ≤ v.z ∧ v.z ≤ 1
/-- Does the stay of a car have the place through which the one that is fetched must come? -/
def blocksO (D : DataW Unit) (bz jf : Bool) (vs : Stay) : Option Stay → Bool
  | none => false
  | some x => bz && jf && vs.z == 1 && carOf D vs.x vs.y vs.z == vs.id && eqP vs.x vs.y 0 x.x x.y x.z
def blocksB (b : Book) (s : St) (bz jf : Bool) (vs : Stay) (id : Int) : Bool := blocksO s.D bz jf vs (carO b id)
theorem vat_any (vb pb mb n : Nat) (s : St) (b : Book) (q1 q2 q3 bz : Bool) (jt : Int) (jf : Bool) (vs : Stay) (x y z : Int) (w : World) (h : ViewAt w vb pb mb n s b q1 q2 q3 bz jt jf vs) (hx : 0 ≤ x ∧ x ≤ 4) (hy : 0 ≤ y ∧ y ≤ 1) (hz : 0 ≤ z ∧ z ≤ 1) :
    Calls Try.prog 93 #[.pointer (some ⟨pb, 0, none⟩), .agg #[.int .i64 x, .int .i64 y, .int .i64 z]] w fun e w' => e = .returned (.int .i64 (carOf s.D x y z)) ∧ Below w.heap.size w w' :=
  at_any pb mb n s.D x y z w h.p.c7 h.p.cars (wfI (by omega)) (wfI (by omega)) (wfI (by omega))

set_option maxHeartbeats 8000000 in
theorem vblocks_any (vb pb mb n : Nat) (s : St) (b : Book) (q1 q2 q3 bz : Bool) (jt : Int) (jf : Bool) (vs : Stay) (id : Int) (w : World) (h : ViewAt w vb pb mb n s b q1 q2 q3 bz jt jf vs) (hs : sOk vs) :
    Calls Try.prog 98 #[.pointer (some ⟨vb, 0, none⟩), .int .i64 id] w fun e w' => e = .returned (.bool (blocksB b s bz jf vs id)) ∧ Below w.heap.size w w' := by
  have HSO : Hid (∀ wx, Below w.heap.size w wx → Calls Try.prog 138 #[.pointer (some ⟨vb, 0, none⟩), .int .i64 id] wx (StayPost b id wx)) := fun wx hx => vstayOf_any vb pb mb n s b q1 q2 q3 bz jt jf vs id wx (h.next hx)
  have HAT : Hid (∀ wx, Below w.heap.size w wx → Calls Try.prog 93 #[.pointer (some ⟨pb, 0, none⟩), .agg #[.int .i64 vs.x, .int .i64 vs.y, .int .i64 vs.z]] wx fun e w' => e = .returned (.int .i64 (carOf s.D vs.x vs.y vs.z)) ∧ Below wx.heap.size wx w') := fun wx hx => vat_any vb pb mb n s b q1 q2 q3 bz jt jf vs vs.x vs.y vs.z wx (h.next hx) ⟨hs.1, hs.2.1⟩ ⟨hs.2.2.1, hs.2.2.2.1⟩ ⟨hs.2.2.2.2.1, hs.2.2.2.2.2⟩
  have HFR : Hid (∀ wx, Calls Try.prog 29 #[.agg #[.int .i64 vs.x, .int .i64 vs.y, .int .i64 vs.z]] wx fun e w' => e = .returned (.agg #[.int .i64 vs.x, .int .i64 vs.y, .int .i64 0]) ∧ Below wx.heap.size wx w') := fun wx => front_any _ _ _ wx
  have HV : Hid (∀ wx, Below w.heap.size w wx → Blk wx vb (vArr b s pb q1 q2 q3 bz jt jf vs) 169) := fun wx hx => h.v.below hx
  have KB0 : Hid (blocksB b s bz jf vs id = blocksO s.D bz jf vs (carO b id)) := rfl
  have HP : Hid (∀ (q : Bool) w', q = blocksB b s bz jf vs id → Below w.heap.size w w' → Ending.returned (.bool q) = .returned (.bool (blocksB b s bz jf vs id)) ∧ Below w.heap.size w w') := fun q w' hq hb => by subst hq; exact ⟨rfl, hb⟩
  generalize hPP : (fun (e : Ending) (w' : World) => e = .returned (.bool (blocksB b s bz jf vs id)) ∧ Below w.heap.size w w') = PP
  have HP2 : Hid (∀ (q : Bool) w', q = blocksB b s bz jf vs id → Below w.heap.size w w' → PP (.returned (.bool q)) w') := fun q w' hq hb => by rw [← hPP]; exact HP.out q w' hq hb
  clear hPP HP h
  have HP := HP2
  clear HP2
  obtain ⟨bb, hbb⟩ : ∃ bb, blocksB b s bz jf vs id = bb := ⟨_, rfl⟩
  rw [hbb] at HP KB0
  clear hbb
  obtain ⟨cv, hcv⟩ : ∃ cv, carOf s.D vs.x vs.y vs.z = cv := ⟨_, rfl⟩
  rw [hcv] at HAT
  go_enter Try.func98, Try.ntmps98
  go_wp2_with fail
  refine (HSO.out _ (Below.refl _ _)).mono ?_
  rintro e w1 ⟨rfl, b1⟩
  obtain ⟨o, ho⟩ : ∃ o, carO b id = o := ⟨_, rfl⟩
  rw [ho] at KB0 ⊢
  clear ho HSO
  have rv := (HV.out _ b1).cell
  unfold vArr at rv
  cases o with
  | none =>
    simp only [stayA, Option.isSome]
    have KB : Hid (bb = false) := KB0
    clear KB0
    obtain ⟨w3, hw3⟩ : ∃ w3, (w1.alloc (.cells #[.int .i64 0, .int .i64 0, .int .i64 0, .int .i64 0, .int .i64 0, .int .i64 0, .int .i64 0, .int .i64 0] 62)).alloc (.cells #[.int .i64 vs.x, .int .i64 vs.y, .int .i64 vs.z] 38) = w3 := ⟨_, rfl⟩
    have N3 : Hid (Below w.heap.size w w3 ∧ Below w.heap.size w w3) := by
      show _ ∧ _
      rw [← hw3]
      have := (b1.alloc b1.size (.cells #[.int .i64 0, .int .i64 0, .int .i64 0, .int .i64 0, .int .i64 0, .int .i64 0, .int .i64 0, .int .i64 0] 62)).alloc (by have := b1.size; simp; omega) (.cells #[.int .i64 vs.x, .int .i64 vs.y, .int .i64 vs.z] 38)
      exact ⟨this, this⟩
    have HW3 : Hid ((w1.alloc (.cells #[.int .i64 0, .int .i64 0, .int .i64 0, .int .i64 0, .int .i64 0, .int .i64 0, .int .i64 0, .int .i64 0] 62)).alloc (.cells #[.int .i64 vs.x, .int .i64 vs.y, .int .i64 vs.z] 38) = w3) := hw3
    clear hw3
    have rv2 := (HV.out _ (b1.alloc b1.size (.cells #[.int .i64 0, .int .i64 0, .int .i64 0, .int .i64 0, .int .i64 0, .int .i64 0, .int .i64 0, .int .i64 0] 62))).cell
    unfold vArr at rv2
    go_upto_region 3 with fail
    simp only [HW3.out]
    clear rv2
    clear HW3 rv HAT HV
    have HAQ : Hid True := trivial
    refine wp_region_below (by kernel_rfl) (by kernel_rfl) ?_
    repeat (go_big_quiet_step (first | (go_at_call 93; exact Calls.wof (HAQ.out _)) | (go_at_call 29; exact Calls.wof (HFR.out _))))
    refine wpQuiet_nil ?_
    rintro wb ⟨⟨_, NQ⟩, rfl⟩
    go_wp2
    exact HP.out _ _ (by rw [KB.out]) (B.next N3.out.1 NQ N3.out.1.size)
  | some x =>
    simp only [stayA, Option.isSome]
    have KB : Hid (bb = (bz && jf && vs.z == 1 && cv == vs.id && eqP vs.x vs.y 0 x.x x.y x.z)) := by show _ = _; rw [KB0.out, ← hcv]; rfl
    clear KB0 hcv
    obtain ⟨w2, hw2⟩ : ∃ w2, w1.alloc (.cells #[.int .i64 x.t, .int .i64 x.id, .int .i64 x.a, .int .i64 x.b, .int .i64 x.c, .int .i64 x.x, .int .i64 x.y, .int .i64 x.z] 62) = w2 := ⟨_, rfl⟩
    obtain ⟨w3, hw3⟩ : ∃ w3, w2.alloc (.cells #[.int .i64 vs.x, .int .i64 vs.y, .int .i64 vs.z] 38) = w3 := ⟨_, rfl⟩
    obtain ⟨sb, hsb⟩ : ∃ sb, w1.heap.size = sb := ⟨_, rfl⟩
    obtain ⟨hb, hhb⟩ : ∃ hb, w2.heap.size = hb := ⟨_, rfl⟩
    have N3 : Hid (Below w.heap.size w w3 ∧ Blk w3 sb #[.int .i64 x.t, .int .i64 x.id, .int .i64 x.a, .int .i64 x.b, .int .i64 x.c, .int .i64 x.x, .int .i64 x.y, .int .i64 x.z] 62 ∧ Blk w3 hb #[.int .i64 vs.x, .int .i64 vs.y, .int .i64 vs.z] 38) := by
      show _ ∧ _ ∧ _
      rw [← hw3, ← hw2]
      have hh2 : hb = (w1.alloc (.cells #[.int .i64 x.t, .int .i64 x.id, .int .i64 x.a, .int .i64 x.b, .int .i64 x.c, .int .i64 x.x, .int .i64 x.y, .int .i64 x.z] 62)).heap.size := by rw [hw2, hhb]
      exact ⟨(b1.alloc b1.size _).alloc (by have := b1.size; simp; omega) _, (Blk.new1 hsb.symm _ _).old _, Blk.new1 hh2 _ _⟩
    have HW2 : Hid (w1.alloc (.cells #[.int .i64 x.t, .int .i64 x.id, .int .i64 x.a, .int .i64 x.b, .int .i64 x.c, .int .i64 x.x, .int .i64 x.y, .int .i64 x.z] 62) = w2) := hw2
    have HW3 : Hid (w2.alloc (.cells #[.int .i64 vs.x, .int .i64 vs.y, .int .i64 vs.z] 38) = w3) := hw3
    have HSZ : Hid (sb + 1 = hb) := by show _ = _; rw [← hsb, ← hhb, ← hw2]; simp
    clear hw2 hw3 hhb
    have rv2 := (HV.out _ (b1.alloc b1.size (.cells #[.int .i64 x.t, .int .i64 x.id, .int .i64 x.a, .int .i64 x.b, .int .i64 x.c, .int .i64 x.x, .int .i64 x.y, .int .i64 x.z] 62))).cell
    unfold vArr at rv2
    go_upto_region 3 with fail
    clear rv2
    simp only [HW2.out, HW3.out, HSZ.out, hsb]
    clear HW2 HW3 HSZ hsb rv
    have HAQ : Hid (∀ p : BelowW w3, Calls Try.prog 93 #[.pointer (some ⟨pb, 0, none⟩), .agg #[.int .i64 vs.x, .int .i64 vs.y, .int .i64 vs.z]] p.wd fun e w' => e = .returned (.int .i64 cv) ∧ Below p.wd.heap.size p.wd w') := fun p => HAT.out _ (B.next N3.out.1 p.hb N3.out.1.size)
    have HVC : Hid (∀ p : BelowW w3, Blk p.wd vb (vArr b s pb q1 q2 q3 bz jt jf vs) 169) := fun p => HV.out _ (B.next N3.out.1 p.hb N3.out.1.size)
    have v12 := fun p : BelowW w3 => (HVC.out p).cell 12
    have v15 := fun p : BelowW w3 => (HVC.out p).cell 15
    have v17 := fun p : BelowW w3 => (HVC.out p).cell 17
    have v19 := fun p : BelowW w3 => (HVC.out p).cell 19
    simp only [vArr] at v12 v15 v17 v19
    have h0 := fun p : BelowW w3 => (N3.out.2.2.below p.hb).cell 0
    have h1 := fun p : BelowW w3 => (N3.out.2.2.below p.hb).cell 1
    have h2 := fun p : BelowW w3 => (N3.out.2.2.below p.hb).cell 2
    have x5 := fun p : BelowW w3 => (N3.out.2.1.below p.hb).cell 5
    have x6 := fun p : BelowW w3 => (N3.out.2.1.below p.hb).cell 6
    have x7 := fun p : BelowW w3 => (N3.out.2.1.below p.hb).cell 7
    have e1 := eqP_run vs.x vs.y 0 x.x x.y x.z
    have g1 := eqP_guard vs.x vs.y 0 x.x x.y x.z
    generalize eqP vs.x vs.y 0 x.x x.y x.z = qe at e1 KB
    clear HVC HV HAT b1
    cases bz
    ·
      refine wp_region_below (by kernel_rfl) (by kernel_rfl) ?_
      repeat (go_big_quiet_step (first | (go_at_call 93; exact Calls.wof (HAQ.out _)) | (go_at_call 29; exact Calls.wof (HFR.out _))))
      refine wpQuiet_nil ?_
      rintro wb ⟨⟨_, NQ⟩, rfl⟩
      go_wp2
      exact HP.out _ _ (by rw [KB.out]; simp) (B.next N3.out.1 NQ N3.out.1.size)
    ·
      cases jf
      ·
        refine wp_region_below (by kernel_rfl) (by kernel_rfl) ?_
        repeat (go_big_quiet_step (first | (go_at_call 93; exact Calls.wof (HAQ.out _)) | (go_at_call 29; exact Calls.wof (HFR.out _))))
        refine wpQuiet_nil ?_
        rintro wb ⟨⟨_, NQ⟩, rfl⟩
        go_wp2
        exact HP.out _ _ (by rw [KB.out]; simp) (B.next N3.out.1 NQ N3.out.1.size)
      ·
        cases c3 : (vs.z == 1)
        ·
          rw [c3] at KB
          refine wp_region_below (by kernel_rfl) (by kernel_rfl) ?_
          repeat (go_big_quiet_step (first | (go_at_call 93; exact Calls.wof (HAQ.out _)) | (go_at_call 29; exact Calls.wof (HFR.out _))))
          refine wpQuiet_nil ?_
          rintro wb ⟨⟨_, NQ⟩, rfl⟩
          go_wp2
          exact HP.out _ _ (by rw [KB.out]; simp) (B.next N3.out.1 NQ N3.out.1.size)
        ·
          rw [c3] at KB
          cases c4 : (cv == vs.id)
          ·
            rw [c4] at KB
            refine wp_region_below (by kernel_rfl) (by kernel_rfl) ?_
            repeat (go_big_quiet_step (first | (go_at_call 93; exact Calls.wof (HAQ.out _)) | (go_at_call 29; exact Calls.wof (HFR.out _))))
            refine wpQuiet_nil ?_
            rintro wb ⟨⟨_, NQ⟩, rfl⟩
            go_wp2
            exact HP.out _ _ (by rw [KB.out]; simp) (B.next N3.out.1 NQ N3.out.1.size)
          ·
            rw [c4] at KB
            refine wp_region_below (by kernel_rfl) (by kernel_rfl) ?_
            repeat (go_big_quiet_step (first | (go_at_call 93; exact Calls.wof (HAQ.out _)) | (go_at_call 29; exact Calls.wof (HFR.out _))))
            refine wpQuiet_nil ?_
            rintro wb ⟨⟨_, NQ⟩, rfl⟩
            go_wp2
            exact HP.out _ _ (by rw [KB.out]; simp) (B.next N3.out.1 NQ N3.out.1.size)

end Tn
end Go.Proofs.Ytihapeagjikiaaa

namespace Go.Proofs.Ytihapeagjikiaaa
open Go.Shelf Go.Lib Go.ChangeShapes Go.WideShapes Go.ChangeAt Go.RowKit
set_option maxRecDepth 100000
set_option linter.unusedSimpArgs false
set_option linter.unusedVariables false

namespace Tn
open Bk Pl
/-- A list of goals, maybe none. -/
def Goals (w : World) (v : Value) (l : List (Int × Int)) : Prop := (v = .slice none 0 0 ∧ l = []) ∨ GoalsAt w v l
theorem Goals.nil (w : World) : Goals w (.slice none 0 0) [] := Or.inl ⟨rfl, rfl⟩
theorem Goals.below {w w' : World} {v : Value} {l : List (Int × Int)} (h : Goals w v l) (hb : Below w.heap.size w w') : Goals w' v l := by
  rcases h with h | ⟨g, cap, hv, hg, hl, hc⟩
  · exact Or.inl h
  · refine Or.inr ⟨g, cap, hv, Nat.lt_of_lt_of_le hg hb.size, hl, fun k hk => ?_⟩
    exact ⟨(hb.cell (p := ⟨g, k * 2, none⟩) hg).trans (hc k hk).1, (hb.cell (p := ⟨g, k * 2 + 1, none⟩) hg).trans (hc k hk).2⟩
def gGive : List (Int × Int) := [(2, 0), (5, 0), (1, 0), (8, 0), (6, 0)]
def gWel : List (Int × Int) := [(2, 0), (5, 0), (1, 0), (6, 0)]
def gTake : List (Int × Int) := [(2, 0), (5, 0), (1, 0), (7, 0)]
def gThere (kind x y z : Int) : List (Int × Int) := [(2, 0), (5, 0), (1, x * 3), (2, extI y z), (kind, 0), (2, 0)]
def welG (s : St) : List (Int × Int) := if s.op = true then [] else gWel
def overB (s : St) (jf : Bool) (vs : Stay) : Bool := !hasB s vs.id || (if jf = true then s.ba == vs.id else carOf s.D vs.x vs.y vs.z == vs.id)
def putG (s : St) (vs : Stay) : List (Int × Int) := if (s.ba == vs.id) = true then gTake else []

set_option maxHeartbeats 2000000 in
theorem vwelcome_any (vb pb mb n : Nat) (s : St) (b : Book) (q1 q2 q3 bz : Bool) (jt : Int) (jf : Bool) (vs : Stay) (w : World) (h : ViewAt w vb pb mb n s b q1 q2 q3 bz jt jf vs) :
    Calls Try.prog 100 #[.pointer (some ⟨vb, 0, none⟩)] w fun e w' => ∃ v, e = .returned v ∧ Goals w' v (welG s) ∧ Below w.heap.size w w' := by
  have rv := h.v.cell
  unfold vArr at rv
  clear h
  have KW : Hid (welG s = if s.op = true then [] else gWel) := rfl
  have HP : Hid (∀ v w', Goals w' v (welG s) → Below w.heap.size w w' → ∃ v', Ending.returned v = .returned v' ∧ Goals w' v' (welG s) ∧ Below w.heap.size w w') := fun v w' h1 h2 => ⟨v, rfl, h1, h2⟩
  generalize hPP : (fun (e : Ending) (w' : World) => ∃ v, e = .returned v ∧ Goals w' v (welG s) ∧ Below w.heap.size w w') = PP
  have HP2 : Hid (∀ v w', Goals w' v (welG s) → Below w.heap.size w w' → PP (.returned v) w') := fun v w' h1 h2 => by rw [← hPP]; exact HP.out v w' h1 h2
  clear hPP HP
  have HP := HP2
  clear HP2
  cases hop : s.op
  · rw [hop] at rv
    have KW2 : Hid (welG s = gWel) := by show _ = _; rw [KW.out, hop]; rfl
    rw [KW2.out] at HP
    clear KW KW2 hop
    go_enter Try.func100, Try.ntmps100
    go_wp2_with fail
    refine (welcome_any _).mono ?_
    rintro e w2 ⟨v, rfl, ho⟩
    have X : Hid (Goals w2 v gWel ∧ Below w.heap.size w w2) := ⟨Or.inr (ho.at (by decide) (by decide)), ho.2⟩
    clear ho
    go_wp2
    exact HP.out _ _ X.out.1 X.out.2
  · rw [hop] at rv
    have KW2 : Hid (welG s = []) := by show _ = _; rw [KW.out, hop]; rfl
    rw [KW2.out] at HP
    clear KW KW2 hop
    go_enter Try.func100, Try.ntmps100
    go_wp2
    exact HP.out _ _ (Goals.nil _) (Below.refl _ _)

set_option maxHeartbeats 2000000 in
theorem vputAway_any (vb pb mb n : Nat) (s : St) (b : Book) (q1 q2 q3 bz : Bool) (jt : Int) (jf : Bool) (vs : Stay) (w : World) (h : ViewAt w vb pb mb n s b q1 q2 q3 bz jt jf vs) :
    Calls Try.prog 103 #[.pointer (some ⟨vb, 0, none⟩)] w fun e w' => ∃ v, e = .returned v ∧ Goals w' v (putG s vs) ∧ Below w.heap.size w w' := by
  have HVC : Hid (∀ p : BelowW w, Blk p.wd vb (vArr b s pb q1 q2 q3 bz jt jf vs) 169) := fun p => h.v.below p.hb
  have v8 := fun p : BelowW w => (HVC.out p).cell 8
  have v19 := fun p : BelowW w => (HVC.out p).cell 19
  simp only [vArr] at v8 v19
  clear h HVC
  have KW : Hid (putG s vs = if (s.ba == vs.id) = true then gTake else []) := rfl
  have HP : Hid (∀ v w', Goals w' v (putG s vs) → Below w.heap.size w w' → ∃ v', Ending.returned v = .returned v' ∧ Goals w' v' (putG s vs) ∧ Below w.heap.size w w') := fun v w' h1 h2 => ⟨v, rfl, h1, h2⟩
  generalize hPP : (fun (e : Ending) (w' : World) => ∃ v, e = .returned v ∧ Goals w' v (putG s vs) ∧ Below w.heap.size w w') = PP
  have HP2 : Hid (∀ v w', Goals w' v (putG s vs) → Below w.heap.size w w' → PP (.returned v) w') := fun v w' h1 h2 => by rw [← hPP]; exact HP.out v w' h1 h2
  clear hPP HP
  have HP := HP2
  clear HP2
  go_enter Try.func103, Try.ntmps103
  go_upto_region 1 with fail
  refine wp_region_below (by kernel_rfl) (by kernel_rfl) ?_
  repeat (go_big_quiet_step (fail))
  refine wpQuiet_nil ?_
  rintro wb ⟨⟨_, NQ⟩, rfl⟩
  clear v8 v19
  cases hc : (s.ba == vs.id)
  · have KW2 : Hid (putG s vs = []) := by show _ = _; rw [KW.out, hc]; rfl
    rw [KW2.out] at HP
    clear KW KW2
    go_wp2
    exact HP.out _ _ (Goals.nil _) NQ
  · have KW2 : Hid (putG s vs = gTake) := by show _ = _; rw [KW.out, hc]; rfl
    rw [KW2.out] at HP
    clear KW KW2
    go_wp2_with fail
    refine (takeIn_any _).mono ?_
    rintro e w2 ⟨v, rfl, ho⟩
    have X : Hid (Goals w2 v gTake ∧ Below w.heap.size w w2) := ⟨Or.inr (ho.at (by decide) (by decide)), B.next NQ ho.2 NQ.size⟩
    clear ho
    go_wp2
    exact HP.out _ _ X.out.1 X.out.2

set_option maxHeartbeats 4000000 in
theorem vover_any (vb pb mb n : Nat) (s : St) (b : Book) (q1 q2 q3 bz : Bool) (jt : Int) (jf : Bool) (vs : Stay) (w : World) (h : ViewAt w vb pb mb n s b q1 q2 q3 bz jt jf vs) (hs : sOk vs) (iv : Inv s) :
    Calls Try.prog 101 #[.pointer (some ⟨vb, 0, none⟩)] w fun e w' => e = .returned (.bool (overB s jf vs)) ∧ Below w.heap.size w w' := by
  have HAT : Hid (∀ wx, Below w.heap.size w wx → Calls Try.prog 93 #[.pointer (some ⟨pb, 0, none⟩), .agg #[.int .i64 vs.x, .int .i64 vs.y, .int .i64 vs.z]] wx fun e w' => e = .returned (.int .i64 (carOf s.D vs.x vs.y vs.z)) ∧ Below wx.heap.size wx w') := fun wx hx => vat_any vb pb mb n s b q1 q2 q3 bz jt jf vs vs.x vs.y vs.z wx (h.next hx) ⟨hs.1, hs.2.1⟩ ⟨hs.2.2.1, hs.2.2.2.1⟩ ⟨hs.2.2.2.2.1, hs.2.2.2.2.2⟩
  have HHA : Hid (Calls Try.prog 95 #[.pointer (some ⟨pb, 0, none⟩), .int .i64 vs.id] w fun e w' => e = .returned (.bool (hasB s vs.id)) ∧ Below w.heap.size w w') := has_any pb mb n s vs.id w h.p iv
  have HV : Hid (∀ wx, Below w.heap.size w wx → Blk wx vb (vArr b s pb q1 q2 q3 bz jt jf vs) 169) := fun wx hx => h.v.below hx
  have rv := h.v.cell
  unfold vArr at rv
  clear h
  have KO : Hid (overB s jf vs = (!hasB s vs.id || (if jf = true then s.ba == vs.id else carOf s.D vs.x vs.y vs.z == vs.id))) := rfl
  generalize hPP : (fun (e : Ending) (w' : World) => e = .returned (.bool (overB s jf vs)) ∧ Below w.heap.size w w') = PP
  have HP : Hid (∀ (q : Bool) w', q = overB s jf vs → Below w.heap.size w w' → PP (.returned (.bool q)) w') := fun q w' h1 h2 => by rw [← hPP]; subst h1; exact ⟨rfl, h2⟩
  clear hPP
  generalize overB s jf vs = oo at *
  generalize carOf s.D vs.x vs.y vs.z = cv at *
  go_enter Try.func101, Try.ntmps101
  go_wp2_with fail
  clear rv
  refine HHA.out.mono ?_
  rintro e w1 ⟨rfl, b1⟩
  obtain ⟨hq, hhq⟩ : ∃ hq, hasB s vs.id = hq := ⟨_, rfl⟩
  rw [hhq] at KO ⊢
  clear hhq
  cases hq
  · have K2 : Hid (oo = true) := by show _ = _; rw [KO.out]; rfl
    go_wp2
    exact HP.out _ _ (by rw [K2.out]) b1
  · have rv := (HV.out _ b1).cell
    unfold vArr at rv
    cases jf
    · have K2 : Hid (oo = (cv == vs.id)) := by show _ = _; rw [KO.out]; rfl
      have HAQ : Hid (∀ p : BelowW w1, Calls Try.prog 93 #[.pointer (some ⟨pb, 0, none⟩), .agg #[.int .i64 vs.x, .int .i64 vs.y, .int .i64 vs.z]] p.wd fun e w' => e = .returned (.int .i64 cv) ∧ Below p.wd.heap.size p.wd w') := fun p => HAT.out _ (B.next b1 p.hb b1.size)
      have HVC : Hid (∀ p : BelowW w1, Blk p.wd vb (vArr b s pb q1 q2 q3 bz jt false vs) 169) := fun p => HV.out _ (B.next b1 p.hb b1.size)
      have v12 := fun p : BelowW w1 => (HVC.out p).cell 12
      have v23 := fun p : BelowW w1 => (HVC.out p).cell 23
      have v24 := fun p : BelowW w1 => (HVC.out p).cell 24
      have v25 := fun p : BelowW w1 => (HVC.out p).cell 25
      simp only [vArr] at v12 v23 v24 v25
      go_upto_region 6 with fail
      clear rv
      refine wp_region_below (by kernel_rfl) (by kernel_rfl) ?_
      repeat (go_big_quiet_step (first | (go_at_call 93; exact Calls.wof (HAQ.out _))))
      refine wpQuiet_nil ?_
      rintro wb ⟨⟨_, NQ⟩, rfl⟩
      go_wp2
      exact HP.out _ _ (by rw [K2.out]) (B.next b1 NQ b1.size)
    · have K2 : Hid (oo = (s.ba == vs.id)) := by show _ = _; rw [KO.out]; rfl
      go_wp2
      exact HP.out _ _ (by rw [K2.out]) b1

end Tn
end Go.Proofs.Ytihapeagjikiaaa

namespace Go.Proofs.Ytihapeagjikiaaa
open Go.Shelf Go.Lib Go.ChangeShapes Go.WideShapes Go.ChangeAt Go.RowKit
set_option maxRecDepth 100000
set_option linter.unusedSimpArgs false
set_option linter.unusedVariables false

namespace Tn
open Bk Pl
/-- A stay whose place is one. -/
def sIn (v : Stay) : Prop := 1 ≤ v.x ∧ v.x ≤ 4 ∧ 0 ≤ v.y ∧ v.y ≤ 1 ∧ 0 ≤ v.z ∧ v.z ≤ 1
theorem carO_mem {b : Book} {id : Int} {x : Stay} (h : carO b id = some x) : x ∈ b.stays := List.mem_of_find?_eq_some h
def unloadO (D : DataW Unit) (ba : Int) (bz : Bool) (jt : Int) (jf : Bool) (vs : Stay) (sx sy sz : Int) : Option Stay → List (Int × Int)
  | none => gGive
  | some x => if ((jt == x.t && jf == true) && ba == 0) = true then gGive else if ((x.z == 1 && carOf D x.x x.y 0 != 0) || blocksO D bz jf vs (some x)) = true then gThere 4 sx sy sz else gThere 4 x.x x.y x.z
def unloadG (b : Book) (s : St) (bz : Bool) (jt : Int) (jf : Bool) (vs : Stay) (sx sy sz : Int) : List (Int × Int) := unloadO s.D s.ba bz jt jf vs sx sy sz (carO b s.li)

set_option maxHeartbeats 8000000 in
theorem vunload_any (vb pb mb n : Nat) (s : St) (b : Book) (q1 q2 q3 bz : Bool) (jt : Int) (jf : Bool) (vs : Stay) (sx sy sz : Int) (w : World) (h : ViewAt w vb pb mb n s b q1 q2 q3 bz jt jf vs) (hs : sOk vs) (hsx : 1 ≤ sx ∧ sx ≤ 4) (hsz : 0 ≤ sz ∧ sz ≤ 1) (hst : ∀ x ∈ b.stays, sIn x) :
    Calls Try.prog 97 #[.pointer (some ⟨vb, 0, none⟩), .agg #[.int .i64 sx, .int .i64 sy, .int .i64 sz]] w fun e w' => ∃ v, e = .returned v ∧ Goals w' v (unloadG b s bz jt jf vs sx sy sz) ∧ Below w.heap.size w w' := by
  have HSO : Hid (∀ wx, Below w.heap.size w wx → Calls Try.prog 138 #[.pointer (some ⟨vb, 0, none⟩), .int .i64 s.li] wx (StayPost b s.li wx)) := fun wx hx => vstayOf_any vb pb mb n s b q1 q2 q3 bz jt jf vs s.li wx (h.next hx)
  have HBL : Hid (∀ wx, Below w.heap.size w wx → Calls Try.prog 98 #[.pointer (some ⟨vb, 0, none⟩), .int .i64 s.li] wx fun e w' => e = .returned (.bool (blocksB b s bz jf vs s.li)) ∧ Below wx.heap.size wx w') := fun wx hx => vblocks_any vb pb mb n s b q1 q2 q3 bz jt jf vs s.li wx (h.next hx) hs
  have HAX : Hid (∀ x : Stay, sIn x → ∀ wx, Below w.heap.size w wx → Calls Try.prog 93 #[.pointer (some ⟨pb, 0, none⟩), .agg #[.int .i64 x.x, .int .i64 x.y, .int .i64 0]] wx fun e w' => e = .returned (.int .i64 (carOf s.D x.x x.y 0)) ∧ Below wx.heap.size wx w') := fun x hx wx hb => vat_any vb pb mb n s b q1 q2 q3 bz jt jf vs x.x x.y 0 wx (h.next hb) ⟨Int.le_trans (by decide) hx.1, hx.2.1⟩ ⟨hx.2.2.1, hx.2.2.2.1⟩ (by decide)
  have HV : Hid (∀ wx, Below w.heap.size w wx → Blk wx vb (vArr b s pb q1 q2 q3 bz jt jf vs) 169) := fun wx hx => h.v.below hx
  have HST : Hid (∀ x, carO b s.li = some x → sIn x) := fun x hx => hst x (carO_mem hx)
  have KU : Hid (unloadG b s bz jt jf vs sx sy sz = unloadO s.D s.ba bz jt jf vs sx sy sz (carO b s.li)) := rfl
  have KBL : Hid (blocksB b s bz jf vs s.li = blocksO s.D bz jf vs (carO b s.li)) := rfl
  have HP : Hid (∀ v w', Goals w' v (unloadG b s bz jt jf vs sx sy sz) → Below w.heap.size w w' → ∃ v', Ending.returned v = .returned v' ∧ Goals w' v' (unloadG b s bz jt jf vs sx sy sz) ∧ Below w.heap.size w w') := fun v w' h1 h2 => ⟨v, rfl, h1, h2⟩
  generalize hPP : (fun (e : Ending) (w' : World) => ∃ v, e = .returned v ∧ Goals w' v (unloadG b s bz jt jf vs sx sy sz) ∧ Below w.heap.size w w') = PP
  have HP2 : Hid (∀ v w', Goals w' v (unloadG b s bz jt jf vs sx sy sz) → Below w.heap.size w w' → PP (.returned v) w') := fun v w' h1 h2 => by rw [← hPP]; exact HP.out v w' h1 h2
  clear hPP HP
  have HP := HP2
  clear HP2
  rw [KU.out] at HP
  rw [KBL.out] at HBL
  clear KU KBL h hst
  obtain ⟨w0, hw0⟩ : ∃ w0, w.alloc (.cells #[.int .i64 sx, .int .i64 sy, .int .i64 sz] 38) = w0 := ⟨_, rfl⟩
  have N0 : Hid (Below w.heap.size w w0 ∧ Blk w0 w.heap.size #[.int .i64 sx, .int .i64 sy, .int .i64 sz] 38) := by
    show _ ∧ _
    rw [← hw0]
    exact ⟨B.new1 _ _, Blk.new _ _ _⟩
  have rv := (HV.out _ N0.out.1).cell
  unfold vArr at rv
  go_enter Try.func97, Try.ntmps97
  go_wp2_with fail
  clear hw0 rv
  refine (HSO.out _ N0.out.1).mono ?_
  rintro e w1 ⟨rfl, b1⟩
  have N1 : Hid (Below w.heap.size w w1 ∧ Blk w1 w.heap.size #[.int .i64 sx, .int .i64 sy, .int .i64 sz] 38) := ⟨B.next N0.out.1 b1 N0.out.1.size, N0.out.2.below b1⟩
  clear b1 N0 HSO
  obtain ⟨o, ho⟩ : ∃ o, carO b s.li = o := ⟨_, rfl⟩
  rw [ho] at HP HBL HST ⊢
  clear ho
  cases o with
  | none =>
    simp only [stayA, Option.isSome]
    simp only [unloadO] at HP
    clear HBL HST HAX
    obtain ⟨w3, hw3⟩ : ∃ w3, w1.alloc (.cells #[.int .i64 0, .int .i64 0, .int .i64 0, .int .i64 0, .int .i64 0, .int .i64 0, .int .i64 0, .int .i64 0] 62) = w3 := ⟨_, rfl⟩
    obtain ⟨sb, hsb⟩ : ∃ sb, w1.heap.size = sb := ⟨_, rfl⟩
    have N3 : Hid (Below w.heap.size w w3 ∧ Blk w3 sb #[.int .i64 0, .int .i64 0, .int .i64 0, .int .i64 0, .int .i64 0, .int .i64 0, .int .i64 0, .int .i64 0] 62) := by
      show _ ∧ _
      rw [← hw3]
      exact ⟨N1.out.1.alloc N1.out.1.size _, Blk.new1 hsb.symm _ _⟩
    have HW3 : Hid (w1.alloc (.cells #[.int .i64 0, .int .i64 0, .int .i64 0, .int .i64 0, .int .i64 0, .int .i64 0, .int .i64 0, .int .i64 0] 62) = w3) := hw3
    clear hw3 N1
    go_upto_region 2 with fail
    simp only [HW3.out, hsb]
    clear HW3 hsb
    have HVC : Hid (∀ p : BelowW w3, Blk p.wd vb (vArr b s pb q1 q2 q3 bz jt jf vs) 169) := fun p => HV.out _ (B.next N3.out.1 p.hb N3.out.1.size)
    have v16 := fun p : BelowW w3 => (HVC.out p).cell 16
    have v17 := fun p : BelowW w3 => (HVC.out p).cell 17
    simp only [vArr] at v16 v17
    have x0 := fun p : BelowW w3 => (N3.out.2.below p.hb).cell 0
    have e1 := eqJ_run jt 0 jf true
    have g1 := eqJ_guard jt 0 jf true
    generalize (jt == 0 && jf == true) = qw at e1
    refine wp_region_below (by kernel_rfl) (by kernel_rfl) ?_
    repeat (go_big_quiet_step (fail))
    refine wpQuiet_nil ?_
    rintro wb ⟨⟨_, NQ⟩, rfl⟩
    have N4 : Hid (Below w.heap.size w wb ∧ True) := ⟨B.next N3.out.1 NQ N3.out.1.size, trivial⟩
    clear v16 v17 x0 e1 g1 HVC N3 NQ
    go_wp2_with fail
    refine (giveOut_any _).mono ?_
    rintro e w2 ⟨v, rfl, ho⟩
    have X : Hid (Goals w2 v gGive ∧ Below w.heap.size w w2) := ⟨Or.inr (ho.at (by decide) (by decide)), B.next N4.out.1 ho.2 N4.out.1.size⟩
    clear ho
    go_wp2
    exact HP.out _ _ X.out.1 X.out.2
  | some x =>
    simp only [stayA, Option.isSome]
    have hin : sIn x := HST.out x rfl
    obtain ⟨hx1, hx4, hy0, hy1, hz0, hz1⟩ := hin
    have HAT : Hid (∀ wx, Below w.heap.size w wx → Calls Try.prog 93 #[.pointer (some ⟨pb, 0, none⟩), .agg #[.int .i64 x.x, .int .i64 x.y, .int .i64 0]] wx fun e w' => e = .returned (.int .i64 (carOf s.D x.x x.y 0)) ∧ Below wx.heap.size wx w') := HAX.out x (HST.out x rfl)
    have HFR : Hid (∀ wx, Calls Try.prog 29 #[.agg #[.int .i64 x.x, .int .i64 x.y, .int .i64 x.z]] wx fun e w' => e = .returned (.agg #[.int .i64 x.x, .int .i64 x.y, .int .i64 0]) ∧ Below wx.heap.size wx w') := fun wx => front_any _ _ _ wx
    clear HST HAX
    obtain ⟨bo, hbo⟩ : ∃ bo, blocksO s.D bz jf vs (some x) = bo := ⟨_, rfl⟩
    rw [hbo] at HBL
    obtain ⟨cv, hcv⟩ : ∃ cv, carOf s.D x.x x.y 0 = cv := ⟨_, rfl⟩
    rw [hcv] at HAT
    obtain ⟨qw, hqw⟩ : ∃ qw, (jt == x.t && jf == true) = qw := ⟨_, rfl⟩
    have HP3 : Hid (∀ v w', Goals w' v (if (qw && s.ba == 0) = true then gGive else if ((x.z == 1 && cv != 0) || bo) = true then gThere 4 sx sy sz else gThere 4 x.x x.y x.z) → Below w.heap.size w w' → PP (.returned v) w') := by
      have := HP.out
      simp only [unloadO, hbo, hcv, hqw] at this
      exact this
    clear HP hbo hcv
    have HP := HP3
    clear HP3
    obtain ⟨w3, hw3⟩ : ∃ w3, w1.alloc (.cells #[.int .i64 x.t, .int .i64 x.id, .int .i64 x.a, .int .i64 x.b, .int .i64 x.c, .int .i64 x.x, .int .i64 x.y, .int .i64 x.z] 62) = w3 := ⟨_, rfl⟩
    obtain ⟨sb, hsb⟩ : ∃ sb, w1.heap.size = sb := ⟨_, rfl⟩
    have N3 : Hid (Below w.heap.size w w3 ∧ Blk w3 w.heap.size #[.int .i64 sx, .int .i64 sy, .int .i64 sz] 38 ∧ Blk w3 sb #[.int .i64 x.t, .int .i64 x.id, .int .i64 x.a, .int .i64 x.b, .int .i64 x.c, .int .i64 x.x, .int .i64 x.y, .int .i64 x.z] 62) := by
      show _ ∧ _ ∧ _
      rw [← hw3]
      exact ⟨N1.out.1.alloc N1.out.1.size _, N1.out.2.old _, Blk.new1 hsb.symm _ _⟩
    have HW3 : Hid (w1.alloc (.cells #[.int .i64 x.t, .int .i64 x.id, .int .i64 x.a, .int .i64 x.b, .int .i64 x.c, .int .i64 x.x, .int .i64 x.y, .int .i64 x.z] 62) = w3) := hw3
    clear hw3 N1
    go_upto_region 2 with fail
    simp only [HW3.out, hsb]
    clear HW3 hsb
    have HVC : Hid (∀ p : BelowW w3, Blk p.wd vb (vArr b s pb q1 q2 q3 bz jt jf vs) 169) := fun p => HV.out _ (B.next N3.out.1 p.hb N3.out.1.size)
    have v16 := fun p : BelowW w3 => (HVC.out p).cell 16
    have v17 := fun p : BelowW w3 => (HVC.out p).cell 17
    simp only [vArr] at v16 v17
    have x0 := fun p : BelowW w3 => (N3.out.2.2.below p.hb).cell 0
    have e1 := eqJ_run jt x.t jf true
    have g1 := eqJ_guard jt x.t jf true
    rw [hqw] at e1
    clear hqw
    refine wp_region_below (by kernel_rfl) (by kernel_rfl) ?_
    repeat (go_big_quiet_step (fail))
    refine wpQuiet_nil ?_
    rintro wb ⟨⟨_, NQ⟩, rfl⟩
    have N4 : Hid (Below w.heap.size w wb ∧ Blk wb w.heap.size #[.int .i64 sx, .int .i64 sy, .int .i64 sz] 38 ∧ Blk wb sb #[.int .i64 x.t, .int .i64 x.id, .int .i64 x.a, .int .i64 x.b, .int .i64 x.c, .int .i64 x.x, .int .i64 x.y, .int .i64 x.z] 62) := ⟨B.next N3.out.1 NQ N3.out.1.size, N3.out.2.1.below NQ, N3.out.2.2.below NQ⟩
    clear v16 v17 x0 e1 g1 HVC N3 NQ
    obtain ⟨qg, hqg⟩ : ∃ qg, (qw && s.ba == 0) = qg := ⟨_, rfl⟩
    rw [hqg] at HP
    go_upto_region 3 with fail
    go_cut [39] (fun s39 wx => s39 = .bool qg ∧ Hid (Below w.heap.size w wx ∧ Blk wx w.heap.size #[.int .i64 sx, .int .i64 sy, .int .i64 sz] 38 ∧ Blk wx sb #[.int .i64 x.t, .int .i64 x.id, .int .i64 x.a, .int .i64 x.b, .int .i64 x.c, .int .i64 x.x, .int .i64 x.y, .int .i64 x.z] 62))
    case first =>
      have rv := (HV.out _ N4.out.1).cell
      unfold vArr at rv
      cases qw
      · obtain rfl : false = qg := by rw [← hqg]; rfl
        go_wp2
        go_meet
        exact ⟨rfl, N4⟩
      · cases hb0 : (s.ba == 0)
        · obtain rfl : false = qg := by rw [← hqg, hb0]; rfl
          go_wp2
          go_meet
          exact ⟨rfl, N4⟩
        · obtain rfl : true = qg := by rw [← hqg, hb0]; rfl
          go_wp2
          go_meet
          exact ⟨rfl, N4⟩
    case rest =>
    clear N4 hqg
    obtain ⟨rfl, N4⟩ := hcut
    cases qg
    case true =>
      simp only [if_true] at HP
      go_wp2_with fail
      refine (giveOut_any _).mono ?_
      rintro e w2 ⟨v, rfl, ho⟩
      have X : Hid (Goals w2 v gGive ∧ Below w.heap.size w w2) := ⟨Or.inr (ho.at (by decide) (by decide)), B.next N4.out.1 ho.2 N4.out.1.size⟩
      clear ho
      go_wp2
      exact HP.out _ _ X.out.1 X.out.2
    simp only [Bool.false_eq_true, if_false] at HP
    obtain ⟨qs, hqs⟩ : ∃ qs, (x.z == 1 && cv != 0) = qs := ⟨_, rfl⟩
    rw [hqs] at HP
    go_upto_region 5 with fail
    go_cut [8] (fun s8 wx => s8 = .bool qs ∧ Hid (Below w.heap.size w wx ∧ Blk wx w.heap.size #[.int .i64 sx, .int .i64 sy, .int .i64 sz] 38 ∧ Blk wx sb #[.int .i64 x.t, .int .i64 x.id, .int .i64 x.a, .int .i64 x.b, .int .i64 x.c, .int .i64 x.x, .int .i64 x.y, .int .i64 x.z] 62))
    case first =>
      have HAQ : Hid (∀ p : BelowW wc, Calls Try.prog 93 #[.pointer (some ⟨pb, 0, none⟩), .agg #[.int .i64 x.x, .int .i64 x.y, .int .i64 0]] p.wd fun e w' => e = .returned (.int .i64 cv) ∧ Below p.wd.heap.size p.wd w') := fun p => HAT.out _ (B.next N4.out.1 p.hb N4.out.1.size)
      have HVC : Hid (∀ p : BelowW wc, Blk p.wd vb (vArr b s pb q1 q2 q3 bz jt jf vs) 169) := fun p => HV.out _ (B.next N4.out.1 p.hb N4.out.1.size)
      have v12 := fun p : BelowW wc => (HVC.out p).cell 12
      simp only [vArr] at v12
      have x5 := fun p : BelowW wc => (N4.out.2.2.below p.hb).cell 5
      have x6 := fun p : BelowW wc => (N4.out.2.2.below p.hb).cell 6
      have x7 := fun p : BelowW wc => (N4.out.2.2.below p.hb).cell 7
      clear HVC HV HAT HBL
      cases c1 : (x.z == 1)
      · obtain rfl : false = qs := by rw [← hqs, c1]; rfl
        refine wp_region_below (by kernel_rfl) (by kernel_rfl) ?_
        repeat (go_big_quiet_step (first | (go_at_call 93; exact Calls.wof (HAQ.out _)) | (go_at_call 29; exact Calls.wof (HFR.out _))))
        refine wpQuiet_nil ?_
        rintro wb ⟨⟨_, NQ⟩, rfl⟩
        go_wp2
        go_meet
        exact ⟨rfl, B.next N4.out.1 NQ N4.out.1.size, N4.out.2.1.below NQ, N4.out.2.2.below NQ⟩
      · rw [c1, Bool.true_and] at hqs
        refine wp_region_below (by kernel_rfl) (by kernel_rfl) ?_
        repeat (go_big_quiet_step (first | (go_at_call 93; exact Calls.wof (HAQ.out _)) | (go_at_call 29; exact Calls.wof (HFR.out _))))
        refine wpQuiet_nil ?_
        rintro wb ⟨⟨_, NQ⟩, rfl⟩
        go_wp2
        go_meet
        exact ⟨rfl, B.next N4.out.1 NQ N4.out.1.size, N4.out.2.1.below NQ, N4.out.2.2.below NQ⟩
    case rest =>
    clear N4 hqs
    obtain ⟨rfl, N4⟩ := hcut
    cases qs
    case true =>
      simp only [Bool.true_or, if_true] at HP
      have rs := N4.out.2.1.cell
      go_wp2_with fail
      clear rs
      refine (bring_any sx sy sz _ hsx.1 hsx.2 hsz.1 hsz.2).mono ?_
      rintro e w2 ⟨v, rfl, ho, hb2⟩
      have X : Hid (Goals w2 v (gThere 4 sx sy sz) ∧ Below w.heap.size w w2) := ⟨Or.inr ho, B.next N4.out.1 hb2 N4.out.1.size⟩
      clear ho hb2
      go_wp2
      exact HP.out _ _ X.out.1 X.out.2
    simp only [Bool.false_or] at HP
    have rv := (HV.out _ N4.out.1).cell
    unfold vArr at rv
    go_wp2_with fail
    clear rv
    refine (HBL.out _ N4.out.1).mono ?_
    rintro e w5 ⟨rfl, b5⟩
    have N5 : Hid (Below w.heap.size w w5 ∧ Blk w5 w.heap.size #[.int .i64 sx, .int .i64 sy, .int .i64 sz] 38 ∧ Blk w5 sb #[.int .i64 x.t, .int .i64 x.id, .int .i64 x.a, .int .i64 x.b, .int .i64 x.c, .int .i64 x.x, .int .i64 x.y, .int .i64 x.z] 62) := ⟨B.next N4.out.1 b5 N4.out.1.size, N4.out.2.1.below b5, N4.out.2.2.below b5⟩
    clear b5 N4 HBL
    cases bo
    · simp only [Bool.false_eq_true, if_false] at HP
      have rs := N5.out.2.2.cell
      go_wp2_with fail
      clear rs
      refine (bring_any x.x x.y x.z _ hx1 hx4 hz0 hz1).mono ?_
      rintro e w2 ⟨v, rfl, ho, hb2⟩
      have X : Hid (Goals w2 v (gThere 4 x.x x.y x.z) ∧ Below w.heap.size w w2) := ⟨Or.inr ho, B.next N5.out.1 hb2 N5.out.1.size⟩
      clear ho hb2
      go_wp2
      exact HP.out _ _ X.out.1 X.out.2
    · simp only [if_true] at HP
      have rs := N5.out.2.1.cell
      go_wp2_with fail
      clear rs
      refine (bring_any sx sy sz _ hsx.1 hsx.2 hsz.1 hsz.2).mono ?_
      rintro e w2 ⟨v, rfl, ho, hb2⟩
      have X : Hid (Goals w2 v (gThere 4 sx sy sz) ∧ Below w.heap.size w w2) := ⟨Or.inr ho, B.next N5.out.1 hb2 N5.out.1.size⟩
      clear ho hb2
      go_wp2
      exact HP.out _ _ X.out.1 X.out.2

end Tn
end Go.Proofs.Ytihapeagjikiaaa
