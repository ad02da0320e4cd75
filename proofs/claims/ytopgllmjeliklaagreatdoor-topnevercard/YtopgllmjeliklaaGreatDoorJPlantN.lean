/- Chapter 2: what always holds of a machine, whatever is done (B1 to B4); pure facts. -/
import Derived.Test.YtopgllmjeliklaaGreatDoorJBookPure
import Derived.Test.YtopgllmjeliklaaGreatDoorJKept
import Derived.Test.YtopgllmjeliklaaGreatDoorJPlantM
import Derived.Deep.DeepCutAuto
namespace Go.Proofs.YtopgllmjeliklaaGreatDoor
open Go.ChangeShapes Go.WideShapes Go.ChangeAt Go.RowKit Go.Maps
set_option maxRecDepth 100000
set_option linter.unusedSimpArgs false
set_option linter.unusedVariables false

namespace Pl
theorem endB_in {lv h ex : Int} (k : endB lv h ex = true) : (1 ≤ endX lv h ex ∧ endX lv h ex ≤ lv) ∧ (0 ≤ endY lv h ex ∧ endY lv h ex ≤ 1) ∧ (0 ≤ endZ lv h ex ∧ endZ lv h ex ≤ 1) := by
  simp only [endX, endY, endZ, k, if_true]
  simp only [endB, placeB, Bool.and_eq_true, decide_eq_true_eq] at k
  obtain ⟨_, k⟩ := k
  by_cases h0 : ex < 0 <;> simp only [h0, if_true, if_false] at k ⊢ <;> omega

theorem Inv.new {lv : Int} (h1 : 1 ≤ lv) (h4 : lv ≤ 4) : Inv (newS lv) := by
  refine ⟨⟨h1, h4, ?_, ?_, ?_, ?_⟩, ?_, ?_, ?_, ?_, DOk.empty _⟩ <;> simp only [newS] <;> omega

theorem Inv.hurt {s : St} (h : Inv s) (b : Bool) : Inv { s with hu := b } := ⟨⟨h.ok.lv1, h.ok.lv4, h.ok.h0, h.ok.h12, h.ok.e0, h.ok.e2⟩, h.pe, h.st, h.li, h.ba, h.D⟩

theorem Inv.raise {s : St} (h : Inv s) (b : Int) : Inv (raiseS b s) := by
  have h1 := h.ok.lv1; have h4 := h.ok.lv4; have h0 := h.ok.h0; have h12 := h.ok.h12
  exact ⟨⟨h1, h4, by simp only [raiseS]; omega, by simp only [raiseS]; omega, h.ok.e0, h.ok.e2⟩, h.pe, h.st, h.li, h.ba, h.D⟩

theorem Inv.slide {s : St} (h : Inv s) (b : Int) : Inv (slideS b s) := by
  unfold slideS
  split
  · rename_i k
    exact ⟨⟨h.ok.lv1, h.ok.lv4, h.ok.h0, h.ok.h12, k.1, k.2⟩, h.pe, h.st, h.li, h.ba, h.D⟩
  · exact h

theorem Inv.grab {s : St} (h : Inv s) : Inv (grabS s) := by
  unfold grabS
  split
  · exact ⟨⟨h.ok.lv1, h.ok.lv4, h.ok.h0, h.ok.h12, h.ok.e0, h.ok.e2⟩, h.pe, h.st, h.D.car _ _ _, h.ba, h.D.del _⟩
  · exact h

theorem Inv.put {s : St} (h : Inv s) : Inv (putS s) := by
  unfold putS
  split
  · rename_i k
    simp only [putB, Bool.and_eq_true, bne_iff_ne, ne_eq] at k
    obtain ⟨p1, p2, p3⟩ := endB_in k.1.1
    have hl := h.li
    have k2 := k.1.2
    exact ⟨⟨h.ok.lv1, h.ok.lv4, h.ok.h0, h.ok.h12, h.ok.e0, h.ok.e2⟩, h.pe, h.st, by simp, h.ba, h.D.put p1 p2 p3 (by omega)⟩
  · exact h

theorem Inv.open {s : St} (h : Inv s) : Inv (openS s) := ⟨⟨h.ok.lv1, h.ok.lv4, h.ok.h0, h.ok.h12, h.ok.e0, h.ok.e2⟩, h.pe, h.st, h.li, h.ba, h.D⟩
theorem Inv.shut {s : St} (h : Inv s) : Inv (shutS s) := ⟨⟨h.ok.lv1, h.ok.lv4, h.ok.h0, h.ok.h12, h.ok.e0, h.ok.e2⟩, h.pe, h.st, h.li, h.ba, h.D⟩

theorem Inv.takeIn {s : St} (h : Inv s) : Inv (takeInS s) := by
  unfold takeInS
  split
  · exact ⟨⟨h.ok.lv1, h.ok.lv4, h.ok.h0, h.ok.h12, h.ok.e0, h.ok.e2⟩, h.pe, h.st, h.ba, by simp, h.D⟩
  · exact h.hurt _
theorem Inv.giveOut {s : St} (h : Inv s) : Inv (giveOutS s) := by
  unfold giveOutS
  split
  · exact ⟨⟨h.ok.lv1, h.ok.lv4, h.ok.h0, h.ok.h12, h.ok.e0, h.ok.e2⟩, h.pe, h.st, by simp, h.li, h.D⟩
  · exact h.hurt _

theorem Inv.do {s : St} (h : Inv s) (c : Int) : Inv (doS c s) := by
  unfold doS
  split; · exact h.raise 1
  split; · exact h.raise (-1)
  split; · exact h.slide (-1)
  split; · exact h.slide 1
  split; · exact h.grab
  split; · exact h.put
  split; · exact h.open
  split; · exact h.shut
  split; · exact h.takeIn
  split; · exact h.giveOut
  exact h

theorem Inv.step {s : St} (h : Inv s) (c : Int) : Inv (stepS c s) := by
  unfold stepS
  split
  · rename_i k
    have := h.st
    exact ⟨⟨h.ok.lv1, h.ok.lv4, h.ok.h0, h.ok.h12, h.ok.e0, h.ok.e2⟩, h.pe, by simp only; omega, h.li, h.ba, h.D⟩
  · exact h.do c

theorem Inv.walk {s : St} (h : Inv s) (k : Int) : Inv (walkS k s) := by
  unfold walkS
  split
  · exact ⟨⟨h.ok.lv1, h.ok.lv4, h.ok.h0, h.ok.h12, h.ok.e0, h.ok.e2⟩, by simp only; omega, h.st, h.li, h.ba, h.D⟩
  · exact h
theorem Inv.arrive {s : St} (h : Inv s) (id : Int) : Inv (arriveS id s) := by
  unfold arriveS
  split
  · rename_i k
    simp only [arriveB, Bool.and_eq_true, decide_eq_true_eq] at k
    exact ⟨⟨h.ok.lv1, h.ok.lv4, h.ok.h0, h.ok.h12, h.ok.e0, h.ok.e2⟩, h.pe, h.st, h.li, by simp only; omega, h.D⟩
  · exact h
theorem Inv.leave {s : St} (h : Inv s) : Inv (leaveS s) := by
  unfold leaveS
  split
  · exact ⟨⟨h.ok.lv1, h.ok.lv4, h.ok.h0, h.ok.h12, h.ok.e0, h.ok.e2⟩, h.pe, h.st, h.li, by simp, h.D⟩
  · exact h
theorem Inv.stall {s : St} (h : Inv s) (k : Int) : Inv (stallS k s) := by
  unfold stallS
  split
  · exact ⟨⟨h.ok.lv1, h.ok.lv4, h.ok.h0, h.ok.h12, h.ok.e0, h.ok.e2⟩, h.pe, by simp only; omega, h.li, h.ba, h.D⟩
  · exact h

end Pl
end Go.Proofs.YtopgllmjeliklaaGreatDoor

namespace Go.Proofs.YtopgllmjeliklaaGreatDoor
open Go.Shelf Go.Lib Go.ChangeShapes Go.WideShapes Go.ChangeAt Go.RowKit
set_option maxRecDepth 100000
set_option linter.unusedSimpArgs false
set_option linter.unusedVariables false

namespace Tn
open Bk Pl
/-- The stay of a car. -/
def carO (b : Book) (id : Int) : Option Stay := b.stays.find? (fun s => s.id == id)
theorem idx_find (p : Stay → Bool) (l : List Stay) : (stayIdx p l < 0 ∧ l.find? p = none) ∨ ∃ k, k < l.length ∧ stayIdx p l = (k : Int) ∧ l.find? p = some l[k]! := by
  have := idxByFrom_spec (fun (_ y : Stay) => p y) default l 0
  unfold stayIdx Lib.idxBy
  rcases this with ⟨e, h⟩ | ⟨k, hk, e, h1, h2⟩
  · exact Or.inl ⟨by rw [e]; decide, find_not l h⟩
  · exact Or.inr ⟨k, hk, by rw [e]; simp, find_upto l k hk h2 h1⟩
/-- The view's cells. -/
def vArr (b : Book) (s : St) (pb : Nat) (q1 q2 q3 bz : Bool) (jt : Int) (jf : Bool) (sv : Stay) : Array Value :=
  #[.int .i64 b.last, .slice b.sa b.stays.length b.sc, .slice b.ja b.jobs.length b.jc, .int .i64 s.h, .int .i64 s.ex, .bool s.op, .int .i64 s.pe, .int .i64 s.li, .int .i64 s.ba, .bool q1, .bool q2, .bool q3, .func (.func 34) #[.pointer (some ⟨pb, 0, none⟩)] #[], .func (.func 31) #[.pointer (some ⟨pb, 0, none⟩)] #[], .func (.func 56) #[.pointer (some ⟨pb, 0, none⟩)] #[], .bool bz, .int .i64 jt, .bool jf, .int .i64 sv.t, .int .i64 sv.id, .int .i64 sv.a, .int .i64 sv.b, .int .i64 sv.c, .int .i64 sv.x, .int .i64 sv.y, .int .i64 sv.z]
/-- Block vb is the view of machine s by book b. -/
structure ViewAt (w : World) (vb pb mb n : Nat) (s : St) (b : Book) (q1 q2 q3 bz : Bool) (jt : Int) (jf : Bool) (sv : Stay) : Prop where
  p : IsP w pb mb n s
  v : Blk w vb (vArr b s pb q1 q2 q3 bz jt jf sv) 135
  k : b.At w
theorem ViewAt.next {w wx : World} {vb pb mb n : Nat} {s : St} {b : Book} {q1 q2 q3 bz : Bool} {jt : Int} {jf : Bool} {sv : Stay} (h : ViewAt w vb pb mb n s b q1 q2 q3 bz jt jf sv) (hb : Below w.heap.size w wx) : ViewAt wx vb pb mb n s b q1 q2 q3 bz jt jf sv :=
  ⟨h.p.below hb, h.v.below hb, h.k.below hb⟩
def StayPost (b : Book) (id : Int) (w : World) (e : Ending) (w' : World) : Prop := e = .returned (.tuple #[.agg (stayA (carO b id)), .bool (carO b id).isSome]) ∧ Below w.heap.size w w'

set_option maxHeartbeats 4000000 in
theorem vstayOf_any (vb pb mb n : Nat) (s : St) (b : Book) (q1 q2 q3 bz : Bool) (jt : Int) (jf : Bool) (vs : Stay) (id : Int) (w : World) (h : ViewAt w vb pb mb n s b q1 q2 q3 bz jt jf vs) :
    Calls Tryz.prog 114 #[.pointer (some ⟨vb, 0, none⟩), .int .i64 id] w (StayPost b id w) := by
  have HOF : Hid (∀ wx, Below w.heap.size w wx → Calls Tryz.prog 91 #[.agg #[.int .i64 b.last, .slice b.sa b.stays.length b.sc, .slice b.ja b.jobs.length b.jc], .int .i64 id] wx fun e w' => e = .returned (.int .i64 (ofI b id)) ∧ Below wx.heap.size wx w') := fun wx hx => of_any b id wx (h.k.below hx)
  have HRS : Hid (∀ wx, Below w.heap.size w wx → RowsAt wx b.sa b.sc 8 Stay.enc b.stays) := fun wx hx => h.k.1.below hx
  have HV : Hid (∀ wx, Below w.heap.size w wx → Blk wx vb (vArr b s pb q1 q2 q3 bz jt jf vs) 135) := fun wx hx => h.v.below hx
  have hm1 : b.sc ≤ maxLen := h.k.1.2.1
  have hn1 : b.stays.length ≤ b.sc := h.k.1.1
  unfold maxLen at hm1
  have hix := idx_find (fun s : Stay => s.id == id) b.stays
  have HP : Hid (∀ (o : Option Stay) w', carO b id = o → Below w.heap.size w w' → StayPost b id w (.returned (.tuple #[.agg (stayA o), .bool o.isSome])) w') := fun o w' ho hb => by subst ho; exact ⟨rfl, hb⟩
  generalize StayPost b id w = PP at *
  obtain ⟨w0, hw0⟩ : ∃ w0, w.alloc (.cells #[.int .i64 0, .int .i64 0, .int .i64 0, .int .i64 0, .int .i64 0, .int .i64 0, .int .i64 0, .int .i64 0] 67) = w0 := ⟨_, rfl⟩
  have N0 : Hid (Below w.heap.size w w0 ∧ Blk w0 w.heap.size #[.int .i64 0, .int .i64 0, .int .i64 0, .int .i64 0, .int .i64 0, .int .i64 0, .int .i64 0, .int .i64 0] 67) := by
    show _ ∧ _
    rw [← hw0]
    exact ⟨B.new1 _ _, Blk.new _ _ _⟩
  have rv := (HV.out _ N0.out.1).cell
  unfold vArr at rv
  clear h
  go_enter Tryz.func114, Tryz.ntmps114
  go_wp2_with fail
  clear hw0 rv
  refine (HOF.out _ N0.out.1).mono ?_
  rintro e w1 ⟨rfl, b1⟩
  have N1 : Hid (Below w.heap.size w w1 ∧ Blk w1 w.heap.size #[.int .i64 0, .int .i64 0, .int .i64 0, .int .i64 0, .int .i64 0, .int .i64 0, .int .i64 0, .int .i64 0] 67) := ⟨B.next N0.out.1 b1 N0.out.1.size, N0.out.2.below b1⟩
  clear b1 N0 HOF
  have rv := (HV.out _ N1.out.1).cell
  unfold vArr at rv
  rcases hix with ⟨hi, hf⟩ | ⟨k, hk, hi, hf⟩
  · have hfi : carO b id = none := hf
    have hlt : ofI b id < 0 := hi
    generalize ofI b id = qo at hlt ⊢
    clear hi hf
    obtain ⟨w9, hw9⟩ : ∃ w9, ((((((((w1.setCell ⟨w.heap.size, 0, none⟩ (.int .i64 0)).setCell ⟨w.heap.size, 1, none⟩ (.int .i64 0)).setCell ⟨w.heap.size, 2, none⟩ (.int .i64 0)).setCell ⟨w.heap.size, 3, none⟩ (.int .i64 0)).setCell ⟨w.heap.size, 4, none⟩ (.int .i64 0)).setCell ⟨w.heap.size, 5, none⟩ (.int .i64 0)).setCell ⟨w.heap.size, 6, none⟩ (.int .i64 0)).setCell ⟨w.heap.size, 7, none⟩ (.int .i64 0)) = w9 := ⟨_, rfl⟩
    have K9 : Hid (Blk w9 w.heap.size #[.int .i64 0, .int .i64 0, .int .i64 0, .int .i64 0, .int .i64 0, .int .i64 0, .int .i64 0, .int .i64 0] 67 ∧ Below w.heap.size w w9) := by
      show _ ∧ _
      rw [← hw9]
      exact ⟨((((((((N1.out.2.set 0 (.int .i64 0)).set 1 (.int .i64 0)).set 2 (.int .i64 0)).set 3 (.int .i64 0)).set 4 (.int .i64 0)).set 5 (.int .i64 0)).set 6 (.int .i64 0)).set 7 (.int .i64 0)), ((((((((N1.out.1.setCell (p := ⟨w.heap.size, 0, none⟩) (Nat.le_refl _) _).setCell (p := ⟨w.heap.size, 1, none⟩) (Nat.le_refl _) _).setCell (p := ⟨w.heap.size, 2, none⟩) (Nat.le_refl _) _).setCell (p := ⟨w.heap.size, 3, none⟩) (Nat.le_refl _) _).setCell (p := ⟨w.heap.size, 4, none⟩) (Nat.le_refl _) _).setCell (p := ⟨w.heap.size, 5, none⟩) (Nat.le_refl _) _).setCell (p := ⟨w.heap.size, 6, none⟩) (Nat.le_refl _) _).setCell (p := ⟨w.heap.size, 7, none⟩) (Nat.le_refl _) _)⟩
    have HF : Hid (PP (.returned (.tuple #[.agg #[.int .i64 0, .int .i64 0, .int .i64 0, .int .i64 0, .int .i64 0, .int .i64 0, .int .i64 0, .int .i64 0], .bool false])) w9) := HP.out none w9 hfi K9.out.2
    have g9 := K9.out.1.cell
    have gg := N1.out.2.cell
    have ff := N1.out.2.free
    go_wp2
    (try simp only [Exit.inBlock, Exit.then])
    refine bodyPost_ret (v := .tuple #[.agg #[.int .i64 0, .int .i64 0, .int .i64 0, .int .i64 0, .int .i64 0, .int .i64 0, .int .i64 0, .int .i64 0], .bool false]) (by simp [results, Tryz.results114, go_sem, g9]; try rfl) rfl ?_
    exact HF.out
  · have hfi : carO b id = some b.stays[k]! := hf
    have hoi : ofI b id = (k : Int) := hi
    rw [hoi]
    clear hi hf hoi
    have hkz : (k : Int) < (b.stays.length : Int) := by omega
    obtain ⟨sb, soff, hsa⟩ := rows_some (HRS.out _ N1.out.1) (by omega)
    have hrr := HRS.out _ N1.out.1
    rw [hsa] at hrr rv
    have s0 := rows_cell hrr k hk 0 _ rfl
    have s1 := rows_cell hrr k hk 1 _ rfl
    have s2 := rows_cell hrr k hk 2 _ rfl
    have s3 := rows_cell hrr k hk 3 _ rfl
    have s4 := rows_cell hrr k hk 4 _ rfl
    have s5 := rows_cell hrr k hk 5 _ rfl
    have s6 := rows_cell hrr k hk 6 _ rfl
    have s7 := rows_cell hrr k hk 7 _ rfl
    simp only [Nat.add_zero] at s0
    generalize b.stays[k]! = sv at *
    clear hrr
    obtain ⟨w9, hw9⟩ : ∃ w9, ((((((((w1.setCell ⟨w.heap.size, 0, none⟩ (.int .i64 sv.t)).setCell ⟨w.heap.size, 1, none⟩ (.int .i64 sv.id)).setCell ⟨w.heap.size, 2, none⟩ (.int .i64 sv.a)).setCell ⟨w.heap.size, 3, none⟩ (.int .i64 sv.b)).setCell ⟨w.heap.size, 4, none⟩ (.int .i64 sv.c)).setCell ⟨w.heap.size, 5, none⟩ (.int .i64 sv.x)).setCell ⟨w.heap.size, 6, none⟩ (.int .i64 sv.y)).setCell ⟨w.heap.size, 7, none⟩ (.int .i64 sv.z)) = w9 := ⟨_, rfl⟩
    have K9 : Hid (Blk w9 w.heap.size #[.int .i64 sv.t, .int .i64 sv.id, .int .i64 sv.a, .int .i64 sv.b, .int .i64 sv.c, .int .i64 sv.x, .int .i64 sv.y, .int .i64 sv.z] 67 ∧ Below w.heap.size w w9) := by
      show _ ∧ _
      rw [← hw9]
      exact ⟨((((((((N1.out.2.set 0 (.int .i64 sv.t)).set 1 (.int .i64 sv.id)).set 2 (.int .i64 sv.a)).set 3 (.int .i64 sv.b)).set 4 (.int .i64 sv.c)).set 5 (.int .i64 sv.x)).set 6 (.int .i64 sv.y)).set 7 (.int .i64 sv.z)), ((((((((N1.out.1.setCell (p := ⟨w.heap.size, 0, none⟩) (Nat.le_refl _) _).setCell (p := ⟨w.heap.size, 1, none⟩) (Nat.le_refl _) _).setCell (p := ⟨w.heap.size, 2, none⟩) (Nat.le_refl _) _).setCell (p := ⟨w.heap.size, 3, none⟩) (Nat.le_refl _) _).setCell (p := ⟨w.heap.size, 4, none⟩) (Nat.le_refl _) _).setCell (p := ⟨w.heap.size, 5, none⟩) (Nat.le_refl _) _).setCell (p := ⟨w.heap.size, 6, none⟩) (Nat.le_refl _) _).setCell (p := ⟨w.heap.size, 7, none⟩) (Nat.le_refl _) _)⟩
    have HF : Hid (PP (.returned (.tuple #[.agg #[.int .i64 sv.t, .int .i64 sv.id, .int .i64 sv.a, .int .i64 sv.b, .int .i64 sv.c, .int .i64 sv.x, .int .i64 sv.y, .int .i64 sv.z], .bool true])) w9) := HP.out (some sv) w9 hfi K9.out.2
    have g9 := K9.out.1.cell
    have gg := N1.out.2.cell
    have ff := N1.out.2.free
    go_wp2
    (try simp only [Exit.inBlock, Exit.then])
    refine bodyPost_ret (v := .tuple #[.agg #[.int .i64 sv.t, .int .i64 sv.id, .int .i64 sv.a, .int .i64 sv.b, .int .i64 sv.c, .int .i64 sv.x, .int .i64 sv.y, .int .i64 sv.z], .bool true]) (by simp [results, Tryz.results114, go_sem, g9]; try rfl) rfl ?_
    exact HF.out

end Tn
end Go.Proofs.YtopgllmjeliklaaGreatDoor

namespace Go.Proofs.YtopgllmjeliklaaGreatDoor
open Go.Shelf Go.Lib Go.ChangeShapes Go.WideShapes Go.ChangeAt Go.RowKit
set_option maxRecDepth 100000
set_option linter.unusedSimpArgs false
set_option linter.unusedVariables false

namespace Tn
open Bk Pl
/-- A stay whose place is one (or none). -/
def sOk (v : Stay) : Prop := 0 ≤ v.x ∧ v.x ≤ 4 ∧ 0 ≤ v.y ∧ v.y ≤ 1 ∧ 0 ≤ v.z ∧ v.z ≤ 1
/-- Does the stay of a car have the place through which the one that is fetched must come? -/
def blocksO (D : DataW Unit) (bz jf : Bool) (vs : Stay) : Option Stay → Bool
  | none => false
  | some x => bz && jf && vs.z == 1 && carOf D vs.x vs.y vs.z == vs.id && eqP vs.x vs.y 0 x.x x.y x.z
def blocksB (b : Book) (s : St) (bz jf : Bool) (vs : Stay) (id : Int) : Bool := blocksO s.D bz jf vs (carO b id)
theorem vat_any (vb pb mb n : Nat) (s : St) (b : Book) (q1 q2 q3 bz : Bool) (jt : Int) (jf : Bool) (vs : Stay) (x y z : Int) (w : World) (h : ViewAt w vb pb mb n s b q1 q2 q3 bz jt jf vs) (hx : 0 ≤ x ∧ x ≤ 4) (hy : 0 ≤ y ∧ y ≤ 1) (hz : 0 ≤ z ∧ z ≤ 1) :
    Calls Tryz.prog 34 #[.pointer (some ⟨pb, 0, none⟩), .agg #[.int .i64 x, .int .i64 y, .int .i64 z]] w fun e w' => e = .returned (.int .i64 (carOf s.D x y z)) ∧ Below w.heap.size w w' :=
  at_any pb mb n s.D x y z w h.p.c7 h.p.cars (wfI (by omega)) (wfI (by omega)) (wfI (by omega))

set_option maxHeartbeats 8000000 in
theorem vblocks_any (vb pb mb n : Nat) (s : St) (b : Book) (q1 q2 q3 bz : Bool) (jt : Int) (jf : Bool) (vs : Stay) (id : Int) (w : World) (h : ViewAt w vb pb mb n s b q1 q2 q3 bz jt jf vs) (hs : sOk vs) :
    Calls Tryz.prog 80 #[.pointer (some ⟨vb, 0, none⟩), .int .i64 id] w fun e w' => e = .returned (.bool (blocksB b s bz jf vs id)) ∧ Below w.heap.size w w' := by
  have HSO : Hid (∀ wx, Below w.heap.size w wx → Calls Tryz.prog 114 #[.pointer (some ⟨vb, 0, none⟩), .int .i64 id] wx (StayPost b id wx)) := fun wx hx => vstayOf_any vb pb mb n s b q1 q2 q3 bz jt jf vs id wx (h.next hx)
  have HAT : Hid (∀ wx, Below w.heap.size w wx → Calls Tryz.prog 34 #[.pointer (some ⟨pb, 0, none⟩), .agg #[.int .i64 vs.x, .int .i64 vs.y, .int .i64 vs.z]] wx fun e w' => e = .returned (.int .i64 (carOf s.D vs.x vs.y vs.z)) ∧ Below wx.heap.size wx w') := fun wx hx => vat_any vb pb mb n s b q1 q2 q3 bz jt jf vs vs.x vs.y vs.z wx (h.next hx) ⟨hs.1, hs.2.1⟩ ⟨hs.2.2.1, hs.2.2.2.1⟩ ⟨hs.2.2.2.2.1, hs.2.2.2.2.2⟩
  have HFR : Hid (∀ wx, Calls Tryz.prog 98 #[.agg #[.int .i64 vs.x, .int .i64 vs.y, .int .i64 vs.z]] wx fun e w' => e = .returned (.agg #[.int .i64 vs.x, .int .i64 vs.y, .int .i64 0]) ∧ Below wx.heap.size wx w') := fun wx => front_any _ _ _ wx
  have HV : Hid (∀ wx, Below w.heap.size w wx → Blk wx vb (vArr b s pb q1 q2 q3 bz jt jf vs) 135) := fun wx hx => h.v.below hx
  have KB0 : Hid (blocksB b s bz jf vs id = blocksO s.D bz jf vs (carO b id)) := rfl
  have HP : Hid (∀ (q : Bool) w', q = blocksB b s bz jf vs id → Below w.heap.size w w' → Ending.returned (.bool q) = .returned (.bool (blocksB b s bz jf vs id)) ∧ Below w.heap.size w w') := fun q w' hq hb => by subst hq; exact ⟨rfl, hb⟩
  generalize hPP : (fun (e : Ending) (w' : World) => e = .returned (.bool (blocksB b s bz jf vs id)) ∧ Below w.heap.size w w') = PP
  have HP2 : Hid (∀ (q : Bool) w', q = blocksB b s bz jf vs id → Below w.heap.size w w' → PP (.returned (.bool q)) w') := fun q w' hq hb => by rw [← hPP]; exact HP.out q w' hq hb
  clear hPP HP h
  have HP := HP2
  clear HP2
  obtain ⟨bb, hbb⟩ : ∃ bb, blocksB b s bz jf vs id = bb := ⟨_, rfl⟩
  rw [hbb] at HP KB0
  clear hbb
  obtain ⟨cv, hcv⟩ : ∃ cv, carOf s.D vs.x vs.y vs.z = cv := ⟨_, rfl⟩
  rw [hcv] at HAT
  go_enter Tryz.func80, Tryz.ntmps80
  go_wp2_with fail
  refine (HSO.out _ (Below.refl _ _)).mono ?_
  rintro e w1 ⟨rfl, b1⟩
  obtain ⟨o, ho⟩ : ∃ o, carO b id = o := ⟨_, rfl⟩
  rw [ho] at KB0 ⊢
  clear ho HSO
  have rv := (HV.out _ b1).cell
  unfold vArr at rv
  cases o with
  | none =>
    simp only [stayA, Option.isSome]
    have KB : Hid (bb = false) := KB0
    clear KB0
    obtain ⟨w3, hw3⟩ : ∃ w3, (w1.alloc (.cells #[.int .i64 0, .int .i64 0, .int .i64 0, .int .i64 0, .int .i64 0, .int .i64 0, .int .i64 0, .int .i64 0] 67)).alloc (.cells #[.int .i64 vs.x, .int .i64 vs.y, .int .i64 vs.z] 65) = w3 := ⟨_, rfl⟩
    have N3 : Hid (Below w.heap.size w w3 ∧ Below w.heap.size w w3) := by
      show _ ∧ _
      rw [← hw3]
      have := (b1.alloc b1.size (.cells #[.int .i64 0, .int .i64 0, .int .i64 0, .int .i64 0, .int .i64 0, .int .i64 0, .int .i64 0, .int .i64 0] 67)).alloc (by have := b1.size; simp; omega) (.cells #[.int .i64 vs.x, .int .i64 vs.y, .int .i64 vs.z] 65)
      exact ⟨this, this⟩
    have HW3 : Hid ((w1.alloc (.cells #[.int .i64 0, .int .i64 0, .int .i64 0, .int .i64 0, .int .i64 0, .int .i64 0, .int .i64 0, .int .i64 0] 67)).alloc (.cells #[.int .i64 vs.x, .int .i64 vs.y, .int .i64 vs.z] 65) = w3) := hw3
    clear hw3
    have rv2 := (HV.out _ (b1.alloc b1.size (.cells #[.int .i64 0, .int .i64 0, .int .i64 0, .int .i64 0, .int .i64 0, .int .i64 0, .int .i64 0, .int .i64 0] 67))).cell
    unfold vArr at rv2
    go_upto_region 3 with fail
    simp only [HW3.out]
    clear rv2
    clear HW3 rv HAT HV
    have HAQ : Hid True := trivial
    refine wp_region_below (by kernel_rfl) (by kernel_rfl) ?_
    repeat (go_big_quiet_step (first | (go_at_call 34; exact Calls.wof (HAQ.out _)) | (go_at_call 98; exact Calls.wof (HFR.out _))))
    refine wpQuiet_nil ?_
    rintro wb ⟨⟨_, NQ⟩, rfl⟩
    go_wp2
    exact HP.out _ _ (by rw [KB.out]) (B.next N3.out.1 NQ N3.out.1.size)
  | some x =>
    simp only [stayA, Option.isSome]
    have KB : Hid (bb = (bz && jf && vs.z == 1 && cv == vs.id && eqP vs.x vs.y 0 x.x x.y x.z)) := by show _ = _; rw [KB0.out, ← hcv]; rfl
    clear KB0 hcv
    obtain ⟨w2, hw2⟩ : ∃ w2, w1.alloc (.cells #[.int .i64 x.t, .int .i64 x.id, .int .i64 x.a, .int .i64 x.b, .int .i64 x.c, .int .i64 x.x, .int .i64 x.y, .int .i64 x.z] 67) = w2 := ⟨_, rfl⟩
    obtain ⟨w3, hw3⟩ : ∃ w3, w2.alloc (.cells #[.int .i64 vs.x, .int .i64 vs.y, .int .i64 vs.z] 65) = w3 := ⟨_, rfl⟩
    obtain ⟨sb, hsb⟩ : ∃ sb, w1.heap.size = sb := ⟨_, rfl⟩
    obtain ⟨hb, hhb⟩ : ∃ hb, w2.heap.size = hb := ⟨_, rfl⟩
    have N3 : Hid (Below w.heap.size w w3 ∧ Blk w3 sb #[.int .i64 x.t, .int .i64 x.id, .int .i64 x.a, .int .i64 x.b, .int .i64 x.c, .int .i64 x.x, .int .i64 x.y, .int .i64 x.z] 67 ∧ Blk w3 hb #[.int .i64 vs.x, .int .i64 vs.y, .int .i64 vs.z] 65) := by
      show _ ∧ _ ∧ _
      rw [← hw3, ← hw2]
      have hh2 : hb = (w1.alloc (.cells #[.int .i64 x.t, .int .i64 x.id, .int .i64 x.a, .int .i64 x.b, .int .i64 x.c, .int .i64 x.x, .int .i64 x.y, .int .i64 x.z] 67)).heap.size := by rw [hw2, hhb]
      exact ⟨(b1.alloc b1.size _).alloc (by have := b1.size; simp; omega) _, (Blk.new1 hsb.symm _ _).old _, Blk.new1 hh2 _ _⟩
    have HW2 : Hid (w1.alloc (.cells #[.int .i64 x.t, .int .i64 x.id, .int .i64 x.a, .int .i64 x.b, .int .i64 x.c, .int .i64 x.x, .int .i64 x.y, .int .i64 x.z] 67) = w2) := hw2
    have HW3 : Hid (w2.alloc (.cells #[.int .i64 vs.x, .int .i64 vs.y, .int .i64 vs.z] 65) = w3) := hw3
    have HSZ : Hid (sb + 1 = hb) := by show _ = _; rw [← hsb, ← hhb, ← hw2]; simp
    clear hw2 hw3 hhb
    have rv2 := (HV.out _ (b1.alloc b1.size (.cells #[.int .i64 x.t, .int .i64 x.id, .int .i64 x.a, .int .i64 x.b, .int .i64 x.c, .int .i64 x.x, .int .i64 x.y, .int .i64 x.z] 67))).cell
    unfold vArr at rv2
    go_upto_region 3 with fail
    clear rv2
    simp only [HW2.out, HW3.out, HSZ.out, hsb]
    clear HW2 HW3 HSZ hsb rv
    have HAQ : Hid (∀ p : BelowW w3, Calls Tryz.prog 34 #[.pointer (some ⟨pb, 0, none⟩), .agg #[.int .i64 vs.x, .int .i64 vs.y, .int .i64 vs.z]] p.wd fun e w' => e = .returned (.int .i64 cv) ∧ Below p.wd.heap.size p.wd w') := fun p => HAT.out _ (B.next N3.out.1 p.hb N3.out.1.size)
    have HVC : Hid (∀ p : BelowW w3, Blk p.wd vb (vArr b s pb q1 q2 q3 bz jt jf vs) 135) := fun p => HV.out _ (B.next N3.out.1 p.hb N3.out.1.size)
    have v12 := fun p : BelowW w3 => (HVC.out p).cell 12
    have v15 := fun p : BelowW w3 => (HVC.out p).cell 15
    have v17 := fun p : BelowW w3 => (HVC.out p).cell 17
    have v19 := fun p : BelowW w3 => (HVC.out p).cell 19
    simp only [vArr] at v12 v15 v17 v19
    have h0 := fun p : BelowW w3 => (N3.out.2.2.below p.hb).cell 0
    have h1 := fun p : BelowW w3 => (N3.out.2.2.below p.hb).cell 1
    have h2 := fun p : BelowW w3 => (N3.out.2.2.below p.hb).cell 2
    have x5 := fun p : BelowW w3 => (N3.out.2.1.below p.hb).cell 5
    have x6 := fun p : BelowW w3 => (N3.out.2.1.below p.hb).cell 6
    have x7 := fun p : BelowW w3 => (N3.out.2.1.below p.hb).cell 7
    have e1 := eqP_run vs.x vs.y 0 x.x x.y x.z
    have g1 := eqP_guard vs.x vs.y 0 x.x x.y x.z
    generalize eqP vs.x vs.y 0 x.x x.y x.z = qe at e1 KB
    clear HVC HV HAT b1
    cases bz
    ·
      refine wp_region_below (by kernel_rfl) (by kernel_rfl) ?_
      repeat (go_big_quiet_step (first | (go_at_call 34; exact Calls.wof (HAQ.out _)) | (go_at_call 98; exact Calls.wof (HFR.out _))))
      refine wpQuiet_nil ?_
      rintro wb ⟨⟨_, NQ⟩, rfl⟩
      go_wp2
      exact HP.out _ _ (by rw [KB.out]; simp) (B.next N3.out.1 NQ N3.out.1.size)
    ·
      cases jf
      ·
        refine wp_region_below (by kernel_rfl) (by kernel_rfl) ?_
        repeat (go_big_quiet_step (first | (go_at_call 34; exact Calls.wof (HAQ.out _)) | (go_at_call 98; exact Calls.wof (HFR.out _))))
        refine wpQuiet_nil ?_
        rintro wb ⟨⟨_, NQ⟩, rfl⟩
        go_wp2
        exact HP.out _ _ (by rw [KB.out]; simp) (B.next N3.out.1 NQ N3.out.1.size)
      ·
        cases c3 : (vs.z == 1)
        ·
          rw [c3] at KB
          refine wp_region_below (by kernel_rfl) (by kernel_rfl) ?_
          repeat (go_big_quiet_step (first | (go_at_call 34; exact Calls.wof (HAQ.out _)) | (go_at_call 98; exact Calls.wof (HFR.out _))))
          refine wpQuiet_nil ?_
          rintro wb ⟨⟨_, NQ⟩, rfl⟩
          go_wp2
          exact HP.out _ _ (by rw [KB.out]; simp) (B.next N3.out.1 NQ N3.out.1.size)
        ·
          rw [c3] at KB
          cases c4 : (cv == vs.id)
          ·
            rw [c4] at KB
            refine wp_region_below (by kernel_rfl) (by kernel_rfl) ?_
            repeat (go_big_quiet_step (first | (go_at_call 34; exact Calls.wof (HAQ.out _)) | (go_at_call 98; exact Calls.wof (HFR.out _))))
            refine wpQuiet_nil ?_
            rintro wb ⟨⟨_, NQ⟩, rfl⟩
            go_wp2
            exact HP.out _ _ (by rw [KB.out]; simp) (B.next N3.out.1 NQ N3.out.1.size)
          ·
            rw [c4] at KB
            refine wp_region_below (by kernel_rfl) (by kernel_rfl) ?_
            repeat (go_big_quiet_step (first | (go_at_call 34; exact Calls.wof (HAQ.out _)) | (go_at_call 98; exact Calls.wof (HFR.out _))))
            refine wpQuiet_nil ?_
            rintro wb ⟨⟨_, NQ⟩, rfl⟩
            go_wp2
            exact HP.out _ _ (by rw [KB.out]; simp) (B.next N3.out.1 NQ N3.out.1.size)

end Tn
end Go.Proofs.YtopgllmjeliklaaGreatDoor
