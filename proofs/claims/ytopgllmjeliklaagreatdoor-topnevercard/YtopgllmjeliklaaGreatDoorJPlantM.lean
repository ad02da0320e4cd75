/- Chapter 2: is a car anywhere; a car comes (B2, B4); contracts of Has and Arrive; what always holds of a machine. -/
import Derived.Test.YtopgllmjeliklaaGreatDoorJBookPure
import Derived.Test.YtopgllmjeliklaaGreatDoorJTopPickA
import Derived.Test.YtopgllmjeliklaaGreatDoorJPlantJ
namespace Go.Proofs.YtopgllmjeliklaaGreatDoor
open Go.ChangeShapes Go.WideShapes Go.ChangeAt Go.RowKit Go.Maps
set_option maxRecDepth 100000
set_option linter.unusedSimpArgs false
set_option linter.unusedVariables false

namespace Pl
/-- All places, level by level, side by side. -/
def spots : List (Int × Int × Int) := [(1, 0, 0), (1, 0, 1), (1, 1, 0), (1, 1, 1), (2, 0, 0), (2, 0, 1), (2, 1, 0), (2, 1, 1), (3, 0, 0), (3, 0, 1), (3, 1, 0), (3, 1, 1), (4, 0, 0), (4, 0, 1), (4, 1, 0), (4, 1, 1)]
def atB (D : DataW Unit) (id : Int) : Bool := spots.any fun p => carOf D p.1 p.2.1 p.2.2 == id
def hasB (s : St) (id : Int) : Bool := id != 0 && (atB s.D id || s.li == id || s.ba == id)

theorem spots_in : ∀ p ∈ spots, (1 ≤ p.1 ∧ p.1 ≤ 4) ∧ (0 ≤ p.2.1 ∧ p.2.1 ≤ 1) ∧ (0 ≤ p.2.2 ∧ p.2.2 ≤ 1) := by decide
theorem mem_spots {x y z : Int} : (x, y, z) ∈ spots ↔ (1 ≤ x ∧ x ≤ 4) ∧ (0 ≤ y ∧ y ≤ 1) ∧ (0 ≤ z ∧ z ≤ 1) := by
  refine ⟨fun h => spots_in _ h, fun ⟨h1, h2, h3⟩ => ?_⟩
  have hx : x = 1 ∨ x = 2 ∨ x = 3 ∨ x = 4 := by omega
  have hy : y = 0 ∨ y = 1 := by omega
  have hz : z = 0 ∨ z = 1 := by omega
  rcases hx with rfl | rfl | rfl | rfl <;> rcases hy with rfl | rfl <;> rcases hz with rfl | rfl <;> decide

theorem atB_iff {D : DataW Unit} {id : Int} : atB D id = true ↔ ∃ x y z, ((1 ≤ x ∧ x ≤ 4) ∧ (0 ≤ y ∧ y ≤ 1) ∧ (0 ≤ z ∧ z ≤ 1)) ∧ carOf D x y z = id := by
  simp only [atB, List.any_eq_true, beq_iff_eq]
  constructor
  · rintro ⟨⟨x, y, z⟩, h, e⟩
    exact ⟨x, y, z, mem_spots.1 h, e⟩
  · rintro ⟨x, y, z, h, e⟩
    exact ⟨(x, y, z), mem_spots.2 h, e⟩

theorem whereB_iff {lv : Int} {D : DataW Unit} (h : DOk lv D) (h4 : lv ≤ 4) {id : Int} (h0 : id ≠ 0) : whereB D id ↔ atB D id = true := by
  rw [atB_iff]
  constructor
  · rintro ⟨x, y, z, h' | ⟨k, _⟩⟩
    · obtain ⟨_, k1, k2, wx, wy, wz⟩ := h'
      have hc : carOf D x y z = id := carOf_of (k2 _)
      have := h.place h4 wx wy wz (by rw [hc]; exact h0)
      exact ⟨x, y, z, by omega, hc⟩
    · cases k
  · rintro ⟨x, y, z, hp, hc⟩
    have hh := (h.has_iff x y z).2 (by rw [hc]; exact h0)
    obtain ⟨_, _, _, _, _, _, _, c, hat, _⟩ := h.keys _ hh
    have : c = id := by rw [← hc]; exact (carOf_of (hat _)).symm
    subst this
    exact ⟨x, y, z, Or.inl ⟨rfl, hh, hat, wfI (by omega), wfI (by omega), wfI (by omega)⟩⟩

/-- What always holds of a machine. -/
structure Inv (s : St) : Prop where
  ok : Ok s
  pe : 0 ≤ s.pe ∧ s.pe ≤ 9
  st : 0 ≤ s.st ∧ s.st ≤ 5
  li : 0 ≤ s.li ∧ s.li ≤ 999
  ba : 0 ≤ s.ba ∧ s.ba ≤ 999
  D : DOk s.lv s.D

theorem Inv.wf {s : St} (h : Inv s) : (Lit.int .i64 s.li).wf = true := wfI (by have := h.li; omega)

theorem b_or (a : Bool) : (a || true) = true := by cases a <;> rfl

set_option maxHeartbeats 1000000 in
theorem has_any (pb mb n : Nat) (s : St) (id : Int) (w : World) (hp : IsP w pb mb n s) (iv : Inv s) :
    Calls Tryz.prog 56 #[.pointer (some ⟨pb, 0, none⟩), .int .i64 id] w fun e w' => e = .returned (.bool (hasB s id)) ∧ Below w.heap.size w w' := by
  by_cases h0 : id = 0
  · have K : Hid (hasB s id = false) := by show _ = _; simp [hasB, h0]
    rw [K.out]
    clear K
    subst h0
    clear hp iv
    go_enter Tryz.func56, Tryz.ntmps56
    go_wp2
    go_returns
    exact ⟨rfl, Below.refl _ _⟩
  · have P : Hid (IsP w pb mb n s) := hp
    have HW := where_any pb mb n s id w hp
    have HI : Hid (∀ x y z b, WhereP s.D id x y z b → b = atB s.D id) := fun x y z b h => by
      have := h.iff.trans (whereB_iff iv.D iv.ok.lv4 h0)
      cases b <;> cases hk : atB s.D id <;> simp [hk] at this ⊢
    have HV : Hid (hasB s id = (atB s.D id || s.li == id || s.ba == id)) := by show _ = _; simp [hasB, h0]
    rw [HV.out]
    have HW' : Hid (Calls _ _ _ _ _) := HW
    generalize atB s.D id = q at HI ⊢
    have c5 : ∀ w1, Below w.heap.size w w1 → ∀ o, (w1.alloc o).cell? ⟨pb, 5, none⟩ = some (.int .i64 s.li) := fun w1 hb o => ((P.out.below hb).below (B.new1 w1 o)).c5
    have c6 : ∀ w1, Below w.heap.size w w1 → ∀ o, (w1.alloc o).cell? ⟨pb, 6, none⟩ = some (.int .i64 s.ba) := fun w1 hb o => ((P.out.below hb).below (B.new1 w1 o)).c6
    have C5 : Hid (∀ w1, Below w.heap.size w w1 → ∀ o, (w1.alloc o).cell? ⟨pb, 5, none⟩ = some (.int .i64 s.li)) := c5
    have C6 : Hid (∀ w1, Below w.heap.size w w1 → ∀ o, (w1.alloc o).cell? ⟨pb, 6, none⟩ = some (.int .i64 s.ba)) := c6
    generalize s.li = li at C5 ⊢
    generalize s.ba = ba at C6 ⊢
    generalize s.D = D at HI HW'
    clear hp iv HV HW P c5 c6
    go_enter Tryz.func56, Tryz.ntmps56
    go_wp2_with fail
    refine HW'.out.mono ?_
    rintro e w1 ⟨x, y, z, b, rfl, hw, hb⟩
    have hq := HI.out _ _ _ _ hw
    subst hq
    have d5 := C5.out w1 hb
    have d6 := C6.out w1 hb
    have HB : Hid (Below w.heap.size w w1) := hb
    clear hb hw HI HW' C5 C6
    cases b <;> cases k1 : (li == id) <;> cases k2 : (ba == id)
    all_goals
      go_wp2
      go_returns
      exact ⟨B.ret_bool (by simp [k1, k2]), HB.out.alloc HB.out.size _⟩

def arriveB (id : Int) (s : St) : Bool := decide (1 ≤ id ∧ id ≤ 999) && s.op && s.ba == 0 && !hasB s id
def arriveE (id : Int) (s : St) : Value := if 1 ≤ id ∧ id ≤ 999 then (if s.op = true ∧ s.ba = 0 then (if hasB s id = true then errV 6 else .nilIface) else errV 7) else errV 1
def arriveS (id : Int) (s : St) : St := if arriveB id s = true then { s with ba := id } else s

set_option maxHeartbeats 1000000 in
theorem arrive_any (pb mb n : Nat) (s : St) (id : Int) (w : World) (hp : IsP w pb mb n s) (iv : Inv s) :
    Calls Tryz.prog 25 #[.pointer (some ⟨pb, 0, none⟩), .int .i64 id] w fun e w' => e = .returned (arriveE id s) ∧ IsP w' pb mb n (arriveS id s) ∧ Turn pb mb w w' := by
  have HH : Hid (Calls Tryz.prog 56 #[.pointer (some ⟨pb, 0, none⟩), .int .i64 id] w fun e w' => e = .returned (.bool (hasB s id)) ∧ Below w.heap.size w w') := has_any pb mb n s id w hp iv
  have P : Hid (IsP w pb mb n s) := hp
  have c3 := hp.c3
  have c6 := hp.c6
  have HP : Hid (∀ w1, Below w.heap.size w w1 → IsP w1 pb mb n s) := fun w1 hb => P.out.below hb
  by_cases hi : 1 ≤ id ∧ id ≤ 999
  · by_cases hs : s.op = true ∧ s.ba = 0
    · obtain ⟨h1, h2⟩ := hs
      cases hk : hasB s id with
      | true =>
        have E1 : Hid (arriveE id s = errV 6) := by show _ = _; simp [arriveE, hi, h1, h2, hk]
        have E2 : Hid (arriveS id s = s) := by show _ = _; simp [arriveS, arriveB, hk]
        rw [E1.out, E2.out, errV_ne (by decide)]
        rw [hk] at HH
        rw [h1] at c3
        rw [h2] at c6
        obtain ⟨i1, i2⟩ := hi
        clear hp iv hk h1 h2 E1 E2
        go_enter Tryz.func25, Tryz.ntmps25
        go_wp2_with fail
        refine HH.out.mono ?_
        rintro e w1 ⟨rfl, hb⟩
        have HB : Hid (Below w.heap.size w w1) := hb
        clear hb
        go_wp2
        go_returns
        exact ⟨rfl, HP.out _ HB.out, Turn.of_below HB.out⟩
      | false =>
        have E1 : Hid (arriveE id s = .nilIface) := by show _ = _; simp [arriveE, hi, h1, h2, hk]
        have E2 : Hid (arriveS id s = { s with ba := id }) := by show _ = _; simp [arriveS, arriveB, hi, h1, h2, hk]
        have HS : Hid (∀ w1, IsP w1 pb mb n s → IsP (w1.setCell ⟨pb, 6, none⟩ (.int .i64 id)) pb mb n { s with ba := id }) := fun w1 h => h.set 6 _ rfl rfl
        rw [E1.out, E2.out]
        rw [hk] at HH
        rw [h1] at c3
        rw [h2] at c6
        obtain ⟨i1, i2⟩ := hi
        generalize ({ s with ba := id } : St) = s' at HS ⊢
        clear hp iv hk h1 h2 E1 E2
        go_enter Tryz.func25, Tryz.ntmps25
        go_wp2_with fail
        refine HH.out.mono ?_
        rintro e w1 ⟨rfl, hb⟩
        have d6 := (HP.out _ hb).c6
        have f6 := (HP.out _ hb).free 6
        have HB : Hid (Below w.heap.size w w1) := hb
        clear hb c6
        go_wp2
        go_returns
        exact ⟨rfl, HS.out _ (HP.out _ HB.out), (Turn.of_below HB.out).trans (Turn.set _ _ _)⟩
    · have E1 : Hid (arriveE id s = errV 7) := by show _ = _; simp only [arriveE, hi, hs, and_self, if_true, if_false]
      have E2 : Hid (arriveS id s = s) := by
        show _ = _
        have : (s.op && s.ba == 0) = false := by cases h : s.op <;> simp [h] at hs ⊢; exact hs
        simp only [arriveS, arriveB, Bool.and_assoc]
        rw [← Bool.and_assoc s.op, this]
        simp
      have HS : Hid (¬(s.op = true ∧ s.ba = 0)) := hs
      rw [E1.out, E2.out, errV_ne (by decide)]
      obtain ⟨i1, i2⟩ := hi
      generalize s.op = op at c3 HS
      generalize s.ba = ba at c6 HS
      clear hp iv E1 E2 hs HH
      by_cases kb : ba = 0
      · have ho : op = false := by have := HS.out; cases op <;> simp [kb] at this ⊢
        subst ho
        subst kb
        go_enter Tryz.func25, Tryz.ntmps25
        go_wp2
        go_returns
        exact ⟨rfl, P.out, Turn.refl _ _ _⟩
      · cases op <;> (
          go_enter Tryz.func25, Tryz.ntmps25
          go_wp2
          go_returns
          exact ⟨rfl, P.out, Turn.refl _ _ _⟩)
  · have E1 : Hid (arriveE id s = errV 1) := by show _ = _; simp only [arriveE, hi, if_false]
    have E2 : Hid (arriveS id s = s) := by show _ = _; simp [arriveS, arriveB, hi]
    have HK : Hid (¬(1 ≤ id ∧ id ≤ 999)) := hi
    rw [E1.out, E2.out, errV_ne (by decide)]
    clear hp iv E1 E2 hi HH c3 c6
    go_enter Tryz.func25, Tryz.ntmps25
    go_wp2_with fail
    all_goals first
      | (exfalso; go_light; have := HK.out; omega)
      | (go_returns; exact ⟨rfl, P.out, Turn.refl _ _ _⟩)

end Pl
end Go.Proofs.YtopgllmjeliklaaGreatDoor

namespace Go.Proofs.YtopgllmjeliklaaGreatDoor
open Go.Shelf Go.Lib Go.ChangeShapes Go.WideShapes Go.ChangeAt Go.RowKit
set_option maxRecDepth 100000
set_option linter.unusedSimpArgs false
set_option linter.unusedVariables false

namespace Bk
/-- No book at all. -/
def noBook : Book := ⟨0, none, 0, none, 0, [], []⟩
theorem noBook_at (w : World) : noBook.At w := ⟨⟨Nat.le_refl _, Nat.zero_le _, fun h => absurd h (Nat.lt_irrefl _)⟩, ⟨Nat.le_refl _, Nat.zero_le _, fun h => absurd h (Nat.lt_irrefl _)⟩⟩
theorem pick_first : pickV (pickO noBook (fun _ => (99, 99, 99)) 0 0 0 1) = .tuple #[.agg #[.int .i64 1, .int .i64 0, .int .i64 1], .bool true] := by
  have : pickO noBook (fun _ => (99, 99, 99)) 0 0 0 1 = some (1, 0, 1) := by decide
  rw [this]
  rfl

theorem pick_none (v : Value) (w : World) (h : SizesAt w v 1 (fun _ => (99, 99, 99))) :
    Calls Tryz.prog 36 #[.agg #[.int .i64 0, .slice none 0 0, .slice none 0 0], v, .agg #[.int .i64 1, .int .i64 0, .int .i64 0, .int .i64 0]] w fun e w' => e = .returned (.tuple #[.agg #[.int .i64 1, .int .i64 0, .int .i64 1], .bool true]) ∧ Below w.heap.size w w' := by
  rw [← pick_first]
  exact pick_any noBook v 1 _ 1 0 0 0 w (noBook_at w) h (by omega) (by omega)

end Bk
end Go.Proofs.YtopgllmjeliklaaGreatDoor

namespace Go.Proofs.YtopgllmjeliklaaGreatDoor
open Go.Shelf Go.Lib Go.ChangeShapes Go.WideShapes Go.ChangeAt Go.RowKit
set_option maxRecDepth 100000
set_option linter.unusedSimpArgs false
set_option linter.unusedVariables false

namespace Bk
theorem neqP_run (a b c x y z : Int) (w : World) : Sem.run Tryz.prog (binOp .neq 65 (.agg #[.int .i64 a, .int .i64 b, .int .i64 c]) (.agg #[.int .i64 x, .int .i64 y, .int .i64 z])) w = .ok (.bool (!eqP a b c x y z)) w := by
  have u3 := Tryz.underlying3
  have a3 := Tryz.isAgg3
  have z3 := Tryz.sizeOf3
  have hS : Tryz.prog.underlying 65 = some (.struct (Tryz.prog.fieldsOf 65)) := by kernel_rfl
  have hp : Tryz.prog.stoodInHeld 65 = false := by kernel_rfl
  rw [run_neq_struct, show (10000 : Nat) = 9999 + 1 from rfl, run_equalIn_agg w 9999 65 _ _ hS hp]
  simp only [Program.fieldsOf, Tryz.underlying65]
  go_simp
  unfold eqP
  by_cases h1 : a = x <;> by_cases h2 : b = y <;> by_cases h3 : c = z <;> simp [h1, h2, h3]

/-- A job, by its two cells: it isn't the one that puts a ticket away. -/
def noJob (t : Int) (f : Bool) (k : Int) : Bool := !(t == k && f == false)
theorem neqJ_run (t k : Int) (f : Bool) (w : World) : Sem.run Tryz.prog (binOp .neq 88 (.agg #[.int .i64 t, .bool f]) (.agg #[.int .i64 k, .bool false])) w = .ok (.bool (noJob t f k)) w := by
  have u3 := Tryz.underlying3
  have a3 := Tryz.isAgg3
  have z3 := Tryz.sizeOf3
  have u4 := Tryz.underlying4
  have a4 := Tryz.isAgg4
  have z4 := Tryz.sizeOf4
  have hS : Tryz.prog.underlying 88 = some (.struct (Tryz.prog.fieldsOf 88)) := by kernel_rfl
  have hp : Tryz.prog.stoodInHeld 88 = false := by kernel_rfl
  rw [run_neq_struct, show (10000 : Nat) = 9999 + 1 from rfl, run_equalIn_agg w 9999 88 _ _ hS hp]
  simp only [Program.fieldsOf, Tryz.underlying88]
  go_simp
  unfold noJob
  by_cases h1 : t = k <;> cases f <;> simp [h1]
theorem neqJ_guard (t k : Int) (f : Bool) (op : BinOp) (u v : Operand) (w : World) : Sem.run Tryz.prog (eqGuard op 88 u v (.agg #[.int .i64 t, .bool f]) (.agg #[.int .i64 k, .bool false])) w = .ok () w := eqJob.2 op u v ⟨t, f⟩ ⟨k, false⟩ w

/-- Behind so many jobs. -/
def jobsTo (jobs : List Job) (s : Stay) (p : Int × Int × Int) (q : Bool) : Nat → Bool
  | 0 => q
  | n + 1 => jobsTo jobs s p q n && (noJob jobs[n]!.t jobs[n]!.f s.t || !eqP s.x s.y 0 p.1 p.2.1 p.2.2)
/-- Behind so many stays. -/
def freeTo (b : Book) (p : Int × Int × Int) (q : Bool) : Nat → Bool
  | 0 => q
  | k + 1 => jobsTo b.jobs b.stays[k]! p (freeTo b p q k && !eqP b.stays[k]!.x b.stays[k]!.y b.stays[k]!.z p.1 p.2.1 p.2.2 && !eqP b.stays[k]!.x b.stays[k]!.y b.stays[k]!.z p.1 p.2.1 0) b.jobs.length

theorem beq_sym (a b : Int) : (a == b) = (b == a) := by
  by_cases h : a = b
  · subst h; rfl
  · have h' : ¬ b = a := fun e => h e.symm
    rw [show (a == b) = false from by simpa using h, show (b == a) = false from by simpa using h']
theorem jobsTo_eq (jobs : List Job) (s : Stay) (p : Int × Int × Int) (q : Bool) : ∀ n, n ≤ jobs.length → jobsTo jobs s p q n = (q && !(eqP s.x s.y 0 p.1 p.2.1 p.2.2 && hasJob (jobs.take n) ⟨s.t, false⟩))
  | 0, _ => by simp [jobsTo, hasJob]
  | n + 1, h => by
    have ih := jobsTo_eq jobs s p q n (by omega)
    have hn : n < jobs.length := by omega
    unfold jobsTo
    rw [ih, List.take_succ_eq_append_getElem hn]
    have e : jobs[n]! = jobs[n] := getElem!_pos jobs n hn
    rw [e]
    generalize jobs[n] = j
    simp only [hasJob, List.any_append, List.any_cons, List.any_nil, Bool.or_false, noJob]
    generalize (jobs.take n).any _ = r
    have c1 : (s.t == j.t) = (j.t == s.t) := beq_sym _ _
    have c2 : (false == j.f) = (j.f == false) := by cases j.f <;> rfl
    rw [c1, c2]
    generalize (j.t == s.t) = r1
    generalize (j.f == false) = r2
    generalize eqP s.x s.y 0 p.1 p.2.1 p.2.2 = r3
    cases q <;> cases r <;> cases r1 <;> cases r2 <;> cases r3 <;> rfl

theorem freeTo_eq (b : Book) (p : Int × Int × Int) (q : Bool) : ∀ k, k ≤ b.stays.length → freeTo b p q k = (q && !(b.stays.take k).any (barP p.1 p.2.1 p.2.2 b.jobs))
  | 0, _ => by simp [freeTo]
  | k + 1, h => by
    have ih := freeTo_eq b p q k (by omega)
    have hk : k < b.stays.length := by omega
    unfold freeTo
    rw [ih, jobsTo_eq _ _ _ _ _ (Nat.le_refl _), List.take_length, List.take_succ_eq_append_getElem hk]
    have e : b.stays[k]! = b.stays[k] := getElem!_pos b.stays k hk
    rw [e]
    generalize b.stays[k] = s
    simp only [List.any_append, List.any_cons, List.any_nil, Bool.or_false, barP]
    generalize (b.stays.take k).any _ = r
    generalize eqP s.x s.y s.z p.1 p.2.1 p.2.2 = r1
    generalize eqP s.x s.y s.z p.1 p.2.1 0 = r2
    generalize eqP s.x s.y 0 p.1 p.2.1 p.2.2 = r3
    generalize hasJob b.jobs _ = r4
    cases q <;> cases r <;> cases r1 <;> cases r2 <;> cases r3 <;> cases r4 <;> rfl

theorem freeTo_ok (b : Book) (f : Nat → Int × Int × Int) (ca cb cc : Int) (p : Int × Int × Int) (j : Nat) (hj : (p.1 - 1).toNat = j) : freeTo b p (fitsB ca cb cc (f j).1 (f j).2.1 (f j).2.2) b.stays.length = okP b f ca cb cc p := by
  rw [freeTo_eq _ _ _ _ (Nat.le_refl _), List.take_length]
  unfold okP barredB
  rw [hj]

end Bk
end Go.Proofs.YtopgllmjeliklaaGreatDoor

namespace Go.Proofs.YtopgllmjeliklaaGreatDoor
open Go.Shelf Go.Lib Go.ChangeShapes Go.WideShapes Go.ChangeAt Go.RowKit
set_option maxRecDepth 100000
set_option linter.unusedSimpArgs false
set_option linter.unusedVariables false

namespace Bk
theorem eqIn3 (T : TypeId) (d : Nat) (a b c : Int) (w : World) (hS : Tryz.prog.underlying T = some (.struct (Tryz.prog.fieldsOf T))) (hp : Tryz.prog.stoodInHeld T = false) (hc : Tryz.prog.fieldsOf T = Tryz.prog.fieldsOf 65 ∨ Tryz.prog.fieldsOf T = Tryz.prog.fieldsOf 32) :
    Sem.run Tryz.prog (Op.equalIn (d + 2) T (.agg #[.int .i64 a, .int .i64 b, .int .i64 c]) (.agg #[.int .i64 a, .int .i64 b, .int .i64 c])) w = .ok true w := by
  have u3 := Tryz.underlying3
  have a3 := Tryz.isAgg3
  have z3 := Tryz.sizeOf3
  rw [run_equalIn_agg w (d + 1) T _ _ hS hp]
  rcases hc with hc | hc
  · rw [hc]
    simp only [Program.fieldsOf, Tryz.underlying65]
    go_simp
  · rw [hc]
    simp only [Program.fieldsOf, Tryz.underlying32]
    go_simp
theorem neqStay_run (s : Stay) (w : World) : Sem.run Tryz.prog (binOp .neq 67 (.agg #[.int .i64 s.t, .int .i64 s.id, .int .i64 s.a, .int .i64 s.b, .int .i64 s.c, .int .i64 s.x, .int .i64 s.y, .int .i64 s.z]) (.agg #[.int .i64 s.t, .int .i64 s.id, .int .i64 s.a, .int .i64 s.b, .int .i64 s.c, .int .i64 s.x, .int .i64 s.y, .int .i64 s.z])) w = .ok (.bool false) w := by
  obtain ⟨t, id, a, b, c, x, y, z⟩ := s
  have u3 := Tryz.underlying3
  have a3 := Tryz.isAgg3
  have z3 := Tryz.sizeOf3
  have hS : Tryz.prog.underlying 67 = some (.struct (Tryz.prog.fieldsOf 67)) := by kernel_rfl
  have hp : Tryz.prog.stoodInHeld 67 = false := by kernel_rfl
  have hS2 : Tryz.prog.underlying 34 = some (.struct (Tryz.prog.fieldsOf 34)) := by kernel_rfl
  have hp2 : Tryz.prog.stoodInHeld 34 = false := by kernel_rfl
  have e1 : ∀ (d : Nat) (w : World), Sem.run Tryz.prog (Op.equalIn (d + 2) 32 (.agg #[.int .i64 a, .int .i64 b, .int .i64 c]) (.agg #[.int .i64 a, .int .i64 b, .int .i64 c])) w = .ok true w := fun d w => eqIn3 32 d a b c w (by kernel_rfl) (by kernel_rfl) (Or.inr rfl)
  have e2 : ∀ (d : Nat) (w : World), Sem.run Tryz.prog (Op.equalIn (d + 2) 65 (.agg #[.int .i64 x, .int .i64 y, .int .i64 z]) (.agg #[.int .i64 x, .int .i64 y, .int .i64 z])) w = .ok true w := fun d w => eqIn3 65 d x y z w (by kernel_rfl) (by kernel_rfl) (Or.inl rfl)
  have aC := Tryz.isAgg34
  have zC := Tryz.sizeOf34
  have aP := Tryz.isAgg65
  have zP := Tryz.sizeOf65
  have aZ := Tryz.isAgg32
  have zZ := Tryz.sizeOf32
  have e3 : Sem.run Tryz.prog (Op.equalIn 9999 34 (.agg #[.int .i64 id, .int .i64 a, .int .i64 b, .int .i64 c]) (.agg #[.int .i64 id, .int .i64 a, .int .i64 b, .int .i64 c])) w = .ok true w := by
    rw [show (9999 : Nat) = 9998 + 1 from rfl, run_equalIn_agg w 9998 34 _ _ hS2 hp2]
    simp only [Program.fieldsOf, Tryz.underlying34]
    have e1' : ∀ w, Sem.run Tryz.prog (Op.equalIn 9998 32 (.agg #[.int .i64 a, .int .i64 b, .int .i64 c]) (.agg #[.int .i64 a, .int .i64 b, .int .i64 c])) w = .ok true w := fun w => e1 9996 w
    clear e1 e2
    go_simp
  rw [run_neq_struct, show (10000 : Nat) = 9999 + 1 from rfl, run_equalIn_agg w 9999 67 _ _ hS hp]
  simp only [Program.fieldsOf, Tryz.underlying67]
  have e2' : ∀ w, Sem.run Tryz.prog (Op.equalIn 9999 65 (.agg #[.int .i64 x, .int .i64 y, .int .i64 z]) (.agg #[.int .i64 x, .int .i64 y, .int .i64 z])) w = .ok true w := fun w => e2 9997 w
  clear e1 e2 hS hp hS2 hp2
  go_simp
theorem guardStay_run (op : BinOp) (u v : Operand) (a b : Array Value) (w : World) : Sem.run Tryz.prog (eqGuard op 67 u v (.agg a) (.agg b)) w = .ok () w := run_eqGuard_agg w op 67 u v a b (by kernel_rfl)

theorem rows_cell {α : Type} [Inhabited α] {W : World} {b off cap k : Nat} {enc : α → List Value} {zs : List α} (h : RowsAt W (some ⟨b, off, none⟩) cap k enc zs) (j : Nat) (hj : j < zs.length) (i : Nat) (v : Value) (hv : (enc zs[j]!)[i]? = some v) : W.cell? ⟨b, off + j * k + i, none⟩ = some v := by
  obtain ⟨_, _, hc⟩ := h
  obtain ⟨b', off', e, _, hcell⟩ := hc (by omega)
  cases e
  exact hcell j hj i v hv
theorem rows_some {α : Type} [Inhabited α] {W : World} {a : Option Addr} {cap k : Nat} {enc : α → List Value} {zs : List α} (h : RowsAt W a cap k enc zs) (h0 : 0 < zs.length) : ∃ b off, a = some ⟨b, off, none⟩ := by
  obtain ⟨b, off, e, _⟩ := h.2.2 h0
  exact ⟨b, off, e⟩
theorem neqJJ_run (t k : Int) (f g : Bool) (w : World) : Sem.run Tryz.prog (binOp .neq 88 (.agg #[.int .i64 t, .bool f]) (.agg #[.int .i64 k, .bool g])) w = .ok (.bool (!(t == k && f == g))) w := by
  have u3 := Tryz.underlying3
  have a3 := Tryz.isAgg3
  have z3 := Tryz.sizeOf3
  have u4 := Tryz.underlying4
  have a4 := Tryz.isAgg4
  have z4 := Tryz.sizeOf4
  have hS : Tryz.prog.underlying 88 = some (.struct (Tryz.prog.fieldsOf 88)) := by kernel_rfl
  have hp : Tryz.prog.stoodInHeld 88 = false := by kernel_rfl
  rw [run_neq_struct, show (10000 : Nat) = 9999 + 1 from rfl, run_equalIn_agg w 9999 88 _ _ hS hp]
  simp only [Program.fieldsOf, Tryz.underlying88]
  go_simp
  by_cases h1 : t = k <;> by_cases h2 : f = g <;> simp [h1, h2]
theorem findI_filter (b : Book) (last : Int) (sx jx : Option Addr) (cx dx : Nat) (J : List Job) (kp : Stay → Bool) (hp : b.stays.Pairwise (fun a s => a.t < s.t ∧ clash s a = false)) (i : Nat) (hi : i < b.stays.length) (hk : kp b.stays[i] = true) :
    findI ⟨last, sx, cx, jx, dx, b.stays.filter kp, J⟩ b.stays[i].t = posOf kp b.stays i := by
  have h := filter_at kp b.stays i hi hk
  obtain ⟨hlt, he⟩ := List.getElem?_eq_some_iff.1 h
  have := findI_at ⟨last, sx, cx, jx, dx, b.stays.filter kp, J⟩ (posOf kp b.stays i) hlt (hp.filter _)
  simp only at this
  rw [he] at this
  exact this

end Bk
end Go.Proofs.YtopgllmjeliklaaGreatDoor

namespace Go.Proofs.YtopgllmjeliklaaGreatDoor
open Go.Shelf Go.Lib Go.ChangeShapes Go.WideShapes Go.ChangeAt Go.RowKit
set_option maxRecDepth 100000
set_option linter.unusedSimpArgs false
set_option linter.unusedVariables false

namespace Bk
/-- The stay that is asked for, by ticket, or by car where the ticket is 0. -/
def stayIs (t c : Int) (s : Stay) : Bool := s.t == t || (t == 0 && s.id == c)
def stayO (b : Book) (t c : Int) : Option Stay := b.stays.find? (stayIs t c)
def stayA : Option Stay → Array Value
  | none => #[.int .i64 0, .int .i64 0, .int .i64 0, .int .i64 0, .int .i64 0, .int .i64 0, .int .i64 0, .int .i64 0]
  | some sv => #[.int .i64 sv.t, .int .i64 sv.id, .int .i64 sv.a, .int .i64 sv.b, .int .i64 sv.c, .int .i64 sv.x, .int .i64 sv.y, .int .i64 sv.z]
theorem find_upto {p : Stay → Bool} : ∀ (l : List Stay) (k : Nat), k < l.length → (∀ i, i < k → p l[i]! = false) → p l[k]! = true → l.find? p = some l[k]!
  | [], k, h, _, _ => by simp at h
  | x :: l, 0, _, _, h => by
    have h' : p x = true := h
    simp [List.find?, h']
  | x :: l, k + 1, hk, hn, h => by
    have h0 : p x = false := hn 0 (Nat.succ_pos _)
    have := find_upto (p := p) l k (by simpa using hk) (fun i hi => by have := hn (i + 1) (by omega); simpa using this) (by simpa using h)
    simp [List.find?, h0, this]
theorem find_not {p : Stay → Bool} (l : List Stay) (hn : ∀ i, i < l.length → p l[i]! = false) : l.find? p = none := by
  rw [List.find?_eq_none]
  intro x hx
  obtain ⟨i, hi, rfl⟩ := List.getElem_of_mem hx
  have := hn i hi
  rw [getElem!_pos l i hi] at this
  simp [this]

/-- What StayOf answers. -/
def StayOfPost (b : Book) (t c : Int) (w : World) (e : Ending) (w' : World) : Prop :=
  e = .returned (.tuple #[.agg (stayA (stayO b t c)), .bool (stayO b t c).isSome]) ∧ Below w.heap.size w w'

-- left out: this seat has not what it speaks of

end Bk
end Go.Proofs.YtopgllmjeliklaaGreatDoor
