/- Chapter 2: is a car anywhere; a car comes (B2, B4); contracts of Has and Arrive; what always holds of a machine. -/
import Derived.Test.YticjjnmmedmbiabPlantL
namespace Go.Proofs.Yticjjnmmedmbiab
open Go.ChangeShapes Go.WideShapes Go.ChangeAt Go.RowKit Go.Maps
set_option maxRecDepth 100000
set_option linter.unusedSimpArgs false
set_option linter.unusedVariables false

namespace Pl
/-- All places, level by level, side by side. -/
def spots : List (Int × Int × Int) := [(1, 0, 0), (1, 0, 1), (1, 1, 0), (1, 1, 1), (2, 0, 0), (2, 0, 1), (2, 1, 0), (2, 1, 1), (3, 0, 0), (3, 0, 1), (3, 1, 0), (3, 1, 1), (4, 0, 0), (4, 0, 1), (4, 1, 0), (4, 1, 1)]
def atB (D : DataW Unit) (id : Int) : Bool := spots.any fun p => carOf D p.1 p.2.1 p.2.2 == id
def hasB (s : St) (id : Int) : Bool := id != 0 && (atB s.D id || s.li == id || s.ba == id)

theorem spots_in : ∀ p ∈ spots, (1 ≤ p.1 ∧ p.1 ≤ 4) ∧ (0 ≤ p.2.1 ∧ p.2.1 ≤ 1) ∧ (0 ≤ p.2.2 ∧ p.2.2 ≤ 1) := by decide
theorem mem_spots {x y z : Int} : (x, y, z) ∈ spots ↔ (1 ≤ x ∧ x ≤ 4) ∧ (0 ≤ y ∧ y ≤ 1) ∧ (0 ≤ z ∧ z ≤ 1) := by
  refine ⟨fun h => spots_in _ h, fun ⟨h1, h2, h3⟩ => ?_⟩
  have hx : x = 1 ∨ x = 2 ∨ x = 3 ∨ x = 4 := by omega
  have hy : y = 0 ∨ y = 1 := by omega
  have hz : z = 0 ∨ z = 1 := by omega
  rcases hx with rfl | rfl | rfl | rfl <;> rcases hy with rfl | rfl <;> rcases hz with rfl | rfl <;> decide

theorem atB_iff {D : DataW Unit} {id : Int} : atB D id = true ↔ ∃ x y z, ((1 ≤ x ∧ x ≤ 4) ∧ (0 ≤ y ∧ y ≤ 1) ∧ (0 ≤ z ∧ z ≤ 1)) ∧ carOf D x y z = id := by
  simp only [atB, List.any_eq_true, beq_iff_eq]
  constructor
  · rintro ⟨⟨x, y, z⟩, h, e⟩
    exact ⟨x, y, z, mem_spots.1 h, e⟩
  · rintro ⟨x, y, z, h, e⟩
    exact ⟨(x, y, z), mem_spots.2 h, e⟩

theorem whereB_iff {lv : Int} {D : DataW Unit} (h : DOk lv D) (h4 : lv ≤ 4) {id : Int} (h0 : id ≠ 0) : whereB D id ↔ atB D id = true := by
  rw [atB_iff]
  constructor
  · rintro ⟨x, y, z, h' | ⟨k, _⟩⟩
    · obtain ⟨_, k1, k2, wx, wy, wz⟩ := h'
      have hc : carOf D x y z = id := carOf_of (k2 _)
      have := h.place h4 wx wy wz (by rw [hc]; exact h0)
      exact ⟨x, y, z, by omega, hc⟩
    · cases k
  · rintro ⟨x, y, z, hp, hc⟩
    have hh := (h.has_iff x y z).2 (by rw [hc]; exact h0)
    obtain ⟨_, _, _, _, _, _, _, c, hat, _⟩ := h.keys _ hh
    have : c = id := by rw [← hc]; exact (carOf_of (hat _)).symm
    subst this
    exact ⟨x, y, z, Or.inl ⟨rfl, hh, hat, wfI (by omega), wfI (by omega), wfI (by omega)⟩⟩

/-- What always holds of a machine. -/
structure Inv (s : St) : Prop where
  ok : Ok s
  pe : 0 ≤ s.pe ∧ s.pe ≤ 9
  st : 0 ≤ s.st ∧ s.st ≤ 5
  li : 0 ≤ s.li ∧ s.li ≤ 999
  ba : 0 ≤ s.ba ∧ s.ba ≤ 999
  D : DOk s.lv s.D

theorem Inv.wf {s : St} (h : Inv s) : (Lit.int .i64 s.li).wf = true := wfI (by have := h.li; omega)

theorem b_or (a : Bool) : (a || true) = true := by cases a <;> rfl

set_option maxHeartbeats 1000000 in
theorem has_any (pb mb n : Nat) (s : St) (id : Int) (w : World) (hp : IsP w pb mb n s) (iv : Inv s) :
    Calls Try.prog 111 #[.pointer (some ⟨pb, 0, none⟩), .int .i64 id] w fun e w' => e = .returned (.bool (hasB s id)) ∧ Below w.heap.size w w' := by
  by_cases h0 : id = 0
  · have K : Hid (hasB s id = false) := by show _ = _; simp [hasB, h0]
    rw [K.out]
    clear K
    subst h0
    clear hp iv
    go_enter Try.func111, Try.ntmps111
    go_wp2
    go_returns
    exact ⟨rfl, Below.refl _ _⟩
  · have P : Hid (IsP w pb mb n s) := hp
    have HW := where_any pb mb n s id w hp
    have HI : Hid (∀ x y z b, WhereP s.D id x y z b → b = atB s.D id) := fun x y z b h => by
      have := h.iff.trans (whereB_iff iv.D iv.ok.lv4 h0)
      cases b <;> cases hk : atB s.D id <;> simp [hk] at this ⊢
    have HV : Hid (hasB s id = (atB s.D id || s.li == id || s.ba == id)) := by show _ = _; simp [hasB, h0]
    rw [HV.out]
    have HW' : Hid (Calls _ _ _ _ _) := HW
    generalize atB s.D id = q at HI ⊢
    have c5 : ∀ w1, Below w.heap.size w w1 → ∀ o, (w1.alloc o).cell? ⟨pb, 5, none⟩ = some (.int .i64 s.li) := fun w1 hb o => ((P.out.below hb).below (B.new1 w1 o)).c5
    have c6 : ∀ w1, Below w.heap.size w w1 → ∀ o, (w1.alloc o).cell? ⟨pb, 6, none⟩ = some (.int .i64 s.ba) := fun w1 hb o => ((P.out.below hb).below (B.new1 w1 o)).c6
    have C5 : Hid (∀ w1, Below w.heap.size w w1 → ∀ o, (w1.alloc o).cell? ⟨pb, 5, none⟩ = some (.int .i64 s.li)) := c5
    have C6 : Hid (∀ w1, Below w.heap.size w w1 → ∀ o, (w1.alloc o).cell? ⟨pb, 6, none⟩ = some (.int .i64 s.ba)) := c6
    generalize s.li = li at C5 ⊢
    generalize s.ba = ba at C6 ⊢
    generalize s.D = D at HI HW'
    clear hp iv HV HW P c5 c6
    go_enter Try.func111, Try.ntmps111
    go_wp2_with fail
    refine HW'.out.mono ?_
    rintro e w1 ⟨x, y, z, b, rfl, hw, hb⟩
    have hq := HI.out _ _ _ _ hw
    subst hq
    have d5 := C5.out w1 hb
    have d6 := C6.out w1 hb
    have HB : Hid (Below w.heap.size w w1) := hb
    clear hb hw HI HW' C5 C6
    cases b <;> cases k1 : (li == id) <;> cases k2 : (ba == id)
    all_goals
      go_wp2
      go_returns
      exact ⟨B.ret_bool (by simp [k1, k2]), HB.out.alloc HB.out.size _⟩

def arriveB (id : Int) (s : St) : Bool := decide (1 ≤ id ∧ id ≤ 999) && s.op && s.ba == 0 && !hasB s id
def arriveE (id : Int) (s : St) : Value := if 1 ≤ id ∧ id ≤ 999 then (if s.op = true ∧ s.ba = 0 then (if hasB s id = true then errV 6 else .nilIface) else errV 7) else errV 1
def arriveS (id : Int) (s : St) : St := if arriveB id s = true then { s with ba := id } else s

set_option maxHeartbeats 1000000 in
theorem arrive_any (pb mb n : Nat) (s : St) (id : Int) (w : World) (hp : IsP w pb mb n s) (iv : Inv s) :
    Calls Try.prog 64 #[.pointer (some ⟨pb, 0, none⟩), .int .i64 id] w fun e w' => e = .returned (arriveE id s) ∧ IsP w' pb mb n (arriveS id s) ∧ Turn pb mb w w' := by
  have HH : Hid (Calls Try.prog 111 #[.pointer (some ⟨pb, 0, none⟩), .int .i64 id] w fun e w' => e = .returned (.bool (hasB s id)) ∧ Below w.heap.size w w') := has_any pb mb n s id w hp iv
  have P : Hid (IsP w pb mb n s) := hp
  have c3 := hp.c3
  have c6 := hp.c6
  have HP : Hid (∀ w1, Below w.heap.size w w1 → IsP w1 pb mb n s) := fun w1 hb => P.out.below hb
  by_cases hi : 1 ≤ id ∧ id ≤ 999
  · by_cases hs : s.op = true ∧ s.ba = 0
    · obtain ⟨h1, h2⟩ := hs
      cases hk : hasB s id with
      | true =>
        have E1 : Hid (arriveE id s = errV 6) := by show _ = _; simp [arriveE, hi, h1, h2, hk]
        have E2 : Hid (arriveS id s = s) := by show _ = _; simp [arriveS, arriveB, hk]
        rw [E1.out, E2.out, errV_ne (by decide)]
        rw [hk] at HH
        rw [h1] at c3
        rw [h2] at c6
        obtain ⟨i1, i2⟩ := hi
        clear hp iv hk h1 h2 E1 E2
        go_enter Try.func64, Try.ntmps64
        go_wp2_with fail
        refine HH.out.mono ?_
        rintro e w1 ⟨rfl, hb⟩
        have HB : Hid (Below w.heap.size w w1) := hb
        clear hb
        go_wp2
        go_returns
        exact ⟨rfl, HP.out _ HB.out, Turn.of_below HB.out⟩
      | false =>
        have E1 : Hid (arriveE id s = .nilIface) := by show _ = _; simp [arriveE, hi, h1, h2, hk]
        have E2 : Hid (arriveS id s = { s with ba := id }) := by show _ = _; simp [arriveS, arriveB, hi, h1, h2, hk]
        have HS : Hid (∀ w1, IsP w1 pb mb n s → IsP (w1.setCell ⟨pb, 6, none⟩ (.int .i64 id)) pb mb n { s with ba := id }) := fun w1 h => h.set 6 _ rfl rfl
        rw [E1.out, E2.out]
        rw [hk] at HH
        rw [h1] at c3
        rw [h2] at c6
        obtain ⟨i1, i2⟩ := hi
        generalize ({ s with ba := id } : St) = s' at HS ⊢
        clear hp iv hk h1 h2 E1 E2
        go_enter Try.func64, Try.ntmps64
        go_wp2_with fail
        refine HH.out.mono ?_
        rintro e w1 ⟨rfl, hb⟩
        have d6 := (HP.out _ hb).c6
        have f6 := (HP.out _ hb).free 6
        have HB : Hid (Below w.heap.size w w1) := hb
        clear hb c6
        go_wp2
        go_returns
        exact ⟨rfl, HS.out _ (HP.out _ HB.out), (Turn.of_below HB.out).trans (Turn.set _ _ _)⟩
    · have E1 : Hid (arriveE id s = errV 7) := by show _ = _; simp only [arriveE, hi, hs, and_self, if_true, if_false]
      have E2 : Hid (arriveS id s = s) := by
        show _ = _
        have : (s.op && s.ba == 0) = false := by cases h : s.op <;> simp [h] at hs ⊢; exact hs
        simp only [arriveS, arriveB, Bool.and_assoc]
        rw [← Bool.and_assoc s.op, this]
        simp
      have HS : Hid (¬(s.op = true ∧ s.ba = 0)) := hs
      rw [E1.out, E2.out, errV_ne (by decide)]
      obtain ⟨i1, i2⟩ := hi
      generalize s.op = op at c3 HS
      generalize s.ba = ba at c6 HS
      clear hp iv E1 E2 hs HH
      by_cases kb : ba = 0
      · have ho : op = false := by have := HS.out; cases op <;> simp [kb] at this ⊢
        subst ho
        subst kb
        go_enter Try.func64, Try.ntmps64
        go_wp2
        go_returns
        exact ⟨rfl, P.out, Turn.refl _ _ _⟩
      · cases op <;> (
          go_enter Try.func64, Try.ntmps64
          go_wp2
          go_returns
          exact ⟨rfl, P.out, Turn.refl _ _ _⟩)
  · have E1 : Hid (arriveE id s = errV 1) := by show _ = _; simp only [arriveE, hi, if_false]
    have E2 : Hid (arriveS id s = s) := by show _ = _; simp [arriveS, arriveB, hi]
    have HK : Hid (¬(1 ≤ id ∧ id ≤ 999)) := hi
    rw [E1.out, E2.out, errV_ne (by decide)]
    clear hp iv E1 E2 hi HH c3 c6
    go_enter Try.func64, Try.ntmps64
    go_wp2_with fail
    all_goals first
      | (exfalso; go_light; have := HK.out; omega)
      | (go_returns; exact ⟨rfl, P.out, Turn.refl _ _ _⟩)

end Pl
end Go.Proofs.Yticjjnmmedmbiab
