/- HvA HvB. -/
import Derived.Test.YtopgllmjeliklaaGreatDoorKhHsK
set_option maxRecDepth 100000
set_option linter.unusedSimpArgs false
set_option linter.unusedVariables false
namespace Go.Proofs.YtopgllmjeliklaaGreatDoor
open Go.Shelf Go.Lib Go.ChangeShapes Go.WideShapes Go.ChangeAt Go.RowKit
namespace Hs
open Bk Lg Pl Dk Tx Tn Ac
def InR (x y z : Int) : Prop := (1 ≤ x ∧ x ≤ 4) ∧ (0 ≤ y ∧ y ≤ 1) ∧ (0 ≤ z ∧ z ≤ 1)
theorem places_spare {n : Nat} (h1 : 1 ≤ n) (h4 : n ≤ 4) : ∀ p ∈ placesTo n (2 * n), ¬ (p.1 = n ∧ p.2.1 = 1) := by
 have : n = 1 ∨ n = 2 ∨ n = 3 ∨ n = 4 := by omega
 rcases this with rfl | rfl | rfl | rfl <;> decide
structure SF (m : Int) (ss : List Stay) : Prop where
 m14 : 1 ≤ m ∧ m ≤ 4
 tk : ∀ v ∈ ss, 1 ≤ v.t
 i1 : ∀ v ∈ ss, 1 ≤ v.id
 r : ∀ v ∈ ss, InR v.x v.y v.z ∧ v.x ≤ m
 ns : ∀ v ∈ ss, ¬ (v.x = m ∧ v.y = 1)
 st : ∀ v ∈ ss, ∀ u ∈ ss, v.t = u.t → v = u
 si : ∀ v ∈ ss, ∀ u ∈ ss, v.id = u.id → v = u
 sh : ∀ v ∈ ss, ∀ u ∈ ss, v.x = u.x → v.y = u.y → v.z = u.z → v = u
theorem stays_sf {last : Int} {n : Nat} {l : List Stay} (h : StaysOK last n l) (h1 : 1 ≤ n) (h4 : n ≤ 4) : SF n l := by
 have key : ∀ v ∈ l, ∀ u ∈ l, v ≠ u → v.t ≠ u.t ∧ v.id ≠ u.id ∧ ¬ (v.x = u.x ∧ v.y = u.y ∧ v.z = u.z) := by
  intro v hv u hu hne
  obtain ⟨i, hi, rfl⟩ := List.getElem_of_mem hv; obtain ⟨j, hj, rfl⟩ := List.getElem_of_mem hu; have hp := List.pairwise_iff_getElem.1 h.pair
  have go : ∀ a b (ha : a < l.length) (hb : b < l.length), a < b → l[a].t ≠ l[b].t ∧ l[a].id ≠ l[b].id ∧ ¬ (l[a].x = l[b].x ∧ l[a].y = l[b].y ∧ l[a].z = l[b].z) := fun a b ha hb hab => by
   obtain ⟨h1, h2⟩ := hp a b ha hb hab; unfold clash eqP at h2; simp only [Bool.or_eq_false_iff, beq_eq_false_iff_ne, ne_eq, Bool.and_eq_false_iff] at h2; refine ⟨by omega, h2.2, fun e => ?_⟩
   rcases h2.1 with (h | h) | h
   ·exact h e.1
   ·exact h e.2.1
   ·exact h e.2.2
  rcases Nat.lt_trichotomy i j with hij | hij | hij
  ·exact go i j hi hj hij
  ·subst hij; exact absurd rfl hne
  ·obtain ⟨a, b, c⟩ := go j i hj hi hij
   exact ⟨fun e => a e.symm, fun e => b e.symm, fun e => c ⟨e.1.symm, e.2.1.symm, e.2.2.symm⟩⟩
 have each : ∀ v ∈ l, 1 ≤ v.t ∧ 1 ≤ v.id ∧ (InR v.x v.y v.z ∧ v.x ≤ n) ∧ ¬ (v.x = n ∧ v.y = 1) := fun v hv => by
  obtain ⟨h5, h2, h3, h6⟩ := h.each v hv; simp only [decide_eq_true_eq] at h3; simp only [placeB, decide_eq_true_eq] at h2
  have hid : 1 ≤ v.id := by
   unfold Go.Proofs.YtopgllmjeliklaaGreatDoor.carN faultN at h5
   split at h5
   ·rename_i hb
    simp only [Bool.and_eq_true, decide_eq_true_eq] at hb; exact hb.1.1
   ·cases h5
  refine ⟨h3.1, hid, ⟨⟨⟨h2.1, by omega⟩, ⟨h2.2.2.1, h2.2.2.2.1⟩, h2.2.2.2.2.1, h2.2.2.2.2.2⟩, h2.2.1⟩, ?_⟩
  exact places_spare h1 h4 (v.x, v.y, v.z) ((hasPlace_iff _ _).1 h6)
 exact ⟨⟨by omega, by omega⟩, fun v hv => (each v hv).1, fun v hv => (each v hv).2.1, fun v hv => (each v hv).2.2.1, fun v hv => (each v hv).2.2.2,
  fun v hv u hu e => Classical.byContradiction fun hne => (key v hv u hu hne).1 e, fun v hv u hu e => Classical.byContradiction fun hne => (key v hv u hu hne).2.1 e,
  fun v hv u hu e1 e2 e3 => Classical.byContradiction fun hne => (key v hv u hu hne).2.2 ⟨e1, e2, e3⟩⟩
structure Core (m li ba : Int) (C : Int → Int → Int → Int) (ss : List Stay) (js : List Job) : Prop where
 u1 : ∀ x y z x' y' z', InR x y z → InR x' y' z' → C x y z ≠ 0 → C x y z = C x' y' z' → x = x' ∧ y = y' ∧ z = z'
 u2 : ∀ x y z, InR x y z → C x y z ≠ 0 → C x y z ≠ li ∧ C x y z ≠ ba
 u3 : li ≠ 0 → li ≠ ba
 pl : ∀ x y z, InR x y z → C x y z ≠ 0 → ∃ v ∈ ss, v.id = C x y z ∧ ((v.x = x ∧ v.y = y ∧ v.z = z) ∨ (x = m ∧ y = 1 ∧ z = 0))
 jb : ∀ v ∈ ss, C v.x v.y v.z = v.id ∨ C m 1 0 = v.id ∨ li = v.id ∨ ∃ j ∈ js, j.t = v.t
 so : ∀ v ∈ ss, (⟨v.t, false⟩ : Job) ∈ js → v.z = 1 → ∀ u ∈ ss, ¬ (u.x = v.x ∧ u.y = v.y ∧ u.z = 0)
 jo : js.Pairwise (fun a b => ¬ (a.f = true ∧ b.f = false ∧ a.t = b.t))
 dp : ∀ v ∈ ss, v.z = 1 → C v.x v.y v.z ≠ v.id → (⟨v.t, false⟩ : Job) ∉ js → js.head? = some ⟨v.t, true⟩ ∧ (li = v.id → ba = 0)
 sp : C m 1 0 ≠ 0 → ∃ w ∈ ss, ∃ u ∈ ss, js.head? = some ⟨w.t, true⟩ ∧ w.z = 1 ∧ u.id = C m 1 0 ∧ u.x = w.x ∧ u.y = w.y ∧ u.z = 0
 lb : li ≠ 0 → ba ≠ 0 → ∃ w ∈ ss, ∃ u ∈ ss, js.head? = some ⟨w.t, true⟩ ∧ w.z = 1 ∧ u.id = li ∧ u.x = w.x ∧ u.y = w.y ∧ u.z = 0
 ls : li ≠ 0 → C m 1 0 ≠ 0 → ∃ v ∈ ss, v.id = li ∧ v.z = 1 ∧ js.head? = some ⟨v.t, true⟩
theorem head_eq {js : List Job} {t u : Int} {a b : Bool} (h : js.head? = some ⟨t, a⟩) (k : js.head? = some ⟨u, b⟩) : t = u ∧ a = b := by
 rw [h] at k; injection k with k; injection k with k1 k2; exact ⟨k1, k2⟩
theorem SF.spareIn {m : Int} {ss : List Stay} (h : SF m ss) : InR m 1 0 := ⟨h.m14, by omega, by omega⟩
def F3 (m ba : Int) (C : Int → Int → Int → Int) (ss : List Stay) (js : List Job) (X Y Z : Int) : Prop :=
 (X = m ∧ Y = 1 ∧ Z = 0) ∨ (ba = 0 ∧ ∃ w ∈ ss, js.head? = some ⟨w.t, true⟩ ∧ ((w.id = C X Y Z ∧ w.x = X ∧ w.y = Y ∧ w.z = Z) ∨ (w.z = 1 ∧ C w.x w.y w.z = w.id ∧ X = w.x ∧ Y = w.y ∧ Z = 0)))
theorem Core.grab {m ba X Y Z : Int} {C C' : Int → Int → Int → Int} {ss : List Stay} {js : List Job} (sf : SF m ss) (h : Core m 0 ba C ss js) (hp : InR X Y Z) (hc : C X Y Z ≠ 0)
  (hC : ∀ x y z, InR x y z → C' x y z = if x = X ∧ y = Y ∧ z = Z then 0 else C x y z) (f3 : F3 m ba C ss js X Y Z) : Core m (C X Y Z) ba C' ss js := by
 have hs := sf.spareIn
 have no : ∀ x y z, InR x y z → C' x y z ≠ 0 → C' x y z = C x y z ∧ C x y z ≠ 0 ∧ ¬ (x = X ∧ y = Y ∧ z = Z) := fun x y z hr h0 => by
  rw [hC x y z hr] at h0 ⊢
  split at h0
  ·exact absurd rfl h0
  ·rename_i hne; rw [if_neg hne]; exact ⟨rfl, h0, hne⟩
 have ne : ∀ x y z, InR x y z → ¬ (x = X ∧ y = Y ∧ z = Z) → C' x y z = C x y z := fun x y z hr hne => by rw [hC x y z hr, if_neg hne]
 refine ⟨?_, ?_, ?_, ?_, ?_, h.so, h.jo, ?_, ?_, ?_, ?_⟩
 ·intro x y z x' y' z' r r' h0 e
  obtain ⟨e1, e2, _⟩ := no x y z r h0; have h0' : C' x' y' z' ≠ 0 := by rw [← e]; exact h0
  obtain ⟨e1', _, _⟩ := no x' y' z' r' h0'; exact h.u1 x y z x' y' z' r r' e2 (by rw [← e1, ← e1', e])
 ·intro x y z r h0
  obtain ⟨e1, e2, e3⟩ := no x y z r h0; rw [e1]; exact ⟨fun e => e3 (h.u1 x y z X Y Z r hp e2 e), (h.u2 x y z r e2).2⟩
 ·intro _; exact (h.u2 X Y Z hp hc).2
 ·intro x y z r h0
  obtain ⟨e1, e2, _⟩ := no x y z r h0; rw [e1]; exact h.pl x y z r e2
 ·intro v hv
  have hi := sf.i1 v hv
  rcases h.jb v hv with e | e | e | e
  ·by_cases hq : v.x = X ∧ v.y = Y ∧ v.z = Z
   ·right; right; left; rw [← e, hq.1, hq.2.1, hq.2.2]
   ·left; rw [ne _ _ _ (sf.r v hv).1 hq]; exact e
  ·by_cases hq : m = X ∧ (1 : Int) = Y ∧ (0 : Int) = Z
   ·right; right; left; rw [← e, hq.1, hq.2.1, hq.2.2]
   ·right; left; rw [ne _ _ _ hs hq]; exact e
  ·omega
  ·exact Or.inr (Or.inr (Or.inr e))
 ·intro v hv hz hn hj
  have hi := sf.i1 v hv
  by_cases hh : C v.x v.y v.z = v.id
  ·have hq : v.x = X ∧ v.y = Y ∧ v.z = Z := Classical.byContradiction fun hq => hn (by rw [ne _ _ _ (sf.r v hv).1 hq]; exact hh)
   have hcv : C X Y Z = v.id := by rw [← hq.1, ← hq.2.1, ← hq.2.2]; exact hh
   rcases f3 with f | ⟨f0, w, hw, f1, f2 | f2⟩
   ·omega
   ·have : w = v := sf.si w hw v hv (by rw [f2.1, hcv])
    subst this; exact ⟨f1, fun _ => f0⟩
   ·omega
  ·obtain ⟨a, b⟩ := h.dp v hv hz hh hj
   refine ⟨a, fun e => ?_⟩
   obtain ⟨v', hv', e1, e2⟩ := h.pl X Y Z hp hc; have : v' = v := sf.si v' hv' v hv (by rw [e1, e]); subst this
   rcases e2 with e2 | e2
   ·exact absurd (by rw [e2.1, e2.2.1, e2.2.2]; exact e) hh
   ·have hcs := hc
    rw [e2.1, e2.2.1, e2.2.2] at hcs e; obtain ⟨w, _, u, hu, _, _, u1, _, _, u4⟩ := h.sp hcs; have : u = v' := sf.si u hu v' hv (by rw [u1]; exact e); subst this
    omega
 ·intro h0
  obtain ⟨e1, e2, _⟩ := no _ _ _ hs h0; rw [e1]; exact h.sp e2
 ·intro _ hb
  rcases f3 with f | ⟨f0, _⟩
  ·have hcs := hc
   rw [f.1, f.2.1, f.2.2] at hcs ⊢; exact h.sp hcs
  ·exact absurd f0 hb
 ·intro _ h0
  obtain ⟨e1, e2, e3⟩ := no _ _ _ hs h0; obtain ⟨w', hw', u, hu, k1, k2, k3, k4, k5, k6⟩ := h.sp e2
  rcases f3 with f | ⟨f0, w, hw, f1, f2⟩
  ·omega
  ·have : w = w' := sf.st w hw w' hw' (head_eq f1 k1).1
   subst this
   rcases f2 with f2 | f2
   ·exact ⟨w, hw, f2.1, k2, f1⟩
   ·exfalso
    obtain ⟨v'', hv'', p1, p2⟩ := h.pl X Y Z hp hc
    rcases p2 with p2 | p2
    ·have : v'' = u := sf.sh v'' hv'' u hu (by omega) (by omega) (by omega)
     subst this; have := h.u1 X Y Z m 1 0 hp hs hc (by rw [← p1, k3])
     omega
    ·omega
def F4 (m li : Int) (ss : List Stay) (js : List Job) (X Y Z : Int) : Prop :=
 ∃ x ∈ ss, x.id = li ∧ ((X = x.x ∧ Y = x.y ∧ Z = x.z) ∨ ((X = m ∧ Y = 1 ∧ Z = 0) ∧ ∃ w ∈ ss, js.head? = some ⟨w.t, true⟩ ∧ w.z = 1 ∧ x.x = w.x ∧ x.y = w.y ∧ x.z = 0))
theorem Core.put {m li ba X Y Z : Int} {C C' : Int → Int → Int → Int} {ss : List Stay} {js : List Job} (sf : SF m ss) (h : Core m li ba C ss js) (hl : li ≠ 0) (hp : InR X Y Z) (hc : C X Y Z = 0)
  (hC : ∀ x y z, InR x y z → C' x y z = if x = X ∧ y = Y ∧ z = Z then li else C x y z) (f4 : F4 m li ss js X Y Z) : Core m 0 ba C' ss js := by
 have hs := sf.spareIn; have at_ : ∀ x y z, InR x y z → (x = X ∧ y = Y ∧ z = Z) → C' x y z = li := fun x y z hr he => by rw [hC x y z hr, if_pos he]
 have ne : ∀ x y z, InR x y z → ¬ (x = X ∧ y = Y ∧ z = Z) → C' x y z = C x y z := fun x y z hr hne => by rw [hC x y z hr, if_neg hne]
 have nz : ∀ x y z, InR x y z → C x y z ≠ 0 → C' x y z = C x y z := fun x y z hr h0 => ne x y z hr fun e => h0 (by rw [e.1, e.2.1, e.2.2]; exact hc)
 obtain ⟨x0, hx0, x1, x2⟩ := f4; refine ⟨?_, ?_, ?_, ?_, ?_, h.so, h.jo, ?_, ?_, ?_, ?_⟩
 ·intro x y z x' y' z' r r' h0 e
  by_cases a : x = X ∧ y = Y ∧ z = Z <;> by_cases b : x' = X ∧ y' = Y ∧ z' = Z
  ·omega
  ·rw [at_ x y z r a, ne _ _ _ r' b] at e
   exact absurd e.symm (h.u2 x' y' z' r' (by rw [← e]; exact hl)).1
  ·rw [ne x y z r a] at h0 e
   rw [at_ _ _ _ r' b] at e; exact absurd e (h.u2 x y z r h0).1
  ·rw [ne x y z r a] at h0 e
   rw [ne _ _ _ r' b] at e; exact h.u1 x y z x' y' z' r r' h0 e
 ·intro x y z r h0
  refine ⟨h0, ?_⟩
  by_cases a : x = X ∧ y = Y ∧ z = Z
  ·rw [at_ x y z r a]; exact h.u3 hl
  ·rw [ne x y z r a] at h0 ⊢; exact (h.u2 x y z r h0).2
 ·intro h0; exact absurd rfl h0
 ·intro x y z r h0
  by_cases a : x = X ∧ y = Y ∧ z = Z
  ·rw [at_ x y z r a]
   refine ⟨x0, hx0, x1, ?_⟩
   rcases x2 with x2 | ⟨x2, _⟩
   ·left; omega
   ·right; omega
  ·rw [ne x y z r a] at h0 ⊢; exact h.pl x y z r h0
 ·intro v hv
  have hi := sf.i1 v hv
  rcases h.jb v hv with e | e | e | e
  ·left; rw [nz _ _ _ (sf.r v hv).1 (by omega)]; exact e
  ·right; left; rw [nz _ _ _ hs (by omega)]; exact e
  ·have : x0 = v := sf.si x0 hx0 v hv (by omega)
   subst this
   rcases x2 with x2 | ⟨x2, _⟩
   ·left; rw [at_ _ _ _ (sf.r x0 hv).1 (by omega)]; exact e
   ·right; left; rw [at_ _ _ _ hs (by omega)]; exact e
  ·exact Or.inr (Or.inr (Or.inr e))
 ·intro v hv hz hn hj
  have hi := sf.i1 v hv; have hh : C v.x v.y v.z ≠ v.id := fun e => hn (by rw [nz _ _ _ (sf.r v hv).1 (by omega)]; exact e)
  exact ⟨(h.dp v hv hz hh hj).1, fun e => by omega⟩
 ·intro h0
  by_cases a : m = X ∧ (1 : Int) = Y ∧ (0 : Int) = Z
  ·rcases x2 with x2 | ⟨x2, w, hw, w1, w2, w3⟩
   ·exact absurd ⟨by omega, by omega⟩ (sf.ns x0 hx0)
   ·exact ⟨w, hw, x0, hx0, w1, w2, by rw [at_ _ _ _ hs a]; exact x1, w3⟩
  ·rw [ne _ _ _ hs a] at h0 ⊢; exact h.sp h0
 ·intro h0; exact absurd rfl h0
 ·intro h0; exact absurd rfl h0
theorem Core.takeIn {m ba : Int} {C : Int → Int → Int → Int} {ss : List Stay} {js : List Job} (sf : SF m ss) (h : Core m 0 ba C ss js) (hb : ba ≠ 0) (hs : C m 1 0 = 0) : Core m ba 0 C ss js := by
 refine ⟨h.u1, fun x y z r h0 => ⟨(h.u2 x y z r h0).2, h0⟩, fun h0 => h0, h.pl, fun v hv => ?_, h.so, h.jo, fun v hv hz hn hj => ⟨(h.dp v hv hz hn hj).1, fun _ => rfl⟩, h.sp, fun _ h0 => absurd rfl h0, fun _ h0 => absurd hs h0⟩
 have hi := sf.i1 v hv
 rcases h.jb v hv with e | e | e | e
 ·exact Or.inl e
 ·exact Or.inr (Or.inl e)
 ·omega
 ·exact Or.inr (Or.inr (Or.inr e))
def F8 (li : Int) (ss : List Stay) (js : List Job) : Prop := ∀ v ∈ ss, v.id = li → ∃ j ∈ js, j.t = v.t
theorem Core.giveOut {m li : Int} {C : Int → Int → Int → Int} {ss : List Stay} {js : List Job} (sf : SF m ss) (h : Core m li 0 C ss js) (hl : li ≠ 0) (f8 : F8 li ss js) : Core m 0 li C ss js := by
 refine ⟨h.u1, fun x y z r h0 => ⟨h0, (h.u2 x y z r h0).1⟩, fun h0 => absurd rfl h0, h.pl, fun v hv => ?_, h.so, h.jo, fun v hv hz hn hj => ⟨(h.dp v hv hz hn hj).1, fun e => ?_⟩, h.sp, fun h0 => absurd rfl h0, fun h0 => absurd rfl h0⟩
 ·rcases h.jb v hv with e | e | e | e
  ·exact Or.inl e
  ·exact Or.inr (Or.inl e)
  ·exact Or.inr (Or.inr (Or.inr (f8 v hv e.symm)))
  ·exact Or.inr (Or.inr (Or.inr e))
 ·have := sf.i1 v hv; omega
theorem Core.arrive {m id : Int} {C : Int → Int → Int → Int} {ss : List Stay} {js : List Job} (sf : SF m ss) (h : Core m 0 0 C ss js) (hn : ∀ x y z, InR x y z → C x y z ≠ id) : Core m 0 id C ss js := by
 refine ⟨h.u1, fun x y z r h0 => ⟨h0, hn x y z r⟩, fun h0 => absurd rfl h0, h.pl, h.jb, h.so, h.jo, fun v hv hz hn hj => ⟨(h.dp v hv hz hn hj).1, fun e => ?_⟩, h.sp, fun h0 => absurd rfl h0, fun h0 => absurd rfl h0⟩
 have := sf.i1 v hv; omega
theorem Core.leave {m li ba : Int} {C : Int → Int → Int → Int} {ss : List Stay} {js : List Job} (h : Core m li ba C ss js) : Core m li 0 C ss js := by
 refine ⟨h.u1, fun x y z r h0 => ⟨(h.u2 x y z r h0).1, h0⟩, fun h0 => h0, h.pl, h.jb, h.so, h.jo, fun v hv hz hn hj => ⟨(h.dp v hv hz hn hj).1, fun _ => rfl⟩, h.sp, fun _ h0 => absurd rfl h0, h.ls⟩
theorem head_app {js : List Job} {j a : Job} (h : js.head? = some j) : (js ++ [a]).head? = some j := by
 cases js with
 | nil => cases h
 | cons x l => exact h
theorem Core.want {m li ba t : Int} {C : Int → Int → Int → Int} {ss : List Stay} {js : List Job} (h : Core m li ba C ss js) : Core m li ba C ss (js ++ [⟨t, true⟩]) := by
 have hf : ∀ v : Stay, (⟨v.t, false⟩ : Job) ∈ js ++ [⟨t, true⟩] → (⟨v.t, false⟩ : Job) ∈ js := fun v hm => by
  rcases List.mem_append.1 hm with hm | hm
  ·exact hm
  ·simp at hm
 refine ⟨h.u1, h.u2, h.u3, h.pl, fun v hv => ?_, fun v hv hm => h.so v hv (hf v hm), ?_, fun v hv hz hn hj => ?_, fun h0 => ?_, fun h0 h1 => ?_, fun h0 h1 => ?_⟩
 ·rcases h.jb v hv with e | e | e | ⟨j, hj, e⟩
  ·exact Or.inl e
  ·exact Or.inr (Or.inl e)
  ·exact Or.inr (Or.inr (Or.inl e))
  ·exact Or.inr (Or.inr (Or.inr ⟨j, by simp [hj], e⟩))
 ·refine List.pairwise_append.2 ⟨h.jo, List.pairwise_singleton _ _, fun a _ b hb => ?_⟩
  simp at hb; subst hb; simp
 ·obtain ⟨a, b⟩ := h.dp v hv hz hn (fun hm => hj (by simp [hm]))
  exact ⟨head_app a, b⟩
 ·obtain ⟨w, hw, u, hu, k, k'⟩ := h.sp h0
  exact ⟨w, hw, u, hu, head_app k, k'⟩
 ·obtain ⟨w, hw, u, hu, k, k'⟩ := h.lb h0 h1
  exact ⟨w, hw, u, hu, head_app k, k'⟩
 ·obtain ⟨w, hw, k1, k2, k⟩ := h.ls h0 h1
  exact ⟨w, hw, k1, k2, head_app k⟩
theorem Core.park {m li ba : Int} {C : Int → Int → Int → Int} {ss : List Stay} {js : List Job} {x : Stay} (h : Core m li ba C ss js) (hx : ∀ v ∈ ss, v.t ≠ x.t) (hjx : ∀ j ∈ js, j.t ≠ x.t)
  (h1 : x.z = 1 → ∀ u ∈ ss, ¬ (u.x = x.x ∧ u.y = x.y ∧ u.z = 0)) (h2 : ∀ v ∈ ss, (⟨v.t, false⟩ : Job) ∈ js → v.z = 1 → ¬ (x.x = v.x ∧ x.y = v.y ∧ x.z = 0)) : Core m li ba C (ss ++ [x]) (js ++ [⟨x.t, false⟩]) := by
 have mono : ∀ v, v ∈ ss → v ∈ ss ++ [x] := fun v hv => by simp [hv]
 have hm : ∀ v ∈ ss, (⟨v.t, false⟩ : Job) ∈ js ++ [⟨x.t, false⟩] → (⟨v.t, false⟩ : Job) ∈ js := fun v hv hm => by
  rcases List.mem_append.1 hm with hm | hm
  ·exact hm
  ·simp at hm; exact absurd hm (hx v hv)
 have two : ∀ v, v ∈ ss ++ [x] → v ∈ ss ∨ v = x := fun v hv => by simpa using hv
 refine ⟨h.u1, h.u2, h.u3, fun p q r hr h0 => ?_, fun v hv => ?_, fun v hv hj hz u hu => ?_, ?_, fun v hv hz hn hj => ?_, fun h0 => ?_, fun h0 h1 => ?_, fun h0 h1 => ?_⟩
 ·obtain ⟨v, hv, k⟩ := h.pl p q r hr h0
  exact ⟨v, mono v hv, k⟩
 ·rcases two v hv with hv | rfl
  ·rcases h.jb v hv with e | e | e | ⟨j, hj, e⟩
   ·exact Or.inl e
   ·exact Or.inr (Or.inl e)
   ·exact Or.inr (Or.inr (Or.inl e))
   ·exact Or.inr (Or.inr (Or.inr ⟨j, by simp [hj], e⟩))
  ·exact Or.inr (Or.inr (Or.inr ⟨⟨v.t, false⟩, by simp, rfl⟩))
 ·rcases two v hv with hv' | e
  ·have hj' := hm v hv' hj
   rcases two u hu with hu' | e'
   ·exact h.so v hv' hj' hz u hu'
   ·rw [e']; exact h2 v hv' hj' hz
  ·rw [e] at hz ⊢
   rcases two u hu with hu' | e'
   ·exact h1 hz u hu'
   ·rw [e']; omega
 ·refine List.pairwise_append.2 ⟨h.jo, List.pairwise_singleton _ _, fun a ha b hb => ?_⟩
  simp at hb; subst hb
  intro k
  exact hjx a ha k.2.2
 ·rcases two v hv with hv | rfl
  ·obtain ⟨a, b⟩ := h.dp v hv hz hn (fun hm => hj (by simp [hm]))
   exact ⟨head_app a, b⟩
  ·exact absurd (by simp) hj
 ·obtain ⟨w, hw, u, hu, k, k'⟩ := h.sp h0
  exact ⟨w, mono w hw, u, mono u hu, head_app k, k'⟩
 ·obtain ⟨w, hw, u, hu, k, k'⟩ := h.lb h0 h1
  exact ⟨w, mono w hw, u, mono u hu, head_app k, k'⟩
 ·obtain ⟨w, hw, k1, k2, k⟩ := h.ls h0 h1
  exact ⟨w, mono w hw, k1, k2, head_app k⟩
theorem Core.done {m ba t : Int} {f en : Bool} {C : Int → Int → Int → Int} {ss : List Stay} {js : List Job} {x : Stay} (sf : SF m ss) (h : Core m 0 ba C ss js) (hs : C m 1 0 = 0) (hd : js.head? = some ⟨t, f⟩) (hx : x ∈ ss) (ht : x.t = t)
  (he : en = true → ∀ p q r, InR p q r → C p q r ≠ x.id) (hne : en = false → f = false ∧ C x.x x.y x.z = x.id) : Core m 0 ba C (doneStays t en ss) (doneJobs t f en js) := by
 have ms : ∀ v, v ∈ doneStays t en ss ↔ v ∈ ss ∧ ¬ (en = true ∧ v.t = t) := fun v => by
  unfold doneStays
  cases en
  ·simp
  ·simp [List.mem_filter]
 have mj : ∀ j, j ∈ doneJobs t f en js ↔ j ∈ js ∧ ¬ ((j.t = t ∧ j.f = f) ∨ (en = true ∧ j.t = t)) := fun j => by
  unfold doneJobs goesJ
  rw [List.mem_filter]
  by_cases a : j.t = t <;> by_cases b : j.f = f <;> cases en <;> simp [a, b]
 have sub : ∀ v, v ∈ doneStays t en ss → v ∈ ss := fun v hv => ((ms v).1 hv).1
 refine ⟨h.u1, h.u2, h.u3, fun p q r hr h0 => ?_, fun v hv => ?_, fun v hv hj hz u hu => h.so v (sub v hv) ((mj _).1 hj).1 hz u (sub u hu), h.jo.sublist List.filter_sublist, fun v hv hz hn hj => ?_, fun h0 => absurd hs h0, fun h0 => absurd rfl h0, fun h0 => absurd rfl h0⟩
 ·obtain ⟨v, hv, k1, k2⟩ := h.pl p q r hr h0
  refine ⟨v, (ms v).2 ⟨hv, fun k => ?_⟩, k1, k2⟩
  have : v = x := sf.st v hv x hx (by rw [k.2, ht]); subst this; exact he k.1 p q r hr k1.symm
 ·obtain ⟨hv1, hv2⟩ := (ms v).1 hv
  rcases h.jb v hv1 with e | e | e | ⟨j, hj, e⟩
  ·exact Or.inl e
  ·exact Or.inr (Or.inl e)
  ·exact Or.inr (Or.inr (Or.inl e))
  ·by_cases hg : (j.t = t ∧ j.f = f) ∨ (en = true ∧ j.t = t)
   ·have hjt : j.t = t := hg.elim And.left And.right
    have : v = x := sf.st v hv1 x hx (by rw [ht, ← hjt, e]); subst this
    cases hen : en with
    | true => exact absurd ⟨hen, ht⟩ hv2
    | false => exact Or.inl (hne hen).2
   ·exact Or.inr (Or.inr (Or.inr ⟨j, (mj j).2 ⟨hj, hg⟩, e⟩))
 ·obtain ⟨hv1, hv2⟩ := (ms v).1 hv
  exfalso
  by_cases hin : (⟨v.t, false⟩ : Job) ∈ js
  ·by_cases hg : (v.t = t ∧ false = f) ∨ (en = true ∧ v.t = t)
   ·have hvt : v.t = t := hg.elim And.left And.right
    have : v = x := sf.st v hv1 x hx (by rw [hvt, ht]); subst this
    cases hen : en with
    | true => exact hv2 ⟨hen, ht⟩
    | false => exact hn (hne hen).2
   ·exact hj ((mj _).2 ⟨hin, hg⟩)
  ·obtain ⟨a, _⟩ := h.dp v hv1 hz hn hin
   obtain ⟨e1, e2⟩ := head_eq a hd
   cases hen : en with
   | true => exact hv2 ⟨hen, e1⟩
   | false => have := (hne hen).1; rw [← e2] at this; cases this
theorem Core.new {m : Int} {C : Int → Int → Int → Int} (hC : ∀ x y z, C x y z = 0) : Core m 0 0 C [] [] where
 u1 := fun x y z _ _ _ _ _ h => absurd (hC x y z) h
 u2 := fun x y z _ h => absurd (hC x y z) h
 u3 := fun h => absurd rfl h
 pl := fun x y z _ h => absurd (hC x y z) h
 jb := fun v hv => absurd hv (List.not_mem_nil)
 so := fun v hv => absurd hv (List.not_mem_nil)
 jo := List.Pairwise.nil
 dp := fun v hv => absurd hv (List.not_mem_nil)
 sp := fun h => absurd (hC _ _ _) h
 lb := fun h => absurd rfl h
 ls := fun h => absurd rfl h
end Hs
end Go.Proofs.YtopgllmjeliklaaGreatDoor
namespace Go.Proofs.YtopgllmjeliklaaGreatDoor
open Go.Shelf Go.Lib Go.ChangeShapes Go.WideShapes Go.ChangeAt Go.RowKit Go.Maps
namespace Hs
open Bk Lg Pl Dk Tx Tn Ac
theorem end_pl {lv X Y Z : Int} (hX : 1 ≤ X ∧ X ≤ lv) (hY : 0 ≤ Y ∧ Y ≤ 1) (hZ : 0 ≤ Z ∧ Z ≤ 1) : endB lv (X * 3) (extI Y Z) = true ∧ endX lv (X * 3) (extI Y Z) = X ∧ endY lv (X * 3) (extI Y Z) = Y ∧ endZ lv (X * 3) (extI Y Z) = Z := by
 have hY2 : Y = 0 ∨ Y = 1 := by omega
 have hb : endB lv (X * 3) (extI Y Z) = true := by
  simp only [endB, placeB, Bool.and_eq_true, decide_eq_true_eq]
  rcases hY2 with rfl | rfl
  ·have e : extI 0 Z = -(Z + 1) := by simp [extI]
   rw [e]; have hn : -(Z + 1) < 0 := by omega
   simp only [hn, if_true]
   omega
  ·have e : extI 1 Z = Z + 1 := by simp [extI]
   rw [e]; have hn : ¬ (Z + 1 < 0) := by omega
   simp only [hn, if_false]
   omega
 refine ⟨hb, ?_, ?_, ?_⟩ <;> simp only [endX, endY, endZ, hb, if_true]
 ·omega
 ·rcases hY2 with rfl | rfl
  ·have e : extI 0 Z = -(Z + 1) := by simp [extI]
   rw [e, if_pos (by omega)]
  ·have e : extI 1 Z = Z + 1 := by simp [extI]
   rw [e, if_neg (by omega)]
 ·rcases hY2 with rfl | rfl
  ·have e : extI 0 Z = -(Z + 1) := by simp [extI]
   rw [e, if_pos (by omega)]; omega
  ·have e : extI 1 Z = Z + 1 := by simp [extI]
   rw [e, if_neg (by omega)]; omega
theorem carAt_pl {D : DataW Unit} {lv X Y Z : Int} (hX : 1 ≤ X ∧ X ≤ lv) (hY : 0 ≤ Y ∧ Y ≤ 1) (hZ : 0 ≤ Z ∧ Z ≤ 1) : carAtI D lv (X * 3) (extI Y Z) = carOf D X Y Z := by
 obtain ⟨e1, e2, e3, e4⟩ := end_pl hX hY hZ; simp only [carAtI, e1, if_true, e2, e3, e4]
theorem level_is {h : Int} (hl : levelB h = true) : h = h / 3 * 3 ∧ 1 ≤ h / 3 := by
 simp only [levelB, Bool.and_eq_true, decide_eq_true_eq, beq_iff_eq] at hl
 omega
theorem ext_ne {Y Z : Int} (hY : 0 ≤ Y ∧ Y ≤ 1) (hZ : 0 ≤ Z ∧ Z ≤ 1) : extI Y Z ≠ 0 ∧ -2 ≤ extI Y Z ∧ extI Y Z ≤ 2 := by
 unfold extI; split <;> omega
theorem carAt_front {D : DataW Unit} {lv h : Int} (hl : levelB h = true) (h3 : h ≤ lv * 3) (Y : Int) (hY : 0 ≤ Y ∧ Y ≤ 1) : carAtI D lv h (extI Y 0) = carOf D (h / 3) Y 0 := by
 obtain ⟨a, b⟩ := level_is hl; have := carAt_pl (D := D) (lv := lv) (X := h / 3) (Y := Y) (Z := 0) ⟨b, by omega⟩ hY (by omega)
 rw [← a] at this; exact this
theorem may_up {s : St} (h : mayS 117 s = true) : s.ex = 0 ∧ s.op = false := by
 simp [mayS, mayB, closedB] at h
 exact ⟨h.1, h.2.1⟩
theorem may_down {s : St} (h : mayS 100 s = true) : s.ex = 0 ∧ s.op = false := by
 simp [mayS, mayB, closedB] at h
 exact ⟨h.1, h.2.1⟩
theorem may_left {s : St} (h : mayS 108 s = true) : (-2 ≤ s.ex - 1 ∧ s.ex - 1 ≤ 2) ∧ (s.ex - 1 = 0 ∨ (levelB s.h = true ∧ (s.li = 0 ∨ carAtI s.D s.lv s.h (s.ex - 1) = 0))) := by
 simpa [mayS, mayB, reachB] using h
theorem may_right {s : St} (h : mayS 114 s = true) : (-2 ≤ s.ex + 1 ∧ s.ex + 1 ≤ 2) ∧ (s.ex + 1 = 0 ∨ (levelB s.h = true ∧ (s.li = 0 ∨ carAtI s.D s.lv s.h (s.ex + 1) = 0))) := by
 simpa [mayS, mayB, reachB] using h
theorem may_grab {s : St} (h : mayS 103 s = true) : levelB s.h = true ∧ s.ex ≠ 0 ∧ s.li = 0 ∧ carAtI s.D s.lv s.h s.ex ≠ 0 := by
 simp [mayS, mayB] at h
 exact ⟨h.1.1.1, h.1.1.2, h.1.2, h.2⟩
theorem may_put {s : St} (h : mayS 112 s = true) : levelB s.h = true ∧ s.ex ≠ 0 ∧ s.li ≠ 0 ∧ carAtI s.D s.lv s.h s.ex = 0 := by
 simp [mayS, mayB] at h
 exact ⟨h.1.1.1, h.1.1.2, h.1.2, h.2⟩
theorem may_open {s : St} (h : mayS 111 s = true) : s.h = 0 ∧ s.ex = 0 := by
 simpa [mayS, mayB, belowB] using h
theorem may_in {s : St} (h : mayS 110 s = true) : (s.h = 0 ∧ s.ex = 0) ∧ s.op = false ∧ s.li = 0 ∧ s.ba ≠ 0 := by
 simp [mayS, mayB, belowB, closedB] at h
 exact ⟨h.1.1.1, h.1.1.2.1, h.1.2, h.2⟩
theorem may_out {s : St} (h : mayS 120 s = true) : (s.h = 0 ∧ s.ex = 0) ∧ s.op = false ∧ s.li ≠ 0 ∧ s.ba = 0 := by
 simp [mayS, mayB, belowB, closedB] at h
 exact ⟨h.1.1.1, h.1.1.2.1, h.1.2, h.2⟩
structure Geo (s : St) : Prop where
 dn : s.op = true → s.h = 0 ∧ s.ex = 0
 lx : s.ex ≠ 0 → levelB s.h = true
 ld : s.li ≠ 0 → (0 < s.ex → carOf s.D (s.h / 3) 1 0 = 0) ∧ (s.ex < 0 → carOf s.D (s.h / 3) 0 0 = 0)
structure Neu1 (g : Int × Int) (s s' : St) : Prop where
 ge : Geo s'
 lv : s'.lv = s.lv
 li : s'.li = s.li
 ba : s'.ba = s.ba
 D : s'.D = s.D
 h : g.1 ≠ 1 → s'.h = s.h
 ex : g.1 ≠ 2 → s'.ex = s.ex
 op : g.1 ≠ 6 → s.op = false → s'.op = false
theorem Neu1.same {g : Int × Int} {s : St} (ge : Geo s) (k : Int) : Neu1 g s { s with st := k } := ⟨⟨ge.dn, ge.lx, ge.ld⟩, rfl, rfl, rfl, rfl, fun _ => rfl, fun _ => rfl, fun _ h => h⟩
theorem neu_raise {n : Int} {s : St} (ge : Geo s) (d : Int) (hm : s.ex = 0 ∧ s.op = false) : Neu1 (1, n) s (raiseS d s) := by
 refine ⟨⟨fun h => ?_, fun h => absurd hm.1 h, fun _ => ⟨fun h => ?_, fun h => ?_⟩⟩, rfl, rfl, rfl, rfl, fun h => absurd rfl h, fun _ => rfl, fun _ h => h⟩
 ·rw [show (raiseS d s).op = s.op from rfl, hm.2] at h; cases h
 ·rw [show (raiseS d s).ex = s.ex from rfl, hm.1] at h; omega
 ·rw [show (raiseS d s).ex = s.ex from rfl, hm.1] at h; omega
theorem neu_slide {n : Int} {s : St} (iv : Inv s) (ge : Geo s) (d : Int) (hd : d = 1 ∨ d = -1) (hm : (-2 ≤ s.ex + d ∧ s.ex + d ≤ 2) ∧ (s.ex + d = 0 ∨ (levelB s.h = true ∧ (s.li = 0 ∨ carAtI s.D s.lv s.h (s.ex + d) = 0)))) : Neu1 (2, n) s (slideS d s) := by
 have h3 := iv.ok.h12; have e : slideS d s = { s with ex := s.ex + d, hu := (s.hu || (s.ex + d != 0 && !endB s.lv s.h (s.ex + d))) || (s.li != 0 && carAtI s.D s.lv s.h (s.ex + d) != 0) } := if_pos hm.1
 rw [e]; refine ⟨⟨fun h => ?_, fun h => ?_, fun hl => ⟨fun h => ?_, fun h => ?_⟩⟩, rfl, rfl, rfl, rfl, fun _ => rfl, fun h => absurd rfl h, fun _ h => h⟩
 ·obtain ⟨a, b⟩ := ge.dn h
  refine ⟨a, ?_⟩
  rcases hm.2 with k | ⟨k, _⟩
  ·exact k
  ·rw [a] at k; simp [levelB] at k
 ·rcases hm.2 with k | ⟨k, _⟩
  ·exact absurd k h
  ·exact k
 ·simp only at h hl ⊢
  by_cases h0 : 0 < s.ex
  ·exact (ge.ld hl).1 h0
  ·rcases hm.2 with k | ⟨k, k'⟩
   ·omega
   ·have : s.ex + d = extI 1 0 := by show _ = (1 : Int); omega
    rw [this, carAt_front k h3 1 (by omega)] at k'
    rcases k' with k' | k'
    ·exact absurd k' hl
    ·exact k'
 ·simp only at h hl ⊢
  by_cases h0 : s.ex < 0
  ·exact (ge.ld hl).2 h0
  ·rcases hm.2 with k | ⟨k, k'⟩
   ·omega
   ·have : s.ex + d = extI 0 0 := by show _ = (-1 : Int); omega
    rw [this, carAt_front k h3 0 (by omega)] at k'
    rcases k' with k' | k'
    ·exact absurd k' hl
    ·exact k'
theorem neu_step {g : Int × Int} {s : St} (iv : Inv s) (ge : Geo s) (hk : g.1 = 1 ∨ g.1 = 2 ∨ g.1 = 5 ∨ g.1 = 6) (hd : nextS g s ≠ 45) (hm : mayS (nextS g s) s = true) : Neu1 g s (stepS (nextS g s) s) := by
 unfold stepS
 split
 ·exact Neu1.same ge _
 obtain ⟨k, n⟩ := g; simp only at hk
 rcases hk with rfl | rfl | rfl | rfl
 ·have hx : nextS (1, n) s = if s.h < n then 117 else if n < s.h then 100 else 45 := rfl
  split at hx
  ·rw [hx] at hm ⊢; exact neu_raise ge 1 (may_up hm)
  ·split at hx
   ·rw [hx] at hm ⊢; exact neu_raise ge (-1) (may_down hm)
   ·exact absurd hx hd
 ·have hx : nextS (2, n) s = if s.ex < n then 114 else if n < s.ex then 108 else 45 := rfl
  split at hx
  ·rw [hx] at hm ⊢; exact neu_slide iv ge 1 (Or.inl rfl) (may_right hm)
  ·split at hx
   ·rw [hx] at hm ⊢
    refine neu_slide iv ge (-1) (Or.inr rfl) ?_; have := may_left hm
    rwa [show s.ex + -1 = s.ex - 1 from by omega]
   ·exact absurd hx hd
 ·have hx : nextS (5, n) s = if s.op = true then 99 else 45 := rfl
  split at hx
  ·rw [hx]
   exact ⟨⟨fun h => (by cases h), ge.lx, ge.ld⟩, rfl, rfl, rfl, rfl, fun _ => rfl, fun _ => rfl, fun _ _ => rfl⟩
  ·exact absurd hx hd
 ·have hx : nextS (6, n) s = if s.op = true then 45 else 111 := rfl
  split at hx
  ·exact absurd hx hd
  ·rw [hx] at hm ⊢
   have := may_open hm; exact ⟨⟨fun _ => this, ge.lx, ge.ld⟩, rfl, rfl, rfl, rfl, fun _ => rfl, fun _ => rfl, fun h _ => absurd rfl h⟩
def Neu (l : List (Int × Int)) : Prop := ∀ g ∈ l, g.1 = 1 ∨ g.1 = 2 ∨ g.1 = 5 ∨ g.1 = 6
def At5 (k X Y Z : Int) (s : St) (gs : List (Int × Int)) : Prop :=
 gs = gThere k X Y Z ∨ gs = [(5, 0), (1, X * 3), (2, extI Y Z), (k, 0), (2, 0)] ∨ gs = [(1, X * 3), (2, extI Y Z), (k, 0), (2, 0)] ∨ (gs = [(2, extI Y Z), (k, 0), (2, 0)] ∧ s.h = X * 3) ∨ (gs = [(k, 0), (2, 0)] ∧ s.h = X * 3 ∧ s.ex = extI Y Z)
abbrev C (s : St) : Int → Int → Int → Int := carOf s.D
inductive GI (m : Int) (ss : List Stay) (js : List Job) (s : St) : List (Int × Int) → Prop
 | neu (gs) : Neu gs → GI m ss js s gs
 | take (pre) : Neu pre → (s.li = 0 → C s m 1 0 = 0) → GI m ss js s (pre ++ [(7, 0)])
 | give (pre) : Neu pre → (s.li ≠ 0 → F8 s.li ss js) → GI m ss js s (pre ++ [(8, 0), (6, 0)])
 | fetch (X Y Z gs) : (1 ≤ X ∧ X ≤ m) → (0 ≤ Y ∧ Y ≤ 1) → (0 ≤ Z ∧ Z ≤ 1) → At5 3 X Y Z s gs → (s.li = 0 → (Z = 1 → C s X Y 0 = 0) ∧ F3 m s.ba (C s) ss js X Y Z ∧ ((X = m ∧ Y = 1 ∧ Z = 0) ∨ s.op = false)) → GI m ss js s gs
 | bring (X Y Z gs) : (1 ≤ X ∧ X ≤ m) → (0 ≤ Y ∧ Y ≤ 1) → (0 ≤ Z ∧ Z ≤ 1) → At5 4 X Y Z s gs → (s.li ≠ 0 → F4 m s.li ss js X Y Z) → GI m ss js s gs
structure Wg (m : Nat) (b : PB) (gs : List (Int × Int)) (s : St) : Prop where
 iv : Inv s
 lv : s.lv = m
 nv : Nv s
 kn : KnowG gs s
 ge : Geo s
 co : Core m s.li s.ba (C s) b.stays b.jobs
 gi : GI m b.stays b.jobs s gs
theorem Neu.nil : Neu [] := fun g h => by cases h
theorem Neu.tail {g : Int × Int} {l : List (Int × Int)} (h : Neu (g :: l)) : Neu l := fun x hx => h x (by simp [hx])
theorem GI.nil {m : Int} {ss : List Stay} {js : List Job} {s : St} : GI m ss js s [] := .neu [] Neu.nil
theorem neu_end : Neu [(2, 0)] := fun g h => by simp at h; subst h; exact Or.inr (Or.inl rfl)
theorem neu_open : Neu [(6, 0)] := fun g h => by simp at h; subst h; exact Or.inr (Or.inr (Or.inr rfl))
theorem At5.drop {k X Y Z : Int} {s : St} {g : Int × Int} {l : List (Int × Int)} (h : At5 k X Y Z s (g :: l)) (hd : nextS g s = 45) : At5 k X Y Z s l ∨ l = [(2, 0)] := by
 rcases h with e | e | e | ⟨e, e1⟩ | ⟨e, e1, e2⟩
 ·injection e with _ e; exact Or.inl (Or.inr (Or.inl e))
 ·injection e with _ e; exact Or.inl (Or.inr (Or.inr (Or.inl e)))
 ·injection e with e' e
  subst e'; refine Or.inl (Or.inr (Or.inr (Or.inr (Or.inl ⟨e, ?_⟩)))); have hx : nextS (1, X * 3) s = if s.h < X * 3 then 117 else if X * 3 < s.h then 100 else 45 := rfl
  rw [hx] at hd
  split at hd
  ·cases hd
  ·split at hd
   ·cases hd
   ·omega
 ·injection e with e' e
  subst e'; refine Or.inl (Or.inr (Or.inr (Or.inr (Or.inr ⟨e, e1, ?_⟩)))); have hx : nextS (2, extI Y Z) s = if s.ex < extI Y Z then 114 else if extI Y Z < s.ex then 108 else 45 := rfl
  rw [hx] at hd
  split at hd
  ·cases hd
  ·split at hd
   ·cases hd
   ·omega
 ·injection e with _ e; exact Or.inr e
theorem GI.drop {m : Int} {ss : List Stay} {js : List Job} {s : St} {g : Int × Int} {l : List (Int × Int)} (h : GI m ss js s (g :: l)) (hd : nextS g s = 45) : GI m ss js s l := by
 generalize hgs : g :: l = gs at h
 cases h with
 | neu _ h => subst hgs; exact .neu _ h.tail
 | take pre h f =>
   cases pre with
   | nil => simp only [List.nil_append, List.cons.injEq] at hgs; rw [hgs.2]; exact GI.nil
   | cons a p => simp only [List.cons_append, List.cons.injEq] at hgs; rw [hgs.2]; exact .take p h.tail f
 | give pre h f =>
   cases pre with
   | nil => simp only [List.nil_append, List.cons.injEq] at hgs; rw [hgs.2]; exact .neu _ neu_open
   | cons a p => simp only [List.cons_append, List.cons.injEq] at hgs; rw [hgs.2]; exact .give p h.tail f
 | fetch X Y Z _ hX hY hZ h f =>
   subst hgs
   rcases h.drop hd with k | rfl
   ·exact .fetch X Y Z _ hX hY hZ k f
   ·exact .neu _ neu_end
 | bring X Y Z _ hX hY hZ h f =>
   subst hgs
   rcases h.drop hd with k | rfl
   ·exact .bring X Y Z _ hX hY hZ k f
   ·exact .neu _ neu_end
theorem At5.neu {k X Y Z : Int} {s s' : St} {g : Int × Int} {l : List (Int × Int)} (hk : k = 3 ∨ k = 4) (h : At5 k X Y Z s (g :: l)) (hg : g.1 = 1 ∨ g.1 = 2 ∨ g.1 = 5 ∨ g.1 = 6) (n : Neu1 g s s') : At5 k X Y Z s' (g :: l) ∧ g.1 ≠ 6 := by
 rcases h with e | e | e | ⟨e, e1⟩ | ⟨e, e1, e2⟩
 ·have : g = (2, 0) := by injection e
  exact ⟨Or.inl e, by rw [this]; decide⟩
 ·have : g = (5, 0) := by injection e
  exact ⟨Or.inr (Or.inl e), by rw [this]; decide⟩
 ·have : g = (1, X * 3) := by injection e
  exact ⟨Or.inr (Or.inr (Or.inl e)), by rw [this]; show (1 : Int) ≠ 6; decide⟩
 ·have : g = (2, extI Y Z) := by injection e
  refine ⟨Or.inr (Or.inr (Or.inr (Or.inl ⟨e, ?_⟩))), by rw [this]; show (2 : Int) ≠ 6; decide⟩
  rw [n.h (by rw [this]; show (2 : Int) ≠ 1; decide)]; exact e1
 ·have : g = (k, 0) := by injection e
  rw [this] at hg; simp only at hg
  omega
theorem C_same {s s' : St} (h : s'.D = s.D) : C s' = C s := by unfold C; rw [h]
theorem GI.neu1 {m : Int} {ss : List Stay} {js : List Job} {s s' : St} {g : Int × Int} {l : List (Int × Int)} (h : GI m ss js s (g :: l)) (hg : g.1 = 1 ∨ g.1 = 2 ∨ g.1 = 5 ∨ g.1 = 6) (n : Neu1 g s s') : GI m ss js s' (g :: l) := by
 have hC := C_same n.D; generalize hgs : g :: l = gs at h ⊢
 cases h with
 | neu _ h => exact .neu _ h
 | take pre h f => exact .take pre h (by rw [n.li, hC]; exact f)
 | give pre h f => exact .give pre h (by rw [n.li]; exact f)
 | fetch X Y Z _ hX hY hZ h f =>
   subst hgs; obtain ⟨a, b⟩ := h.neu (Or.inl rfl) hg n; refine .fetch X Y Z _ hX hY hZ a ?_; rw [n.li, hC, n.ba]; exact fun h0 => ⟨(f h0).1, (f h0).2.1, (f h0).2.2.imp id (n.op b)⟩
 | bring X Y Z _ hX hY hZ h f =>
   subst hgs; obtain ⟨a, b⟩ := h.neu (Or.inr rfl) hg n; exact .bring X Y Z _ hX hY hZ a (by rw [n.li]; exact f)
theorem At5.head {k X Y Z : Int} {s : St} {g : Int × Int} {l : List (Int × Int)} (h : At5 k X Y Z s (g :: l)) (hg : ¬ (g.1 = 1 ∨ g.1 = 2 ∨ g.1 = 5 ∨ g.1 = 6)) : g = (k, 0) ∧ l = [(2, 0)] ∧ s.h = X * 3 ∧ s.ex = extI Y Z := by
 rcases h with e | e | e | ⟨e, e1⟩ | ⟨e, e1, e2⟩
 ·have : g = (2, 0) := by injection e
  exact absurd (by rw [this]; exact Or.inr (Or.inl rfl)) hg
 ·have : g = (5, 0) := by injection e
  exact absurd (by rw [this]; exact Or.inr (Or.inr (Or.inl rfl))) hg
 ·have : g = (1, X * 3) := by injection e
  exact absurd (by rw [this]; exact Or.inl rfl) hg
 ·have : g = (2, extI Y Z) := by injection e
  exact absurd (by rw [this]; exact Or.inr (Or.inl rfl)) hg
 ·injection e with e3 e4
  exact ⟨e3, e4, e1, e2⟩
theorem wfR {x y z : Int} (h : InR x y z) : (Lit.int .i64 x).wf = true ∧ (Lit.int .i64 y).wf = true ∧ (Lit.int .i64 z).wf = true := ⟨wfI (by unfold InR at h; omega), wfI (by unfold InR at h; omega), wfI (by unfold InR at h; omega)⟩
theorem C_del {D : DataW Unit} {X Y Z : Int} (h : InR X Y Z) : ∀ x y z, InR x y z → carOf (D.del (pk X Y Z)) x y z = if x = X ∧ y = Y ∧ z = Z then 0 else carOf D x y z := fun x y z r => carOf_del (wfR h).1 (wfR h).2.1 (wfR h).2.2 (wfR r).1 (wfR r).2.1 (wfR r).2.2
theorem C_put {D : DataW Unit} (hD : IsMap D) {X Y Z c : Int} (h : InR X Y Z) : ∀ x y z, InR x y z → carOf (D.put (pk X Y Z) (.lit (.int .i64 c))) x y z = if x = X ∧ y = Y ∧ z = Z then c else carOf D x y z := fun x y z r => carOf_put hD (wfR h).1 (wfR h).2.1 (wfR h).2.2 (wfR r).1 (wfR r).2.1 (wfR r).2.2
theorem Wg.step {m : Nat} {b : PB} {g : Int × Int} {l : List (Int × Int)} {s : St} (sf : SF m b.stays) (w : Wg m b (g :: l) s) (hd : nextS g s ≠ 45) (hm : mayS (nextS g s) s = true) : Wg m b (g :: l) (stepS (nextS g s) s) := by
 obtain ⟨nv', kn'⟩ := know_step w.iv w.kn w.nv hd hm; have iv' := w.iv.step (nextS g s)
 by_cases hg : g.1 = 1 ∨ g.1 = 2 ∨ g.1 = 5 ∨ g.1 = 6
 ·have n := neu_step w.iv w.ge hg hd hm
  refine ⟨iv', n.lv.trans w.lv, nv', kn', n.ge, ?_, w.gi.neu1 hg n⟩; rw [n.li, n.ba, C_same n.D]; exact w.co
 by_cases hst : 0 < s.st ∧ nextS g s ≠ 45
 ·have e : stepS (nextS g s) s = { s with st := s.st - 1 } := if_pos hst
  rw [e] at iv' nv' kn' ⊢; refine ⟨iv', w.lv, nv', kn', ⟨w.ge.dn, w.ge.lx, w.ge.ld⟩, w.co, ?_⟩; have hgi := w.gi; generalize g :: l = gs at hgi
  cases hgi with
  | neu _ h => exact .neu _ h
  | take pre h f => exact .take pre h f
  | give pre h f => exact .give pre h f
  | fetch X Y Z _ hX hY hZ h f => exact .fetch X Y Z _ hX hY hZ h f
  | bring X Y Z _ hX hY hZ h f => exact .bring X Y Z _ hX hY hZ h f
 have e : stepS (nextS g s) s = doS (nextS g s) s := if_neg hst
 rw [e] at iv' nv' kn' ⊢; have hgi := w.gi; have hlv := w.lv; have hms := sf.m14; generalize hgs : g :: l = gs at hgi
 cases hgi with
 | neu _ h => exact absurd (h g (by rw [← hgs]; simp)) hg
 | take pre h f =>
   cases pre with
   | cons a p =>
     simp only [List.cons_append, List.cons.injEq] at hgs; exact absurd (by rw [hgs.1]; exact h a (by simp)) hg
   | nil =>
     simp only [List.nil_append, List.cons.injEq] at hgs; obtain ⟨rfl, rfl⟩ := hgs; have hx : nextS (7, 0) s = if s.li = 0 then 110 else 45 := rfl
     by_cases hl : s.li = 0
     ·rw [if_pos hl] at hx
      rw [hx] at hm iv' nv' kn' ⊢; obtain ⟨q1, q2, q3, q4⟩ := may_in hm
      have e2 : doS 110 s = { s with hu := s.hu || (s.op || s.pe != 0), li := s.ba, ba := 0 } := by
       show takeInS s = _
       unfold takeInS; rw [if_pos ⟨q1.1, q1.2, q3⟩]
      rw [e2] at iv' nv' kn' ⊢; refine ⟨iv', hlv, nv', kn', ⟨w.ge.dn, w.ge.lx, fun _ => ⟨fun k => ?_, fun k => ?_⟩⟩, ?_, .take [] Neu.nil (fun k => absurd k q4)⟩
      ·have : s.ex = 0 := q1.2
       simp only [this] at k; omega
      ·have : s.ex = 0 := q1.2
       simp only [this] at k; omega
      ·have co := w.co
       rw [q3] at co; exact Core.takeIn sf co q4 (f hl)
     ·rw [if_neg hl] at hx; exact absurd hx hd
 | give pre h f =>
   cases pre with
   | cons a p =>
     simp only [List.cons_append, List.cons.injEq] at hgs; exact absurd (by rw [hgs.1]; exact h a (by simp)) hg
   | nil =>
     simp only [List.nil_append, List.cons.injEq] at hgs; obtain ⟨rfl, rfl⟩ := hgs; have hx : nextS (8, 0) s = if s.li = 0 then 45 else 120 := rfl
     by_cases hl : s.li = 0
     ·rw [if_pos hl] at hx; exact absurd hx hd
     ·rw [if_neg hl] at hx
      rw [hx] at hm iv' nv' kn' ⊢; obtain ⟨q1, q2, q3, q4⟩ := may_out hm
      have e2 : doS 120 s = { s with hu := s.hu || (s.op || s.pe != 0), ba := s.li, li := 0 } := by
       show giveOutS s = _
       unfold giveOutS; rw [if_pos ⟨q1.1, q1.2, q4⟩]
      rw [e2] at iv' nv' kn' ⊢; refine ⟨iv', hlv, nv', kn', ⟨w.ge.dn, w.ge.lx, fun k => absurd rfl k⟩, ?_, .give [] Neu.nil (fun k => absurd rfl k)⟩
      have co := w.co; rw [q4] at co; exact Core.giveOut sf co hl (f hl)
 | fetch X Y Z _ hX hY hZ h f =>
   subst hgs; obtain ⟨rfl, rfl, p1, p2⟩ := h.head hg; have hx : nextS (3, 0) s = if s.li = 0 then 103 else 45 := rfl
   by_cases hl : s.li = 0
   ·rw [if_pos hl] at hx
    rw [hx] at hm iv' nv' kn' ⊢; obtain ⟨q1, q2, q3, q4⟩ := may_grab hm; have hXl : 1 ≤ X ∧ X ≤ s.lv := by rw [hlv]; exact hX
    have hr : InR X Y Z := ⟨by omega, hY, hZ⟩; obtain ⟨e1, e2, e3, e4⟩ := end_pl (lv := s.lv) hXl hY hZ; rw [p1, p2, carAt_pl hXl hY hZ] at q4
    have e5 : doS 103 s = { s with li := carOf s.D X Y Z, D := s.D.del (pk X Y Z) } := by
     show grabS s = _
     unfold grabS; rw [if_pos (by simp [grabB, p1, p2, e1, hl])]; rw [p1, p2, e2, e3, e4]
    rw [e5] at iv' nv' kn' ⊢; obtain ⟨f1, f2, f3⟩ := f hl; refine ⟨iv', hlv, nv', kn', ⟨w.ge.dn, w.ge.lx, fun _ => ?_⟩, ?_, .fetch X Y Z _ hX hY hZ (Or.inr (Or.inr (Or.inr (Or.inr ⟨rfl, p1, p2⟩)))) (fun k => absurd k q4)⟩
    ·have hd3 : s.h / 3 = X := by omega
     have hfr : ∀ Y', 0 ≤ Y' ∧ Y' ≤ 1 → Y' = Y → carOf (s.D.del (pk X Y Z)) (s.h / 3) Y' 0 = 0 := fun Y' hY' e => by
      rw [C_del hr _ _ _ (by rw [hd3]; exact ⟨by omega, hY', by omega⟩)]
      split
      ·rfl
      ·rename_i hne
       rw [hd3, e] at hne ⊢; exact f1 (by omega)
     refine ⟨fun k => hfr 1 (by omega) ?_, fun k => hfr 0 (by omega) ?_⟩
     ·simp only at k
      rw [p2] at k; unfold extI at k; split at k <;> omega
     ·simp only at k
      rw [p2] at k; unfold extI at k; split at k <;> omega
    ·have co := w.co
     rw [hl] at co; exact Core.grab sf co hr q4 (C_del hr) f2
   ·rw [if_neg hl] at hx; exact absurd hx hd
 | bring X Y Z _ hX hY hZ h f =>
   subst hgs; obtain ⟨rfl, rfl, p1, p2⟩ := h.head hg; have hx : nextS (4, 0) s = if s.li = 0 then 45 else 112 := rfl
   by_cases hl : s.li = 0
   ·rw [if_pos hl] at hx; exact absurd hx hd
   ·rw [if_neg hl] at hx
    rw [hx] at hm iv' nv' kn' ⊢; obtain ⟨q1, q2, q3, q4⟩ := may_put hm; have hXl : 1 ≤ X ∧ X ≤ s.lv := by rw [hlv]; exact hX
    have hr : InR X Y Z := ⟨by omega, hY, hZ⟩; obtain ⟨e1, e2, e3, e4⟩ := end_pl (lv := s.lv) hXl hY hZ; rw [p1, p2, carAt_pl hXl hY hZ] at q4
    have e5 : doS 112 s = { s with li := 0, D := s.D.put (pk X Y Z) (.lit (.int .i64 s.li)) } := by
     show putS s = _
     unfold putS; rw [if_pos (by simp [putB, p1, p2, e1, hl, carAt_pl hXl hY hZ, q4])]; rw [p1, p2, e2, e3, e4]
    rw [e5] at iv' nv' kn' ⊢; exact ⟨iv', hlv, nv', kn', ⟨w.ge.dn, w.ge.lx, fun k => absurd rfl k⟩, Core.put sf w.co hl hr q4 (C_put w.iv.D.isMap hr) (f hl), .bring X Y Z _ hX hY hZ (Or.inr (Or.inr (Or.inr (Or.inr ⟨rfl, p1, p2⟩)))) (fun k => absurd rfl k)⟩
theorem Wg.nil {m : Nat} {b : PB} {gs : List (Int × Int)} {s : St} (w : Wg m b gs s) : Wg m b [] s := ⟨w.iv, w.lv, w.nv, KnowG.nil s, w.ge, w.co, GI.nil⟩
theorem Wg.follow {m : Nat} {b : PB} (sf : SF m b.stays) : ∀ (gs : List (Int × Int)) {s : St}, Wg m b gs s → Wg m b (followS gs s).1 (followS gs s).2
 | [], _, w => w
 | g :: l, s, w => by
   unfold followS
   by_cases hd : nextS g s = 45
   ·rw [if_pos hd]
    exact Wg.follow sf l ⟨w.iv, w.lv, w.nv, know_done w.kn w.nv hd, w.ge, w.co, w.gi.drop hd⟩
   ·rw [if_neg hd]
    by_cases hm : mayS (nextS g s) s = true
    ·rw [if_pos hm]
     exact w.step sf hd hm
    ·rw [if_neg hm]
     exact w.nil
end Hs
end Go.Proofs.YtopgllmjeliklaaGreatDoor
