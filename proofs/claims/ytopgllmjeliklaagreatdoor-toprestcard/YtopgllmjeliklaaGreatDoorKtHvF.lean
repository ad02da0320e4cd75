/- HvF HvG. -/
import Derived.Test.YtopgllmjeliklaaGreatDoorKtHvD
set_option maxRecDepth 100000
set_option linter.unusedSimpArgs false
set_option linter.unusedVariables false
namespace Go.Proofs.YtopgllmjeliklaaGreatDoor
open Go.Shelf Go.Lib Go.ChangeShapes Go.WideShapes Go.ChangeAt Go.RowKit Go.Maps
namespace Hs
open Bk Lg Pl Dk Tx Tn Ac
def placedB (C : Int → Int → Int → Int) (id : Int) : Bool := spots.any fun p => C p.1 p.2.1 p.2.2 == id
theorem placed_iff {C : Int → Int → Int → Int} {id : Int} : placedB C id = true ↔ ∃ x y z, InR x y z ∧ C x y z = id := by
 unfold placedB; simp only [List.any_eq_true, beq_iff_eq]
 constructor
 ·rintro ⟨⟨x, y, z⟩, h, e⟩
  exact ⟨x, y, z, mem_spots.1 h, e⟩
 ·rintro ⟨x, y, z, h, e⟩
  exact ⟨(x, y, z), mem_spots.2 h, e⟩
def fph (m : Int) (v : Stay) (ss : List Stay) (li ba : Int) (op : Bool) (C : Int → Int → Int → Int) : Nat :=
 if placedB C v.id = true then
  (if li ≠ 0 then (if (ss.any fun x => x.id == li && v.z == 1 && x.x == v.x && x.y == v.y && x.z == 0) = true then (if ba ≠ 0 then 9 else 5) else 10)
  else if ba ≠ 0 then 8 else if op = true then 7 else if C v.x v.y 0 ≠ 0 then 6 else 4)
 else if li = v.id then 3 else if C m 1 0 ≠ 0 then 2 else if li ≠ 0 then 1 else 0
def phase (m : Int) (b : PB) (li ba : Int) (op : Bool) (C : Int → Int → Int → Int) : Nat :=
 if ba ≠ 0 ∧ waitsB b ba = true then 11 + (if li ≠ 0 then 1 else 0) + (if C m 1 0 ≠ 0 then 2 else 0)
 else match b.jobs.head? with
 | none => if li ≠ 0 then 2 else if op = true then 0 else 1
 | some j => if j.f = false then (if li ≠ 0 then 1 else 0) else fph m (StayOfJob b.book j.t) b.stays li ba op C
def rank (m : Int) (σ : Sg) : Nat := 9 * σ.b.jobs.length + phase m σ.b σ.s.li σ.s.ba σ.s.op (C σ.s)
section
variable {m li ba : Int} {b : PB} {op : Bool} {C : Int → Int → Int → Int}
theorem ph_wait (h : ba ≠ 0 ∧ waitsB b ba = true) : phase m b li ba op C = 11 + (if li ≠ 0 then 1 else 0) + (if C m 1 0 ≠ 0 then 2 else 0) := if_pos h
theorem ph_none (h : ¬ (ba ≠ 0 ∧ waitsB b ba = true)) (hh : b.jobs.head? = none) : phase m b li ba op C = if li ≠ 0 then 2 else if op = true then 0 else 1 := by
 unfold phase; rw [if_neg h, hh]
theorem ph_store {t : Int} (h : ¬ (ba ≠ 0 ∧ waitsB b ba = true)) (hh : b.jobs.head? = some ⟨t, false⟩) : phase m b li ba op C = if li ≠ 0 then 1 else 0 := by
 unfold phase; rw [if_neg h, hh]; exact if_pos rfl
theorem ph_fetch {v : Stay} (sf : SF m b.stays) (hv : v ∈ b.stays) (h : ¬ (ba ≠ 0 ∧ waitsB b ba = true)) (hh : b.jobs.head? = some ⟨v.t, true⟩) : phase m b li ba op C = fph m v b.stays li ba op C := by
 unfold phase; rw [if_neg h, hh]; simp only; rw [if_neg (by decide), tick_find sf rfl hv]
theorem fph_le (v : Stay) (ss : List Stay) : fph m v ss li ba op C ≤ 10 := by
 unfold fph
 repeat' split
 all_goals omega
theorem fph_le8 (v : Stay) (ss : List Stay) (h : li = 0) : fph m v ss li ba op C ≤ 8 := by
 unfold fph; rw [if_neg (show ¬ li ≠ 0 by omega)]
 repeat' split
 all_goals omega
theorem ph_le10 (h : ¬ (ba ≠ 0 ∧ waitsB b ba = true)) : phase m b li ba op C ≤ 10 := by
 unfold phase; rw [if_neg h]
 cases b.jobs.head? with
 | none =>
   simp only
   repeat' split
   all_goals omega
 | some j =>
   simp only
   split
   ·split <;> omega
   ·exact fph_le _ _
theorem ph_le8 (h : ¬ (ba ≠ 0 ∧ waitsB b ba = true)) (hl : li = 0) : phase m b li ba op C ≤ 8 := by
 unfold phase; rw [if_neg h]
 cases b.jobs.head? with
 | none =>
   simp only
   repeat' split
   all_goals omega
 | some j =>
   simp only
   split
   ·split <;> omega
   ·exact fph_le8 _ _ hl
theorem ph_le14 : phase m b li ba op C ≤ 14 := by
 by_cases h : ba ≠ 0 ∧ waitsB b ba = true
 ·rw [ph_wait h]
  repeat' split
  all_goals omega
 ·exact Nat.le_trans (ph_le10 h) (by omega)
end
structure Fin (σ : Sg) : Prop where
 op : σ.s.op = true
 ba : σ.s.ba = 0
 li : σ.s.li = 0
 js : σ.b.jobs = []
 gs : σ.gs = []
section
variable {m : Nat} {b : PB} {s : St}
def Near (m : Nat) (b : PB) (s : St) (τ : Sg) : Prop := τ.gs = [] ∧ rank m τ < rank m ⟨s, b, []⟩
theorem Near.gs (τ : Sg) (h : Near m b s τ) : τ.gs = [] := h.1
theorem near_of {lv h ex li ba st : Int} {op : Bool} {D : DataW Unit} {hu : Bool} (hp : phase m b li ba op (carOf D) < phase m b s.li s.ba s.op (C s)) : Near m b s ⟨⟨lv, h, ex, op, 0, li, ba, D, st, hu⟩, b, []⟩ := by
 refine ⟨rfl, ?_⟩
 show 9 * b.jobs.length + phase m b li ba op (carOf D) < 9 * b.jobs.length + phase m b s.li s.ba s.op (C s)
 omega
theorem first_wait (sf : SF m b.stays) {x : Stay} (hx : x ∈ b.stays) (hb : x.id = s.ba) (hj : (⟨x.t, false⟩ : Job) ∈ b.jobs) : vJ b.book s = ⟨x.t, false⟩ ∧ vS b.book s = x := by
 have hne : b.jobs ≠ [] := fun e => by rw [e] at hj; cases hj
 have hf : firstJ b.book s = ⟨x.t, false⟩ := by
  unfold firstJ
  rw [← hb, carO_of sf rfl hx]; exact if_pos ((hasJob_iff _ _).2 hj)
 have e1 : vJ b.book s = firstJ b.book s := if_neg hne
 have e2 : vS b.book s = StayOfJob b.book (firstJ b.book s).t := if_neg hne
 rw [e1, e2, hf]; exact ⟨rfl, tick_find sf rfl hx⟩
theorem first_nowait (sf : SF m b.stays) (ok : BookOK b.last m b.stays b.jobs) (hj : b.jobs ≠ []) (hw : ¬ (s.ba ≠ 0 ∧ waitsB b s.ba = true)) : b.jobs.head? = some (vJ b.book s) := by
 obtain ⟨x, hx, e1, e2, e3, h | ⟨h1, h2⟩⟩ := first_job sf ok s hj
 ·exact h
 ·exfalso
  have hi := sf.i1 x hx; refine hw ⟨by omega, (waits_iff sf).2 ⟨x, hx, h2, ?_⟩⟩; rw [e2, ← h1]; exact e3
theorem nowait_of (sf : SF m b.stays) {li : Int} (h : ∀ v ∈ b.stays, v.id ≠ li) : waitsB b li = false := by
 cases hw : waitsB b li with
 | false => rfl
 | true =>
   obtain ⟨x, hx, e, _⟩ := (waits_iff sf).1 hw; exact absurd e (h x hx)
theorem nowait_fetch {li ba : Int} {Cf : Int → Int → Int → Int} (sf : SF m b.stays) (co : Core m li ba Cf b.stays b.jobs) {x : Stay} (hx : x ∈ b.stays) (hh : b.jobs.head? = some ⟨x.t, true⟩) : waitsB b x.id = false := by
 cases hw : waitsB b x.id with
 | false => rfl
 | true =>
   exfalso
   obtain ⟨y, hy, e, hj⟩ := (waits_iff sf).1 hw; have : y = x := sf.si y hy x hx e; subst this
   cases hjs : b.jobs with
   | nil => rw [hjs] at hh; cases hh
   | cons a l =>
     rw [hjs] at hh hj; have ha : a = ⟨y.t, true⟩ := by injection hh
     have hjo := co.jo; rw [hjs] at hjo
     rcases List.mem_cons.1 hj with e | e
     ·rw [ha] at e; cases e
     ·have := List.rel_of_pairwise_cons hjo e
      rw [ha] at this; exact this ⟨rfl, rfl, rfl⟩
theorem placed_home {li ba : Int} {Cf : Int → Int → Int → Int} (sf : SF m b.stays) (co : Core m li ba Cf b.stays b.jobs) {v : Stay} (hv : v ∈ b.stays) (hh : b.jobs.head? = some ⟨v.t, true⟩) : placedB Cf v.id = true ↔ Cf v.x v.y v.z = v.id := by
 have hi := sf.i1 v hv
 constructor
 ·intro h
  obtain ⟨x, y, z, hr, hc⟩ := placed_iff.1 h; obtain ⟨v', hv', k1, k2⟩ := co.pl x y z hr (by rw [hc]; omega); have : v' = v := sf.si v' hv' v hv (by rw [k1, hc]); subst this
  rcases k2 with k2 | k2
  ·rw [k2.1, k2.2.1, k2.2.2]; exact hc
  ·exfalso
   have hcs := hc; rw [k2.1, k2.2.1, k2.2.2] at hcs; obtain ⟨p, hp, u, hu, q1, q2, q3, q4, q5, q6⟩ := co.sp (by rw [hcs]; omega); have : p = v' := sf.st p hp v' hv' (head_eq q1 hh).1; subst this; have : u = p := sf.si u hu p hv (by rw [q3, hcs]); subst this
   omega
 ·intro h
  exact placed_iff.2 ⟨v.x, v.y, v.z, (sf.r v hv).1, h⟩
theorem unload_cases (ok : BookOK b.last m b.stays b.jobs) (w : Wf m ⟨s, b, []⟩) (hl : s.li ≠ 0) :
  ¬ nextC b s m ∧ ∃ L, (∀ l, nextL b s m l → l = L) ∧
   ((L = gGive ∧ s.ba = 0 ∧ waitsB b s.li = false ∧ ((∀ v ∈ b.stays, v.id ≠ s.li) ∨ ∃ x ∈ b.stays, x.id = s.li ∧ b.jobs.head? = some ⟨x.t, true⟩)) ∨
   (∃ x ∈ b.stays, x.id = s.li ∧ L = gThere 4 x.x x.y x.z ∧ C s x.x x.y x.z = 0 ∧ (x.z = 1 → C s x.x x.y 0 = 0) ∧ b.jobs.head? ≠ some ⟨x.t, true⟩ ∧
     (∀ v ∈ b.stays, ¬ (s.ba ≠ 0 ∧ waitsB b s.ba = true) → b.jobs.head? = some ⟨v.t, true⟩ → v.z = 1 → C s v.x v.y v.z = v.id → ¬ (x.x = v.x ∧ x.y = v.y ∧ x.z = 0))) ∨
   (∃ x ∈ b.stays, x.id = s.li ∧ L = gThere 4 m 1 0 ∧ C s m 1 0 = 0 ∧ ¬ (s.ba ≠ 0 ∧ waitsB b s.ba = true) ∧ ∃ v ∈ b.stays, b.jobs.head? = some ⟨v.t, true⟩ ∧ v.z = 1 ∧ C s v.x v.y v.z = v.id ∧ x.x = v.x ∧ x.y = v.y ∧ x.z = 0)) := by
 have sf := w.sf; have co := w.wg.co; simp only at sf co; refine ⟨fun h => hl h.1, unloadG b.book s (vB b.book) (vJ b.book s).t (vJ b.book s).f (vS b.book s) m 1 0, fun l h => ?_, ?_⟩
 ·rcases h with ⟨_, h⟩ | ⟨h, _⟩ | ⟨h, _⟩ | ⟨h, _⟩
  ·exact h
  ·exact absurd h hl
  ·exact absurd h hl
  ·exact absurd h hl
 unfold unloadG
 cases hc : carO b.book s.li with
 | none =>
   have hno := carO_none rfl hc; refine Or.inl ⟨rfl, Classical.byContradiction fun hb => ?_, nowait_of sf hno, Or.inl hno⟩
   obtain ⟨_, _, u, hu, _, _, e, _⟩ := co.lb hl hb; exact hno u hu e
 | some x =>
   obtain ⟨hx, hid⟩ := carO_some sf rfl hc; have hi := sf.i1 x hx; have hrm := sf.r x hx
   have hnb : b.jobs.head? = some ⟨x.t, true⟩ → s.ba = 0 := fun hh => Classical.byContradiction fun hb => by
    obtain ⟨p, hp, u, hu, q1, q2, q3, q4, q5, q6⟩ := co.lb hl hb; have : p = x := sf.st p hp x hx (head_eq q1 hh).1; subst this; have : u = p := sf.si u hu p hx (by rw [q3, hid]); subst this
    omega
   simp only [unloadO]
   by_cases hg : ((vJ b.book s).t == x.t && (vJ b.book s).f == true && s.ba == 0) = true
   ·rw [if_pos hg]
    simp only [Bool.and_eq_true, beq_iff_eq] at hg; obtain ⟨y, hy, e1, e2, e3, e4⟩ := first_job sf ok s (vj_f hg.1.2)
    have hh : b.jobs.head? = some ⟨x.t, true⟩ := by
     rcases e4 with e4 | e4
     ·rw [e4]; exact congrArg some (job_eta hg.1.1 hg.1.2)
     ·rw [hg.1.2] at e4; cases e4.1
    exact Or.inl ⟨rfl, hg.2, by rw [← hid]; exact nowait_fetch sf co hx hh, Or.inr ⟨x, hx, hid, hh⟩⟩
   ·rw [if_neg hg]
    have hnh : b.jobs.head? ≠ some ⟨x.t, true⟩ := fun hh => by
     have hb := hnb hh; have := first_head sf ok s (head_ne hh) hb
     rw [hh] at this; injection this with this
     apply hg
     rw [← this, hb]
     simp
    by_cases hbl : (x.z == 1 && carOf s.D x.x x.y 0 != 0 || blocksO s.D (vB b.book) (vJ b.book s).f (vS b.book s) (some x)) = true
    ·rw [if_pos hbl]
     simp only [Bool.or_eq_true, Bool.and_eq_true, beq_iff_eq, bne_iff_ne, ne_eq] at hbl
     rcases hbl with ⟨hz, hfr⟩ | hbl
     ·exact absurd (deep_shut sf ok co hx hid.symm hz hfr).1 hnh
     ·obtain ⟨v, hv, k0, kf, k1, k2, k3, k4, k5, k6⟩ := blocks_is sf ok hbl
      refine Or.inr (Or.inr ⟨x, hx, hid, rfl, Classical.byContradiction fun hsp => ?_, fun hw => ?_, v, hv, k1, k2, k3, k4, k5, k6⟩)
      ·obtain ⟨p, hp, q1, q2, q3⟩ := co.ls hl hsp
       have : p = x := sf.si p hp x hx (by rw [q1, hid]); subst this
       omega
      ·obtain ⟨y, hy, e, hj⟩ := (waits_iff sf).1 hw.2
       have := (first_wait sf hy e hj).1
       rw [this] at kf
       cases kf
    ·rw [if_neg hbl]
     have hbl' := hbl; simp only [Bool.or_eq_true, Bool.and_eq_true, beq_iff_eq, bne_iff_ne, ne_eq, not_or, not_and, Classical.not_not] at hbl'; refine Or.inr (Or.inl ⟨x, hx, hid, rfl, Classical.byContradiction fun hh => ?_, hbl'.1, hnh, fun v hv hw hh hz hc hxv => ?_⟩)
     ·obtain ⟨v', hv', k1, k2⟩ := co.pl _ _ _ hrm.1 hh
      rcases k2 with k2 | k2
      ·have : v' = x := sf.sh v' hv' x hx k2.1 k2.2.1 k2.2.2
       subst this; exact (co.u2 _ _ _ hrm.1 hh).1 (by rw [← k1, hid])
      ·exact sf.ns x hx ⟨k2.1, k2.2.1⟩
     ·have hvj := first_nowait sf ok (head_ne hh) hw
      rw [hh] at hvj; injection hvj with hvj
      have hvs : vS b.book s = v := by
       obtain ⟨y, hy, e1, e2, _⟩ := first_job sf ok s (head_ne hh)
       rw [e1]; exact sf.st y hy v hv (by rw [e2, ← hvj])
      apply hbl'.2
      unfold blocksO; rw [hvs, ← hvj, vb_jobs.2 (head_ne hh)]; simp only [Bool.and_eq_true, beq_iff_eq, eqP_iff]; exact ⟨⟨⟨⟨trivial, trivial⟩, hz⟩, hc⟩, hxv.1.symm, hxv.2.1.symm, hxv.2.2.symm⟩
theorem C_put' {D : DataW Unit} (hD : IsMap D) {X Y Z x y z c : Int} (h : InR X Y Z) (r : InR x y z) (hne : ¬ (x = X ∧ y = Y ∧ z = Z)) : carOf (D.put (pk X Y Z) (.lit (.int .i64 c))) x y z = carOf D x y z := by rw [C_put hD h x y z r, if_neg hne]
theorem placed_put {D : DataW Unit} (hD : IsMap D) {X Y Z c id : Int} (h : InR X Y Z) (hf : carOf D X Y Z = 0) (hid : id ≠ 0) (hc : c ≠ id) : placedB (carOf (D.put (pk X Y Z) (.lit (.int .i64 c)))) id = placedB (carOf D) id := by
 refine Bool.eq_iff_iff.2 ⟨fun k => ?_, fun k => ?_⟩
 ·obtain ⟨x, y, z, r, e⟩ := placed_iff.1 k
  rw [C_put hD h x y z r] at e
  split at e
  ·exact absurd e hc
  ·exact placed_iff.2 ⟨x, y, z, r, e⟩
 ·obtain ⟨x, y, z, r, e⟩ := placed_iff.1 k
  refine placed_iff.2 ⟨x, y, z, r, ?_⟩; rw [C_put hD h x y z r]
  split
  ·rename_i q; rw [q.1, q.2.1, q.2.2, hf] at e; exact absurd e.symm hid
  ·exact e
theorem placed_del {D : DataW Unit} {X Y Z id : Int} (h : InR X Y Z) (hid : id ≠ 0) (hc : carOf D X Y Z ≠ id) : placedB (carOf (D.del (pk X Y Z))) id = placedB (carOf D) id := by
 refine Bool.eq_iff_iff.2 ⟨fun k => ?_, fun k => ?_⟩
 ·obtain ⟨x, y, z, r, e⟩ := placed_iff.1 k
  rw [C_del h x y z r] at e
  split at e
  ·exact absurd e.symm hid
  ·exact placed_iff.2 ⟨x, y, z, r, e⟩
 ·obtain ⟨x, y, z, r, e⟩ := placed_iff.1 k
  refine placed_iff.2 ⟨x, y, z, r, ?_⟩; rw [C_del h x y z r]
  split
  ·rename_i q; rw [q.1, q.2.1, q.2.2] at e; exact absurd e hc
  ·exact e
end
end Hs
namespace Hs
open Bk Lg Pl Dk Tx Tn Ac
section
variable {m : Nat} {b : PB} {s : St}
theorem bay_gone {li : Int} (h : waitsB b li = false) : bay' b li = 0 := by
 unfold bay'; rw [if_neg (by simp [h])]
theorem nowait0 {b : PB} : ¬ ((0 : Int) ≠ 0 ∧ waitsB b 0 = true) := fun h => h.1 rfl
theorem near_lift (w : Wf m ⟨s, b, []⟩) (hs : Settled b s) (hl : s.li ≠ 0) : Wi m (Near m b s) 20 ⟨s, b, []⟩ := by
 have sf := w.sf; have co := w.wg.co; have iv := w.wg.iv; have hlv := w.wg.lv; have ge := w.wg.ge; have ok := w.ok; have hop : s.op = false := w.wg.nv.li hl; simp only at sf co iv hlv ge ok; have hms := sf.m14; obtain ⟨hnc, L, hL, hcase⟩ := unload_cases ok w hl
 rcases hcase with ⟨rfl, hb, hw, hx⟩ | ⟨x, hx, hid, rfl, hc, hf, hnh, hnb⟩ | ⟨x, hx, hid, rfl, hc, hw, v, hv, hh, hz, hcv, hxv⟩
 ·refine Wi.choose Near.gs (by decide) hnc hL (Wi.giveOut Near.gs iv ge hs hl hb fun st hu h0 => near_of ?_)
  rw [bay_gone hw, hb]
  show phase m b 0 0 true (carOf s.D) < phase m b s.li 0 s.op (C s)
  cases hj : b.jobs.head? with
  | none => rw [ph_none nowait0 hj, ph_none nowait0 hj, if_pos hl]; simp
  | some j =>
    obtain ⟨t, f⟩ := j
    cases f with
    | false => rw [ph_store nowait0 hj, ph_store nowait0 hj, if_pos hl]; simp
    | true =>
      obtain ⟨v, hv, rfl⟩ := ok.j.each ⟨t, true⟩ (by
       cases hjs : b.jobs with
       | nil => rw [hjs] at hj; cases hj
       | cons a l => rw [hjs] at hj; injection hj with hj; rw [hj]; simp)
      have hi := sf.i1 v hv; rw [ph_fetch sf hv nowait0 hj, ph_fetch sf hv nowait0 hj]; unfold fph
      by_cases hlv' : s.li = v.id
      ·have hnp : placedB (C s) v.id = false := by
        cases hp : placedB (C s) v.id with
        | false => rfl
        | true =>
          obtain ⟨p, q, r, hr, e⟩ := placed_iff.1 hp; exact absurd (by rw [e, hlv']) (co.u2 p q r hr (by rw [e]; omega)).1
       rw [show placedB (carOf s.D) v.id = placedB (C s) v.id from rfl, hnp]
       simp only [Bool.false_eq_true, if_false]; rw [if_neg (show ¬ (0 : Int) = v.id by omega), if_pos hlv', if_neg (show ¬ (0 : Int) ≠ 0 by omega)]
       split <;> omega
      ·have hnone : ∀ u ∈ b.stays, u.id ≠ s.li := by
        rcases hx with hx | ⟨x, hx, hid, hh⟩
        ·exact hx
        ·exfalso
         have : x = v := sf.st x hx v hv (head_eq hh hj).1; subst this; exact hlv' hid.symm
       have hblk : (b.stays.any fun x => x.id == s.li && v.z == 1 && x.x == v.x && x.y == v.y && x.z == 0) = false := by
        rw [List.any_eq_false]
        intro u hu
        have := hnone u hu
        simp [this]
       rw [hblk]
       show (if placedB (C s) v.id = true then _ else _) < (if placedB (C s) v.id = true then _ else _)
       cases hp : placedB (C s) v.id with
       | true =>
         rw [if_pos rfl, if_pos rfl, if_neg (show ¬ (0 : Int) ≠ 0 by omega), if_neg (show ¬ (0 : Int) ≠ 0 by omega), if_pos rfl, if_pos hl]
         simp
       | false =>
         have hsp : C s m 1 0 = 0 := Classical.byContradiction fun hsp => by
          obtain ⟨p, hp', q1, q2, q3⟩ := co.ls hl hsp; exact hnone p hp' q1
         simp only [Bool.false_eq_true, if_false]; rw [show carOf s.D m 1 0 = 0 from hsp, show C s m 1 0 = 0 from hsp, if_neg (show ¬ (0 : Int) = v.id by omega), if_neg hlv', if_pos hl]
         decide
 ·obtain ⟨hr, hm⟩ := sf.r x hx
  have hi := sf.i1 x hx; refine Wi.choose Near.gs (by simp [gThere]) hnc hL (Wi.bring Near.gs iv ge hs ⟨hr.1.1, by rw [hlv]; exact hm⟩ hr.2.1 hr.2.2 hl hc hf fun st hu h0 => near_of ?_)
  have hns := sf.ns x hx; have hspin := sf.spareIn; have hC : ∀ {p q r : Int}, InR p q r → ¬ (p = x.x ∧ q = x.y ∧ r = x.z) → carOf (s.D.put (pk x.x x.y x.z) (.lit (.int .i64 s.li))) p q r = C s p q r := fun hpr hne => C_put' iv.D.isMap hr hpr hne
  have hsp : carOf (s.D.put (pk x.x x.y x.z) (.lit (.int .i64 s.li))) m 1 0 = C s m 1 0 := hC hspin fun e => hns ⟨e.1.symm, e.2.1.symm⟩
  rw [hop]
  by_cases hw : s.ba ≠ 0 ∧ waitsB b s.ba = true
  ·rw [ph_wait hw, ph_wait hw, hsp, if_pos hl, if_neg (show ¬ (0 : Int) ≠ 0 by omega)]
   omega
  cases hj : b.jobs.head? with
  | none => rw [ph_none hw hj, ph_none hw hj, if_pos hl]; simp
  | some j =>
    obtain ⟨t, f⟩ := j
    cases f with
    | false => rw [ph_store hw hj, ph_store hw hj, if_pos hl]; simp
    | true =>
      obtain ⟨v, hv, rfl⟩ := ok.j.each ⟨t, true⟩ (by
       cases hjs : b.jobs with
       | nil => rw [hjs] at hj; cases hj
       | cons a l => rw [hjs] at hj; injection hj with hj; rw [hj]; simp)
      have hvi := sf.i1 v hv; have hvr := (sf.r v hv).1
      have hxv : s.li ≠ v.id := fun e => by
       have : x = v := sf.si x hx v hv (by rw [hid, e]); subst this; exact hnh hj
      rw [ph_fetch sf hv hw hj, ph_fetch sf hv hw hj]; have hpl := placed_put (D := s.D) iv.D.isMap (X := x.x) (Y := x.y) (Z := x.z) (c := s.li) (id := v.id) hr hc (by omega) hxv
      cases hp : placedB (C s) v.id with
      | true =>
        have hat : C s v.x v.y v.z = v.id := (placed_home sf co hv hj).1 hp
        have hblk : (b.stays.any fun x => x.id == s.li && v.z == 1 && x.x == v.x && x.y == v.y && x.z == 0) = false := by
         rw [List.any_eq_false]
         intro u hu k
         simp only [Bool.and_eq_true, beq_iff_eq] at k; have : u = x := sf.si u hu x hx (by rw [k.1.1.1.1, hid]); subst this; exact hnb v hv hw hj k.1.1.1.2 hat ⟨k.1.1.2, k.1.2, k.2⟩
        have : fph m v b.stays s.li s.ba false (C s) = 10 := by
         unfold fph; rw [hp, if_pos rfl, if_pos hl, hblk]
         rfl
        rw [this]; have := fph_le8 (m := m) (li := 0) (ba := s.ba) (op := false) (C := carOf (s.D.put (pk x.x x.y x.z) (.lit (.int .i64 s.li)))) v b.stays rfl
        omega
      | false =>
        have hsp0 : C s m 1 0 = 0 := Classical.byContradiction fun hsp => by
         obtain ⟨p, hp', q1, q2, q3⟩ := co.ls hl hsp; have : p = v := sf.st p hp' v hv (head_eq q3 hj).1; subst this; exact hxv q1.symm
        unfold fph; rw [hpl, show placedB (carOf s.D) v.id = placedB (C s) v.id from rfl, hp, hsp, hsp0]
        simp only [Bool.false_eq_true, if_false]; rw [if_neg (show ¬ (0 : Int) = v.id by omega), if_neg hxv, if_pos hl]
        simp
 ·have hspin := sf.spareIn
  have hi := sf.i1 x hx; have hvi := sf.i1 v hv; obtain ⟨hvr, hvm⟩ := sf.r v hv; have hvn := sf.ns v hv; refine Wi.choose Near.gs (by simp [gThere]) hnc hL (Wi.bring Near.gs iv ge hs ⟨hms.1, by rw [hlv]; exact Int.le_refl _⟩ (by omega) (by omega) hl hc (fun h => by omega) fun st hu h0 => near_of ?_)
  rw [hop, ph_fetch sf hv hw hh, ph_fetch sf hv hw hh]
  have hlx : s.li ≠ v.id := fun e => by
   have : x = v := sf.si x hx v hv (by rw [hid, e]); subst this
   omega
  have hpl := placed_put (D := s.D) iv.D.isMap (X := m) (Y := 1) (Z := 0) (c := s.li) (id := v.id) hspin hc (by omega) hlx; have hp : placedB (C s) v.id = true := (placed_home sf co hv hh).2 hcv
  have hblk : (b.stays.any fun x => x.id == s.li && v.z == 1 && x.x == v.x && x.y == v.y && x.z == 0) = true := by
   rw [List.any_eq_true]; exact ⟨x, hx, by simp [hid, hz, hxv]⟩
  have hfin : InR v.x v.y 0 := ⟨hvr.1, hvr.2.1, by omega⟩
  have hfr0 : C s v.x v.y 0 = 0 := Classical.byContradiction fun hne => by
   obtain ⟨u, hu, k1, k2⟩ := co.pl _ _ _ hfin hne
   rcases k2 with k2 | k2
   ·have : u = x := sf.sh u hu x hx (by omega) (by omega) (by omega)
    subst this; exact (co.u2 _ _ _ hfin hne).1 (by rw [← k1, hid])
   ·exact hvn ⟨k2.1, k2.2.1⟩
  have hfr : carOf (s.D.put (pk m 1 0) (.lit (.int .i64 s.li))) v.x v.y 0 = 0 := by
   rw [C_put' iv.D.isMap hspin hfin (fun e => hvn ⟨e.1, e.2.1⟩)]
   exact hfr0
  unfold fph; rw [hpl, show placedB (carOf s.D) v.id = placedB (C s) v.id from rfl, hp, if_pos rfl, if_pos rfl, hblk, if_pos rfl, if_pos hl, hfr]
  by_cases hb : s.ba = 0
  ·simp [hb]
  ·simp [hb]
theorem near_over (w : Wf m ⟨s, b, []⟩) (hs : Settled b s) (hw : ¬ (s.ba ≠ 0 ∧ waitsB b s.ba = true)) (hc : nextC b s m) : Wi m (fun τ => τ.gs = [] ∧ rank m τ < rank m ⟨s, b, []⟩) 20 ⟨s, b, []⟩ := by
 have sf := w.sf; have co := w.wg.co; have ok := w.ok; simp only at sf co ok; obtain ⟨a1, a2, x, hx, a3, a4, a5, a6, a7⟩ := over_head sf ok co hc; refine Wi.le (d := 1) (Wi.step 0 _ fun σ' hi => .here 0 _ ?_) (by omega)
 obtain ⟨ρ, ⟨k, _⟩ | ⟨_, l, k, _⟩ | ⟨_, _, rfl⟩, rfl⟩ := hi
 ·exact absurd rfl k
 ·exfalso
  obtain ⟨c', d', e', f'⟩ := hc
  rcases k with ⟨c, _⟩ | ⟨_, d, _⟩ | ⟨_, _, e, _⟩ | ⟨_, _, _, f, _⟩
  ·exact c c'
  ·simp only at d; rw [d] at d'; cases d'
  ·simp only at e; rw [e] at e'; cases e'
  ·simp only at f; rw [f] at f'; cases f'
 have hsub : ∀ v ∈ (overB2 b s).stays, v ∈ b.stays := fun v hv => by
  unfold overB2 at hv; rw [doneStays_eq] at hv; exact (List.mem_filter.1 hv).1
 have hjs : ∀ j ∈ (overB2 b s).jobs, j ∈ b.jobs := fun j hj => by
  unfold overB2 doneJobs at hj
  exact (List.mem_filter.1 hj).1
 have sf' : SF m (overB2 b s).stays := ⟨sf.m14, fun v hv => sf.tk v (hsub v hv), fun v hv => sf.i1 v (hsub v hv), fun v hv => sf.r v (hsub v hv), fun v hv => sf.ns v (hsub v hv), fun v hv u hu => sf.st v (hsub v hv) u (hsub u hu), fun v hv u hu => sf.si v (hsub v hv) u (hsub u hu), fun v hv u hu => sf.sh v (hsub v hv) u (hsub u hu)⟩
 have hw' : ¬ (s.ba ≠ 0 ∧ waitsB (overB2 b s) s.ba = true) := fun k => by
  obtain ⟨y, hy, e, hj⟩ := (waits_iff sf').1 k.2; exact hw ⟨k.1, (waits_iff sf).2 ⟨y, hsub y hy, e, hjs _ hj⟩⟩
 have hset : Settled (overB2 b s) s := ⟨hs.pe, fun ho => by
  rcases hs.ba ho with k | k
  ·exact Or.inl k
  ·left
   exact Classical.byContradiction fun h => hw ⟨h, k⟩⟩
 have hlen : (overB2 b s).jobs.length < b.jobs.length := by
  have hm : vJ b.book s ∈ b.jobs := by
   cases hjs' : b.jobs with
   | nil => rw [hjs'] at a5; cases a5
   | cons a l => rw [hjs'] at a5; injection a5 with a5; rw [← a5]; simp
  show (doneJobs _ _ _ b.jobs).length < b.jobs.length
  unfold doneJobs
  refine List.length_filter_lt_length_iff_exists.2 ⟨_, hm, ?_⟩; unfold goesJ
  simp
 refine ⟨rfl, ?_⟩; rw [pre_same hset]; have h8 := ph_le8 (m := m) (b := overB2 b s) (li := s.li) (ba := s.ba) (op := s.op) (C := C s) hw' a1
 show 9 * (overB2 b s).jobs.length + phase m (overB2 b s) s.li s.ba s.op (C s) < 9 * b.jobs.length + phase m b s.li s.ba s.op (C s)
 omega
theorem near_spare (w : Wf m ⟨s, b, []⟩) (hs : Settled b s) (hl : s.li = 0) (hsp : C s m 1 0 ≠ 0) (hb : spareB b.book s m (vB b.book) (vJ b.book s).f (vS b.book s) = true)
  (hp : phase m b (C s m 1 0) s.ba false (carOf (s.D.del (pk m 1 0))) < phase m b s.li s.ba s.op (C s)) : Wi m (Near m b s) 20 ⟨s, b, []⟩ := by
 have sf := w.sf; have iv := w.wg.iv; have hlv := w.wg.lv; have ge := w.wg.ge; simp only at sf iv hlv ge; have hms := sf.m14; refine Wi.choose (L := gThere 3 m 1 0) Near.gs (by simp [gThere]) (fun h => ?_) (fun l h => ?_) (Wi.fetch Near.gs iv ge hs ⟨hms.1, by rw [hlv]; exact Int.le_refl _⟩ (by omega) (by omega) hl hsp (fun h => by omega) fun st hu h0 => near_of hp)
 ·have := h.2.1
  rw [hb] at this; cases this
 ·rcases h with ⟨h, _⟩ | ⟨_, _, h⟩ | ⟨_, h, _⟩ | ⟨_, h, _⟩
  ·exact absurd hl h
  ·exact h
  ·rw [hb] at h; cases h
  ·rw [hb] at h; cases h
theorem near (w : Wf m ⟨s, b, []⟩) (hs : Settled b s) : Fin ⟨s, b, []⟩ ∨ Wi m (Near m b s) 20 ⟨s, b, []⟩ := by
 by_cases hl : s.li ≠ 0
 ·exact Or.inr (near_lift w hs hl)
 have hl : s.li = 0 := Classical.byContradiction hl; have sf := w.sf; have co := w.wg.co; have iv := w.wg.iv; have hlv := w.wg.lv; have ge := w.wg.ge; have ok := w.ok; simp only at sf co iv hlv ge ok; have hms := sf.m14; have hspin := sf.spareIn
 by_cases hw : s.ba ≠ 0 ∧ waitsB b s.ba = true
 ·right
  obtain ⟨x, hx, hid, hj⟩ := (waits_iff sf).1 hw.2; obtain ⟨e1, e2⟩ := first_wait sf hx hid hj
  have hi := sf.i1 x hx; have hvb : vB b.book = true := vb_jobs.2 fun e => by rw [e] at hj; cases hj
  have hbl : ∀ id, blocksB b.book s (vB b.book) (vJ b.book s).f (vS b.book s) id = false := fun id => by
   unfold blocksB; rw [e1]
   cases carO b.book id with
   | none => rfl
   | some y => unfold blocksO; simp
  by_cases hsp : C s m 1 0 = 0
  ·have hsb : spareB b.book s m (vB b.book) (vJ b.book s).f (vS b.book s) = false := by
    unfold spareB; rw [show carOf s.D m 1 0 = 0 from hsp]
    rfl
   have hho : C s x.x x.y x.z ≠ x.id := fun e => (co.u2 _ _ _ (sf.r x hx).1 (by rw [e]; omega)).2 (by rw [e, hid])
   have hov : overB s (vJ b.book s).f (vS b.book s) = false := by
    unfold overB; rw [e1, e2]
    have : hasB s x.id = true := by
     unfold hasB
     simp [hid]
     omega
    rw [this]
    simpa using hho
   have hput : putG s (vS b.book s) = gTake := by
    unfold putG; rw [e2, if_pos (by simp [hid])]
   refine Wi.choose (L := gTake) Near.gs (by decide) (fun h => ?_) (fun l h => ?_) (Wi.takeIn Near.gs iv ge hs hl hw.1 fun st hu h0 => near_of ?_)
   ·have := h.2.2.2
    rw [hov] at this; cases this
   ·rcases h with ⟨h, _⟩ | ⟨_, h, _⟩ | ⟨_, _, h, _⟩ | ⟨_, _, _, _, ⟨h, _⟩ | ⟨_, h⟩⟩
    ·exact absurd hl h
    ·rw [hsb] at h; cases h
    ·rw [hvb] at h; cases h
    ·rw [e1] at h; cases h
    ·rw [h, hput]
   ·rw [ph_wait (li := s.li) hw]
    have := ph_le10 (m := m) (b := b) (li := s.ba) (op := false) (C := carOf s.D) nowait0
    omega
  ·refine near_spare w hs hl hsp ?_ ?_
   ·unfold spareB
    rw [hbl]
    simpa using hsp
   ·have hz0 : carOf (s.D.del (pk m 1 0)) m 1 0 = 0 := by rw [C_del hspin m 1 0 hspin]; exact if_pos ⟨rfl, rfl, rfl⟩
    rw [ph_wait hw, ph_wait hw, hz0, hl]
    simp [hsp]
 ·by_cases hjs : b.jobs = []
  ·have hh : b.jobs.head? = none := by rw [hjs]; rfl
   have hsp : C s m 1 0 = 0 := Classical.byContradiction fun h => by
    obtain ⟨p, _, _, _, q1, _⟩ := co.sp h; rw [hh] at q1; cases q1
   cases hop : s.op with
   | true =>
     left
     refine ⟨hop, ?_, hl, hjs, rfl⟩
     rcases hs.ba hop with k | k
     ·exact k
     ·exact Classical.byContradiction fun h => hw ⟨h, k⟩
   | false =>
     right
     have hsb : spareB b.book s m (vB b.book) (vJ b.book s).f (vS b.book s) = false := by
      unfold spareB; rw [show carOf s.D m 1 0 = 0 from hsp]
      rfl
     have hvb : vB b.book = false := by
      cases h : vB b.book with
      | false => rfl
      | true => exact absurd hjs (vb_jobs.1 h)
     refine Wi.choose (L := gWel) Near.gs (by decide) (fun h => ?_) (fun l h => ?_) (Wi.welcome Near.gs iv ge hs hl fun st hu h0 => near_of ?_)
     ·have := h.2.2.1
      rw [hvb] at this; cases this
     ·rcases h with ⟨h, _⟩ | ⟨_, h, _⟩ | ⟨_, _, _, h⟩ | ⟨_, _, h, _⟩
      ·exact absurd hl h
      ·rw [hsb] at h; cases h
      ·rw [h]; unfold welG; rw [if_neg (by simp [hop])]
      ·rw [hvb] at h; cases h
     ·have hb0 : bay' b s.ba = 0 := by
       refine bay_gone ?_
       cases hq : waitsB b s.ba with
       | false => rfl
       | true =>
         obtain ⟨y, _, _, hj⟩ := (waits_iff sf).1 hq; rw [hjs] at hj; cases hj
      rw [hb0, ph_none nowait0 hh, ph_none hw hh, hl, hop]
      decide
  ·have hhead := first_nowait sf ok hjs hw
   obtain ⟨v, hv, e1, e2, e3, _⟩ := first_job sf ok s hjs
   have hi := sf.i1 v hv; obtain ⟨hvr, hvm⟩ := sf.r v hv; have hvn := sf.ns v hv; have hvb : vB b.book = true := vb_jobs.2 hjs
   cases hf : (vJ b.book s).f with
   | false =>
     right
     have hh : b.jobs.head? = some ⟨v.t, false⟩ := by rw [hhead]; exact congrArg some (job_eta e2.symm hf)
     have hsp : C s m 1 0 = 0 := Classical.byContradiction fun h => by
      obtain ⟨p, _, _, _, q1, _⟩ := co.sp h; have := (head_eq q1 hh).2
      cases this
     refine near_over w hs hw ⟨hl, ?_, hvb, ?_⟩
     ·unfold spareB
      rw [show carOf s.D m 1 0 = 0 from hsp]
      rfl
     ·unfold overB
      rw [e1, hf]
      cases hh' : hasB s v.id with
      | false => rfl
      | true =>
        have hjm : (⟨v.t, false⟩ : Job) ∈ b.jobs := by
         cases hjs' : b.jobs with
         | nil => rw [hjs'] at hh; cases hh
         | cons a l => rw [hjs'] at hh; injection hh with hh; rw [hh]; simp
        unfold hasB at hh'; simp only [Bool.and_eq_true, Bool.or_eq_true, bne_iff_ne, ne_eq, beq_iff_eq] at hh'
        rcases hh'.2 with (k | k) | k
        ·obtain ⟨p, q, r, hr, e⟩ := atB_iff.1 k
         have hr' : InR p q r := hr; obtain ⟨v', hv', k1, k2⟩ := co.pl p q r hr' (by show carOf s.D p q r ≠ 0; rw [e]; omega)
         have : v' = v := sf.si v' hv' v hv (by rw [k1]; exact e); subst this
         rcases k2 with k2 | k2
         ·rw [k2.1, k2.2.1, k2.2.2]
          simp [e]
         ·exfalso
          rw [k2.1, k2.2.1, k2.2.2] at e; have : C s m 1 0 = v'.id := e
          omega
        ·omega
        ·exact absurd ⟨by omega, (waits_iff sf).2 ⟨v, hv, k.symm, hjm⟩⟩ hw
   | true =>
     right
     have hh : b.jobs.head? = some ⟨v.t, true⟩ := by rw [hhead]; exact congrArg some (job_eta e2.symm hf)
     have hpf := ph_fetch (m := m) (li := s.li) (ba := s.ba) (op := s.op) (C := C s) sf hv hw hh
     have hwb : s.ba ≠ 0 → waitsB b s.ba = false := fun h0 => by
      cases hq : waitsB b s.ba with
      | false => rfl
      | true => exact absurd ⟨h0, hq⟩ hw
     cases hp : placedB (C s) v.id with
     | false =>
       have hcv : C s v.x v.y v.z ≠ v.id := fun e => by
        rw [(placed_home sf co hv hh).2 e] at hp; cases hp
       by_cases hsp : C s m 1 0 = 0
       ·refine near_over w hs hw ⟨hl, ?_, hvb, ?_⟩
        ·unfold spareB
         rw [show carOf s.D m 1 0 = 0 from hsp]
         rfl
        ·unfold overB
         rw [e1, hf]
         cases hh' : hasB s v.id with
         | false => rfl
         | true =>
           unfold hasB at hh'; rw [show atB s.D v.id = placedB (C s) v.id from rfl, hp] at hh'
           simp only [Bool.and_eq_true, Bool.or_eq_true, bne_iff_ne, ne_eq, beq_iff_eq, Bool.false_eq_true, false_or] at hh'
           rcases hh'.2 with k | k
           ·omega
           ·simp [k]
       ·obtain ⟨p, hp', u, hu, q1, q2, q3, q4, q5, q6⟩ := co.sp hsp
        have hpv : p = v := sf.st p hp' v hv (head_eq q1 hh).1; subst hpv; refine near_spare w hs hl hsp ?_ ?_
        ·unfold spareB blocksB
         rw [show carOf s.D m 1 0 = u.id from q3.symm, carO_of sf rfl hu]
         unfold blocksO; rw [e1]; have : (carOf s.D p.x p.y p.z == p.id) = false := by simpa using hcv
         rw [this]; have := sf.i1 u hu
         simp
         omega
        ·rw [hpf, ph_fetch sf hv hw hh]
         have hup : C s m 1 0 ≠ p.id := fun e => by
          have : u = p := sf.si u hu p hv (by rw [q3, e]); subst this
          omega
         have hpd := placed_del (D := s.D) (X := m) (Y := 1) (Z := 0) (id := p.id) hspin (by omega) hup; unfold fph; rw [hpd, show placedB (carOf s.D) p.id = placedB (C s) p.id from rfl, hp]
         simp only [Bool.false_eq_true, if_false]; have hz0 : carOf (s.D.del (pk m 1 0)) m 1 0 = 0 := by rw [C_del hspin m 1 0 hspin]; exact if_pos ⟨rfl, rfl, rfl⟩
         rw [if_neg hup, hz0, if_neg (show ¬ s.li = p.id by omega)]
         simp [hsp]
     | true =>
       have hcv : C s v.x v.y v.z = v.id := (placed_home sf co hv hh).1 hp; have hbv : s.ba ≠ v.id := fun e => (co.u2 _ _ _ hvr (by rw [hcv]; omega)).2 (by rw [hcv, e])
       have hov : overB s (vJ b.book s).f (vS b.book s) = false := by
        unfold overB; rw [e1, hf]
        have : hasB s v.id = true := by
         unfold hasB; rw [show atB s.D v.id = placedB (C s) v.id from rfl, hp]
         simp
         omega
        rw [this]
        simpa using hbv
       have hsb : spareB b.book s m (vB b.book) (vJ b.book s).f (vS b.book s) = false := by
        by_cases hsp : C s m 1 0 = 0
        ·unfold spareB
         rw [show carOf s.D m 1 0 = 0 from hsp]
         rfl
        ·obtain ⟨p, hp', u, hu, q1, q2, q3, q4, q5, q6⟩ := co.sp hsp
         have hpv : p = v := sf.st p hp' v hv (head_eq q1 hh).1; subst hpv; unfold spareB blocksB; rw [show carOf s.D m 1 0 = u.id from q3.symm, carO_of sf rfl hu]
         unfold blocksO; rw [e1, hf, hvb]; have : (carOf s.D p.x p.y p.z == p.id) = true := by simpa using hcv
         simp [this, q2, eqP, q4, q5, q6]
         exact fun _ => by rw [← q2]; exact hcv
       have hnc : ¬ nextC b s m := fun h => by
        have := h.2.2.2; rw [hov] at this; cases this
       have hnext : ∀ l, nextL b s m l → FetchP s v l := fun l h => by
        rcases h with ⟨h, _⟩ | ⟨_, h, _⟩ | ⟨_, _, h, _⟩ | ⟨_, _, _, _, ⟨_, h⟩ | ⟨h, _⟩⟩
        ·exact absurd hl h
        ·rw [hsb] at h; cases h
        ·rw [hvb] at h; cases h
        ·rw [e1] at h; exact h
        ·rw [hf] at h; cases h
       have hph : phase m b s.li s.ba s.op (C s) = if s.ba ≠ 0 then 8 else if s.op = true then 7 else if C s v.x v.y 0 ≠ 0 then 6 else 4 := by
        rw [hpf]; unfold fph; rw [hp, if_pos rfl, hl, if_neg (show ¬ (0 : Int) ≠ 0 by omega)]
       by_cases hb : s.ba = 0
       ·cases hop : s.op with
        | true =>
          refine Wi.choose (L := [(5, 0)]) Near.gs (by simp) hnc (fun l h => ?_) (Wi.shut Near.gs iv hs hop fun st hu h0 => near_of ?_)
          ·have := hnext l h
           unfold FetchP at this
           rwa [if_neg (by simp [hb]), if_pos hop] at this
          ·rw [hph, if_neg (show ¬ s.ba ≠ 0 from fun k => k hb), if_pos hop, ph_fetch sf hv hw hh]
           unfold fph; rw [show placedB (carOf s.D) v.id = placedB (C s) v.id from rfl, hp, if_pos rfl, hl, hb, if_neg (show ¬ (0 : Int) ≠ 0 by omega), if_neg (show ¬ (0 : Int) ≠ 0 by omega), if_neg (by decide)]
           split <;> omega
        | false =>
          have huniq : ∀ l, nextL b s m l → l = if (v.z == 1 && carOf s.D v.x v.y 0 != 0) = true then gThere 3 v.x v.y 0 else gThere 3 v.x v.y v.z := fun l h => by
           have := hnext l h; unfold FetchP at this; rw [if_neg (by simp [hb]), if_neg (by simp [hop])] at this; obtain ⟨x, y, z, ok', hw', ⟨rfl, _⟩ | ⟨rfl, hlx⟩⟩ := this
           ·exfalso
            have := (WhereP.iff hw').2 ((whereB_iff iv.D iv.ok.lv4 (by omega)).2 (show atB s.D v.id = true from hp))
            cases this
           ·obtain ⟨hr, _, hc⟩ := where_at iv hlv (by omega) hw'
            obtain ⟨a1, a2, a3⟩ := co.u1 x y z v.x v.y v.z hr hvr (by rw [hc]; omega) (by rw [hc, hcv]); rw [hlx, a1, a2, a3]
          have hph' : phase m b s.li s.ba s.op (C s) = if C s v.x v.y 0 ≠ 0 then 6 else 4 := by
           rw [hph, if_neg (show ¬ s.ba ≠ 0 from fun k => k hb), if_neg (by simp [hop])]
          by_cases hfr : v.z = 1 ∧ C s v.x v.y 0 ≠ 0
          ·have hfin : InR v.x v.y 0 := ⟨hvr.1, hvr.2.1, by omega⟩
           have hcond : (v.z == 1 && carOf s.D v.x v.y 0 != 0) = true := by
            have := hfr.2; simp only [hfr.1, Bool.and_eq_true, beq_iff_eq, bne_iff_ne, ne_eq, true_and]; exact this
           refine Wi.choose (L := gThere 3 v.x v.y 0) Near.gs (by simp [gThere]) hnc (fun l h => by rw [huniq l h, if_pos hcond]) (Wi.fetch Near.gs iv ge hs ⟨hvr.1.1, by rw [hlv]; exact hvm⟩ hvr.2.1 (by omega) hl hfr.2 (fun h => by omega) fun st hu h0 => near_of ?_)
           rw [hph', if_pos hfr.2, ph_fetch sf hv hw hh]; obtain ⟨u, hu', k1, k2⟩ := co.pl _ _ _ hfin hfr.2
           have hk : u.x = v.x ∧ u.y = v.y ∧ u.z = 0 := by
            rcases k2 with k2 | k2
            ·exact k2
            ·exact absurd ⟨k2.1, k2.2.1⟩ hvn
           have hne : carOf s.D v.x v.y 0 ≠ v.id := fun e => by
            have := co.u1 v.x v.y 0 v.x v.y v.z hfin hvr hfr.2 (by show carOf s.D v.x v.y 0 = _; rw [e, hcv])
            omega
           have hpd := placed_del (D := s.D) (X := v.x) (Y := v.y) (Z := 0) (id := v.id) hfin (by omega) hne
           have hblk : (b.stays.any fun x => x.id == carOf s.D v.x v.y 0 && v.z == 1 && x.x == v.x && x.y == v.y && x.z == 0) = true := by
            rw [List.any_eq_true]; refine ⟨u, hu', ?_⟩; have k1' : u.id = carOf s.D v.x v.y 0 := k1
            simp [k1', hfr.1, hk]
           unfold fph; rw [hpd, show placedB (carOf s.D) v.id = placedB (C s) v.id from rfl, hp, if_pos rfl, hblk, if_pos rfl, hb, if_neg (show ¬ (0 : Int) ≠ 0 by omega), if_pos (show carOf s.D v.x v.y 0 ≠ 0 from hfr.2)]
           omega
          ·have hcond : ¬ (v.z == 1 && carOf s.D v.x v.y 0 != 0) = true := fun k => by
            simp only [Bool.and_eq_true, beq_iff_eq, bne_iff_ne, ne_eq] at k; exact hfr ⟨k.1, k.2⟩
           refine Wi.choose (L := gThere 3 v.x v.y v.z) Near.gs (by simp [gThere]) hnc (fun l h => by rw [huniq l h, if_neg hcond]) (Wi.fetch Near.gs iv ge hs ⟨hvr.1.1, by rw [hlv]; exact hvm⟩ hvr.2.1 hvr.2.2 hl (by show C s v.x v.y v.z ≠ 0; rw [hcv]; omega) (fun h => Classical.byContradiction fun k => hfr ⟨h, k⟩) fun st hu h0 => near_of ?_)
           rw [hph', ph_fetch sf hv hw hh]
           have hpd : placedB (carOf (s.D.del (pk v.x v.y v.z))) v.id = false := by
            cases hq : placedB (carOf (s.D.del (pk v.x v.y v.z))) v.id with
            | false => rfl
            | true =>
              obtain ⟨x, y, z, r, e⟩ := placed_iff.1 hq; rw [C_del hvr x y z r] at e
              split at e
              ·omega
              ·rename_i hne
               exact absurd (co.u1 x y z v.x v.y v.z r hvr (by show carOf s.D x y z ≠ 0; rw [e]; omega) (by rw [hcv]; exact e)) hne
           unfold fph; rw [hpd]; simp only [Bool.false_eq_true, if_false]; rw [if_pos (show carOf s.D v.x v.y v.z = v.id from hcv)]
           split <;> omega
       ·have hop : s.op = false := by
         cases ho : s.op with
         | false => rfl
         | true =>
           exfalso
           rcases hs.ba ho with k | k
           ·exact hb k
           ·exact hw ⟨hb, k⟩
        refine Wi.choose (L := gWel) Near.gs (by decide) hnc (fun l h => ?_) (Wi.welcome Near.gs iv ge hs hl fun st hu h0 => near_of ?_)
        ·have := hnext l h
         unfold FetchP at this; rw [if_pos hb] at this; rw [this]; unfold welG; rw [if_neg (by simp [hop])]
        ·rw [hph, if_pos hb, bay_gone (hwb hb), ph_fetch sf hv nowait0 hh]
         unfold fph; rw [show placedB (carOf s.D) v.id = placedB (C s) v.id from rfl, hp, if_pos rfl, if_neg (show ¬ (0 : Int) ≠ 0 by omega), if_neg (show ¬ (0 : Int) ≠ 0 by omega), if_pos rfl]
         omega
end
end Hs
end Go.Proofs.YtopgllmjeliklaaGreatDoor
