/- HvH. -/
import Derived.Test.YtopgllmjeliklaaGreatDoorKtHvF
set_option maxRecDepth 100000
set_option linter.unusedSimpArgs false
set_option linter.unusedVariables false
namespace Go.Proofs.YtopgllmjeliklaaGreatDoor
open Go.Shelf Go.Lib Go.ChangeShapes Go.WideShapes Go.ChangeAt Go.RowKit Go.Maps
namespace Hs
open Bk Lg Pl Dk Tx Tn Ac
def Okg (m : Int) (g : Int × Int) : Prop := (g.1 = 1 → 0 ≤ g.2 ∧ g.2 ≤ m * 3) ∧ (g.1 = 2 → -2 ≤ g.2 ∧ g.2 ≤ 2)
def Og (m : Int) (gs : List (Int × Int)) : Prop := gs.length ≤ 6 ∧ ∀ g ∈ gs, Okg m g
theorem Og.nil (m : Int) : Og m [] := ⟨by decide, fun g h => by cases h⟩
theorem Og.tail {m : Int} {g : Int × Int} {l : List (Int × Int)} (h : Og m (g :: l)) : Og m l := ⟨by have := h.1; simp at this; omega, fun x hx => h.2 x (by simp [hx])⟩
theorem Og.follow {m : Int} : ∀ (gs : List (Int × Int)) (s : St), Og m gs → Og m (followS gs s).1
 | [], s, h => h
 | g :: l, s, h => by
   unfold followS
   split
   ·exact Og.follow l s h.tail
   ·split
    ·exact h
    ·exact Og.nil m
theorem og_there {m k X Y Z : Int} (hm : 1 ≤ m) (hk : k = 3 ∨ k = 4) (hX : 0 ≤ X ∧ X ≤ m) (hY : 0 ≤ Y ∧ Y ≤ 1) (hZ : 0 ≤ Z ∧ Z ≤ 1) : Og m (gThere k X Y Z) := by
 refine ⟨Nat.le_refl 6, fun g hg => ?_⟩
 have := ext_ne hY hZ; simp only [gThere, List.mem_cons, List.not_mem_nil, or_false] at hg
 rcases hg with rfl | rfl | rfl | rfl | rfl | rfl <;> unfold Okg <;> simp only <;> omega
theorem og_list {m : Int} (hm : 1 ≤ m) {l : List (Int × Int)} (h : l = gGive ∨ l = gWel ∨ l = gTake ∨ l = [(5, 0)] ∨ l = []) : Og m l := by
 have key : ∀ g ∈ l, g.2 = 0 := by
  rcases h with rfl | rfl | rfl | rfl | rfl <;> intro g hg <;> simp [gGive, gWel, gTake] at hg <;> (try (rcases hg with rfl | rfl | rfl | rfl | rfl)) <;> (try (rcases hg with rfl | rfl | rfl | rfl)) <;> simp_all
 refine ⟨?_, fun g hg => ?_⟩
 ·rcases h with rfl | rfl | rfl | rfl | rfl <;> decide
 ·have := key g hg
  unfold Okg; rw [this]
  omega
theorem Og.next {m : Nat} {b : PB} {s : St} {l : List (Int × Int)} (m14 : 1 ≤ m ∧ m ≤ 4) (ok : BookOK b.last m b.stays b.jobs) (iv : Inv s) (hlv : s.lv = m) (h : nextL b s m l) : Og m l := by
 have sf : SF m b.stays := stays_sf ok.s m14.1 m14.2; have hms := sf.m14; have h1 := hms.1; unfold nextL NextL at h
 rcases h with ⟨hl, rfl⟩ | ⟨hl, hs, rfl⟩ | ⟨_, _, _, rfl⟩ | ⟨hl, hs, hz, ho, ⟨hf, h⟩ | ⟨hf, rfl⟩⟩
 ·unfold unloadG
  cases hc : carO b.book s.li with
  | none => exact og_list h1 (Or.inl rfl)
  | some x =>
    obtain ⟨hx, hid⟩ := carO_some sf rfl hc; obtain ⟨hr, hm⟩ := sf.r x hx; simp only [unloadO]
    split
    ·exact og_list h1 (Or.inl rfl)
    ·split
     ·exact og_there h1 (Or.inr rfl) (by omega) (by omega) (by omega)
     ·exact og_there h1 (Or.inr rfl) ⟨by have := hr.1; omega, hm⟩ hr.2.1 hr.2.2
 ·exact og_there h1 (Or.inl rfl) (by omega) (by omega) (by omega)
 ·unfold welG; split
  ·exact og_list h1 (by simp)
  ·exact og_list h1 (by simp)
 ·unfold FetchP at h
  split at h
  ·rw [h]; unfold welG; split
   ·exact og_list h1 (by simp)
   ·exact og_list h1 (by simp)
  ·split at h
   ·rw [h]; exact og_list h1 (by simp)
   ·obtain ⟨x, y, z, ok', hw, ⟨_, rfl⟩ | ⟨rfl, hlx⟩⟩ := h
    ·exact og_list h1 (by simp)
    ·obtain ⟨v, hv, e1, e2, e3, e4⟩ := first_job sf ok s (vj_f hf)
     rw [e1] at hw; have hi := sf.i1 v hv; obtain ⟨hr, hxm, hc⟩ := where_at iv hlv (by omega) hw; rw [hlx]
     split
     ·exact og_there h1 (Or.inl rfl) ⟨by have := hr.1; omega, hxm⟩ hr.2.1 (by omega)
     ·exact og_there h1 (Or.inl rfl) ⟨by have := hr.1; omega, hxm⟩ hr.2.1 hr.2.2
 ·unfold putG; split
  ·exact og_list h1 (by simp)
  ·exact og_list h1 (by simp)
theorem Og.tick {m : Nat} {σ σ' : Sg} (w : Wf m σ) (o : Og m σ.gs) (h : TickR m σ σ') : Og m σ'.gs := by
 rcases h with ⟨_, rfl⟩ | ⟨hg, l, hl, rfl⟩ | ⟨hg, hc, rfl⟩
 ·exact o.follow σ.gs σ.s
 ·exact Og.follow l σ.s (Og.next w.m14 w.ok w.wg.iv w.wg.lv hl)
 ·exact Og.nil m
theorem Og.ticks {m : Nat} : ∀ (j : Nat) {σ σ' : Sg}, Wf m σ → Og m σ.gs → Ticks m j σ σ' → Og m σ'.gs
 | 0, σ, σ', _, o, ht => by rw [show σ' = σ from ht]; exact o
 | j + 1, σ, σ', h, o, ⟨τ, h1, h2⟩ => Og.tick (Wf.ticks j h h1) (Og.ticks j h o h1) h2
theorem Og.play {lv : List (Int × Int × Int)} {x : ActC} {σ σ' : Sg} (h : Wf lv.length σ) (o : Og lv.length σ.gs) (hp : PlayR lv x σ σ') : Og lv.length σ'.gs := by
 rcases hp with ⟨_, t, k, ⟨_, _, rfl, _⟩ | ⟨_, _, _, _, _, po, _, rfl⟩⟩ | ⟨k, ⟨_, rfl⟩⟩ | rfl | ⟨hk, rfl⟩ | ⟨j, _, hp⟩
 ·exact o
 ·exact o
 ·split
  ·exact o
  ·exact o
 ·exact Og.nil _
 ·exact o
 ·exact Og.ticks j h o hp
def mxg (g : Int × Int) : Nat := if g.1 = 1 then 12 else if g.1 = 2 then 4 else 1
def cost (g : Int × Int) (s : St) : Nat := if nextS g s = 45 then 0 else if g.1 = 1 then (s.h - g.2).natAbs else if g.1 = 2 then (s.ex - g.2).natAbs else 1
def Mg : List (Int × Int) → St → Nat
 | [], _ => 0
 | g :: l, s => cost g s + (l.map mxg).sum + 1
theorem cost_le {m : Nat} {g : Int × Int} {s : St} (h4 : m ≤ 4) (hg : Okg m g) (iv : Inv s) (hlv : s.lv = m) : cost g s ≤ mxg g := by
 have h0 := iv.ok.h0; have h12 := iv.ok.h12; have e0 := iv.ok.e0; have e2 := iv.ok.e2; unfold cost mxg
 split
 ·omega
 ·split
  ·rename_i k; have := hg.1 k; omega
  ·split
   ·rename_i k; have := hg.2 k; omega
   ·omega
theorem cost_step {m : Nat} {g : Int × Int} {s : St} (hg : Okg m g) (iv : Inv s) (hlv : s.lv = m) (hd : nextS g s ≠ 45) (hm : mayS (nextS g s) s = true) : cost g (doS (nextS g s) s) < cost g s := by
 have h0 := iv.ok.h0; have h12 := iv.ok.h12; have e0 := iv.ok.e0; have e2 := iv.ok.e2; obtain ⟨k, n⟩ := g; have hc : cost (k, n) s = if k = 1 then (s.h - n).natAbs else if k = 2 then (s.ex - n).natAbs else 1 := if_neg hd
 have hle : ∀ t, cost (k, n) t ≤ if k = 1 then (t.h - n).natAbs else if k = 2 then (t.ex - n).natAbs else 1 := fun t => by
  unfold cost
  split
  ·omega
  ·exact Nat.le_refl _
 have hx : nextS (k, n) s = Go.Proofs.YtopgllmjeliklaaGreatDoor.nextC k n s.h s.ex s.op s.li := rfl; unfold Go.Proofs.YtopgllmjeliklaaGreatDoor.nextC at hx
 by_cases k1 : k = 1
 ·subst k1
  have hN := hg.1 rfl; simp only [if_true] at hx hc; have hl := hle (doS (nextS (1, n) s) s); simp only [if_true] at hl; rw [hc]; refine Nat.lt_of_le_of_lt hl ?_
  split at hx
  ·rw [hx]
   show ((min (max (s.h + 1) 0) (s.lv * 3)) - n).natAbs < (s.h - n).natAbs
   simp only at hN
   omega
  ·split at hx
   ·rw [hx]
    show ((min (max (s.h + -1) 0) (s.lv * 3)) - n).natAbs < (s.h - n).natAbs
    simp only at hN
    omega
   ·exact absurd hx hd
 rw [if_neg k1] at hx hc
 by_cases k2 : k = 2
 ·subst k2
  simp only [if_true] at hx hc; have hl := hle (doS (nextS (2, n) s) s); rw [if_neg (by decide), if_pos rfl] at hl; rw [hc]; refine Nat.lt_of_le_of_lt hl ?_
  split at hx
  ·rw [hx] at hm ⊢
   have := (may_right hm).1
   have e : (doS 114 s).ex = s.ex + 1 := by
    show (slideS 1 s).ex = _
    unfold slideS; rw [if_pos (by omega)]
   rw [e]; omega
  ·split at hx
   ·rw [hx] at hm ⊢
    have := (may_left hm).1
    have e : (doS 108 s).ex = s.ex + -1 := by
     show (slideS (-1) s).ex = _
     unfold slideS; rw [if_pos (by omega)]
    rw [e]; omega
   ·exact absurd hx hd
 rw [if_neg k2] at hx hc
 have fin : nextS (k, n) (doS (nextS (k, n) s) s) = 45 → cost (k, n) (doS (nextS (k, n) s) s) < cost (k, n) s := fun h => by
  rw [hc]; unfold cost; rw [if_pos h]
  omega
 apply fin
 by_cases k3 : k = 3
 ·subst k3
  simp only [if_true] at hx
  split at hx
  ·rw [hx] at hm ⊢
   obtain ⟨q1, q2, q3, q4⟩ := may_grab hm
   have he : endB s.lv s.h s.ex = true := by
    cases hq : endB s.lv s.h s.ex with
    | true => rfl
    | false => unfold carAtI at q4; rw [hq] at q4; exact absurd rfl q4
   have : (doS 103 s).li ≠ 0 := by
    show (grabS s).li ≠ 0
    unfold grabS; rw [if_pos (by simp [grabB, he, q3])]; unfold carAtI at q4; rw [if_pos he] at q4; exact q4
   simp [nextS, Go.Proofs.YtopgllmjeliklaaGreatDoor.nextC, this]
  ·exact absurd hx hd
 rw [if_neg k3] at hx
 by_cases k4 : k = 4
 ·subst k4
  simp only [if_true] at hx
  split at hx
  ·exact absurd hx hd
  ·rw [hx] at hm ⊢
   obtain ⟨q1, q2, q3, q4⟩ := may_put hm; have he : endB s.lv s.h s.ex = true := endB_level h0 h12 q1 e0 e2 q2
   have : (doS 112 s).li = 0 := by
    show (putS s).li = 0
    unfold putS; rw [if_pos (by simp [putB, he, q3, q4])]
   simp [nextS, Go.Proofs.YtopgllmjeliklaaGreatDoor.nextC, this]
 rw [if_neg k4] at hx
 by_cases k5 : k = 5
 ·subst k5
  simp only [if_true] at hx
  split at hx
  ·rw [hx]
   have : (doS 99 s).op = false := rfl
   simp [nextS, Go.Proofs.YtopgllmjeliklaaGreatDoor.nextC, this]
  ·exact absurd hx hd
 rw [if_neg k5] at hx
 by_cases k6 : k = 6
 ·subst k6
  simp only [if_true] at hx
  split at hx
  ·exact absurd hx hd
  ·rw [hx]
   have : (doS 111 s).op = true := rfl
   simp [nextS, Go.Proofs.YtopgllmjeliklaaGreatDoor.nextC, this]
 rw [if_neg k6] at hx
 by_cases k7 : k = 7
 ·subst k7
  simp only [if_true] at hx
  split at hx
  ·rw [hx] at hm ⊢
   obtain ⟨q1, q2, q3, q4⟩ := may_in hm
   have : (doS 110 s).li ≠ 0 := by
    show (takeInS s).li ≠ 0
    unfold takeInS; rw [if_pos ⟨q1.1, q1.2, q3⟩]; exact q4
   simp [nextS, Go.Proofs.YtopgllmjeliklaaGreatDoor.nextC, this]
  ·exact absurd hx hd
 rw [if_neg k7] at hx
 by_cases k8 : k = 8
 ·subst k8
  simp only [if_true] at hx
  split at hx
  ·exact absurd hx hd
  ·rw [hx] at hm ⊢
   obtain ⟨q1, q2, q3, q4⟩ := may_out hm
   have : (doS 120 s).li = 0 := by
    show (giveOutS s).li = 0
    unfold giveOutS; rw [if_pos ⟨q1.1, q1.2, q4⟩]
   simp [nextS, Go.Proofs.YtopgllmjeliklaaGreatDoor.nextC, this]
 ·rw [if_neg k8] at hx
  exact absurd hx hd
theorem follow_less {m : Nat} (h4 : m ≤ 4) : ∀ (gs : List (Int × Int)) (s : St), Og m gs → Inv s → s.lv = m → (followS gs s).1 = [] ∨ Mg (followS gs s).1 (followS gs s).2 + (followS gs s).2.st.toNat < Mg gs s + s.st.toNat
 | [], s, _, _, _ => Or.inl rfl
 | g :: l, s, o, iv, hlv => by
   have hst := iv.st
   by_cases hd : nextS g s = 45
   ·have e : followS (g :: l) s = followS l s := by
     show (if nextS g s = 45 then _ else _) = _
     rw [if_pos hd]
    rw [e]
    rcases follow_less h4 l s o.tail iv hlv with h | h
    ·exact Or.inl h
    ·right
     refine Nat.lt_of_lt_of_le h ?_
     cases l with
     | nil => show 0 + _ ≤ _; omega
     | cons a r =>
       have hca := cost_le h4 (o.2 a (by simp)) iv hlv
       show cost a s + (r.map mxg).sum + 1 + _ ≤ cost g s + ((a :: r).map mxg).sum + 1 + _
       rw [List.map_cons, List.sum_cons]
       omega
   ·by_cases hm : mayS (nextS g s) s = true
    ·right
     have e : followS (g :: l) s = (g :: l, stepS (nextS g s) s) := by
      show (if nextS g s = 45 then _ else if mayS (nextS g s) s = true then _ else _) = _
      rw [if_neg hd, if_pos hm]
     rw [e]
     show cost g (stepS (nextS g s) s) + (l.map mxg).sum + 1 + (stepS (nextS g s) s).st.toNat < cost g s + (l.map mxg).sum + 1 + s.st.toNat
     unfold stepS
     split
     ·have : cost g { s with st := s.st - 1 } = cost g s := rfl
      rw [this]; simp only
      omega
     ·rw [do_st0]
      have := cost_step (o.2 g (by simp)) iv hlv hd hm
      omega
    ·left
     show (if nextS g s = 45 then _ else if mayS (nextS g s) s = true then _ else _ : List (Int × Int) × St).1 = []
     rw [if_neg hd, if_neg hm]
theorem Mg_pre {b : PB} (gs : List (Int × Int)) (s : St) : Mg gs (preS b s) = Mg gs s := by
 obtain ⟨_, a1, a2, a3, a4, _, _⟩ := pre_fields (b := b) (s := s)
 cases gs with
 | nil => rfl
 | cons g l =>
   show cost g (preS b s) + (l.map mxg).sum + 1 = cost g s + (l.map mxg).sum + 1
   unfold cost nextS; rw [a1, a2, a3, a4]
theorem wi_goals {m : Nat} : ∀ (n : Nat) (σ : Sg), Wf m σ → Og m σ.gs → Mg σ.gs σ.s + σ.s.st.toNat ≤ n → Wi m (fun τ => τ.gs = []) n σ
 | n, σ, w, o, hn => by
   by_cases hg : σ.gs = []
   ·exact .here n σ hg
   ·obtain ⟨s, b, gs⟩ := σ
    simp only at hg o hn
    have hpos : 0 < Mg gs s := by
     cases gs with
     | nil => exact absurd rfl hg
     | cons a l => show 0 < cost a s + (l.map mxg).sum + 1; omega
    obtain ⟨n', rfl⟩ : ∃ n', n = n' + 1 := ⟨n - 1, by omega⟩
    refine .step n' _ fun σ' hi => ?_
    have wi := (w.it hi).1; have e := hi.goals hg; subst e
    rcases follow_less w.m14.2 gs s o w.wg.iv w.wg.lv with h | h
    ·exact .here n' _ h
    ·refine wi_goals n' _ wi (Og.follow gs s o) ?_
     show Mg (followS gs s).1 (preS b (followS gs s).2) + (preS b (followS gs s).2).st.toNat ≤ n'
     rw [Mg_pre, pre_fields.2.2.2.2.2.2]
     omega
theorem mg_le {m : Nat} (h4 : m ≤ 4) {gs : List (Int × Int)} {s : St} (o : Og m gs) (iv : Inv s) (hlv : s.lv = m) : Mg gs s + s.st.toNat ≤ 80 := by
 have hst := iv.st; have hmx : ∀ g : Int × Int, mxg g ≤ 12 := fun g => by unfold mxg; split <;> (try split) <;> omega
 have hsum : ∀ l : List (Int × Int), (l.map mxg).sum ≤ 12 * l.length := fun l => by
  induction l with
  | nil => simp
  | cons a r ih => rw [List.map_cons, List.sum_cons, List.length_cons]; have := hmx a; omega
 cases gs with
 | nil => show 0 + _ ≤ _; omega
 | cons g l =>
   have h1 := cost_le h4 (o.2 g (by simp)) iv hlv; have h2 := hmx g; have h3 := hsum l; have h5 := o.1; rw [List.length_cons] at h5
   show cost g s + (l.map mxg).sum + 1 + _ ≤ _
   omega
theorem wi_fin {m : Nat} : ∀ (r : Nat) (σ : Sg), Wf m σ → Settled σ.b σ.s → σ.gs = [] → rank m σ ≤ r → Wi m (fun τ => Fin τ ∧ Wf m τ ∧ Settled τ.b τ.s) (20 * (r + 1)) σ
 | r, ⟨s, b, gs⟩, w, hs, hg, hr => by
   simp only at hg hs; subst hg
   rcases near w hs with h | h
   ·exact .here _ _ ⟨h, w, hs⟩
   ·have h2 := h.and (Q := fun τ => Wf m τ ∧ Settled τ.b τ.s) ⟨w, hs⟩ fun τ τ' q hi => q.1.it hi
    cases r with
    | zero =>
      exact h2.trans (e := 0) fun τ q => by
       have := q.1.2
       omega
    | succ r =>
      have h3 := h2.trans (e := 20 * (r + 1)) fun τ q => wi_fin r τ q.2.1 q.2.2 q.1.1 (by have := q.1.2; omega)
      exact h3.le (by omega)
theorem wi_all {m : Nat} {σ : Sg} (w : Wf m σ) (hs : Settled σ.b σ.s) (o : Og m σ.gs) : Wi m (fun τ => Fin τ ∧ Wf m τ ∧ Settled τ.b τ.s) 1820 σ := by
 have h1 := wi_goals 80 σ w o (mg_le w.m14.2 o w.wg.iv w.wg.lv); have h2 := h1.and (Q := fun τ => Wf m τ ∧ Settled τ.b τ.s) ⟨w, hs⟩ fun τ τ' q hi => q.1.it hi
 have h3 := h2.trans (e := 20 * (86 + 1)) fun τ q => wi_fin 86 τ q.2.1 q.2.2 q.1 (by
  have := ph_le14 (m := m) (b := τ.b) (li := τ.s.li) (ba := τ.s.ba) (op := τ.s.op) (C := C τ.s); have := q.2.1.ok.fewJ; unfold rank
  omega)
 exact h3.le (by omega)
theorem Fin.tick {m : Nat} {σ σ' : Sg} (w : Wf m σ) (f : Fin σ) (h : TickR m σ σ') : σ' = σ := by
 obtain ⟨s, b, gs⟩ := σ; have hg : gs = [] := f.gs; subst hg; have hj : b.jobs = [] := f.js; have hl : s.li = 0 := f.li; have hop : s.op = true := f.op
 have hvb : vB b.book = false := by
  cases h : vB b.book with
  | false => rfl
  | true => exact absurd hj (vb_jobs.1 h)
 have hsp : C s m 1 0 = 0 := Classical.byContradiction fun h => by
  obtain ⟨p, _, _, _, q1, _⟩ := w.wg.co.sp h; simp only at q1; rw [hj] at q1; cases q1
 have hsb : spareB b.book s m (vB b.book) (vJ b.book s).f (vS b.book s) = false := by
  unfold spareB; rw [show carOf s.D m 1 0 = 0 from hsp]
  rfl
 rcases h with ⟨k, _⟩ | ⟨_, l, k, rfl⟩ | ⟨_, k, _⟩
 ·exact absurd rfl k
 ·have : l = [] := by
   rcases k with ⟨h, _⟩ | ⟨_, h, _⟩ | ⟨_, _, _, h⟩ | ⟨_, _, h, _⟩
   ·exact absurd hl h
   ·simp only at h; rw [hsb] at h; cases h
   ·rw [h]; unfold welG; rw [if_pos hop]
   ·simp only at h; rw [hvb] at h; cases h
  rw [this]
  rfl
 ·have := k.2.2.1
  simp only at this; rw [hvb] at this; cases this
def pre (σ : Sg) : Sg := ⟨preS σ.b σ.s, σ.b, σ.gs⟩
theorem Fin.it {m : Nat} {σ σ' : Sg} (w : Wf m σ) (hs : Settled σ.b σ.s) (f : Fin σ) (h : It m σ σ') : σ' = σ := by
 obtain ⟨ρ, h1, rfl⟩ := h; have := f.tick w h1; subst this; rw [pre_same hs]
theorem Fin.itN {m : Nat} : ∀ (n : Nat) {σ σ' : Sg}, Wf m σ → Settled σ.b σ.s → Fin σ → ItN m n σ σ' → σ' = σ
 | 0, σ, σ', _, _, _, h => h
 | n + 1, σ, σ', w, hs, f, ⟨τ, h1, h2⟩ => by
   have := f.it w hs h1; subst this; exact Fin.itN n w hs f h2
def SetN (m : Nat) : Nat → Sg → Sg → Prop
 | 0, σ, σ' => σ' = σ
 | n + 1, σ, σ' => ∃ τ, SetN m n σ τ ∧ TickR m (pre τ) σ'
theorem ItN.snoc {m : Nat} : ∀ (n : Nat) {σ τ σ' : Sg}, ItN m n σ τ → It m τ σ' → ItN m (n + 1) σ σ'
 | 0, σ, τ, σ', h, k => by rw [show τ = σ from h] at k; exact ⟨σ', k, rfl⟩
 | n + 1, σ, τ, σ', ⟨ρ, h1, h2⟩, k => ⟨ρ, h1, ItN.snoc n h2 k⟩
theorem SetN.it {m : Nat} : ∀ (n : Nat) {σ σ' : Sg}, SetN m n σ σ' → ItN m n (pre σ) (pre σ')
 | 0, σ, σ', h => by rw [show σ' = σ from h]; rfl
 | n + 1, σ, σ', ⟨τ, h1, h2⟩ => ItN.snoc n (SetN.it n h1) ⟨σ', h2, rfl⟩
theorem SetN.wf {m : Nat} : ∀ (n : Nat) {σ σ' : Sg}, Wf m σ → SetN m n σ σ' → Wf m σ'
 | 0, σ, σ', w, h => by rw [show σ' = σ from h]; exact w
 | n + 1, σ, σ', w, ⟨τ, h1, h2⟩ => ((SetN.wf n w h1).pre.1).tick h2
def EndR (m : Nat) (σ σ' : Sg) : Prop := SetN m 2500 σ σ' ∨ ∃ n τ, SetN m n σ τ ∧ σ' = pre τ ∧ Fin τ
theorem EndR.fin {m : Nat} {σ σ' : Sg} (w : Wf m σ) (o : Og m σ.gs) (h : EndR m σ σ') : Fin σ' ∧ Wf m σ' ∧ Settled σ'.b σ'.s := by
 rcases h with ⟨τ, h1, h2⟩ | ⟨n, τ, h1, rfl, f⟩
 ·obtain ⟨w1, s1⟩ := w.pre
  have hi := SetN.it 2499 h1; have hst := w1.wg.iv.st
  obtain ⟨k, ρ, hk, ⟨f, w2, s2⟩, hr⟩ := (wi_all (σ := pre σ) w1 s1 o).reach 2499 (pre τ) hst.1 hi (by
   have e : (pre σ).s.st ≤ 5 := hst.2; have e0 : 0 ≤ (pre σ).s.st := hst.1
   omega)
  have e := f.itN _ w2 s2 hr; rw [e] at h2; have e2 := f.tick w2 h2; rw [e2]; exact ⟨f, w2, s2⟩
 ·have w1 := SetN.wf n w h1
  obtain ⟨w2, s2⟩ := w1.pre; refine ⟨?_, w2, s2⟩; obtain ⟨a0, a1, a2, a3, a4, a5, a6⟩ := pre_fields (b := τ.b) (s := τ.s); refine ⟨a3.trans f.op, ?_, a4.trans f.li, f.js, f.gs⟩
  show (preS τ.b τ.s).ba = 0
  unfold preS; rw [if_pos f.op, if_neg (fun h => h.1 f.ba)]
  unfold walkS
  split
  ·exact f.ba
  ·exact f.ba
end Hs
end Go.Proofs.YtopgllmjeliklaaGreatDoor
