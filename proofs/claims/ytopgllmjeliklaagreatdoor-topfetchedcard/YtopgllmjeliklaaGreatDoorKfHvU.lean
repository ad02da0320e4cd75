/- HvU. -/
import Derived.Test.YtopgllmjeliklaaGreatDoorKfHvT
import Derived.Test.YtopgllmjeliklaaGreatDoorKfCars
set_option maxRecDepth 100000
set_option linter.unusedSimpArgs false
set_option linter.unusedVariables false
namespace Go.Proofs.YtopgllmjeliklaaGreatDoor
open Go.Shelf Go.Lib Go.ChangeShapes Go.WideShapes Go.ChangeAt Go.RowKit Go.Maps
namespace Hs
open Bk Lg Pl Dk Tx Tn Ac
structure Ft (m : Nat) (b : PB) (v : Stay) (s : St) : Prop where
 w : Wf m ⟨s, b, []⟩
 hv : v ∈ b.stays
 hj : b.jobs = [⟨v.t, true⟩]
 pe : s.pe = 0
def Home (v : Stay) (s : St) : Prop := C s v.x v.y v.z = v.id
def Front (v : Stay) (s : St) : Prop := v.z = 1 /\ C s v.x v.y 0 ≠ 0
section
variable {m : Nat} {b : PB} {v : Stay} {s : St}
theorem Ft.hh (h : Ft m b v s) : b.jobs.head? = some ⟨v.t, true⟩ := by rw [h.hj]; rfl
theorem Ft.ne (h : Ft m b v s) : b.jobs ≠ [] := by rw [h.hj]; simp
theorem Ft.nw (h : Ft m b v s) (c : Int) : waitsB b c = false := by
 cases hw : waitsB b c with
 | false => rfl
 | true =>
   obtain ⟨y, _, _, hj⟩ := (waits_iff h.w.sf).1 hw; rw [h.hj] at hj
   simp at hj
theorem Ft.nw2 (h : Ft m b v s) : ¬ (s.ba ≠ 0 /\ waitsB b s.ba = true) := fun k => by
 rw [h.nw] at k; cases k.2
theorem Ft.first (h : Ft m b v s) : vJ b.book s = ⟨v.t, true⟩ /\ vS b.book s = v /\ vB b.book = true := by
 have sf := h.w.sf; have ok := h.w.ok; have e0 := first_nowait (s := s) sf ok h.ne h.nw2
 rw [h.hh] at e0; injection e0 with e0; obtain ⟨y, hy, e1, e2, _⟩ := first_job sf ok s h.ne
 refine ⟨e0.symm, ?_, vb_jobs.2 h.ne⟩; rw [e1]; exact sf.st y hy v h.hv (by rw [e2, <- e0])
theorem Ft.next {P : St -> Prop} {d : Nat} (h : Ft m b v s) (k : Wt m (fun τ => τ.gs = [] /\ τ.b = b /\ τ.s.pe = 0 /\ P τ.s) d ⟨s, b, []⟩) : Wt m (fun τ => τ.gs = [] /\ τ.b = b /\ Ft m b v τ.s /\ P τ.s) d ⟨s, b, []⟩ := by
 refine (k.and (Q := fun τ => Wf m τ) h.w fun τ τ' q t => q.tick t).imp ?_
 rintro ⟨s', b', gs'⟩ ⟨⟨rfl, rfl, k3, k4⟩, k5⟩; exact ⟨rfl, rfl, ⟨k5, h.hv, h.hj, k3⟩, k4⟩
theorem Ft.nospare (h : Ft m b v s) (hc : C s m 1 0 = 0 \/ Home v s) : spareB b.book s m (vB b.book) (vJ b.book s).f (vS b.book s) = false := by
 have sf := h.w.sf; have co := h.w.wg.co
 by_cases hsp : C s m 1 0 = 0
 ·unfold spareB
  rw [show carOf s.D m 1 0 = 0 from hsp]
  rfl
 ·have hcv : C s v.x v.y v.z = v.id := hc.resolve_left hsp
  obtain ⟨p, hp', u, hu, q1, q2, q3, q4, q5, q6⟩ := co.sp hsp; have hpv : p = v := sf.st p hp' v h.hv (head_eq q1 h.hh).1; subst hpv; obtain ⟨a1, a2, a3⟩ := h.first
  unfold spareB blocksB; have q3' : u.id = carOf s.D m 1 0 := q3; rw [<- q3', carO_of sf rfl hu]; unfold blocksO; rw [a1, a2, a3]; have : (carOf s.D p.x p.y p.z == p.id) = true := by simpa using hcv
  simp [this, q2, eqP, q4, q5, q6]
  exact fun _ => by rw [<- q2]; exact hcv
theorem Ft.notover (h : Ft m b v s) (hc : Home v s) : overB s (vJ b.book s).f (vS b.book s) = false := by
 have sf := h.w.sf; have co := h.w.wg.co; have hi := sf.i1 v h.hv; have hvr := (sf.r v h.hv).1; have hcv : C s v.x v.y v.z = v.id := hc; have hbv : s.ba ≠ v.id := fun e => (co.u2 _ _ _ hvr (by rw [hcv]; omega)).2 (by rw [hcv, e])
 obtain ⟨a1, a2, a3⟩ := h.first
 unfold overB; rw [a1, a2]
 have : hasB s v.id = true := by
  unfold hasB; rw [show atB s.D v.id = placedB (C s) v.id from rfl, placed_iff.2 ⟨v.x, v.y, v.z, hvr, hcv⟩]
  simp
  omega
 rw [this]
 simpa using hbv
theorem Ft.fetchP (h : Ft m b v s) (hl : s.li = 0) (hc : Home v s) {l : List (Int × Int)} (hn : nextL b s m l) : FetchP s v l := by
 obtain ⟨a1, a2, a3⟩ := h.first
 have hs := h.nospare (Or.inr hc)
 rcases hn with ⟨k, _⟩ | ⟨_, k, _⟩ | ⟨_, _, k, _⟩ | ⟨_, _, _, _, ⟨_, k⟩ | ⟨k, _⟩⟩
 ·exact absurd hl k
 ·rw [hs] at k; cases k
 ·rw [a3] at k; cases k
 ·rw [a2] at k; exact k
 ·rw [a1] at k; cases k
theorem Ft.notchange (h : Ft m b v s) (hc : Home v s) : ¬ nextC b s m := fun k => by
 have := k.2.2.2; rw [h.notover hc] at this; cases this
theorem Ft.a (h : Ft m b v s) (hl : s.li = 0) (hb : s.ba = 0) (ho : s.op = true) (hc : Home v s) : Wt m (fun τ => τ.gs = [] /\ τ.b = b /\ Ft m b v τ.s /\ τ.s.li = 0 /\ τ.s.ba = 0 /\ τ.s.op = false /\ Home v τ.s) 20 ⟨s, b, []⟩ := by
 refine h.next (P := fun t => t.li = 0 /\ t.ba = 0 /\ t.op = false /\ Home v t) (Wt.choose (L := [(5, 0)]) (fun _ k => k.1) (by simp) (h.notchange hc) (fun l k => ?_) (Wt.shut (fun _ k => k.1) h.w.wg.iv h.pe ho fun st hu h0 => ⟨rfl, rfl, rfl, hl, hb, rfl, hc⟩))
 have := h.fetchP hl hc k; unfold FetchP at this
 rwa [if_neg (by simp [hb]), if_pos ho] at this
theorem Ft.uniq (h : Ft m b v s) (hl : s.li = 0) (hb : s.ba = 0) (ho : s.op = false) (hc : Home v s) {l : List (Int × Int)} (k : nextL b s m l) : l = if (v.z == 1 && carOf s.D v.x v.y 0 != 0) = true then gThere 3 v.x v.y 0 else gThere 3 v.x v.y v.z := by
 have sf := h.w.sf; have co := h.w.wg.co; have iv := h.w.wg.iv; have hlv := h.w.wg.lv; have hi := sf.i1 v h.hv; have hvr := (sf.r v h.hv).1; have hcv : C s v.x v.y v.z = v.id := hc; simp only at iv hlv; have := h.fetchP hl hc k; unfold FetchP at this; rw [if_neg (by simp [hb]), if_neg (by simp [ho])] at this; obtain ⟨x, y, z, ok', hw', ⟨rfl, _⟩ | ⟨rfl, hlx⟩⟩ := this
 ·exfalso
  have := (WhereP.iff hw').2 ((whereB_iff iv.D iv.ok.lv4 (by omega)).2 (show atB s.D v.id = true from placed_iff.2 ⟨v.x, v.y, v.z, hvr, hcv⟩))
  cases this
 ·obtain ⟨hr, _, hc'⟩ := where_at iv hlv (by omega) hw'
  obtain ⟨a1, a2, a3⟩ := co.u1 x y z v.x v.y v.z hr hvr (by rw [hc']; omega) (by rw [hc', hcv]); rw [hlx, a1, a2, a3]
theorem Ft.b1 (h : Ft m b v s) (hl : s.li = 0) (hb : s.ba = 0) (ho : s.op = false) (hc : Home v s) (hf : Front v s) : Wt m (fun τ => τ.gs = [] /\ τ.b = b /\ Ft m b v τ.s /\ (∃ u ∈ b.stays, u.id = τ.s.li /\ u.x = v.x /\ u.y = v.y /\ u.z = 0) /\ τ.s.li ≠ 0 /\ τ.s.ba = 0 /\ Home v τ.s /\ ¬ Front v τ.s /\ v.z = 1) 20 ⟨s, b, []⟩ := by
 have sf := h.w.sf; have co := h.w.wg.co; have hlv := h.w.wg.lv; obtain ⟨hvr, hvm⟩ := sf.r v h.hv; have hvn := sf.ns v h.hv; have hcv : C s v.x v.y v.z = v.id := hc; simp only at hlv hvr hvm hvn; have hfin : InR v.x v.y 0 := ⟨hvr.1, hvr.2.1, by omega⟩
 have hcond : (v.z == 1 && carOf s.D v.x v.y 0 != 0) = true := by
  have := hf.2; simp only [hf.1, Bool.and_eq_true, beq_iff_eq, bne_iff_ne, ne_eq, true_and]; exact this
 obtain ⟨u, hu', k1, k2⟩ := co.pl _ _ _ hfin hf.2
 have hk : u.x = v.x /\ u.y = v.y /\ u.z = 0 := by
  rcases k2 with k2 | k2
  ·exact k2
  ·exact absurd ⟨k2.1, k2.2.1⟩ hvn
 refine h.next (P := fun t => (∃ u ∈ b.stays, u.id = t.li /\ u.x = v.x /\ u.y = v.y /\ u.z = 0) /\ t.li ≠ 0 /\ t.ba = 0 /\ Home v t /\ ¬ Front v t /\ v.z = 1) (Wt.choose (L := gThere 3 v.x v.y 0) (fun _ k => k.1) (by simp [gThere]) (h.notchange hc) (fun l k => by rw [h.uniq hl hb ho hc k, if_pos hcond]) (Wt.fetch (fun _ k => k.1) h.w.wg.iv h.w.wg.ge h.pe ⟨hvr.1.1, by rw [hlv]; exact hvm⟩ hvr.2.1 (by omega) hl hf.2 (fun h => by omega) fun st hu h0 => ⟨rfl, rfl, rfl, ⟨u, hu', k1, hk⟩, hf.2, hb, ?_, ?_, hf.1⟩))
 ·show carOf (s.D.del (pk v.x v.y 0)) v.x v.y v.z = v.id
  rw [C_del' hfin hvr (fun e => by have := hf.1; omega)]
  exact hcv
 ·rintro ⟨_, k⟩
  apply k
  show carOf (s.D.del (pk v.x v.y 0)) v.x v.y 0 = 0
  rw [C_del hfin v.x v.y 0 hfin, if_pos ⟨rfl, rfl, rfl⟩]
theorem Ft.c2 (h : Ft m b v s) {u : Stay} (hu : u ∈ b.stays) (hid : u.id = s.li) (hux : u.x = v.x /\ u.y = v.y /\ u.z = 0) (hl : s.li ≠ 0) (hb : s.ba = 0) (hc : Home v s) (hf : ¬ Front v s) (hz : v.z = 1) : Wt m (fun τ => τ.gs = [] /\ τ.b = b /\ Ft m b v τ.s /\ τ.s.li = 0 /\ τ.s.ba = 0 /\ τ.s.op = false /\ Home v τ.s /\ ¬ Front v τ.s) 20 ⟨s, b, []⟩ := by
 have sf := h.w.sf; have hlv := h.w.wg.lv; have iv := h.w.wg.iv; have hms := sf.m14; have hspin := sf.spareIn; obtain ⟨hvr, hvm⟩ := sf.r v h.hv; have hvn := sf.ns v h.hv; have hcv : C s v.x v.y v.z = v.id := hc; simp only at hlv hvr hvm hvn iv hms hspin; have hfin : InR v.x v.y 0 := ⟨hvr.1, hvr.2.1, by omega⟩
 have hut : ∀ y : Stay, y ∈ b.stays -> y.id = s.li -> y = u := fun y hy e => sf.si y hy u hu (by rw [e, hid])
 have huv : u ≠ v := fun e => by rw [e] at hux; omega
 obtain ⟨hnc, L, hL, hcase⟩ := unload_cases h.w.ok h.w hl
 rcases hcase with ⟨rfl, _, _, hx⟩ | ⟨x, hx, hid', rfl, _, _, _, hnb⟩ | ⟨x, hx, hid', rfl, hcs, _⟩
 ·exfalso
  rcases hx with hx | ⟨x, hx, e, hh⟩
  ·exact hx u hu hid
  ·have e1 := hut x hx e
   have e2 := sf.st x hx v h.hv (head_eq hh h.hh).1; exact huv (e1 ▸ e2)
 ·exfalso
  have e1 := hut x hx hid'; subst e1; exact hnb v h.hv h.nw2 h.hh hz hcv hux
 ·refine h.next (P := fun t => t.li = 0 /\ t.ba = 0 /\ t.op = false /\ Home v t /\ ¬ Front v t) (Wt.choose (L := gThere 4 m 1 0) (fun _ k => k.1) (by simp [gThere]) hnc hL (Wt.bring (fun _ k => k.1) iv h.w.wg.ge h.pe ⟨hms.1, by rw [hlv]; exact Int.le_refl _⟩ (by omega) (by omega) hl hcs (fun h => by omega) fun st hu h0 => ⟨rfl, rfl, rfl, rfl, hb, rfl, ?_, ?_⟩))
  ·show carOf (s.D.put (pk m 1 0) (.lit (.int .i64 s.li))) v.x v.y v.z = v.id
   rw [C_put' iv.D.isMap hspin hvr (fun e => hvn ⟨e.1, e.2.1⟩)]
   exact hcv
  ·rintro ⟨k1, k2⟩
   apply hf
   refine ⟨k1, ?_⟩; have k2' : carOf (s.D.put (pk m 1 0) (.lit (.int .i64 s.li))) v.x v.y 0 ≠ 0 := k2; rw [C_put' iv.D.isMap hspin hfin (fun e => hvn ⟨e.1, e.2.1⟩)] at k2'
   exact k2'
theorem Ft.b2 (h : Ft m b v s) (hl : s.li = 0) (hb : s.ba = 0) (ho : s.op = false) (hc : Home v s) (hf : ¬ Front v s) : Wt m (fun τ => τ.gs = [] /\ τ.b = b /\ Ft m b v τ.s /\ τ.s.li = v.id /\ τ.s.ba = 0) 20 ⟨s, b, []⟩ := by
 have sf := h.w.sf; have hlv := h.w.wg.lv; have hi := sf.i1 v h.hv; obtain ⟨hvr, hvm⟩ := sf.r v h.hv; have hcv : C s v.x v.y v.z = v.id := hc; simp only at hlv hvr hvm
 have hcond : ¬ (v.z == 1 && carOf s.D v.x v.y 0 != 0) = true := fun k => by
  simp only [Bool.and_eq_true, beq_iff_eq, bne_iff_ne, ne_eq] at k; exact hf ⟨k.1, k.2⟩
 refine h.next (P := fun t => t.li = v.id /\ t.ba = 0) (Wt.choose (L := gThere 3 v.x v.y v.z) (fun _ k => k.1) (by simp [gThere]) (h.notchange hc) (fun l k => by rw [h.uniq hl hb ho hc k, if_neg hcond]) (Wt.fetch (fun _ k => k.1) h.w.wg.iv h.w.wg.ge h.pe ⟨hvr.1.1, by rw [hlv]; exact hvm⟩ hvr.2.1 hvr.2.2 hl (by show C s v.x v.y v.z ≠ 0; rw [hcv]; omega) (fun h => Classical.byContradiction fun k => hf ⟨h, k⟩) fun st hu h0 => ⟨rfl, rfl, rfl, hcv, hb⟩))
theorem Ft.d (h : Ft m b v s) (hl : s.li = v.id) (hb : s.ba = 0) : Wt m (fun τ => τ.gs = [] /\ τ.b = b /\ Ft m b v τ.s /\ τ.s.li = 0 /\ τ.s.ba = v.id) 20 ⟨s, b, []⟩ := by
 have sf := h.w.sf; have co := h.w.wg.co; have hi := sf.i1 v h.hv; have hvr := (sf.r v h.hv).1; have hl0 : s.li ≠ 0 := by omega
 obtain ⟨hnc, L, hL, hcase⟩ := unload_cases h.w.ok h.w hl0
 rcases hcase with ⟨rfl, _, _, _⟩ | ⟨x, hx, hid', rfl, _, _, hnh, _⟩ | ⟨x, hx, hid', rfl, _, _, y, hy, hh, _, hcy, _⟩
 ·exact h.next (P := fun t => t.li = 0 /\ t.ba = v.id) (Wt.choose (fun _ k => k.1) (by decide) hnc hL (Wt.giveOut (fun _ k => k.1) h.w.wg.iv h.w.wg.ge h.pe hl0 hb fun st hu h0 => ⟨rfl, rfl, rfl, rfl, hl⟩))
 ·exfalso
  have e1 : x = v := sf.si x hx v h.hv (by rw [hid', hl]); subst e1; exact hnh h.hh
 ·exfalso
  have e1 : y = v := sf.st y hy v h.hv (head_eq hh h.hh).1; subst e1; exact (co.u2 _ _ _ hvr (by rw [hcy]; omega)).1 (by rw [hcy]; exact hl.symm)
theorem Ft.away (h : Ft m b v s) (hb : s.ba = v.id) : ¬ Home v s := fun k => by
 have sf := h.w.sf; have co := h.w.wg.co; have hi := sf.i1 v h.hv; have hvr := (sf.r v h.hv).1; have k' : C s v.x v.y v.z = v.id := k; exact (co.u2 _ _ _ hvr (by rw [k']; omega)).2 (by rw [k']; exact hb.symm)
theorem Ft.e1 (h : Ft m b v s) (hl : s.li = 0) (hb : s.ba = v.id) (hsp : C s m 1 0 ≠ 0) : Wt m (fun τ => τ.gs = [] /\ τ.b = b /\ Ft m b v τ.s /\ τ.s.li ≠ 0 /\ τ.s.ba = v.id /\ C τ.s m 1 0 = 0) 20 ⟨s, b, []⟩ := by
 have sf := h.w.sf; have co := h.w.wg.co; have hlv := h.w.wg.lv; have hms := sf.m14; have hspin := sf.spareIn; simp only at hlv hms hspin; have hcv : C s v.x v.y v.z ≠ v.id := h.away hb; obtain ⟨p, hp', u, hu, q1, q2, q3, q4, q5, q6⟩ := co.sp hsp; have hpv : p = v := sf.st p hp' v h.hv (head_eq q1 h.hh).1; subst hpv; obtain ⟨a1, a2, a3⟩ := h.first
 have hsb : spareB b.book s m (vB b.book) (vJ b.book s).f (vS b.book s) = true := by
  have q3' : u.id = carOf s.D m 1 0 := q3; unfold spareB blocksB; rw [<- q3', carO_of sf rfl hu]; unfold blocksO; rw [a1, a2, a3]; have : (carOf s.D p.x p.y p.z == p.id) = false := by simpa using hcv
  rw [this]; have := sf.i1 u hu
  simp
  omega
 refine h.next (P := fun t => t.li ≠ 0 /\ t.ba = p.id /\ C t m 1 0 = 0) (Wt.choose (L := gThere 3 m 1 0) (fun _ k => k.1) (by simp [gThere]) (fun k => ?_) (fun l k => ?_) (Wt.fetch (fun _ k => k.1) h.w.wg.iv h.w.wg.ge h.pe ⟨hms.1, by rw [hlv]; exact Int.le_refl _⟩ (by omega) (by omega) hl hsp (fun h => by omega) fun st hu h0 => ⟨rfl, rfl, rfl, hsp, hb, ?_⟩))
 ·have := k.2.1
  rw [hsb] at this; cases this
 ·rcases k with ⟨k, _⟩ | ⟨_, _, k⟩ | ⟨_, k, _⟩ | ⟨_, k, _⟩
  ·exact absurd hl k
  ·exact k
  ·rw [hsb] at k; cases k
  ·rw [hsb] at k; cases k
 ·show carOf (s.D.del (pk m 1 0)) m 1 0 = 0
  rw [C_del hspin m 1 0 hspin, if_pos ⟨rfl, rfl, rfl⟩]
theorem Ft.f1 (h : Ft m b v s) (hl : s.li ≠ 0) (hb : s.ba = v.id) (hsp : C s m 1 0 = 0) : Wt m (fun τ => τ.gs = [] /\ τ.b = b /\ Ft m b v τ.s /\ τ.s.li = 0 /\ τ.s.ba = v.id /\ C τ.s m 1 0 = 0) 20 ⟨s, b, []⟩ := by
 have sf := h.w.sf; have iv := h.w.wg.iv; have hlv := h.w.wg.lv; have hspin := sf.spareIn; have hi := sf.i1 v h.hv; simp only at hlv iv hspin; obtain ⟨hnc, L, hL, hcase⟩ := unload_cases h.w.ok h.w hl
 rcases hcase with ⟨rfl, hb0, _, _⟩ | ⟨x, hx, hid', rfl, hc, hf, hnh, _⟩ | ⟨x, hx, hid', rfl, _, _, y, hy, hh, _, hcy, _⟩
 ·exfalso; omega
 ·obtain ⟨hr, hm⟩ := sf.r x hx
  have hns := sf.ns x hx; refine h.next (P := fun t => t.li = 0 /\ t.ba = v.id /\ C t m 1 0 = 0) (Wt.choose (fun _ k => k.1) (by simp [gThere]) hnc hL (Wt.bring (fun _ k => k.1) iv h.w.wg.ge h.pe ⟨hr.1.1, by rw [hlv]; exact hm⟩ hr.2.1 hr.2.2 hl hc hf fun st hu h0 => ⟨rfl, rfl, rfl, rfl, hb, ?_⟩))
  show carOf (s.D.put (pk x.x x.y x.z) (.lit (.int .i64 s.li))) m 1 0 = 0
  rw [C_put' iv.D.isMap hr hspin (fun e => hns ⟨e.1.symm, e.2.1.symm⟩)]
  exact hsp
 ·exfalso
  have e1 : y = v := sf.st y hy v h.hv (head_eq hh h.hh).1; subst e1; exact h.away hb hcy
structure Fd (b : PB) (v : Stay) (τ : Sg) : Prop where
 gs : τ.gs = []
 js : τ.b.jobs = []
 ss : τ.b.stays = doneStays v.t true b.stays
 li : τ.s.li = 0
 ba : τ.s.ba = v.id
theorem Ft.over (h : Ft m b v s) (hl : s.li = 0) (hb : s.ba = v.id) (hsp : C s m 1 0 = 0) : nextC b s m /\ overB2 b s = ⟨b.last, doneStays v.t true b.stays, []⟩ := by
 obtain ⟨a1, a2, a3⟩ := h.first
 refine ⟨⟨hl, h.nospare (Or.inl hsp), a3, ?_⟩, ?_⟩
 ·unfold overB
  rw [a1, a2]
  simp [hb]
 ·unfold overB2
  rw [a1, a2, h.hj]
  simp [doneJobs, goesJ]
theorem Ft.e2 (h : Ft m b v s) (hl : s.li = 0) (hb : s.ba = v.id) (hsp : C s m 1 0 = 0) : Wt m (fun τ => Fd b v τ /\ τ.s.pe = 0) 1 ⟨s, b, []⟩ := by
 obtain ⟨hc, e⟩ := h.over hl hb hsp; refine Wt.step 0 _ fun σ' hi => .here 0 _ ?_
 obtain ⟨k, _⟩ | ⟨_, l, k, _⟩ | ⟨_, _, rfl⟩ := hi
 ·exact absurd rfl k
 ·exfalso
  obtain ⟨c', d', e', f'⟩ := hc
  rcases k with ⟨c, _⟩ | ⟨_, d, _⟩ | ⟨_, _, e, _⟩ | ⟨_, _, _, f, _⟩
  ·exact c c'
  ·simp only at d; rw [d] at d'; cases d'
  ·simp only at e; rw [e] at e'; cases e'
  ·simp only at f; rw [f] at f'; cases f'
 ·rw [e]
  exact ⟨⟨rfl, rfl, rfl, hl, hb⟩, h.pe⟩
theorem Wf.quiet {m : Nat} {τ : Sg} (w : Wf m τ) (hg : τ.gs = []) (hj : τ.b.jobs = []) (hl : τ.s.li = 0) : ¬ nextC τ.b τ.s m /\ ∀ l, nextL τ.b τ.s m l -> l = welG τ.s := by
 obtain ⟨s, b, gs⟩ := τ; simp only at hg hj hl; subst hg
 have hvb : vB b.book = false := by
  cases h : vB b.book with
  | false => rfl
  | true => exact absurd hj (vb_jobs.1 h)
 have hsp : C s m 1 0 = 0 := Classical.byContradiction fun h => by
  obtain ⟨p, _, _, _, q1, _⟩ := w.wg.co.sp h; simp only at q1; rw [hj] at q1; cases q1
 have hsb : spareB b.book s m (vB b.book) (vJ b.book s).f (vS b.book s) = false := by
  unfold spareB; rw [show carOf s.D m 1 0 = 0 from hsp]
  rfl
 refine ⟨fun k => ?_, fun l k => ?_⟩
 ·have := k.2.2.1
  simp only at this; rw [hvb] at this; cases this
 ·rcases k with ⟨h, _⟩ | ⟨_, h, _⟩ | ⟨_, _, _, h⟩ | ⟨_, _, h, _⟩
  ·exact absurd hl h
  ·simp only at h; rw [hsb] at h; cases h
  ·exact h
  ·simp only at h; rw [hvb] at h; cases h
theorem Fd.open {τ : Sg} (w : Wf m τ) (h : Fd b v τ) (hp : τ.s.pe = 0) : Wt m (fun ρ => Fd b v ρ /\ ρ.s.op = true) 20 τ := by
 obtain ⟨hnc, hn⟩ := w.quiet h.gs h.js h.li; obtain ⟨s', b', gs'⟩ := τ; have hg : gs' = [] := h.gs; subst hg
 cases ho : s'.op with
 | true => exact .here 20 _ ⟨h, ho⟩
 | false =>
   refine Wt.choose (L := gWel) (fun ρ k => k.1.gs) (by decide) hnc (fun l k => ?_) (Wt.welcome (fun ρ k => k.1.gs) w.wg.iv w.wg.ge hp h.li fun st hu h0 => ⟨⟨rfl, h.js, h.ss, rfl, h.ba⟩, rfl⟩)
   rw [hn l k]; unfold welG; rw [if_neg (by simp [ho])]
theorem Fd.tick {τ τ' : Sg} (w : Wf m τ) (h : Fd b v τ) (ho : τ.s.op = true) (t : TickR m τ τ') : τ' = τ := by
 obtain ⟨hnc, hn⟩ := w.quiet h.gs h.js h.li; obtain ⟨s', b', gs'⟩ := τ; have hg : gs' = [] := h.gs; subst hg; have ho' : s'.op = true := ho
 rcases t with ⟨k, _⟩ | ⟨_, l, k, rfl⟩ | ⟨_, k, _⟩
 ·exact absurd rfl k
 ·have : l = [] := by
   rw [hn l k]; unfold welG; rw [if_pos ho']
  rw [this]
  rfl
 ·exact absurd k hnc
end
theorem fetched {m : Nat} {b : PB} {v : Stay} {s : St} (h : Ft m b v s) (hl : s.li = 0) (hb : s.ba = 0) (ho : s.op = true) (hc : Home v s) : Wt m (fun τ => (Fd b v τ /\ τ.s.op = true) /\ Wf m τ) 201 ⟨s, b, []⟩ := by
 have E : ∀ s, Ft m b v s -> s.li = 0 -> s.ba = v.id -> C s m 1 0 = 0 -> Wt m (fun τ => (Fd b v τ /\ τ.s.op = true) /\ Wf m τ) 21 ⟨s, b, []⟩ := fun s h hl hb hs => by
  have := ((h.e2 hl hb hs).and (Q := fun τ => Wf m τ) h.w fun τ τ' q t => q.tick t).trans (e := 20) (Q := fun τ => Fd b v τ /\ τ.s.op = true) fun τ k => k.1.1.open k.2 k.1.2
  exact (this.le (e := 21) (by omega)).and h.w fun τ τ' q t => q.tick t
 have E2 : ∀ s, Ft m b v s -> s.li = 0 -> s.ba = v.id -> Wt m (fun τ => (Fd b v τ /\ τ.s.op = true) /\ Wf m τ) 61 ⟨s, b, []⟩ := fun s h hl hb => by
  by_cases hs : C s m 1 0 = 0
  ·exact (E s h hl hb hs).le (by omega)
  ·refine (h.e1 hl hb hs).trans (e := 41) fun τ k => ?_
   obtain ⟨s', b', gs'⟩ := τ; obtain ⟨rfl, rfl, k1, k2, k3, k4⟩ := k; refine (k1.f1 k2 k3 k4).trans (e := 21) fun τ k => ?_
   obtain ⟨s', b', gs'⟩ := τ; obtain ⟨rfl, rfl, k1, k2, k3, k4⟩ := k; exact E _ k1 k2 k3 k4
 have B2 : ∀ s, Ft m b v s -> s.li = 0 -> s.ba = 0 -> s.op = false -> Home v s -> ¬ Front v s -> Wt m (fun τ => (Fd b v τ /\ τ.s.op = true) /\ Wf m τ) 101 ⟨s, b, []⟩ := fun s h hl hb ho hc hf => by
  refine (h.b2 hl hb ho hc hf).trans (e := 81) fun τ k => ?_
  obtain ⟨s', b', gs'⟩ := τ; obtain ⟨rfl, rfl, k1, k2, k3⟩ := k; refine (k1.d k2 k3).trans (e := 61) fun τ k => ?_
  obtain ⟨s', b', gs'⟩ := τ; obtain ⟨rfl, rfl, k1, k2, k3⟩ := k; exact E2 _ k1 k2 k3
 refine (h.a hl hb ho hc).trans (e := 181) fun τ k => ?_
 obtain ⟨s', b', gs'⟩ := τ; obtain ⟨rfl, rfl, k1, k2, k3, k4, k5⟩ := k
 by_cases hf : Front v s'
 ·refine ((k1.b1 k2 k3 k4 k5 hf).trans (e := 121) fun τ k => ?_).le (by omega)
  obtain ⟨s', b', gs'⟩ := τ; obtain ⟨rfl, rfl, k1, ⟨u, hu, q1, q2⟩, k2, k3, k4, k5, k6⟩ := k; refine (k1.c2 hu q1 q2 k2 k3 k4 k5 k6).trans (e := 101) fun τ k => ?_
  obtain ⟨s', b', gs'⟩ := τ; obtain ⟨rfl, rfl, k1, k2, k3, k4, k5, k6⟩ := k; exact B2 _ k1 k2 k3 k4 k5 k6
 ·exact (B2 _ k1 k2 k3 k4 k5 hf).le (by omega)
theorem TkN.snoc {m : Nat} : ∀ (n : Nat) {σ τ σ' : Sg}, TkN m n σ τ -> TickR m τ σ' -> TkN m (n + 1) σ σ'
 | 0, σ, τ, σ', h, k => by rw [show τ = σ from h] at k; exact ⟨σ', k, rfl⟩
 | n + 1, σ, τ, σ', ⟨ρ, h1, h2⟩, k => ⟨ρ, h1, TkN.snoc n h2 k⟩
theorem Ticks.tkn {m : Nat} : ∀ (n : Nat) {σ σ' : Sg}, Ticks m n σ σ' -> TkN m n σ σ'
 | 0, σ, σ', h => h
 | n + 1, σ, σ', ⟨τ, h1, h2⟩ => TkN.snoc n (Ticks.tkn n h1) h2
theorem Fd.tkn {m : Nat} {b : PB} {v : Stay} : ∀ (n : Nat) {τ τ' : Sg}, Wf m τ -> Fd b v τ -> τ.s.op = true -> TkN m n τ τ' -> τ' = τ
 | 0, τ, τ', _, _, _, h => h
 | n + 1, τ, τ', w, f, o, ⟨ρ, h1, h2⟩ => by
   have := f.tick w o h1; subst this; exact Fd.tkn n w f o h2
theorem fetched_400 {m : Nat} {b : PB} {v : Stay} {s : St} (h : Ft m b v s) (hl : s.li = 0) (hb : s.ba = 0) (ho : s.op = true) (hc : Home v s) {σ' : Sg} (ht : Ticks m 400 ⟨s, b, []⟩ σ') : Fd b v σ' /\ σ'.s.op = true /\ Wf m σ' := by
 have hst := h.w.wg.iv.st; simp only at hst; obtain ⟨k, τ, hk, ⟨⟨f, o⟩, w⟩, hr⟩ := (fetched h hl hb ho hc).reach 400 σ' hst.1 (Ticks.tkn 400 ht) (by simp only; omega); have e := f.tkn _ w o hr; rw [e]; exact ⟨f, o, w⟩
theorem Fd.home {m : Nat} {b : PB} {v : Stay} {τ : Sg} (hv : v ∈ b.stays) (sf : SF m b.stays) (w : Wf m τ) (f : Fd b v τ) {y : Stay} (hy : y ∈ τ.b.stays) : carOf τ.s.D y.x y.y y.z = y.id := by
 have sf' := w.sf; have co := w.wg.co; have hi := sf'.i1 y hy
 have hsp : C τ.s m 1 0 = 0 := Classical.byContradiction fun h => by
  obtain ⟨p, _, _, _, q1, _⟩ := co.sp h; rw [f.js] at q1; cases q1
 rcases co.jb y hy with e | e | e | ⟨j, hj, _⟩
 ·exact e
 ·omega
 ·have := f.li; omega
 ·rw [f.js] at hj; cases hj
theorem want_ft {m : Nat} {σ σ' : Sg} {v : Stay} {k : Int} (w : Wf m σ) (f : Fin σ) (pe : σ.s.pe = 0) (hv : v ∈ σ.b.stays) (h : WantR v.t σ σ' k) (ok : BookOK σ'.b.last m σ'.b.stays σ'.b.jobs) : k = 0 /\ σ' = ⟨σ.s, ⟨σ.b.last, σ.b.stays, [⟨v.t, true⟩]⟩, []⟩ /\ Ft m ⟨σ.b.last, σ.b.stays, [⟨v.t, true⟩]⟩ v σ.s := by
 have w' := w.want h ok; obtain ⟨hk, e⟩ := h; have h0 : 0 <= findI σ.b.book v.t := (findI_nonneg σ.b.book v.t).2 ⟨v, hv, rfl⟩; have e1 : σ.b.book.jobs = [] := f.js
 have hk0 : k = 0 := by
  rw [hk]; unfold wantN; rw [if_neg (by omega), e1, if_neg (by simp [hasJob]), if_neg (by simp)]
 rw [if_pos hk0, f.js, f.gs] at e; rw [e] at w'; exact ⟨hk0, e, w', hv, rfl, pe⟩
theorem filter_one : ∀ (l : List Stay) (v : Stay), l.Pairwise (fun a b => a.t ≠ b.t) -> v ∈ l -> (l.filter (fun x => !(x.t == v.t))).length + 1 = l.length
 | [], v, _, h => by cases h
 | a :: l, v, hp, h => by
   have hr : ∀ y ∈ l, a.t ≠ y.t := fun y hy => List.rel_of_pairwise_cons hp hy
   rcases List.mem_cons.1 h with rfl | h
   ·have e : l.filter (fun x => !(x.t == v.t)) = l := List.filter_eq_self.2 fun x hx => by
     have := hr x hx; have : (x.t == v.t) = false := by rw [beq_eq_false_iff_ne]; exact fun e => this e.symm
     rw [this]; rfl
    rw [List.filter_cons_of_neg (by simp), e]
    rfl
   ·have hne : (a.t == v.t) = false := by rw [beq_eq_false_iff_ne]; exact hr v h
    rw [List.filter_cons_of_pos (by simp [hne]), List.length_cons, List.length_cons, filter_one l v hp.of_cons h]
theorem done_len {m : Nat} {b : PB} {v : Stay} (ok : BookOK b.last m b.stays b.jobs) (hv : v ∈ b.stays) : (doneStays v.t true b.stays).length + 1 = b.stays.length := by
 unfold doneStays
 rw [if_pos rfl]; exact filter_one _ v (ok.s.pair.imp fun {a b} h => by have := h.1; omega) hv
end Hs
end Go.Proofs.YtopgllmjeliklaaGreatDoor
