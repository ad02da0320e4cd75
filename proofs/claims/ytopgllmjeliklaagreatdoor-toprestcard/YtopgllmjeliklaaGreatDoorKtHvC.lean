/- HvC. -/
import Derived.Test.YtopgllmjeliklaaGreatDoorKtHvA
set_option maxRecDepth 100000
set_option linter.unusedSimpArgs false
set_option linter.unusedVariables false
namespace Go.Proofs.YtopgllmjeliklaaGreatDoor
open Go.Shelf Go.Lib Go.ChangeShapes Go.WideShapes Go.ChangeAt Go.RowKit Go.Maps
namespace Hs
open Bk Lg Pl Dk Tx Tn Ac
theorem tick_find {m : Int} {ss : List Stay} (sf : SF m ss) {b : Book} (hb : b.stays = ss) {x : Stay} (hx : x ∈ ss) : StayOfJob b x.t = x := by
 unfold StayOfJob tickO; rw [hb]
 cases hf : ss.find? (fun s => s.t == x.t) with
 | none =>
   have := List.find?_eq_none.1 hf x hx
   simp at this
 | some y =>
   have h1 := List.mem_of_find?_eq_some hf; have h2 := List.find?_some hf; simp only [beq_iff_eq] at h2; exact sf.st y h1 x hx h2
theorem carO_some {m : Int} {ss : List Stay} (sf : SF m ss) {b : Book} (hb : b.stays = ss) {x : Stay} {id : Int} (h : carO b id = some x) : x ∈ ss ∧ x.id = id := by
 unfold carO at h; rw [hb] at h; have h2 := List.find?_some h; simp only [beq_iff_eq] at h2; exact ⟨List.mem_of_find?_eq_some h, h2⟩
theorem carO_none {ss : List Stay} {b : Book} (hb : b.stays = ss) {id : Int} (h : carO b id = none) : ∀ v ∈ ss, v.id ≠ id := by
 unfold carO at h; rw [hb] at h
 intro v hv
 have := List.find?_eq_none.1 h v hv
 simpa using this
theorem carO_of {m : Int} {ss : List Stay} (sf : SF m ss) {b : Book} (hb : b.stays = ss) {x : Stay} (hx : x ∈ ss) : carO b x.id = some x := by
 cases h : carO b x.id with
 | none => exact absurd rfl (carO_none hb h x hx)
 | some y =>
   obtain ⟨a, e⟩ := carO_some sf hb h; rw [sf.si y a x hx e]
theorem first_job {m : Nat} {b : PB} (sf : SF m b.stays) (ok : BookOK b.last m b.stays b.jobs) (s : St) (hj : b.jobs ≠ []) :
  ∃ x ∈ b.stays, vS b.book s = x ∧ x.t = (vJ b.book s).t ∧ vJ b.book s ∈ b.jobs ∧ (b.jobs.head? = some (vJ b.book s) ∨ ((vJ b.book s).f = false ∧ x.id = s.ba)) := by
 have e1 : vJ b.book s = firstJ b.book s := if_neg hj
 have e2 : vS b.book s = StayOfJob b.book (firstJ b.book s).t := if_neg hj
 rw [e1, e2]; obtain ⟨j0, l, hl⟩ := List.exists_cons_of_ne_nil hj; have h0 : b.book.jobs[0]! = j0 := by show b.jobs[0]! = j0; rw [hl]; rfl
 have hhead : b.jobs.head? = some j0 := by rw [hl]; rfl
 have hcase : ∀ j, j ∈ b.jobs → ∃ x ∈ b.stays, StayOfJob b.book j.t = x ∧ x.t = j.t := fun j hm => by
  obtain ⟨x, hx, e⟩ := ok.j.each j hm; exact ⟨x, hx, by rw [← e]; exact tick_find sf rfl hx, e⟩
 have hfst : (∃ x, carO b.book s.ba = some x ∧ hasJob b.jobs ⟨x.t, false⟩ = true ∧ firstJ b.book s = ⟨x.t, false⟩) ∨ firstJ b.book s = j0 := by
  unfold firstJ
  rw [h0]
  cases hc : carO b.book s.ba with
  | none => exact Or.inr rfl
  | some x =>
    by_cases hh : hasJob b.jobs ⟨x.t, false⟩ = true
    ·exact Or.inl ⟨x, rfl, hh, if_pos hh⟩
    ·exact Or.inr (if_neg hh)
 rcases hfst with ⟨x, hc, hh, e⟩ | e
 ·obtain ⟨hx, hid⟩ := carO_some sf rfl hc
  rw [e]; exact ⟨x, hx, tick_find sf rfl hx, rfl, (hasJob_iff _ _).1 hh, Or.inr ⟨rfl, hid⟩⟩
 ·rw [e]
  obtain ⟨x, hx, a1, a2⟩ := hcase j0 (by rw [hl]; simp); exact ⟨x, hx, a1, a2, by rw [hl]; simp, Or.inl hhead⟩
theorem job_eta {j : Job} {t : Int} {f : Bool} (h1 : j.t = t) (h2 : j.f = f) : j = ⟨t, f⟩ := by cases j; simp at h1 h2; rw [h1, h2]
structure Wf (m : Nat) (σ : Sg) : Prop where
 m14 : 1 ≤ m ∧ m ≤ 4
 ok : BookOK σ.b.last m σ.b.stays σ.b.jobs
 wg : Wg m σ.b σ.gs σ.s
theorem Wf.sf {m : Nat} {σ : Sg} (h : Wf m σ) : SF m σ.b.stays := stays_sf h.ok.s h.m14.1 h.m14.2
theorem neu3 {n : Int} : Neu [(2, 0), (5, 0), (1, n)] := fun g h => by
 simp at h
 rcases h with rfl | rfl | rfl
 ·exact Or.inr (Or.inl rfl)
 ·exact Or.inr (Or.inr (Or.inl rfl))
 ·exact Or.inl rfl
theorem gi_wel {m : Int} {ss : List Stay} {js : List Job} (s s' : St) : GI m ss js s (welG s') := by
 unfold welG
 split
 ·exact GI.nil
 ·refine .neu _ fun g h => ?_
  simp [gWel] at h
  rcases h with rfl | rfl | rfl | rfl
  ·exact Or.inr (Or.inl rfl)
  ·exact Or.inr (Or.inr (Or.inl rfl))
  ·exact Or.inl rfl
  ·exact Or.inr (Or.inr (Or.inr rfl))
theorem gi_give {m : Int} {ss : List Stay} {js : List Job} {s : St} (h : s.li ≠ 0 → F8 s.li ss js) : GI m ss js s gGive := .give [(2, 0), (5, 0), (1, 0)] neu3 h
theorem gi_take {m : Int} {ss : List Stay} {js : List Job} {s : St} (h : s.li = 0 → C s m 1 0 = 0) : GI m ss js s gTake := .take [(2, 0), (5, 0), (1, 0)] neu3 h
theorem deep_shut {m : Nat} {b : PB} {s : St} (sf : SF m b.stays) (ok : BookOK b.last m b.stays b.jobs) (co : Core m s.li s.ba (C s) b.stays b.jobs) {x : Stay} (hx : x ∈ b.stays) (hl : s.li = x.id) (hz : x.z = 1) (hf : C s x.x x.y 0 ≠ 0) :
  b.jobs.head? = some ⟨x.t, true⟩ ∧ s.ba = 0 := by
 have hi := sf.i1 x hx; obtain ⟨hr, hm⟩ := sf.r x hx; have hin : InR x.x x.y 0 := ⟨hr.1, hr.2.1, by omega⟩
 have hhome : C s x.x x.y x.z ≠ x.id := fun e => (co.u2 _ _ _ hr (by rw [e]; omega)).1 (by rw [e, hl])
 have hno : (⟨x.t, false⟩ : Job) ∉ b.jobs := fun hj => by
  obtain ⟨u, hu, k1, k2⟩ := co.pl _ _ _ hin hf
  rcases k2 with k2 | k2
  ·exact co.so x hx hj hz u hu k2
  ·exact sf.ns x hx ⟨k2.1, k2.2.1⟩
 obtain ⟨a, c⟩ := co.dp x hx hz hhome hno; exact ⟨a, c hl⟩
theorem first_head {m : Nat} {b : PB} (sf : SF m b.stays) (ok : BookOK b.last m b.stays b.jobs) (s : St) (hj : b.jobs ≠ []) (hb : s.ba = 0) : b.jobs.head? = some (vJ b.book s) := by
 obtain ⟨x, hx, _, _, _, h | h⟩ := first_job sf ok s hj
 ·exact h
 ·have := sf.i1 x hx; omega
theorem vb_jobs {b : PB} : vB b.book = true ↔ b.jobs ≠ [] := by
 unfold vB; exact decide_eq_true_iff
theorem vj_f {b : PB} {s : St} (h : (vJ b.book s).f = true) : b.jobs ≠ [] := fun e => by
 unfold vJ at h; rw [if_pos (show b.book.jobs = [] from e)] at h
 cases h
theorem head_ne {js : List Job} {j : Job} (h : js.head? = some j) : js ≠ [] := fun e => by rw [e] at h; cases h
theorem blocks_is {m : Nat} {b : PB} {s : St} (sf : SF m b.stays) (ok : BookOK b.last m b.stays b.jobs) {x : Stay} (h : blocksO s.D (vB b.book) (vJ b.book s).f (vS b.book s) (some x) = true) :
  ∃ w ∈ b.stays, vS b.book s = w ∧ (vJ b.book s).f = true ∧ b.jobs.head? = some ⟨w.t, true⟩ ∧ w.z = 1 ∧ C s w.x w.y w.z = w.id ∧ x.x = w.x ∧ x.y = w.y ∧ x.z = 0 := by
 unfold blocksO at h; simp only [Bool.and_eq_true, beq_iff_eq, eqP_iff] at h; obtain ⟨⟨⟨⟨h1, h2⟩, h3⟩, h4⟩, h5⟩ := h; obtain ⟨w, hw, e1, e2, e3, e4⟩ := first_job sf ok s (vj_f h2)
 rw [e1] at h3 h4 h5; refine ⟨w, hw, e1, h2, ?_, h3, h4, h5.1.symm, h5.2.1.symm, h5.2.2.symm⟩
 rcases e4 with e4 | e4
 ·rw [e4]; exact congrArg some (job_eta e2.symm h2)
 ·rw [h2] at e4; cases e4.1
theorem spare_not {m : Nat} {b : PB} {s : St} (sf : SF m b.stays) (ok : BookOK b.last m b.stays b.jobs) (h : spareB b.book s m (vB b.book) (vJ b.book s).f (vS b.book s) = false) :
  C s m 1 0 = 0 ∨ ∃ w ∈ b.stays, ∃ u ∈ b.stays, u.id = C s m 1 0 ∧ vS b.book s = w ∧ (vJ b.book s).f = true ∧ b.jobs.head? = some ⟨w.t, true⟩ ∧ w.z = 1 ∧ C s w.x w.y w.z = w.id ∧ u.x = w.x ∧ u.y = w.y ∧ u.z = 0 := by
 unfold spareB blocksB at h
 by_cases h0 : C s m 1 0 = 0
 ·exact Or.inl h0
 ·right
  have h0' : (carOf s.D m 1 0 != 0) = true := by simpa using h0
  rw [h0', Bool.true_and, Bool.not_eq_false'] at h
  cases hc : carO b.book (carOf s.D m 1 0) with
  | none => rw [hc] at h; cases h
  | some u =>
    rw [hc] at h; obtain ⟨hu, hid⟩ := carO_some sf rfl hc; obtain ⟨w, hw, k⟩ := blocks_is sf ok h; exact ⟨w, hw, u, hu, hid, k⟩
theorem where_at {m : Nat} {s : St} (iv : Inv s) (hlv : s.lv = m) {id x y z : Int} (h0 : id ≠ 0) (h : WhereP s.D id x y z true) : InR x y z ∧ x ≤ m ∧ C s x y z = id := by
 have hr := where_in iv.D iv.ok.lv4 h
 rcases h with ⟨_, h1, h2, wx, wy, wz⟩ | ⟨h, _⟩
 ·have hc : carOf s.D x y z = id := carOf_of (h2 _)
  have hp := iv.D.place iv.ok.lv4 wx wy wz (by rw [hc]; exact h0); exact ⟨hr, by rw [← hlv]; exact hp.1.2, hc⟩
 ·cases h
theorem GI.next {m : Nat} {b : PB} {s : St} {l : List (Int × Int)} (m14 : 1 ≤ m ∧ m ≤ 4) (ok : BookOK b.last m b.stays b.jobs) (w : Wg m b [] s) (h : nextL b s m l) : GI m b.stays b.jobs s l := by
 have sf : SF m b.stays := stays_sf ok.s m14.1 m14.2; have co := w.co; unfold nextL NextL at h
 rcases h with ⟨hl, rfl⟩ | ⟨hl, hs, rfl⟩ | ⟨_, _, _, rfl⟩ | ⟨hl, hs, hz, ho, ⟨hf, h⟩ | ⟨hf, rfl⟩⟩
 ·unfold unloadG
  cases hc : carO b.book s.li with
  | none => exact gi_give fun _ v hv e => absurd e (carO_none rfl hc v hv)
  | some x =>
    obtain ⟨hx, hid⟩ := carO_some sf rfl hc; obtain ⟨hr, hm⟩ := sf.r x hx; simp only [unloadO]
    split
    ·rename_i hg
     simp only [Bool.and_eq_true, beq_iff_eq] at hg; refine gi_give fun _ v hv e => ?_
     obtain ⟨w', hw', e1, e2, e3, e4⟩ := first_job sf ok s (vj_f hg.1.2)
     exact ⟨_, e3, by rw [hg.1.1, sf.si v hv x hx (by rw [e, hid])]⟩
    ·rename_i hg
     split
     ·rename_i hbl
      refine .bring m 1 0 _ ⟨sf.m14.1, Int.le_refl _⟩ (by omega) (by omega) (Or.inl rfl) fun _ => ⟨x, hx, hid, Or.inr ⟨⟨rfl, rfl, rfl⟩, ?_⟩⟩
      simp only [Bool.or_eq_true, Bool.and_eq_true, beq_iff_eq, bne_iff_ne, ne_eq] at hbl
      rcases hbl with ⟨hz, hfr⟩ | hbl
      ·exfalso
       obtain ⟨a, c⟩ := deep_shut sf ok co hx hid.symm hz hfr; have hv := first_head sf ok s (head_ne a) c
       rw [hv] at a; injection a with a
       apply hg
       rw [a, c]
       simp
      ·obtain ⟨w', hw', _, _, k1, k2, _, k4, k5, k6⟩ := blocks_is sf ok hbl
       exact ⟨w', hw', k1, k2, k4, k5, k6⟩
     ·exact .bring x.x x.y x.z _ ⟨hr.1.1, hm⟩ hr.2.1 hr.2.2 (Or.inl rfl) fun _ => ⟨x, hx, hid, Or.inl ⟨rfl, rfl, rfl⟩⟩
 ·exact .fetch m 1 0 _ ⟨sf.m14.1, Int.le_refl _⟩ (by omega) (by omega) (Or.inl rfl) fun _ => ⟨fun h => by omega, Or.inl ⟨rfl, rfl, rfl⟩, Or.inl ⟨rfl, rfl, rfl⟩⟩
 ·exact gi_wel s s
 ·unfold FetchP at h
  split at h
  ·rw [h]; exact gi_wel s s
  ·rename_i hba
   have hba' : s.ba = 0 := Classical.byContradiction hba
   split at h
   ·rw [h]
    refine .neu _ fun g hg => ?_
    simp at hg; subst hg; exact Or.inr (Or.inr (Or.inl rfl))
   ·rename_i hop
    have hop' : s.op = false := by simpa using hop
    obtain ⟨x, y, z, ok', hw, ⟨_, rfl⟩ | ⟨rfl, hlx⟩⟩ := h
    ·exact GI.nil
    ·obtain ⟨v, hv, e1, e2, e3, e4⟩ := first_job sf ok s (vj_f hf)
     rw [e1] at hw; have hi := sf.i1 v hv; obtain ⟨hr, hxm, hc⟩ := where_at w.iv w.lv (by omega) hw
     have hhead : b.jobs.head? = some ⟨v.t, true⟩ := by
      rw [first_head sf ok s (vj_f hf) hba']
      exact congrArg some (job_eta e2.symm hf)
     have hhome : v.x = x ∧ v.y = y ∧ v.z = z := by
      obtain ⟨v', hv', k1, k2⟩ := co.pl x y z hr (by rw [hc]; omega); have : v' = v := sf.si v' hv' v hv (by rw [k1, hc]); subst this
      rcases k2 with k2 | k2
      ·exact k2
      ·exfalso
       obtain ⟨p, hp, u, hu, q1, q2, q3, q4, q5, q6⟩ := co.sp (by rw [← k2.1, ← k2.2.1, ← k2.2.2, hc]; rw [k2.2.2]; omega); have : p = v' := sf.st p hp v' hv' (head_eq q1 hhead).1; subst this; have : u = p := sf.si u hu p hv (by rw [q3, ← hc, k2.1, k2.2.1, k2.2.2]); subst this
       omega
     subst hlx
     split
     ·rename_i hfr
      simp only [Bool.and_eq_true, beq_iff_eq, bne_iff_ne, ne_eq] at hfr; exact .fetch x y 0 _ ⟨hr.1.1, hxm⟩ hr.2.1 (by omega) (Or.inl rfl) fun _ => ⟨fun h => by omega, Or.inr ⟨hba', v, hv, hhead, Or.inr ⟨by omega, by rw [hhome.1, hhome.2.1, hhome.2.2]; exact hc, hhome.1.symm, hhome.2.1.symm, rfl⟩⟩, Or.inr hop'⟩
     ·rename_i hfr
      refine .fetch x y z _ ⟨hr.1.1, hxm⟩ hr.2.1 hr.2.2 (Or.inl rfl) fun _ => ⟨fun h => ?_, Or.inr ⟨hba', v, hv, hhead, Or.inl ⟨hc.symm, hhome⟩⟩, Or.inr hop'⟩
      simp only [Bool.and_eq_true, beq_iff_eq, bne_iff_ne, ne_eq, not_and, Classical.not_not] at hfr; exact hfr h
 ·unfold putG
  split
  ·refine gi_take fun _ => ?_
   rcases spare_not sf ok hs with k | ⟨_, _, _, _, _, _, k, _⟩
   ·exact k
   ·rw [hf] at k; cases k
  ·exact GI.nil
theorem book_none (m : Nat) : BookOK 0 m [] [] := ⟨by decide, by decide, by decide, ⟨fun s hs => absurd hs List.not_mem_nil, List.Pairwise.nil⟩, ⟨fun s hs => absurd hs List.not_mem_nil, List.Pairwise.nil⟩⟩
theorem Wf.start {m : Nat} (h1 : 1 ≤ m) (h4 : m ≤ 4) : Wf m ⟨newS m, ⟨0, [], []⟩, []⟩ :=
 ⟨⟨h1, h4⟩, book_none m, ⟨Inv.new (by omega) (by omega), rfl, ⟨rfl, fun _ => rfl, fun h => absurd rfl h⟩, KnowG.nil _, ⟨fun _ => ⟨rfl, rfl⟩, fun h => absurd rfl h, fun h => absurd rfl h⟩, Core.new fun x y z => carOf_of rfl, GI.nil⟩⟩
theorem over_head {m : Nat} {b : PB} {s : St} (sf : SF m b.stays) (ok : BookOK b.last m b.stays b.jobs) (co : Core m s.li s.ba (C s) b.stays b.jobs) (h : nextC b s m) :
  s.li = 0 ∧ C s m 1 0 = 0 ∧ ∃ x ∈ b.stays, vS b.book s = x ∧ x.t = (vJ b.book s).t ∧ b.jobs.head? = some (vJ b.book s) ∧
   ((((vJ b.book s).f || !hasB s x.id) = true → ∀ p q r, InR p q r → C s p q r ≠ x.id) ∧ (((vJ b.book s).f || !hasB s x.id) = false → (vJ b.book s).f = false ∧ C s x.x x.y x.z = x.id)) := by
 obtain ⟨hl, hs, hz, ho⟩ := h; obtain ⟨x, hx, e1, e2, e3, e4⟩ := first_job sf ok s (vb_jobs.1 hz)
 rw [e1] at ho; have hi := sf.i1 x hx; have hr := (sf.r x hx).1
 have nat : hasB s x.id = false → ∀ p q r, InR p q r → C s p q r ≠ x.id := fun hh p q r hpr e => by
  have : atB s.D x.id = true := atB_iff.2 ⟨p, q, r, hpr, e⟩; unfold hasB at hh; rw [this] at hh
  simp at hh
  omega
 have hba : s.ba = x.id → ∀ p q r, InR p q r → C s p q r ≠ x.id := fun hb p q r hpr e => (co.u2 p q r hpr (by rw [e]; omega)).2 (by rw [e, hb])
 unfold overB at ho; simp only [Bool.or_eq_true, Bool.not_eq_true'] at ho
 have hhead : b.jobs.head? = some (vJ b.book s) := by
  rcases e4 with e4 | ⟨e4, e5⟩
  ·exact e4
  ·exfalso
   rcases ho with ho | ho
   ·unfold hasB at ho
    rw [e5] at ho
    simp at ho
    omega
   ·rw [e4] at ho
    simp at ho
    exact hba e5.symm _ _ _ hr ho
 have hen : ((vJ b.book s).f || !hasB s x.id) = true → ∀ p q r, InR p q r → C s p q r ≠ x.id := fun he => by
  rcases ho with ho | ho
  ·exact nat ho
  ·cases hf : (vJ b.book s).f with
   | true => rw [hf] at ho; simp at ho; exact hba ho
   | false => rw [hf] at he; simp at he; exact nat he
 refine ⟨hl, ?_, x, hx, e1, e2, hhead, hen, fun he => ?_⟩
 ·rcases spare_not sf ok hs with k | ⟨w, hw, u, hu, k1, k2, k3, k4, k5, k6, _⟩
  ·exact k
  ·exfalso
   have : w = x := by rw [← k2, e1]
   subst this; exact hen (by rw [k3]; rfl) _ _ _ hr k6
 ·simp only [Bool.or_eq_false_iff, Bool.not_eq_false'] at he
  refine ⟨he.1, ?_⟩
  rcases ho with ho | ho
  ·rw [ho] at he; cases he.2
  ·rw [he.1] at ho; simpa using ho
theorem Wf.tick {m : Nat} {σ σ' : Sg} (w : Wf m σ) (h : TickR m σ σ') : Wf m σ' := by
 rcases h with ⟨_, rfl⟩ | ⟨hg, l, hl, rfl⟩ | ⟨hg, hc, rfl⟩
 ·exact ⟨w.m14, w.ok, w.wg.follow w.sf σ.gs⟩
 ·have wg := w.wg
  rw [hg] at wg; exact ⟨w.m14, w.ok, Wg.follow w.sf l ⟨wg.iv, wg.lv, wg.nv, next_know hl, wg.ge, wg.co, GI.next w.m14 w.ok wg hl⟩⟩
 ·have wg := w.wg
  rw [hg] at wg; obtain ⟨a1, a2, x, hx, a3, a4, a5, a6, a7⟩ := over_head w.sf w.ok wg.co hc; have hvs : vS σ.b.book σ.s = x := a3; refine ⟨w.m14, ?_, wg.iv, wg.lv, wg.nv, KnowG.nil _, wg.ge, ?_, GI.nil⟩
  ·exact w.ok.done _ _ _ fun hf => by rw [hf]; rfl
  ·have co := wg.co
   rw [a1] at co ⊢; unfold overB2; rw [hvs]; exact Core.done w.sf co a2 a5 hx a4 a6 a7
theorem GI.mono {m : Int} {ss ss' : List Stay} {js js' : List Job} {s : St} {gs : List (Int × Int)} (h : GI m ss js s gs) (hs : ∀ v ∈ ss, v ∈ ss') (hh : ∀ j, js.head? = some j → js'.head? = some j) (hl : s.li ≠ 0 → F8 s.li ss js → F8 s.li ss' js') : GI m ss' js' s gs := by
 cases h with
 | neu _ h => exact .neu _ h
 | take pre h f => exact .take pre h f
 | give pre h f => exact .give pre h fun k => hl k (f k)
 | fetch X Y Z _ hX hY hZ h f =>
   refine .fetch X Y Z _ hX hY hZ h fun k => ⟨(f k).1, ?_, (f k).2.2⟩
   rcases (f k).2.1 with a | ⟨a, v, hv, c, d⟩
   ·exact Or.inl a
   ·exact Or.inr ⟨a, v, hs v hv, hh _ c, d⟩
 | bring X Y Z _ hX hY hZ h f =>
   refine .bring X Y Z _ hX hY hZ h fun k => ?_
   obtain ⟨x, hx, e, a | ⟨a, v, hv, c, d⟩⟩ := f k
   ·exact ⟨x, hs x hx, e, Or.inl a⟩
   ·exact ⟨x, hs x hx, e, Or.inr ⟨a, v, hs v hv, hh _ c, d⟩⟩
theorem Wf.want {m : Nat} {σ σ' : Sg} {t k : Int} (w : Wf m σ) (h : WantR t σ σ' k) (ok : BookOK σ'.b.last m σ'.b.stays σ'.b.jobs) : Wf m σ' := by
 obtain ⟨_, rfl⟩ := h
 by_cases hk : k = 0
 ·rw [if_pos hk] at ok ⊢
  refine ⟨w.m14, ok, w.wg.iv, w.wg.lv, w.wg.nv, w.wg.kn, w.wg.ge, w.wg.co.want, w.wg.gi.mono (fun _ h => h) (fun _ h => head_app h) fun _ f v hv e => ?_⟩
  obtain ⟨j, hj, q⟩ := f v hv e; exact ⟨j, by simp [hj], q⟩
 ·rw [if_neg hk]; exact w
theorem Wf.park {m : Nat} {σ σ' : Sg} {lv : List (Int × Int × Int)} {ci ca cb cc t k : Int} (w : Wf m σ) (hlv : lv.length = m) (h : ParkR lv ci ca cb cc σ σ' t k) (ok : BookOK σ'.b.last m σ'.b.stays σ'.b.jobs) : Wf m σ' := by
 rcases h with ⟨_, _, rfl, _⟩ | ⟨_, _, hb0, hb, _, po, hpo, rfl⟩
 ·exact w
 have sf := w.sf
 have hlast : ∀ v ∈ σ.b.stays, v.t ≠ σ.b.last + 1 := fun v hv => by
  obtain ⟨_, _, h3, _⟩ := w.ok.s.each v hv; simp only [decide_eq_true_eq] at h3
  omega
 have hbar : Bk.barredB po.1 po.2.1 po.2.2 σ.b.book = false := by
  have := List.find?_some hpo; unfold okP at this; simp only [Bool.and_eq_true, Bool.not_eq_true'] at this; exact this.2
 have hbarv : ∀ v ∈ σ.b.stays, barP po.1 po.2.1 po.2.2 σ.b.jobs v = false := fun v hv => by
  unfold Bk.barredB at hbar; rw [List.any_eq_false] at hbar; exact Bool.eq_false_iff.2 (hbar v hv)
 have hbv : ∀ v ∈ σ.b.stays, ¬ (v.x = po.1 ∧ v.y = po.2.1 ∧ v.z = 0) ∧ ((⟨v.t, false⟩ : Job) ∈ σ.b.jobs → ¬ (v.x = po.1 ∧ v.y = po.2.1 ∧ 0 = po.2.2)) := fun v hv => by
  have := hbarv v hv; unfold barP at this; simp only [Bool.or_eq_false_iff, Bool.and_eq_false_iff] at this; refine ⟨fun e => ?_, fun hj e => ?_⟩
  ·have h2 := this.1.2
   rw [eqP_iff.2 e] at h2; cases h2
  ·rcases this.2 with h2 | h2
   ·rw [eqP_iff.2 e] at h2; cases h2
   ·rw [(hasJob_iff _ _).2 hj] at h2; cases h2
 refine ⟨w.m14, ok, w.wg.iv, w.wg.lv, w.wg.nv, w.wg.kn, w.wg.ge, ?_, w.wg.gi.mono (fun v hv => by unfold parkB; simp [hv]) (fun _ h => head_app h) fun hl f v hv e => ?_⟩
 ·refine Core.park w.wg.co hlast (fun j hj e => ?_) (fun _ u hu => (hbv u hu).1) (fun v hv hj hz e => (hbv v hv).2 hj ⟨e.1.symm, e.2.1.symm, e.2.2.symm⟩)
  obtain ⟨x, hx, e'⟩ := w.ok.j.each j hj; exact hlast x hx (e'.trans e)
 ·unfold parkB at hv ⊢
  simp only [List.mem_append, List.mem_singleton] at hv
  rcases hv with hv | rfl
  ·obtain ⟨j, hj, q⟩ := f v hv e
   exact ⟨j, by simp [hj], q⟩
  ·exfalso
   exact w.wg.co.u3 hl (by rw [hb]; exact e.symm)
theorem Wf.anew {m : Nat} {σ : Sg} (w : Wf m σ) : Wf m ⟨σ.s, σ.b, []⟩ := ⟨w.m14, w.ok, w.wg.nil⟩
theorem GI.with {m : Int} {ss : List Stay} {js : List Job} {s s' : St} {gs : List (Int × Int)} (h : GI m ss js s gs) (h1 : s'.h = s.h) (h2 : s'.ex = s.ex) (h3 : s'.li = s.li) (h4 : s'.D = s.D) (h5 : s'.op = s.op) (h6 : s'.ba = s.ba ∨ s'.ba = 0 ∨ (s.op = true)) : GI m ss js s' gs := by
 have hC := C_same h4; have hat : ∀ k X Y Z, At5 k X Y Z s gs → At5 k X Y Z s' gs := fun k X Y Z h => by unfold At5 at h ⊢; rw [h1, h2]; exact h
 cases h with
 | neu _ h => exact .neu _ h
 | take pre h f => exact .take pre h (by rw [h3, hC]; exact f)
 | give pre h f => exact .give pre h (by rw [h3]; exact f)
 | fetch X Y Z _ hX hY hZ h f =>
   refine .fetch X Y Z _ hX hY hZ (hat _ _ _ _ h) ?_; rw [h3, hC, h5]; refine fun k => ⟨(f k).1, ?_, (f k).2.2⟩
   rcases (f k).2.1 with a | ⟨a, v, hv, c⟩
   ·exact Or.inl a
   ·rcases h6 with e | e | e
    ·exact Or.inr ⟨e.trans a, v, hv, c⟩
    ·exact Or.inr ⟨e, v, hv, c⟩
    ·rcases (f k).2.2 with q | q
     ·exact Or.inl q
     ·rw [e] at q; cases q
 | bring X Y Z _ hX hY hZ h f => exact .bring X Y Z _ hX hY hZ (hat _ _ _ _ h) (by rw [h3]; exact f)
theorem Geo.with {s s' : St} (h : Geo s) (h1 : s'.h = s.h) (h2 : s'.ex = s.ex) (h3 : s'.li = s.li) (h4 : s'.D = s.D) (h5 : s'.op = s.op) : Geo s' := ⟨by rw [h1, h2, h5]; exact h.dn, by rw [h1, h2]; exact h.lx, by rw [h1, h2, h3, h4]; exact h.ld⟩
theorem Wf.outs {m : Nat} {σ : Sg} (w : Wf m σ) (x : ActC) (hk : (x.kind.toList == [115, 116, 101, 112]) = false) : Wf m ⟨outS x σ.s, σ.b, σ.gs⟩ := by
 have we := Well.out (σ := σ) ⟨w.wg.nv, w.wg.kn⟩ w.wg.iv x hk; have iv := w.wg.iv.out x
 have key : (outS x σ.s).lv = σ.s.lv ∧ (outS x σ.s).h = σ.s.h ∧ (outS x σ.s).ex = σ.s.ex ∧ (outS x σ.s).li = σ.s.li ∧ (outS x σ.s).D = σ.s.D ∧ (outS x σ.s).op = σ.s.op ∧ ((outS x σ.s).ba = σ.s.ba ∨ (outS x σ.s).ba = 0 ∨ (σ.s.op = true ∧ σ.s.ba = 0 ∧ hasB σ.s (outS x σ.s).ba = false ∧ 1 ≤ (outS x σ.s).ba)) := by
  unfold outS; rw [if_neg (by simp [hk])]
  split
  ·unfold walkS; split <;> exact ⟨rfl, rfl, rfl, rfl, rfl, rfl, Or.inl rfl⟩
  split
  ·unfold arriveS
   split
   ·rename_i ha
    simp only [arriveB, Bool.and_eq_true, decide_eq_true_eq, beq_iff_eq, Bool.not_eq_true'] at ha; exact ⟨rfl, rfl, rfl, rfl, rfl, rfl, Or.inr (Or.inr ⟨ha.1.1.2, ha.1.2, ha.2, ha.1.1.1.1⟩)⟩
   ·exact ⟨rfl, rfl, rfl, rfl, rfl, rfl, Or.inl rfl⟩
  split
  ·unfold leaveS; split
   ·exact ⟨rfl, rfl, rfl, rfl, rfl, rfl, Or.inr (Or.inl rfl)⟩
   ·exact ⟨rfl, rfl, rfl, rfl, rfl, rfl, Or.inl rfl⟩
  split
  ·unfold stallS; split <;> exact ⟨rfl, rfl, rfl, rfl, rfl, rfl, Or.inl rfl⟩
  ·exact ⟨rfl, rfl, rfl, rfl, rfl, rfl, Or.inl rfl⟩
 obtain ⟨k0, k1, k2, k3, k4, k5, k6⟩ := key; refine ⟨w.m14, w.ok, iv, k0.trans w.wg.lv, we.nv, we.k, w.wg.ge.with k1 k2 k3 k4 k5, ?_, w.wg.gi.with k1 k2 k3 k4 k5 (k6.imp id (Or.imp id fun h => h.1))⟩
 have co := w.wg.co
 show Core m (outS x σ.s).li (outS x σ.s).ba (C (outS x σ.s)) σ.b.stays σ.b.jobs
 rw [k3, C_same k4]
 rcases k6 with e | e | ⟨e1, e2, e3, e4⟩
 ·rw [e]; exact co
 ·rw [e]; exact co.leave
 ·have hli : σ.s.li = 0 := Classical.byContradiction fun h => by
   have := w.wg.nv.li h; rw [e1] at this; cases this
  rw [hli, e2] at co; rw [hli]; refine co.arrive w.sf fun p q r hr e => ?_
  have : atB σ.s.D (outS x σ.s).ba = true := atB_iff.2 ⟨p, q, r, hr, e⟩; unfold hasB at e3; rw [this] at e3
  simp at e3
  omega
theorem Wf.ticks {m : Nat} : ∀ (j : Nat) {σ σ' : Sg}, Wf m σ → Ticks m j σ σ' → Wf m σ'
 | 0, σ, σ', h, ht => by rw [show σ' = σ from ht]; exact h
 | j + 1, σ, σ', h, ⟨τ, h1, h2⟩ => (Wf.ticks j h h1).tick h2
theorem Wf.play {lv : List (Int × Int × Int)} {x : ActC} {σ σ' : Sg} (h : Wf lv.length σ) (ok : BookOK σ'.b.last lv.length σ'.b.stays σ'.b.jobs) (hp : PlayR lv x σ σ') : Wf lv.length σ' := by
 rcases hp with ⟨_, t, k, hp⟩ | ⟨k, hp⟩ | rfl | ⟨hk, rfl⟩ | ⟨j, _, hp⟩
 ·exact h.park rfl hp ok
 ·exact h.want hp ok
 ·exact h.anew
 ·exact h.outs x hk
 ·exact Wf.ticks j h hp
end Hs
end Go.Proofs.YtopgllmjeliklaaGreatDoor
