/- HvK. -/
import Derived.Test.YtopgllmjeliklaaGreatDoorKhHvH
set_option maxRecDepth 100000
set_option linter.unusedSimpArgs false
set_option linter.unusedVariables false
namespace Go.Proofs.YtopgllmjeliklaaGreatDoor
open Go.Shelf Go.Lib Go.ChangeShapes Go.WideShapes Go.ChangeAt Go.RowKit Go.Maps
namespace Hs
open Bk Lg Pl Dk Tx Tn Ac
structure NotIn (c : Int) (σ : Sg) : Prop where
 c1 : 1 ≤ c
 st : ∀ v ∈ σ.b.stays, v.id ≠ c
 pl : placedB (C σ.s) c = false
 li : σ.s.li ≠ c
 ba : σ.s.ba = c → ∀ g ∈ σ.gs, g.1 ≠ 7
def Not7 (c : Int) (s : St) (gs : List (Int × Int)) : Prop := placedB (C s) c = false ∧ s.li ≠ c ∧ (s.ba = c → ∀ g ∈ gs, g.1 ≠ 7)
theorem Not7.step {c : Int} {s : St} {g : Int × Int} {l : List (Int × Int)} (h1 : 1 ≤ c) (iv : Inv s) (h : Not7 c s (g :: l)) (hd : nextS g s ≠ 45) : Not7 c (stepS (nextS g s) s) (g :: l) := by
 obtain ⟨a1, a2, a3⟩ := h; unfold stepS
 split
 ·exact ⟨a1, a2, a3⟩
 have l4 := iv.ok.lv4; have keep : ∀ s' : St, s'.D = s.D → s'.li = s.li → s'.ba = s.ba → Not7 c s' (g :: l) := fun s' e1 e2 e3 => ⟨by rw [C_same e1]; exact a1, by rw [e2]; exact a2, by rw [e3]; exact a3⟩
 obtain ⟨k, n⟩ := g; have hx : nextS (k, n) s = Go.Proofs.YtopgllmjeliklaaGreatDoor.nextC k n s.h s.ex s.op s.li := rfl; unfold Go.Proofs.YtopgllmjeliklaaGreatDoor.nextC at hx; have hsl : ∀ d, (slideS d s).D = s.D ∧ (slideS d s).li = s.li ∧ (slideS d s).ba = s.ba := fun d => by unfold slideS; split <;> exact ⟨rfl, rfl, rfl⟩
 by_cases k1 : k = 1
 ·subst k1
  simp only [if_true] at hx
  split at hx
  ·rw [hx]; exact keep _ rfl rfl rfl
  ·split at hx
   ·rw [hx]; exact keep _ rfl rfl rfl
   ·exact absurd hx hd
 rw [if_neg k1] at hx
 by_cases k2 : k = 2
 ·subst k2
  simp only [if_true] at hx
  split at hx
  ·rw [hx]; exact keep (slideS 1 s) (hsl 1).1 (hsl 1).2.1 (hsl 1).2.2
  ·split at hx
   ·rw [hx]; exact keep (slideS (-1) s) (hsl (-1)).1 (hsl (-1)).2.1 (hsl (-1)).2.2
   ·exact absurd hx hd
 rw [if_neg k2] at hx
 by_cases k3 : k = 3
 ·subst k3
  simp only [if_true] at hx
  split at hx
  ·rw [hx]
   show Not7 c (grabS s) _
   unfold grabS
   split
   ·rename_i hg
    simp only [grabB, Bool.and_eq_true, beq_iff_eq] at hg; obtain ⟨p1, p2, p3⟩ := endB_in hg.1; have hr : InR (endX s.lv s.h s.ex) (endY s.lv s.h s.ex) (endZ s.lv s.h s.ex) := ⟨by omega, p2, p3⟩
    have hne : carOf s.D (endX s.lv s.h s.ex) (endY s.lv s.h s.ex) (endZ s.lv s.h s.ex) ≠ c := fun e => by
     have : placedB (C s) c = true := placed_iff.2 ⟨_, _, _, hr, e⟩; rw [this] at a1; cases a1
    exact ⟨(placed_del hr (by omega) hne).trans a1, hne, a3⟩
   ·exact ⟨a1, a2, a3⟩
  ·exact absurd hx hd
 rw [if_neg k3] at hx
 by_cases k4 : k = 4
 ·subst k4
  simp only [if_true] at hx
  split at hx
  ·exact absurd hx hd
  ·rw [hx]
   show Not7 c (putS s) _
   unfold putS
   split
   ·rename_i hg
    simp only [putB, Bool.and_eq_true, bne_iff_ne, ne_eq, beq_iff_eq] at hg; obtain ⟨p1, p2, p3⟩ := endB_in hg.1.1; have hr : InR (endX s.lv s.h s.ex) (endY s.lv s.h s.ex) (endZ s.lv s.h s.ex) := ⟨by omega, p2, p3⟩; have hf : carOf s.D (endX s.lv s.h s.ex) (endY s.lv s.h s.ex) (endZ s.lv s.h s.ex) = 0 := by simpa [carAtI, hg.1.1] using hg.2
    exact ⟨(placed_put iv.D.isMap hr hf (by omega) a2).trans a1, by show (0 : Int) ≠ c; omega, a3⟩
   ·exact ⟨a1, a2, a3⟩
 rw [if_neg k4] at hx
 by_cases k5 : k = 5
 ·subst k5
  simp only [if_true] at hx
  split at hx
  ·rw [hx]; exact keep _ rfl rfl rfl
  ·exact absurd hx hd
 rw [if_neg k5] at hx
 by_cases k6 : k = 6
 ·subst k6
  simp only [if_true] at hx
  split at hx
  ·exact absurd hx hd
  ·rw [hx]; exact keep _ rfl rfl rfl
 rw [if_neg k6] at hx
 by_cases k7 : k = 7
 ·subst k7
  simp only [if_true] at hx
  split at hx
  ·rw [hx]
   have hb : s.ba ≠ c := fun e => a3 e (7, n) (by simp) rfl
   show Not7 c (takeInS s) _
   unfold takeInS
   split
   ·exact ⟨a1, hb, fun e => by simp only at e; omega⟩
   ·exact ⟨a1, a2, a3⟩
  ·exact absurd hx hd
 rw [if_neg k7] at hx
 by_cases k8 : k = 8
 ·subst k8
  simp only [if_true] at hx
  split at hx
  ·exact absurd hx hd
  ·rw [hx]
   show Not7 c (giveOutS s) _
   unfold giveOutS
   split
   ·exact ⟨a1, by show (0 : Int) ≠ c; omega, fun e => absurd e a2⟩
   ·exact ⟨a1, a2, a3⟩
 ·rw [if_neg k8] at hx
  exact absurd hx hd
theorem Not7.follow {c : Int} (h1 : 1 ≤ c) : ∀ (gs : List (Int × Int)) {s : St}, Inv s → Not7 c s gs → Not7 c (followS gs s).2 (followS gs s).1
 | [], _, _, h => h
 | g :: l, s, iv, h => by
   unfold followS
   by_cases hd : nextS g s = 45
   ·rw [if_pos hd]
    exact Not7.follow h1 l iv ⟨h.1, h.2.1, fun e x hx => h.2.2 e x (by simp [hx])⟩
   ·rw [if_neg hd]
    by_cases hm : mayS (nextS g s) s = true
    ·rw [if_pos hm]; exact h.step h1 iv hd
    ·rw [if_neg hm]; exact ⟨h.1, h.2.1, fun _ x hx => by cases hx⟩
theorem no7_there (k X Y Z : Int) (hk : k = 3 ∨ k = 4) : ∀ g ∈ gThere k X Y Z, g.1 ≠ 7 := fun g hg => by
 simp only [gThere, List.mem_cons, List.not_mem_nil, or_false] at hg
 rcases hg with rfl | rfl | rfl | rfl | rfl | rfl <;> simp only <;> omega
theorem no7_give : ∀ g ∈ gGive, g.1 ≠ 7 := by decide
theorem no7_wel (s : St) : ∀ g ∈ welG s, g.1 ≠ 7 := by
 unfold welG
 split <;> decide
theorem next_no7 {m : Nat} {b : PB} {s : St} {l : List (Int × Int)} {c : Int} (m14 : 1 ≤ m ∧ m ≤ 4) (ok : BookOK b.last m b.stays b.jobs) (h1 : 1 ≤ c) (hst : ∀ v ∈ b.stays, v.id ≠ c) (hb : s.ba = c) (h : nextL b s m l) : ∀ g ∈ l, g.1 ≠ 7 := by
 have sf : SF m b.stays := stays_sf ok.s m14.1 m14.2; unfold nextL NextL at h
 rcases h with ⟨hl, rfl⟩ | ⟨hl, hs, rfl⟩ | ⟨_, _, _, rfl⟩ | ⟨hl, hs, hz, ho, ⟨hf, h⟩ | ⟨hf, rfl⟩⟩
 ·unfold unloadG
  cases hc : carO b.book s.li with
  | none => exact no7_give
  | some x =>
    simp only [unloadO]
    split
    ·exact no7_give
    ·split
     ·exact no7_there _ _ _ _ (Or.inr rfl)
     ·exact no7_there _ _ _ _ (Or.inr rfl)
 ·exact no7_there _ _ _ _ (Or.inl rfl)
 ·exact no7_wel s
 ·unfold FetchP at h
  split at h
  ·rw [h]; exact no7_wel s
  ·split at h
   ·rw [h]; decide
   ·obtain ⟨x, y, z, ok', hw, ⟨_, rfl⟩ | ⟨rfl, hlx⟩⟩ := h
    ·intro g hg; cases hg
    ·rw [hlx]
     split
     ·exact no7_there _ _ _ _ (Or.inl rfl)
     ·exact no7_there _ _ _ _ (Or.inl rfl)
 ·unfold putG
  split
  ·rename_i hq
   obtain ⟨v, hv, e1, _⟩ := first_job sf ok s (vb_jobs.1 hz)
   rw [e1] at hq; simp only [beq_iff_eq] at hq; exact absurd (by rw [← hq, hb]) (hst v hv)
  ·intro g hg; cases hg
theorem NotIn.tick {m : Nat} {σ σ' : Sg} {c : Int} (w : Wf m σ) (h : NotIn c σ) (t : TickR m σ σ') : NotIn c σ' := by
 rcases t with ⟨_, rfl⟩ | ⟨hg, l, hl, rfl⟩ | ⟨hg, hc, rfl⟩
 ·obtain ⟨a1, a2, a3⟩ := Not7.follow h.c1 σ.gs w.wg.iv ⟨h.pl, h.li, h.ba⟩
  exact ⟨h.c1, h.st, a1, a2, a3⟩
 ·obtain ⟨a1, a2, a3⟩ := Not7.follow h.c1 l w.wg.iv ⟨h.pl, h.li, fun e => next_no7 w.m14 w.ok h.c1 h.st e hl⟩
  exact ⟨h.c1, h.st, a1, a2, a3⟩
 ·refine ⟨h.c1, fun v hv => ?_, h.pl, h.li, fun _ g hg => by cases hg⟩
  unfold overB2 at hv; rw [doneStays_eq] at hv; exact h.st v (List.mem_filter.1 hv).1
theorem tick_stays {m : Nat} {σ σ' : Sg} (w : Wf m σ) (t : TickR m σ σ') : (∀ v ∈ σ'.b.stays, v ∈ σ.b.stays) ∧ ∀ v ∈ σ.b.stays, v ∈ σ'.b.stays ∨ NotIn v.id σ' := by
 have sf := w.sf
 rcases t with ⟨_, rfl⟩ | ⟨hg, l, hl, rfl⟩ | ⟨hg, hc, rfl⟩
 ·exact ⟨fun v hv => hv, fun v hv => Or.inl hv⟩
 ·exact ⟨fun v hv => hv, fun v hv => Or.inl hv⟩
 ·obtain ⟨a1, a2, x, hx, a3, a4, a5, a6, a7⟩ := over_head sf w.ok w.wg.co hc
  have ms : ∀ v, v ∈ (overB2 σ.b σ.s).stays ↔ v ∈ σ.b.stays ∧ ¬ (((vJ σ.b.book σ.s).f || !hasB σ.s x.id) = true ∧ v.t = (vJ σ.b.book σ.s).t) := fun v => by
   unfold overB2 doneStays
   rw [show vS σ.b.book σ.s = x from a3]
   cases hq : ((vJ σ.b.book σ.s).f || !hasB σ.s x.id)
   ·simp
   ·simp [List.mem_filter]
  refine ⟨fun v hv => ((ms v).1 hv).1, fun v hv => ?_⟩
  by_cases hin : v ∈ (overB2 σ.b σ.s).stays
  ·exact Or.inl hin
  ·right
   have hen : ((vJ σ.b.book σ.s).f || !hasB σ.s x.id) = true ∧ v.t = (vJ σ.b.book σ.s).t := Classical.byContradiction fun k => hin ((ms v).2 ⟨hv, k⟩)
   have : v = x := sf.st v hv x hx (by rw [hen.2, a4]); subst this; have hi := sf.i1 v hv; refine ⟨hi, fun u hu e => ?_, ?_, by show σ.s.li ≠ v.id; omega, fun _ g hg => by cases hg⟩
   ·have hu' := (ms u).1 hu
    have : u = v := sf.si u hu'.1 v hv e; subst this; exact hin hu
   ·cases hp : placedB (C σ.s) v.id with
    | false => rfl
    | true =>
      obtain ⟨p, q, r, hr, e⟩ := placed_iff.1 hp; exact absurd e (a6 hen.1 p q r hr)
theorem ticks_stays {m : Nat} : ∀ (j : Nat) {σ σ' : Sg}, Wf m σ → Ticks m j σ σ' → (∀ v ∈ σ'.b.stays, v ∈ σ.b.stays) ∧ ∀ v ∈ σ.b.stays, v ∈ σ'.b.stays ∨ NotIn v.id σ'
 | 0, σ, σ', w, h => by rw [show σ' = σ from h]; exact ⟨fun v hv => hv, fun v hv => Or.inl hv⟩
 | j + 1, σ, σ', w, ⟨τ, h1, h2⟩ => by
   obtain ⟨a1, a2⟩ := ticks_stays j w h1; have wt := Wf.ticks j w h1; obtain ⟨b1, b2⟩ := tick_stays wt h2; refine ⟨fun v hv => a1 v (b1 v hv), fun v hv => ?_⟩
   rcases a2 v hv with h | h
   ·exact b2 v h
   ·exact Or.inr (h.tick wt h2)
def RightR (σ σ' : Sg) : Prop := ∀ v ∈ σ.b.stays, (v ∈ σ'.b.stays) ∨ ((∀ u ∈ σ'.b.stays, u.t ≠ v.t) ∧ placedB (C σ'.s) v.id = false ∧ σ'.s.li ≠ v.id)
def Fit (lv : List (Int × Int × Int)) (b : PB) : Prop := ∀ v ∈ b.stays, fitsB v.a v.b v.c (fOf lv (v.x - 1).toNat).1 (fOf lv (v.x - 1).toNat).2.1 (fOf lv (v.x - 1).toNat).2.2 = true
theorem Fit.start (lv : List (Int × Int × Int)) : Fit lv ⟨0, [], []⟩ := fun v hv => absurd hv List.not_mem_nil
theorem Fit.sub {lv : List (Int × Int × Int)} {b b' : PB} (h : Fit lv b) (hs : ∀ v ∈ b'.stays, v ∈ b.stays) : Fit lv b' := fun v hv => h v (hs v hv)
theorem Fit.park {lv : List (Int × Int × Int)} {ci ca cb cc t k : Int} {σ σ' : Sg} (h : Fit lv σ.b) (hp : ParkR lv ci ca cb cc σ σ' t k) : Fit lv σ'.b := by
 rcases hp with ⟨_, _, rfl, _⟩ | ⟨_, _, _, _, _, po, hpo, rfl⟩
 ·exact h
 ·intro v hv
  unfold parkB at hv; simp only [List.mem_append, List.mem_singleton] at hv
  rcases hv with hv | rfl
  ·exact h v hv
  ·have := List.find?_some hpo
   unfold okP at this; simp only [Bool.and_eq_true] at this; exact this.1
theorem Fit.play {lv : List (Int × Int × Int)} {x : ActC} {σ σ' : Sg} (w : Wf lv.length σ) (h : Fit lv σ.b) (hp : PlayR lv x σ σ') : Fit lv σ'.b := by
 rcases hp with ⟨_, t, k, hp⟩ | ⟨k, ⟨_, rfl⟩⟩ | rfl | ⟨hk, rfl⟩ | ⟨j, _, hp⟩
 ·exact h.park hp
 ·split
  ·exact h
  ·exact h
 ·exact h
 ·exact h
 ·exact h.sub (ticks_stays j w hp).1
theorem home_own {m : Nat} {σ : Sg} (w : Wf m σ) {v : Stay} (hv : v ∈ σ.b.stays) : carOf σ.s.D v.x v.y v.z = 0 ∨ carOf σ.s.D v.x v.y v.z = v.id := by
 have sf := w.sf
 by_cases h0 : carOf σ.s.D v.x v.y v.z = 0
 ·exact Or.inl h0
 ·right
  obtain ⟨u, hu, k1, k2⟩ := w.wg.co.pl _ _ _ (sf.r v hv).1 h0
  rcases k2 with k2 | k2
  ·have : u = v := sf.sh u hu v hv k2.1 k2.2.1 k2.2.2
   subst this; exact k1.symm
  ·exact absurd ⟨k2.1, k2.2.1⟩ (sf.ns v hv)
end Hs
end Go.Proofs.YtopgllmjeliklaaGreatDoor
