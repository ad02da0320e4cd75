/- HvT. -/
import Derived.Test.YtopgllmjeliklaaGreatDoorKfHvD
set_option maxRecDepth 100000
set_option linter.unusedSimpArgs false
set_option linter.unusedVariables false
namespace Go.Proofs.YtopgllmjeliklaaGreatDoor
open Go.Shelf Go.Lib Go.ChangeShapes Go.WideShapes Go.ChangeAt Go.RowKit Go.Maps
namespace Hs
open Bk Lg Pl Dk Tx Tn Ac
inductive Wt (m : Nat) (P : Sg -> Prop) : Nat -> Sg -> Prop
 | here (d : Nat) (σ : Sg) : P σ -> Wt m P d σ
 | step (d : Nat) (σ : Sg) : (∀ σ', TickR m σ σ' -> Wt m P d σ') -> Wt m P (d + 1) σ
 | stall (d : Nat) (σ : Sg) : 0 < σ.s.st -> (∀ σ', TickR m σ σ' -> σ'.s.st + 1 = σ.s.st) -> (∀ σ', TickR m σ σ' -> Wt m P d σ') -> Wt m P d σ
theorem Wt.le {m : Nat} {P : Sg -> Prop} {d e : Nat} {σ : Sg} (h : Wt m P d σ) (hd : d <= e) : Wt m P e σ := by
 induction h generalizing e with
 | here d σ h => exact .here e σ h
 | step d σ h ih =>
   obtain ⟨e', rfl⟩ : ∃ e', e = e' + 1 := ⟨e - 1, by omega⟩
   exact .step e' σ fun σ' hi => ih σ' hi (by omega)
 | stall d σ h0 h1 h ih => exact .stall e σ h0 h1 fun σ' hi => ih σ' hi hd
theorem Wt.trans {m : Nat} {P Q : Sg -> Prop} {d e : Nat} {σ : Sg} (h : Wt m P d σ) (k : ∀ τ, P τ -> Wt m Q e τ) : Wt m Q (d + e) σ := by
 induction h with
 | here d σ h => exact (k σ h).le (by omega)
 | step d σ h ih => exact (Wt.step (d + e) σ fun σ' hi => ih σ' hi).le (by omega)
 | stall d σ h0 h1 h ih => exact .stall (d + e) σ h0 h1 fun σ' hi => ih σ' hi
theorem Wt.and {m : Nat} {P Q : Sg -> Prop} {d : Nat} {σ : Sg} (h : Wt m P d σ) (hq : Q σ) (k : ∀ τ τ', Q τ -> TickR m τ τ' -> Q τ') : Wt m (fun τ => P τ /\ Q τ) d σ := by
 induction h with
 | here d σ h => exact .here d σ ⟨h, hq⟩
 | step d σ h ih => exact .step d σ fun σ' hi => ih σ' hi (k σ σ' hq hi)
 | stall d σ h0 h1 h ih => exact .stall d σ h0 h1 fun σ' hi => ih σ' hi (k σ σ' hq hi)
theorem Wt.imp {m : Nat} {P Q : Sg -> Prop} {d : Nat} {σ : Sg} (h : Wt m P d σ) (k : ∀ τ, P τ -> Q τ) : Wt m Q d σ := by
 induction h with
 | here d σ h => exact .here d σ (k σ h)
 | step d σ h ih => exact .step d σ ih
 | stall d σ h0 h1 h ih => exact .stall d σ h0 h1 ih
def TkN (m : Nat) : Nat -> Sg -> Sg -> Prop
 | 0, σ, σ' => σ' = σ
 | n + 1, σ, σ' => ∃ τ, TickR m σ τ /\ TkN m n τ σ'
theorem TickR.st {m : Nat} {σ σ' : Sg} (h : TickR m σ σ') (h0 : 0 <= σ.s.st) : 0 <= σ'.s.st /\ σ'.s.st <= σ.s.st := by
 rcases h with ⟨_, rfl⟩ | ⟨_, l, _, rfl⟩ | ⟨_, _, rfl⟩
 ·exact follow_stalls _ _ h0
 ·exact follow_stalls _ _ h0
 ·exact ⟨h0, Int.le_refl _⟩
theorem Wt.reach {m : Nat} {P : Sg -> Prop} {d : Nat} {σ : Sg} (h : Wt m P d σ) : ∀ (n : Nat) (σ' : Sg), 0 <= σ.s.st -> TkN m n σ σ' -> d + σ.s.st.toNat <= n -> ∃ k τ, k <= n /\ P τ /\ TkN m (n - k) τ σ' := by
 induction h with
 | here d σ h => exact fun n σ' h0 hn hd => ⟨0, σ, Nat.zero_le _, h, hn⟩
 | step d σ h ih =>
   intro n σ' h0 hn hd
   obtain ⟨n', rfl⟩ : ∃ n', n = n' + 1 := ⟨n - 1, by omega⟩
   obtain ⟨τ, hi, hn⟩ := hn; have hs := hi.st h0; obtain ⟨k, ρ, hk, hp, hr⟩ := ih τ hi n' σ' hs.1 hn (by omega); exact ⟨k + 1, ρ, by omega, hp, by rw [show n' + 1 - (k + 1) = n' - k from by omega]; exact hr⟩
 | stall d σ hs0 h1 h ih =>
   intro n σ' h0 hn hd
   obtain ⟨n', rfl⟩ : ∃ n', n = n' + 1 := ⟨n - 1, by omega⟩
   obtain ⟨τ, hi, hn⟩ := hn; have hs := h1 τ hi; have hs2 := hi.st h0; obtain ⟨k, ρ, hk, hp, hr⟩ := ih τ hi n' σ' hs2.1 hn (by omega); exact ⟨k + 1, ρ, by omega, hp, by rw [show n' + 1 - (k + 1) = n' - k from by omega]; exact hr⟩
section
variable {m : Nat} {P : Sg -> Prop} {b : PB}
theorem TickR.goals {s : St} {gs : List (Int × Int)} {σ' : Sg} (h : TickR m ⟨s, b, gs⟩ σ') (hg : gs ≠ []) : σ' = ⟨(followS gs s).2, b, (followS gs s).1⟩ := by
 obtain ⟨_, rfl⟩ | ⟨k, _⟩ | ⟨k, _⟩ := h
 ·rfl
 ·exact absurd k hg
 ·exact absurd k hg
theorem Wt.go {s : St} {g : Int × Int} {l : List (Int × Int)} {d : Nat} (c : Int) (h0 : 0 <= s.st) (hs : s.pe = 0) (hn : nextS g s = c) (hc : c ≠ 45) (hm : mayS c s = true)
  (h : ∀ st, 0 <= st -> Wt m P d ⟨doS c { s with st := st }, b, g :: l⟩) : Wt m P (d + 1) ⟨s, b, g :: l⟩ := by
 obtain ⟨n, hst⟩ : ∃ n : Nat, s.st = n := ⟨s.st.toNat, by omega⟩
 induction n generalizing s with
 | zero =>
   refine .step d _ fun σ' hi => ?_
   have e := hi.goals (by simp)
   have hf : followS (g :: l) s = (g :: l, doS c s) := by
    unfold followS; rw [hn, if_neg hc, if_pos hm]; unfold stepS; rw [if_neg (by omega)]
   rw [hf] at e; rw [e]
   have e2 : ({ s with st := 0 } : St) = s := by
    obtain ⟨lv, h, ex, op, pe, li, ba, D, st, hu⟩ := s; simp only at hst; subst hst
    rfl
   have := h 0 (Int.le_refl _)
   rwa [e2] at this
 | succ n ih =>
   have hf : followS (g :: l) s = (g :: l, { s with st := s.st - 1 }) := by
    unfold followS; rw [hn, if_neg hc, if_pos hm]; unfold stepS; rw [if_pos ⟨by omega, hc⟩]
   have key : ∀ σ', TickR m ⟨s, b, g :: l⟩ σ' -> σ' = ⟨{ s with st := s.st - 1 }, b, g :: l⟩ := fun σ' hi => by
    have e := hi.goals (by simp); rw [hf] at e; rw [e]
   refine .stall (d + 1) _ (by show 0 < s.st; omega) (fun σ' hi => ?_) (fun σ' hi => ?_)
   ·rw [key σ' hi]
    show s.st - 1 + 1 = s.st
    omega
   ·rw [key σ' hi]
    exact ih (s := { s with st := s.st - 1 }) (by show 0 <= s.st - 1; omega) hs hn hm h (by show s.st - 1 = n; omega)
theorem Wt.drop {s : St} {g : Int × Int} {l : List (Int × Int)} {d : Nat} (hP : ∀ τ, P τ -> τ.gs = []) (hn : nextS g s = 45) (hl : l ≠ []) (h : Wt m P d ⟨s, b, l⟩) : Wt m P d ⟨s, b, g :: l⟩ := by
 have key : ∀ σ', TickR m ⟨s, b, g :: l⟩ σ' -> TickR m ⟨s, b, l⟩ σ' := fun σ' hi => by
  obtain ⟨_, rfl⟩ | ⟨k, _⟩ | ⟨k, _⟩ := hi
  ·refine Or.inl ⟨hl, ?_⟩
   have : followS (g :: l) s = followS l s := by
    show (if nextS g s = 45 then _ else _) = _
    rw [if_pos hn]
   simp only [this]
  ·cases k
  ·cases k
 generalize hσ : (⟨s, b, l⟩ : Sg) = σ at h
 cases h with
 | here d _ h =>
   subst hσ; exact absurd (hP _ h) hl
 | step d _ h => subst hσ; exact .step d _ fun σ' hi => h σ' (key σ' hi)
 | stall d _ h0 h1 h => subst hσ; exact .stall d _ h0 (fun σ' hi => h1 σ' (key σ' hi)) fun σ' hi => h σ' (key σ' hi)
theorem Wt.last {s : St} {g : Int × Int} (hs : s.pe = 0) (hn : nextS g s = 45) (h : P ⟨s, b, []⟩) : Wt m P 1 ⟨s, b, [g]⟩ := by
 refine .step 0 _ fun σ' hi => .here 0 _ ?_
 have e := hi.goals (by simp)
 have hf : followS [g] s = ([], s) := by
  show (if nextS g s = 45 then followS [] s else _) = _
  rw [if_pos hn]
  rfl
 rw [hf] at e; rw [e]; exact h
theorem Wt.choose {s : St} {L : List (Int × Int)} {d : Nat} (hP : ∀ τ, P τ -> τ.gs = []) (hL : L ≠ []) (hnc : ¬ nextC b s m) (hl : ∀ l, nextL b s m l -> l = L) (h : Wt m P d ⟨s, b, L⟩) : Wt m P d ⟨s, b, []⟩ := by
 have key : ∀ σ', TickR m ⟨s, b, []⟩ σ' -> TickR m ⟨s, b, L⟩ σ' := fun σ' hi => by
  obtain ⟨k, _⟩ | ⟨_, l, k, rfl⟩ | ⟨_, k, _⟩ := hi
  ·exact absurd rfl k
  ·rw [hl l k]
   exact Or.inl ⟨hL, rfl⟩
  ·exact absurd k hnc
 generalize hσ : (⟨s, b, L⟩ : Sg) = σ at h
 cases h with
 | here d _ h =>
   subst hσ; exact absurd (hP _ h) hL
 | step d _ h => subst hσ; exact .step d _ fun σ' hi => h σ' (key σ' hi)
 | stall d _ h0 h1 h => subst hσ; exact .stall d _ h0 (fun σ' hi => h1 σ' (key σ' hi)) fun σ' hi => h σ' (key σ' hi)
theorem Wt.height {lv N li ba : Int} {D : DataW Unit} {l : List (Int × Int)} {d : Nat} (hN : 0 <= N /\ N <= lv * 3) (k : ∀ st hu, 0 <= st -> Wt m P d ⟨⟨lv, N, 0, false, 0, li, ba, D, st, hu⟩, b, (1, N) :: l⟩) :
  ∀ (n : Nat) (h st : Int) (hu : Bool), 0 <= st -> 0 <= h /\ h <= lv * 3 -> (h - N).natAbs = n -> Wt m P (d + n) ⟨⟨lv, h, 0, false, 0, li, ba, D, st, hu⟩, b, (1, N) :: l⟩
 | 0, h, st, hu, h0, hh, hd => by rw [show h = N from by omega]; exact k st hu h0
 | n + 1, h, st, hu, h0, hh, hd => by
   by_cases hlt : h < N
   ·refine Wt.go (d := d + n) 117 h0 rfl (by simp [nextS, Go.Proofs.YtopgllmjeliklaaGreatDoor.nextC, hlt]) (by decide) (by simp [mayS, mayB, closedB]) fun st' h0' => ?_
    have hdo : doS 117 ⟨lv, h, 0, false, 0, li, ba, D, st', hu⟩ = ⟨lv, h + 1, 0, false, 0, li, ba, D, st', hu || (0 != 0 || false || 0 != 0)⟩ := by
     simp only [doS, if_true, raiseS]; rw [show min (max (h + 1) 0) (lv * 3) = h + 1 from by omega]
     rfl
    simp only [hdo]; exact Wt.height hN k n (h + 1) st' _ h0' (by omega) (by omega)
   ·have hgt : N < h := by omega
    refine Wt.go (d := d + n) 100 h0 rfl (by simp [nextS, Go.Proofs.YtopgllmjeliklaaGreatDoor.nextC, hlt, hgt]) (by decide) (by simp [mayS, mayB, closedB]) fun st' h0' => ?_
    have hdo : doS 100 ⟨lv, h, 0, false, 0, li, ba, D, st', hu⟩ = ⟨lv, h + -1, 0, false, 0, li, ba, D, st', hu || (0 != 0 || false || 0 != 0)⟩ := by
     have e1 : ¬ ((100 : Int) = 117) := by decide
     simp only [doS, if_true, e1, if_false, raiseS]; rw [show min (max (h + -1) 0) (lv * 3) = h + -1 from by omega]
     rfl
    simp only [hdo]; exact Wt.height hN k n (h + -1) st' _ h0' (by omega) (by omega)
theorem Wt.reachTo {lv h N li ba : Int} {D : DataW Unit} {l : List (Int × Int)} {d : Nat} (k : ∀ st hu, 0 <= st -> Wt m P d ⟨⟨lv, h, N, false, 0, li, ba, D, st, hu⟩, b, (2, N) :: l⟩) :
  ∀ (n : Nat) (ex st : Int) (hu : Bool), 0 <= st -> (∀ e, (ex < e /\ e <= N) \/ (N <= e /\ e < ex) -> reachB e h li (carAtI D lv h e != 0) = true) -> (ex - N).natAbs = n -> Wt m P (d + n) ⟨⟨lv, h, ex, false, 0, li, ba, D, st, hu⟩, b, (2, N) :: l⟩
 | 0, ex, st, hu, h0, _, hd => by rw [show ex = N from by omega]; exact k st hu h0
 | n + 1, ex, st, hu, h0, hr, hd => by
   by_cases hlt : ex < N
   ·have hr1 := hr (ex + 1) (by omega)
    refine Wt.go (d := d + n) 114 h0 rfl (by simp [nextS, Go.Proofs.YtopgllmjeliklaaGreatDoor.nextC, hlt]) (by decide) (by simpa [mayS, mayB] using hr1) fun st' h0' => ?_
    have hb : -2 <= ex + 1 /\ ex + 1 <= 2 := by
     simp only [reachB, Bool.and_eq_true, decide_eq_true_eq] at hr1; exact hr1.1
    obtain ⟨hu', e⟩ := slide_is (lv := lv) (h := h) (li := li) (ba := ba) (st := st') (D := D) (hu := hu) hb
    have hdo : doS 114 ⟨lv, h, ex, false, 0, li, ba, D, st', hu⟩ = ⟨lv, h, ex + 1, false, 0, li, ba, D, st', hu'⟩ := by
     rw [<- e]; simp [doS]
    simp only [hdo]; exact Wt.reachTo k n (ex + 1) st' _ h0' (fun e he => hr e (by omega)) (by omega)
   ·have hgt : N < ex := by omega
    have hr1 := hr (ex - 1) (by omega); refine Wt.go (d := d + n) 108 h0 rfl (by simp [nextS, Go.Proofs.YtopgllmjeliklaaGreatDoor.nextC, hlt, hgt]) (by decide) (by simpa [mayS, mayB] using hr1) fun st' h0' => ?_
    have hb : -2 <= ex + -1 /\ ex + -1 <= 2 := by
     simp only [reachB, Bool.and_eq_true, decide_eq_true_eq] at hr1
     omega
    obtain ⟨hu', e⟩ := slide_is (lv := lv) (h := h) (li := li) (ba := ba) (st := st') (D := D) (hu := hu) hb
    have hdo : doS 108 ⟨lv, h, ex, false, 0, li, ba, D, st', hu⟩ = ⟨lv, h, ex + -1, false, 0, li, ba, D, st', hu'⟩ := by
     rw [<- e]; simp [doS]
    simp only [hdo]; exact Wt.reachTo k n (ex + -1) st' _ h0' (fun e he => hr e (by omega)) (by omega)
theorem Wt.begin {s : St} {rest : List (Int × Int)} {d : Nat} (hP : ∀ τ, P τ -> τ.gs = []) (iv : Inv s) (ge : Geo s) (hs : s.pe = 0) (hr : rest ≠ []) (hol : s.op = true -> s.li = 0 \/ s.li ≠ 0)
  (k : ∀ st hu, 0 <= st -> Wt m P d ⟨⟨s.lv, s.h, 0, false, 0, s.li, s.ba, s.D, st, hu⟩, b, rest⟩) : Wt m P (d + 2) ⟨s, b, (2, 0) :: (5, 0) :: rest⟩ := by
 obtain ⟨lv, h, ex, op, pe, li, ba, D, st, hu⟩ := s; have h0 := iv.st.1; have e0 := iv.ok.e0; have e2 := iv.ok.e2; have hpe : pe = 0 := hs; subst hpe; simp only at h0 e0 e2 k
 cases op with
 | true =>
   obtain ⟨rfl, rfl⟩ : h = 0 /\ ex = 0 := ge.dn rfl; refine Wt.drop hP (by simp [nextS, Go.Proofs.YtopgllmjeliklaaGreatDoor.nextC]) (by simp) ?_; refine Wt.le (Wt.go (d := d) 99 h0 hs (by simp [nextS, Go.Proofs.YtopgllmjeliklaaGreatDoor.nextC]) (by decide) (by simp [mayS, mayB]) fun st' h0' => ?_) (by omega)
   have hdo : doS 99 ⟨lv, 0, 0, true, 0, li, ba, D, st', hu⟩ = ⟨lv, 0, 0, false, 0, li, ba, D, st', hu || (0 : Int) != 0⟩ := by simp [doS, shutS]
   simp only [hdo]; exact Wt.drop hP (by simp [nextS, Go.Proofs.YtopgllmjeliklaaGreatDoor.nextC]) hr (k st' _ h0')
 | false =>
   have key : ∀ e : Int, (ex < e /\ e <= 0) \/ (0 <= e /\ e < ex) -> reachB e h li (carAtI D lv h e != 0) = true := fun e he => by
    by_cases he0 : e = 0
    ·subst he0; simp [reachB]
    ·have hl : levelB h = true := ge.lx (by show ex ≠ 0; omega)
     simp only [reachB, hl, Bool.and_eq_true, decide_eq_true_eq, Bool.or_eq_true, beq_iff_eq, Bool.true_and, Bool.not_eq_true', bne_eq_false_iff_eq]; refine ⟨by omega, Or.inr ?_⟩
     by_cases hli : li = 0
     ·exact Or.inl hli
     ·right
      have h3 : h <= lv * 3 := iv.ok.h12
      rcases Int.lt_or_gt_of_ne he0 with q | q
      ·have e1 : e = extI 0 0 := by show e = (-1 : Int); omega
       rw [e1, carAt_front hl h3 0 (by omega)]; exact (ge.ld hli).2 (by show ex < 0; omega)
      ·have e1 : e = extI 1 0 := by show e = (1 : Int); omega
       rw [e1, carAt_front hl h3 1 (by omega)]; exact (ge.ld hli).1 (by show 0 < ex; omega)
   refine Wt.le (Wt.reachTo (d := d) (fun st' hu' h0' => ?_) (ex - 0).natAbs ex st hu h0 key rfl) (by omega)
   exact Wt.drop hP (by simp [nextS, Go.Proofs.YtopgllmjeliklaaGreatDoor.nextC]) (by simp) (Wt.drop hP (by simp [nextS, Go.Proofs.YtopgllmjeliklaaGreatDoor.nextC]) hr (k st' hu' h0'))
theorem Wt.heightTo {lv N li ba h st : Int} {hu : Bool} {D : DataW Unit} {l : List (Int × Int)} {d : Nat} (hP : ∀ τ, P τ -> τ.gs = []) (hl : l ≠ []) (hN : 0 <= N /\ N <= lv * 3) (h4 : lv <= 4) (h0 : 0 <= st) (hh : 0 <= h /\ h <= lv * 3)
  (k : ∀ st hu, 0 <= st -> Wt m P d ⟨⟨lv, N, 0, false, 0, li, ba, D, st, hu⟩, b, l⟩) : Wt m P (d + 12) ⟨⟨lv, h, 0, false, 0, li, ba, D, st, hu⟩, b, (1, N) :: l⟩ :=
 Wt.le (Wt.height hN (fun st' hu' h0' => Wt.drop hP (by simp [nextS, Go.Proofs.YtopgllmjeliklaaGreatDoor.nextC]) hl (k st' hu' h0')) (h - N).natAbs h st hu h0 hh rfl) (by omega)
theorem Wt.fetch {s : St} {X Y Z : Int} (hP : ∀ τ, P τ -> τ.gs = []) (iv : Inv s) (ge : Geo s) (hs : s.pe = 0) (hX : 1 <= X /\ X <= s.lv) (hY : 0 <= Y /\ Y <= 1) (hZ : 0 <= Z /\ Z <= 1) (hli : s.li = 0) (hc : carOf s.D X Y Z ≠ 0) (hf : Z = 1 -> carOf s.D X Y 0 = 0)
  (k : ∀ st hu, 0 <= st -> P ⟨⟨s.lv, X * 3, 0, false, 0, carOf s.D X Y Z, s.ba, s.D.del (pk X Y Z), st, hu⟩, b, []⟩) : Wt m P 20 ⟨s, b, gThere 3 X Y Z⟩ := by
 obtain ⟨e1, e2, e3, e4⟩ := end_pl (lv := s.lv) hX hY hZ; have l4 := iv.ok.lv4; have hex := ext_ne hY hZ; have hl := level_pl hX.1; have hr : InR X Y Z := ⟨by omega, hY, hZ⟩
 show Wt m P (18 + 2) ⟨s, b, (2, 0) :: (5, 0) :: [(1, X * 3), (2, extI Y Z), (3, 0), (2, 0)]⟩
 refine Wt.begin hP iv ge hs (by simp) (fun _ => Or.inl hli) fun st hu h0 => ?_
 rw [hli]; refine Wt.heightTo (d := 6) hP (by simp) (by omega) l4 h0 ⟨iv.ok.h0, iv.ok.h12⟩ fun st hu h0 => ?_
 refine Wt.le (Wt.reachTo (d := 4) (fun st hu h0 => ?_) (0 - extI Y Z).natAbs 0 st hu h0 (fun e he => ?_) rfl) (by omega)
 rotate_left
 ·simp only [reachB, hl, Bool.and_eq_true, decide_eq_true_eq, Bool.or_eq_true, beq_iff_eq, Bool.true_and]
  refine ⟨by omega, Or.inr ?_⟩
  simp
 refine Wt.drop hP (by simp [nextS, Go.Proofs.YtopgllmjeliklaaGreatDoor.nextC]) (by simp) ?_; refine Wt.go (d := 3) 103 h0 rfl (by simp [nextS, Go.Proofs.YtopgllmjeliklaaGreatDoor.nextC]) (by decide) (by simp [mayS, mayB, hl, hex.1, carAt_pl hX hY hZ, hc]) fun st h0 => ?_
 have hdo : doS 103 ⟨s.lv, X * 3, extI Y Z, false, 0, 0, s.ba, s.D, st, hu⟩ = ⟨s.lv, X * 3, extI Y Z, false, 0, carOf s.D X Y Z, s.ba, s.D.del (pk X Y Z), st, hu⟩ := by
  rw [show doS 103 ⟨s.lv, X * 3, extI Y Z, false, 0, 0, s.ba, s.D, st, hu⟩ = grabS ⟨s.lv, X * 3, extI Y Z, false, 0, 0, s.ba, s.D, st, hu⟩ from by simp [doS]]
  unfold grabS; rw [if_pos (by simp [grabB, e1])]; simp only [e2, e3, e4]
 simp only [hdo]; refine Wt.drop hP (by simp [nextS, Go.Proofs.YtopgllmjeliklaaGreatDoor.nextC, hc]) (by simp) ?_; refine Wt.le (Wt.reachTo (d := 1) (fun st hu h0 => ?_) (extI Y Z - 0).natAbs (extI Y Z) st hu h0 (fun e he => ?_) rfl) (by omega)
 ·exact Wt.last rfl (by simp [nextS, Go.Proofs.YtopgllmjeliklaaGreatDoor.nextC]) (k st hu h0)
 ·simp only [reachB, hl, Bool.and_eq_true, decide_eq_true_eq, Bool.or_eq_true, beq_iff_eq, Bool.true_and, Bool.not_eq_true', bne_eq_false_iff_eq]
  refine ⟨by omega, ?_⟩
  by_cases e0 : e = 0
  ·exact Or.inl e0
  ·refine Or.inr (Or.inr ?_)
   have hz : Z = 1 := by unfold extI at he; split at he <;> omega
   have he2 : e = extI Y 0 := by unfold extI at he ⊢; split at he <;> split <;> omega
   rw [he2, carAt_pl hX hY (by omega), C_del hr X Y 0 ⟨by omega, hY, by omega⟩, if_neg (by omega)]
   exact hf hz
theorem Wt.bring {s : St} {X Y Z : Int} (hP : ∀ τ, P τ -> τ.gs = []) (iv : Inv s) (ge : Geo s) (hs : s.pe = 0) (hX : 1 <= X /\ X <= s.lv) (hY : 0 <= Y /\ Y <= 1) (hZ : 0 <= Z /\ Z <= 1) (hli : s.li ≠ 0) (hc : carOf s.D X Y Z = 0) (hf : Z = 1 -> carOf s.D X Y 0 = 0)
  (k : ∀ st hu, 0 <= st -> P ⟨⟨s.lv, X * 3, 0, false, 0, 0, s.ba, s.D.put (pk X Y Z) (.lit (.int .i64 s.li)), st, hu⟩, b, []⟩) : Wt m P 20 ⟨s, b, gThere 4 X Y Z⟩ := by
 obtain ⟨e1, e2, e3, e4⟩ := end_pl (lv := s.lv) hX hY hZ; have l4 := iv.ok.lv4; have hex := ext_ne hY hZ; have hl := level_pl hX.1; have hr : InR X Y Z := ⟨by omega, hY, hZ⟩
 show Wt m P (18 + 2) ⟨s, b, (2, 0) :: (5, 0) :: [(1, X * 3), (2, extI Y Z), (4, 0), (2, 0)]⟩
 refine Wt.begin hP iv ge hs (by simp) (fun _ => Or.inr hli) fun st hu h0 => ?_
 refine Wt.heightTo (d := 6) hP (by simp) (by omega) l4 h0 ⟨iv.ok.h0, iv.ok.h12⟩ fun st hu h0 => ?_
 refine Wt.le (Wt.reachTo (d := 4) (fun st hu h0 => ?_) (0 - extI Y Z).natAbs 0 st hu h0 (fun e he => ?_) rfl) (by omega)
 rotate_left
 ·simp only [reachB, hl, Bool.and_eq_true, decide_eq_true_eq, Bool.or_eq_true, beq_iff_eq, Bool.true_and, Bool.not_eq_true', bne_eq_false_iff_eq]
  refine ⟨by omega, Or.inr (Or.inr ?_)⟩
  by_cases e0 : e = extI Y Z
  ·rw [e0, carAt_pl hX hY hZ]; exact hc
  ·have hz : Z = 1 := by unfold extI at he e0; split at he <;> simp_all <;> omega
   have he2 : e = extI Y 0 := by unfold extI at he e0 ⊢; split at he <;> simp_all <;> omega
   rw [he2, carAt_pl hX hY (by omega)]; exact hf hz
 refine Wt.drop hP (by simp [nextS, Go.Proofs.YtopgllmjeliklaaGreatDoor.nextC]) (by simp) ?_; refine Wt.go (d := 3) 112 h0 rfl (by simp [nextS, Go.Proofs.YtopgllmjeliklaaGreatDoor.nextC, hli]) (by decide) (by simp [mayS, mayB, hl, hex.1, carAt_pl hX hY hZ, hc, hli]) fun st h0 => ?_
 have hdo : doS 112 ⟨s.lv, X * 3, extI Y Z, false, 0, s.li, s.ba, s.D, st, hu⟩ = ⟨s.lv, X * 3, extI Y Z, false, 0, 0, s.ba, s.D.put (pk X Y Z) (.lit (.int .i64 s.li)), st, hu⟩ := by
  rw [show doS 112 ⟨s.lv, X * 3, extI Y Z, false, 0, s.li, s.ba, s.D, st, hu⟩ = putS ⟨s.lv, X * 3, extI Y Z, false, 0, s.li, s.ba, s.D, st, hu⟩ from by simp [doS]]
  unfold putS; rw [if_pos (by simp [putB, e1, hli, carAt_pl hX hY hZ, hc])]; simp only [e2, e3, e4]
 simp only [hdo]; refine Wt.drop hP (by simp [nextS, Go.Proofs.YtopgllmjeliklaaGreatDoor.nextC]) (by simp) ?_; refine Wt.le (Wt.reachTo (d := 1) (fun st hu h0 => ?_) (extI Y Z - 0).natAbs (extI Y Z) st hu h0 (fun e he => ?_) rfl) (by omega)
 ·exact Wt.last rfl (by simp [nextS, Go.Proofs.YtopgllmjeliklaaGreatDoor.nextC]) (k st hu h0)
 ·simp only [reachB, hl, Bool.and_eq_true, decide_eq_true_eq, Bool.or_eq_true, beq_iff_eq, Bool.true_and]
  refine ⟨by omega, Or.inr ?_⟩
  simp
theorem Wt.giveOut {s : St} (hP : ∀ τ, P τ -> τ.gs = []) (iv : Inv s) (ge : Geo s) (hs : s.pe = 0) (hli : s.li ≠ 0) (hb : s.ba = 0) (k : ∀ st hu, 0 <= st -> P ⟨⟨s.lv, 0, 0, true, 0, 0, s.li, s.D, st, hu⟩, b, []⟩) : Wt m P 20 ⟨s, b, gGive⟩ := by
 have l4 := iv.ok.lv4; have l1 := iv.ok.lv1; refine Wt.le (d := (3 + 12) + 2) ?_ (by omega)
 show Wt m P _ ⟨s, b, (2, 0) :: (5, 0) :: [(1, 0), (8, 0), (6, 0)]⟩
 refine Wt.begin hP iv ge hs (by simp) (fun _ => Or.inr hli) fun st hu h0 => ?_
 rw [hb]; refine Wt.heightTo (d := 3) hP (by simp) (by omega) l4 h0 ⟨iv.ok.h0, iv.ok.h12⟩ fun st hu h0 => ?_
 refine Wt.go (d := 2) 120 h0 rfl (by simp [nextS, Go.Proofs.YtopgllmjeliklaaGreatDoor.nextC, hli]) (by decide) (by simp [mayS, mayB, belowB, closedB, hli]) fun st h0 => ?_
 have hdo : doS 120 ⟨s.lv, 0, 0, false, 0, s.li, 0, s.D, st, hu⟩ = ⟨s.lv, 0, 0, false, 0, 0, s.li, s.D, st, hu || (false || (0 : Int) != 0)⟩ := by simp [doS, giveOutS]
 simp only [hdo]; refine Wt.drop hP (by simp [nextS, Go.Proofs.YtopgllmjeliklaaGreatDoor.nextC]) (by simp) ?_; refine Wt.go (d := 1) 111 h0 rfl (by simp [nextS, Go.Proofs.YtopgllmjeliklaaGreatDoor.nextC]) (by decide) (by simp [mayS, mayB, belowB]) fun st h0 => ?_
 have hdo2 : ∀ hu, doS 111 ⟨s.lv, 0, 0, false, 0, 0, s.li, s.D, st, hu⟩ = ⟨s.lv, 0, 0, true, 0, 0, s.li, s.D, st, hu || !decide ((0 : Int) = 0 /\ (0 : Int) = 0)⟩ := fun hu => by simp [doS, Pl.openS]
 simp only [hdo2]; exact Wt.last rfl (by simp [nextS, Go.Proofs.YtopgllmjeliklaaGreatDoor.nextC]) (k st _ h0)
theorem Wt.welcome {s : St} (hP : ∀ τ, P τ -> τ.gs = []) (iv : Inv s) (ge : Geo s) (hs : s.pe = 0) (hli : s.li = 0) (k : ∀ st hu, 0 <= st -> P ⟨⟨s.lv, 0, 0, true, 0, 0, s.ba, s.D, st, hu⟩, b, []⟩) : Wt m P 20 ⟨s, b, gWel⟩ := by
 have l4 := iv.ok.lv4; have l1 := iv.ok.lv1; refine Wt.le (d := (2 + 12) + 2) ?_ (by omega)
 show Wt m P _ ⟨s, b, (2, 0) :: (5, 0) :: [(1, 0), (6, 0)]⟩
 refine Wt.begin hP iv ge hs (by simp) (fun _ => Or.inl hli) fun st hu h0 => ?_
 rw [hli]; refine Wt.heightTo (d := 2) hP (by simp) (by omega) l4 h0 ⟨iv.ok.h0, iv.ok.h12⟩ fun st hu h0 => ?_
 refine Wt.go (d := 1) 111 h0 rfl (by simp [nextS, Go.Proofs.YtopgllmjeliklaaGreatDoor.nextC]) (by decide) (by simp [mayS, mayB, belowB]) fun st h0 => ?_
 have hdo2 : ∀ hu, doS 111 ⟨s.lv, 0, 0, false, 0, 0, s.ba, s.D, st, hu⟩ = ⟨s.lv, 0, 0, true, 0, 0, s.ba, s.D, st, hu || !decide ((0 : Int) = 0 /\ (0 : Int) = 0)⟩ := fun hu => by simp [doS, Pl.openS]
 simp only [hdo2]; exact Wt.last rfl (by simp [nextS, Go.Proofs.YtopgllmjeliklaaGreatDoor.nextC]) (k st _ h0)
theorem Wt.shut {s : St} (hP : ∀ τ, P τ -> τ.gs = []) (iv : Inv s) (hs : s.pe = 0) (ho : s.op = true) (k : ∀ st hu, 0 <= st -> P ⟨⟨s.lv, s.h, s.ex, false, 0, s.li, s.ba, s.D, st, hu⟩, b, []⟩) : Wt m P 20 ⟨s, b, [(5, 0)]⟩ := by
 obtain ⟨lv, h, ex, op, pe, li, ba, D, st, hu⟩ := s; have hpe : pe = 0 := hs; simp only at ho; subst hpe ho; have h0 := iv.st.1; simp only at h0; refine Wt.le (Wt.go (d := 1) 99 h0 hs (by simp [nextS, Go.Proofs.YtopgllmjeliklaaGreatDoor.nextC]) (by decide) (by simp [mayS, mayB]) fun st' h0' => ?_) (by omega)
 have hdo : doS 99 ⟨lv, h, ex, true, 0, li, ba, D, st', hu⟩ = ⟨lv, h, ex, false, 0, li, ba, D, st', hu || (0 : Int) != 0⟩ := by simp [doS, shutS]
 simp only [hdo]; exact Wt.last rfl (by simp [nextS, Go.Proofs.YtopgllmjeliklaaGreatDoor.nextC]) (k st' _ h0')
end
end Hs
end Go.Proofs.YtopgllmjeliklaaGreatDoor
