/- HvD HvE. -/
import Derived.Test.YtopgllmjeliklaaGreatDoorKtHvC
set_option maxRecDepth 100000
set_option linter.unusedSimpArgs false
set_option linter.unusedVariables false
namespace Go.Proofs.YtopgllmjeliklaaGreatDoor
open Go.Shelf Go.Lib Go.ChangeShapes Go.WideShapes Go.ChangeAt Go.RowKit Go.Maps
namespace Hs
open Bk Lg Pl Dk Tx Tn Ac
def waitJ (b : PB) (ba : Int) (j : Job) : Bool := decide (0 ≤ findI b.book j.t) && (!j.f && b.stays[(findI b.book j.t).toNat]!.id == ba)
def waitsB (b : PB) (ba : Int) : Bool := b.jobs.any (waitJ b ba)
theorem find_stay (b : PB) (t : Int) (h : 0 ≤ findI b.book t) : (findI b.book t).toNat < b.stays.length ∧ b.stays[(findI b.book t).toNat]! ∈ b.stays ∧ b.stays[(findI b.book t).toNat]!.t = t := by
 have hi := idx_find (fun s => s.t == t) b.book.stays
 have hf : findI b.book t = stayIdx (fun s => s.t == t) b.book.stays := rfl
 rcases hi with ⟨h1, _⟩ | ⟨k, hk, e, h2⟩
 ·omega
 ·have hk' : k < b.stays.length := hk
  have e2 : (findI b.book t).toNat = k := by omega
  have h3 : b.stays.find? (fun s => s.t == t) = some b.stays[k]! := h2
  have := List.find?_some h3; simp only [beq_iff_eq] at this; rw [e2]; refine ⟨hk', ?_, this⟩; rw [getElem!_pos b.stays k hk']; exact List.getElem_mem hk'
theorem waits_iff {m : Nat} {b : PB} (sf : SF m b.stays) {ba : Int} : waitsB b ba = true ↔ ∃ x ∈ b.stays, x.id = ba ∧ (⟨x.t, false⟩ : Job) ∈ b.jobs := by
 unfold waitsB; rw [List.any_eq_true]
 constructor
 ·rintro ⟨j, hj, hw⟩
  unfold waitJ at hw; simp only [Bool.and_eq_true, decide_eq_true_eq, Bool.not_eq_true', beq_iff_eq] at hw; obtain ⟨_, h2, h3⟩ := find_stay b j.t hw.1; refine ⟨_, h2, hw.2.2, ?_⟩; rw [h3, ← hw.2.1]; exact hj
 ·rintro ⟨x, hx, rfl, hj⟩
  refine ⟨_, hj, ?_⟩; have h0 : 0 ≤ findI b.book x.t := (findI_nonneg b.book x.t).2 ⟨x, hx, rfl⟩; obtain ⟨_, h2, h3⟩ := find_stay b x.t h0; unfold waitJ; simp only [Bool.and_eq_true, decide_eq_true_eq, Bool.not_eq_true', beq_iff_eq]; exact ⟨h0, trivial, by rw [sf.st _ h2 x hx h3]⟩
def preS (b : PB) (s : St) : St := if s.op = true then (if s.ba ≠ 0 ∧ waitsB b s.ba = false then leaveS (walkS (-9) s) else walkS (-9) s) else s
structure Settled (b : PB) (s : St) : Prop where
 pe : s.pe = 0
 ba : s.op = true → s.ba = 0 ∨ waitsB b s.ba = true
def It (m : Nat) (σ σ' : Sg) : Prop := ∃ ρ, TickR m σ ρ ∧ σ' = ⟨preS ρ.b ρ.s, ρ.b, ρ.gs⟩
theorem walk9 {s : St} (iv : Inv s) (ho : s.op = true) : walkS (-9) s = { s with pe := 0 } := by
 unfold walkS; rw [if_pos ⟨by omega, ho⟩]; have := iv.pe; rw [show min (max (s.pe + -9) 0) 9 = 0 from by omega]
theorem pre_shut {b : PB} {s : St} (h : s.op = false) : preS b s = s := by
 unfold preS; rw [if_neg (by simp [h])]
theorem pre_same {b : PB} {s : St} (hs : Settled b s) : preS b s = s := by
 unfold preS
 split
 ·rename_i ho
  have e : walkS (-9) s = s := by
   unfold walkS; rw [if_pos ⟨by omega, ho⟩]; have := hs.pe; obtain ⟨lv, h, ex, op, pe, li, ba, D, st, hu⟩ := s; simp only at this; subst this
   rfl
  rw [e]
  split
  ·rename_i hc
   rcases hs.ba ho with k | k
   ·exact absurd k hc.1
   ·rw [k] at hc; cases hc.2
  ·rfl
 ·rfl
def bay' (b : PB) (ba : Int) : Int := if waitsB b ba = true then ba else 0
theorem pre_open {b : PB} {lv h ex li ba st : Int} {D : DataW Unit} {hu : Bool} : preS b ⟨lv, h, ex, true, 0, li, ba, D, st, hu⟩ = ⟨lv, h, ex, true, 0, li, bay' b ba, D, st, hu⟩ := by
 have e : walkS (-9) ⟨lv, h, ex, true, 0, li, ba, D, st, hu⟩ = ⟨lv, h, ex, true, 0, li, ba, D, st, hu⟩ := rfl; unfold preS bay'; rw [if_pos rfl, e]; simp only
 by_cases h0 : ba = 0
 ·subst h0
  rw [if_neg (by simp)]
  split <;> rfl
 ·cases hw : waitsB b ba
  ·rw [if_pos ⟨h0, rfl⟩, if_neg (by simp)]
   unfold leaveS leaveB; rw [if_pos (by simp [h0])]
  ·rw [if_neg (by simp), if_pos rfl]
theorem pre_fields {b : PB} {s : St} : (preS b s).lv = s.lv ∧ (preS b s).h = s.h ∧ (preS b s).ex = s.ex ∧ (preS b s).op = s.op ∧ (preS b s).li = s.li ∧ (preS b s).D = s.D ∧ (preS b s).st = s.st := by
 have hw : ∀ s : St, (walkS (-9) s).lv = s.lv ∧ (walkS (-9) s).h = s.h ∧ (walkS (-9) s).ex = s.ex ∧ (walkS (-9) s).op = s.op ∧ (walkS (-9) s).li = s.li ∧ (walkS (-9) s).D = s.D ∧ (walkS (-9) s).st = s.st := fun s => by
  unfold walkS; split <;> exact ⟨rfl, rfl, rfl, rfl, rfl, rfl, rfl⟩
 have hl : ∀ s : St, (leaveS s).lv = s.lv ∧ (leaveS s).h = s.h ∧ (leaveS s).ex = s.ex ∧ (leaveS s).op = s.op ∧ (leaveS s).li = s.li ∧ (leaveS s).D = s.D ∧ (leaveS s).st = s.st := fun s => by
  unfold leaveS; split <;> exact ⟨rfl, rfl, rfl, rfl, rfl, rfl, rfl⟩
 unfold preS
 split
 ·split
  ·obtain ⟨a1, a2, a3, a4, a5, a6, a7⟩ := hl (walkS (-9) s)
   obtain ⟨b1, b2, b3, b4, b5, b6, b7⟩ := hw s; exact ⟨a1.trans b1, a2.trans b2, a3.trans b3, a4.trans b4, a5.trans b5, a6.trans b6, a7.trans b7⟩
  ·exact hw s
 ·exact ⟨rfl, rfl, rfl, rfl, rfl, rfl, rfl⟩
def actW (k : Int) : ActC := { ActC.none with kind := ⟨#[119, 97, 108, 107]⟩, a := k }
def actL : ActC := { ActC.none with kind := ⟨#[108, 101, 97, 118, 101]⟩ }
theorem kind_walk : ((⟨#[119, 97, 108, 107]⟩ : ByteArray).toList == [115, 116, 101, 112]) = false ∧ ((⟨#[119, 97, 108, 107]⟩ : ByteArray).toList == [119, 97, 108, 107]) = true := by decide +kernel
theorem kind_leave : ((⟨#[108, 101, 97, 118, 101]⟩ : ByteArray).toList == [115, 116, 101, 112]) = false ∧ ((⟨#[108, 101, 97, 118, 101]⟩ : ByteArray).toList == [119, 97, 108, 107]) = false ∧ ((⟨#[108, 101, 97, 118, 101]⟩ : ByteArray).toList == [97, 114, 114, 105, 118, 101]) = false ∧ ((⟨#[108, 101, 97, 118, 101]⟩ : ByteArray).toList == [108, 101, 97, 118, 101]) = true := by decide +kernel
theorem outS_actW (k : Int) (s : St) : outS (actW k) s = walkS k s := outS_walk kind_walk.1 kind_walk.2
theorem outS_actL (s : St) : outS actL s = leaveS s := outS_leave kind_leave.1 kind_leave.2.1 kind_leave.2.2.1 kind_leave.2.2.2
theorem Wf.walk {m : Nat} {σ : Sg} (w : Wf m σ) (k : Int) : Wf m ⟨walkS k σ.s, σ.b, σ.gs⟩ := by
 have := w.outs (actW k) kind_walk.1
 rwa [outS_actW] at this
theorem Wf.leave {m : Nat} {σ : Sg} (w : Wf m σ) : Wf m ⟨leaveS σ.s, σ.b, σ.gs⟩ := by
 have := w.outs actL kind_leave.1
 rwa [outS_actL] at this
theorem Wf.pre {m : Nat} {σ : Sg} (w : Wf m σ) : Wf m ⟨preS σ.b σ.s, σ.b, σ.gs⟩ ∧ Settled σ.b (preS σ.b σ.s) := by
 cases ho : σ.s.op with
 | false =>
   rw [pre_shut ho]; exact ⟨w, w.wg.nv.pe ho, fun h => by rw [ho] at h; cases h⟩
 | true =>
   have e := walk9 w.wg.iv ho; have w1 := w.walk (-9); unfold preS; rw [if_pos ho]
   by_cases hc : σ.s.ba ≠ 0 ∧ waitsB σ.b σ.s.ba = false
   ·rw [if_pos hc]
    have w2 := w1.leave; refine ⟨w2, ?_, fun _ => Or.inl ?_⟩
    ·rw [e]; unfold leaveS; split <;> rfl
    ·rw [e]; unfold leaveS leaveB
     rw [if_pos (by simp [ho, hc.1])]
   ·rw [if_neg hc]
    refine ⟨w1, by rw [e], fun _ => ?_⟩
    rw [e]
    by_cases h0 : σ.s.ba = 0
    ·exact Or.inl h0
    ·refine Or.inr ?_
     simp only
     cases hq : waitsB σ.b σ.s.ba
     ·exact absurd ⟨h0, hq⟩ hc
     ·rfl
theorem Wf.it {m : Nat} {σ σ' : Sg} (w : Wf m σ) (h : It m σ σ') : Wf m σ' ∧ Settled σ'.b σ'.s := by
 obtain ⟨ρ, h1, rfl⟩ := h; exact (w.tick h1).pre
inductive Wi (m : Nat) (P : Sg → Prop) : Nat → Sg → Prop
 | here (d : Nat) (σ : Sg) : P σ → Wi m P d σ
 | step (d : Nat) (σ : Sg) : (∀ σ', It m σ σ' → Wi m P d σ') → Wi m P (d + 1) σ
 | stall (d : Nat) (σ : Sg) : 0 < σ.s.st → (∀ σ', It m σ σ' → σ'.s.st + 1 = σ.s.st) → (∀ σ', It m σ σ' → Wi m P d σ') → Wi m P d σ
theorem Wi.le {m : Nat} {P : Sg → Prop} {d e : Nat} {σ : Sg} (h : Wi m P d σ) (hd : d ≤ e) : Wi m P e σ := by
 induction h generalizing e with
 | here d σ h => exact .here e σ h
 | step d σ h ih =>
   obtain ⟨e', rfl⟩ : ∃ e', e = e' + 1 := ⟨e - 1, by omega⟩
   exact .step e' σ fun σ' hi => ih σ' hi (by omega)
 | stall d σ h0 h1 h ih => exact .stall e σ h0 h1 fun σ' hi => ih σ' hi hd
theorem Wi.trans {m : Nat} {P Q : Sg → Prop} {d e : Nat} {σ : Sg} (h : Wi m P d σ) (k : ∀ τ, P τ → Wi m Q e τ) : Wi m Q (d + e) σ := by
 induction h with
 | here d σ h => exact (k σ h).le (by omega)
 | step d σ h ih => exact (Wi.step (d + e) σ fun σ' hi => ih σ' hi).le (by omega)
 | stall d σ h0 h1 h ih => exact .stall (d + e) σ h0 h1 fun σ' hi => ih σ' hi
theorem Wi.and {m : Nat} {P Q : Sg → Prop} {d : Nat} {σ : Sg} (h : Wi m P d σ) (hq : Q σ) (k : ∀ τ τ', Q τ → It m τ τ' → Q τ') : Wi m (fun τ => P τ ∧ Q τ) d σ := by
 induction h with
 | here d σ h => exact .here d σ ⟨h, hq⟩
 | step d σ h ih => exact .step d σ fun σ' hi => ih σ' hi (k σ σ' hq hi)
 | stall d σ h0 h1 h ih => exact .stall d σ h0 h1 fun σ' hi => ih σ' hi (k σ σ' hq hi)
def ItN (m : Nat) : Nat → Sg → Sg → Prop
 | 0, σ, σ' => σ' = σ
 | n + 1, σ, σ' => ∃ τ, It m σ τ ∧ ItN m n τ σ'
theorem do_st0 (c : Int) (s : St) : (doS c s).st = s.st := by
 unfold doS
 split; · rfl
 split; · rfl
 split; · unfold slideS; split <;> rfl
 split; · unfold slideS; split <;> rfl
 split; · unfold grabS; split <;> rfl
 split; · unfold putS; split <;> rfl
 split; · rfl
 split; · rfl
 split; · unfold takeInS; split <;> rfl
 split; · unfold giveOutS; split <;> rfl
 rfl
theorem step_stalls (c : Int) (s : St) (h0 : 0 ≤ s.st) : 0 ≤ (stepS c s).st ∧ (stepS c s).st ≤ s.st := by
 unfold stepS
 split
 ·rename_i h; simp only; omega
 ·rw [do_st0]; omega
theorem follow_stalls : ∀ (gs : List (Int × Int)) (s : St), 0 ≤ s.st → 0 ≤ (followS gs s).2.st ∧ (followS gs s).2.st ≤ s.st
 | [], s, h => ⟨h, Int.le_refl _⟩
 | g :: l, s, h => by
   unfold followS
   split
   ·exact follow_stalls l s h
   ·split
    ·exact step_stalls _ s h
    ·exact ⟨h, Int.le_refl _⟩
theorem It.st {m : Nat} {σ σ' : Sg} (h : It m σ σ') (h0 : 0 ≤ σ.s.st) : 0 ≤ σ'.s.st ∧ σ'.s.st ≤ σ.s.st := by
 obtain ⟨ρ, h, rfl⟩ := h
 show 0 ≤ (preS ρ.b ρ.s).st ∧ (preS ρ.b ρ.s).st ≤ _
 rw [pre_fields.2.2.2.2.2.2]
 rcases h with ⟨_, rfl⟩ | ⟨_, l, _, rfl⟩ | ⟨_, _, rfl⟩
 ·exact follow_stalls _ _ h0
 ·exact follow_stalls _ _ h0
 ·exact ⟨h0, Int.le_refl _⟩
theorem Wi.reach {m : Nat} {P : Sg → Prop} {d : Nat} {σ : Sg} (h : Wi m P d σ) : ∀ (n : Nat) (σ' : Sg), 0 ≤ σ.s.st → ItN m n σ σ' → d + σ.s.st.toNat ≤ n → ∃ k τ, k ≤ n ∧ P τ ∧ ItN m (n - k) τ σ' := by
 induction h with
 | here d σ h => exact fun n σ' h0 hn hd => ⟨0, σ, Nat.zero_le _, h, hn⟩
 | step d σ h ih =>
   intro n σ' h0 hn hd
   obtain ⟨n', rfl⟩ : ∃ n', n = n' + 1 := ⟨n - 1, by omega⟩
   obtain ⟨τ, hi, hn⟩ := hn; have hs := hi.st h0; obtain ⟨k, ρ, hk, hp, hr⟩ := ih τ hi n' σ' hs.1 hn (by omega); exact ⟨k + 1, ρ, by omega, hp, by rw [show n' + 1 - (k + 1) = n' - k from by omega]; exact hr⟩
 | stall d σ hs0 h1 h ih =>
   intro n σ' h0 hn hd
   obtain ⟨n', rfl⟩ : ∃ n', n = n' + 1 := ⟨n - 1, by omega⟩
   obtain ⟨τ, hi, hn⟩ := hn; have hs := h1 τ hi; have hs2 := hi.st h0; obtain ⟨k, ρ, hk, hp, hr⟩ := ih τ hi n' σ' hs2.1 hn (by omega); exact ⟨k + 1, ρ, by omega, hp, by rw [show n' + 1 - (k + 1) = n' - k from by omega]; exact hr⟩
end Hs
namespace Hs
open Bk Lg Pl Dk Tx Tn Ac
section
variable {m : Nat} {P : Sg → Prop} {b : PB}
theorem It.goals {s : St} {gs : List (Int × Int)} {σ' : Sg} (h : It m ⟨s, b, gs⟩ σ') (hg : gs ≠ []) : σ' = ⟨preS b (followS gs s).2, b, (followS gs s).1⟩ := by
 obtain ⟨ρ, ⟨_, rfl⟩ | ⟨k, _⟩ | ⟨k, _⟩, rfl⟩ := h
 ·rfl
 ·exact absurd k hg
 ·exact absurd k hg
theorem Wi.go {s : St} {g : Int × Int} {l : List (Int × Int)} {d : Nat} (c : Int) (h0 : 0 ≤ s.st) (hs : Settled b s) (hn : nextS g s = c) (hc : c ≠ 45) (hm : mayS c s = true)
  (h : ∀ st, 0 ≤ st → Wi m P d ⟨preS b (doS c { s with st := st }), b, g :: l⟩) : Wi m P (d + 1) ⟨s, b, g :: l⟩ := by
 obtain ⟨n, hst⟩ : ∃ n : Nat, s.st = n := ⟨s.st.toNat, by omega⟩
 induction n generalizing s with
 | zero =>
   refine .step d _ fun σ' hi => ?_
   have e := hi.goals (by simp)
   have hf : followS (g :: l) s = (g :: l, doS c s) := by
    unfold followS; rw [hn, if_neg hc, if_pos hm]; unfold stepS; rw [if_neg (by omega)]
   rw [hf] at e; rw [e]
   have e2 : ({ s with st := 0 } : St) = s := by
    obtain ⟨lv, h, ex, op, pe, li, ba, D, st, hu⟩ := s; simp only at hst; subst hst
    rfl
   have := h 0 (Int.le_refl _)
   rwa [e2] at this
 | succ n ih =>
   have hf : followS (g :: l) s = (g :: l, { s with st := s.st - 1 }) := by
    unfold followS; rw [hn, if_neg hc, if_pos hm]; unfold stepS; rw [if_pos ⟨by omega, hc⟩]
   have hs' : Settled b { s with st := s.st - 1 } := ⟨hs.pe, hs.ba⟩
   have key : ∀ σ', It m ⟨s, b, g :: l⟩ σ' → σ' = ⟨{ s with st := s.st - 1 }, b, g :: l⟩ := fun σ' hi => by
    have e := hi.goals (by simp); rw [hf] at e; rw [e, pre_same hs']
   refine .stall (d + 1) _ (by show 0 < s.st; omega) (fun σ' hi => ?_) (fun σ' hi => ?_)
   ·rw [key σ' hi]
    show s.st - 1 + 1 = s.st
    omega
   ·rw [key σ' hi]
    exact ih (s := { s with st := s.st - 1 }) (by show 0 ≤ s.st - 1; omega) hs' hn hm h (by show s.st - 1 = n; omega)
theorem Wi.drop {s : St} {g : Int × Int} {l : List (Int × Int)} {d : Nat} (hP : ∀ τ, P τ → τ.gs = []) (hn : nextS g s = 45) (hl : l ≠ []) (h : Wi m P d ⟨s, b, l⟩) : Wi m P d ⟨s, b, g :: l⟩ := by
 have key : ∀ σ', It m ⟨s, b, g :: l⟩ σ' → It m ⟨s, b, l⟩ σ' := fun σ' hi => by
  obtain ⟨ρ, ⟨_, rfl⟩ | ⟨k, _⟩ | ⟨k, _⟩, rfl⟩ := hi
  ·refine ⟨_, Or.inl ⟨hl, rfl⟩, ?_⟩
   have : followS (g :: l) s = followS l s := by
    show (if nextS g s = 45 then _ else _) = _
    rw [if_pos hn]
   simp only [this]
  ·cases k
  ·cases k
 generalize hσ : (⟨s, b, l⟩ : Sg) = σ at h
 cases h with
 | here d _ h =>
   subst hσ; exact absurd (hP _ h) hl
 | step d _ h => subst hσ; exact .step d _ fun σ' hi => h σ' (key σ' hi)
 | stall d _ h0 h1 h => subst hσ; exact .stall d _ h0 (fun σ' hi => h1 σ' (key σ' hi)) fun σ' hi => h σ' (key σ' hi)
theorem Wi.last {s : St} {g : Int × Int} (hs : Settled b s) (hn : nextS g s = 45) (h : P ⟨s, b, []⟩) : Wi m P 1 ⟨s, b, [g]⟩ := by
 refine .step 0 _ fun σ' hi => .here 0 _ ?_
 have e := hi.goals (by simp)
 have hf : followS [g] s = ([], s) := by
  show (if nextS g s = 45 then followS [] s else _) = _
  rw [if_pos hn]
  rfl
 rw [hf, pre_same hs] at e; rw [e]; exact h
theorem Wi.choose {s : St} {L : List (Int × Int)} {d : Nat} (hP : ∀ τ, P τ → τ.gs = []) (hL : L ≠ []) (hnc : ¬ nextC b s m) (hl : ∀ l, nextL b s m l → l = L) (h : Wi m P d ⟨s, b, L⟩) : Wi m P d ⟨s, b, []⟩ := by
 have key : ∀ σ', It m ⟨s, b, []⟩ σ' → It m ⟨s, b, L⟩ σ' := fun σ' hi => by
  obtain ⟨ρ, ⟨k, _⟩ | ⟨_, l, k, rfl⟩ | ⟨_, k, _⟩, rfl⟩ := hi
  ·exact absurd rfl k
  ·rw [hl l k]
   exact ⟨_, Or.inl ⟨hL, rfl⟩, rfl⟩
  ·exact absurd k hnc
 generalize hσ : (⟨s, b, L⟩ : Sg) = σ at h
 cases h with
 | here d _ h =>
   subst hσ; exact absurd (hP _ h) hL
 | step d _ h => subst hσ; exact .step d _ fun σ' hi => h σ' (key σ' hi)
 | stall d _ h0 h1 h => subst hσ; exact .stall d _ h0 (fun σ' hi => h1 σ' (key σ' hi)) fun σ' hi => h σ' (key σ' hi)
theorem settled_shut {lv h ex li ba st : Int} {D : DataW Unit} {hu : Bool} : Settled b ⟨lv, h, ex, false, 0, li, ba, D, st, hu⟩ := ⟨rfl, fun h => by cases h⟩
theorem Wi.height {lv N li ba : Int} {D : DataW Unit} {l : List (Int × Int)} {d : Nat} (hN : 0 ≤ N ∧ N ≤ lv * 3) (k : ∀ st hu, 0 ≤ st → Wi m P d ⟨⟨lv, N, 0, false, 0, li, ba, D, st, hu⟩, b, (1, N) :: l⟩) :
  ∀ (n : Nat) (h st : Int) (hu : Bool), 0 ≤ st → 0 ≤ h ∧ h ≤ lv * 3 → (h - N).natAbs = n → Wi m P (d + n) ⟨⟨lv, h, 0, false, 0, li, ba, D, st, hu⟩, b, (1, N) :: l⟩
 | 0, h, st, hu, h0, hh, hd => by rw [show h = N from by omega]; exact k st hu h0
 | n + 1, h, st, hu, h0, hh, hd => by
   by_cases hlt : h < N
   ·refine Wi.go (d := d + n) 117 h0 settled_shut (by simp [nextS, Go.Proofs.YtopgllmjeliklaaGreatDoor.nextC, hlt]) (by decide) (by simp [mayS, mayB, closedB]) fun st' h0' => ?_
    have hdo : doS 117 ⟨lv, h, 0, false, 0, li, ba, D, st', hu⟩ = ⟨lv, h + 1, 0, false, 0, li, ba, D, st', hu || (0 != 0 || false || 0 != 0)⟩ := by
     simp only [doS, if_true, raiseS]; rw [show min (max (h + 1) 0) (lv * 3) = h + 1 from by omega]
     rfl
    simp only [hdo]; rw [pre_shut rfl]; exact Wi.height hN k n (h + 1) st' _ h0' (by omega) (by omega)
   ·have hgt : N < h := by omega
    refine Wi.go (d := d + n) 100 h0 settled_shut (by simp [nextS, Go.Proofs.YtopgllmjeliklaaGreatDoor.nextC, hlt, hgt]) (by decide) (by simp [mayS, mayB, closedB]) fun st' h0' => ?_
    have hdo : doS 100 ⟨lv, h, 0, false, 0, li, ba, D, st', hu⟩ = ⟨lv, h + -1, 0, false, 0, li, ba, D, st', hu || (0 != 0 || false || 0 != 0)⟩ := by
     have e1 : ¬ ((100 : Int) = 117) := by decide
     simp only [doS, if_true, e1, if_false, raiseS]; rw [show min (max (h + -1) 0) (lv * 3) = h + -1 from by omega]
     rfl
    simp only [hdo]; rw [pre_shut rfl]; exact Wi.height hN k n (h + -1) st' _ h0' (by omega) (by omega)
theorem slide_is {lv h ex li ba st e : Int} {D : DataW Unit} {hu : Bool} (he : -2 ≤ ex + e ∧ ex + e ≤ 2) : ∃ hu', slideS e ⟨lv, h, ex, false, 0, li, ba, D, st, hu⟩ = ⟨lv, h, ex + e, false, 0, li, ba, D, st, hu'⟩ := ⟨_, if_pos he⟩
theorem Wi.reachTo {lv h N li ba : Int} {D : DataW Unit} {l : List (Int × Int)} {d : Nat} (k : ∀ st hu, 0 ≤ st → Wi m P d ⟨⟨lv, h, N, false, 0, li, ba, D, st, hu⟩, b, (2, N) :: l⟩) :
  ∀ (n : Nat) (ex st : Int) (hu : Bool), 0 ≤ st → (∀ e, (ex < e ∧ e ≤ N) ∨ (N ≤ e ∧ e < ex) → reachB e h li (carAtI D lv h e != 0) = true) → (ex - N).natAbs = n → Wi m P (d + n) ⟨⟨lv, h, ex, false, 0, li, ba, D, st, hu⟩, b, (2, N) :: l⟩
 | 0, ex, st, hu, h0, _, hd => by rw [show ex = N from by omega]; exact k st hu h0
 | n + 1, ex, st, hu, h0, hr, hd => by
   by_cases hlt : ex < N
   ·have hr1 := hr (ex + 1) (by omega)
    refine Wi.go (d := d + n) 114 h0 settled_shut (by simp [nextS, Go.Proofs.YtopgllmjeliklaaGreatDoor.nextC, hlt]) (by decide) (by simpa [mayS, mayB] using hr1) fun st' h0' => ?_
    have hb : -2 ≤ ex + 1 ∧ ex + 1 ≤ 2 := by
     simp only [reachB, Bool.and_eq_true, decide_eq_true_eq] at hr1; exact hr1.1
    obtain ⟨hu', e⟩ := slide_is (lv := lv) (h := h) (li := li) (ba := ba) (st := st') (D := D) (hu := hu) hb
    have hdo : doS 114 ⟨lv, h, ex, false, 0, li, ba, D, st', hu⟩ = ⟨lv, h, ex + 1, false, 0, li, ba, D, st', hu'⟩ := by
     rw [← e]; simp [doS]
    simp only [hdo]; rw [pre_shut rfl]; exact Wi.reachTo k n (ex + 1) st' _ h0' (fun e he => hr e (by omega)) (by omega)
   ·have hgt : N < ex := by omega
    have hr1 := hr (ex - 1) (by omega); refine Wi.go (d := d + n) 108 h0 settled_shut (by simp [nextS, Go.Proofs.YtopgllmjeliklaaGreatDoor.nextC, hlt, hgt]) (by decide) (by simpa [mayS, mayB] using hr1) fun st' h0' => ?_
    have hb : -2 ≤ ex + -1 ∧ ex + -1 ≤ 2 := by
     simp only [reachB, Bool.and_eq_true, decide_eq_true_eq] at hr1
     omega
    obtain ⟨hu', e⟩ := slide_is (lv := lv) (h := h) (li := li) (ba := ba) (st := st') (D := D) (hu := hu) hb
    have hdo : doS 108 ⟨lv, h, ex, false, 0, li, ba, D, st', hu⟩ = ⟨lv, h, ex + -1, false, 0, li, ba, D, st', hu'⟩ := by
     rw [← e]; simp [doS]
    simp only [hdo]; rw [pre_shut rfl]; exact Wi.reachTo k n (ex + -1) st' _ h0' (fun e he => hr e (by omega)) (by omega)
theorem Wi.begin {s : St} {rest : List (Int × Int)} {d : Nat} (hP : ∀ τ, P τ → τ.gs = []) (iv : Inv s) (ge : Geo s) (hs : Settled b s) (hr : rest ≠ []) (hol : s.op = true → s.li = 0 ∨ s.li ≠ 0)
  (k : ∀ st hu, 0 ≤ st → Wi m P d ⟨⟨s.lv, s.h, 0, false, 0, s.li, s.ba, s.D, st, hu⟩, b, rest⟩) : Wi m P (d + 2) ⟨s, b, (2, 0) :: (5, 0) :: rest⟩ := by
 obtain ⟨lv, h, ex, op, pe, li, ba, D, st, hu⟩ := s; have h0 := iv.st.1; have e0 := iv.ok.e0; have e2 := iv.ok.e2; have hpe : pe = 0 := hs.pe; subst hpe; simp only at h0 e0 e2 k
 cases op with
 | true =>
   obtain ⟨rfl, rfl⟩ : h = 0 ∧ ex = 0 := ge.dn rfl; refine Wi.drop hP (by simp [nextS, Go.Proofs.YtopgllmjeliklaaGreatDoor.nextC]) (by simp) ?_; refine Wi.le (Wi.go (d := d) 99 h0 hs (by simp [nextS, Go.Proofs.YtopgllmjeliklaaGreatDoor.nextC]) (by decide) (by simp [mayS, mayB]) fun st' h0' => ?_) (by omega)
   have hdo : doS 99 ⟨lv, 0, 0, true, 0, li, ba, D, st', hu⟩ = ⟨lv, 0, 0, false, 0, li, ba, D, st', hu || (0 : Int) != 0⟩ := by simp [doS, shutS]
   simp only [hdo]; rw [pre_shut rfl]; exact Wi.drop hP (by simp [nextS, Go.Proofs.YtopgllmjeliklaaGreatDoor.nextC]) hr (k st' _ h0')
 | false =>
   have key : ∀ e : Int, (ex < e ∧ e ≤ 0) ∨ (0 ≤ e ∧ e < ex) → reachB e h li (carAtI D lv h e != 0) = true := fun e he => by
    by_cases he0 : e = 0
    ·subst he0; simp [reachB]
    ·have hl : levelB h = true := ge.lx (by show ex ≠ 0; omega)
     simp only [reachB, hl, Bool.and_eq_true, decide_eq_true_eq, Bool.or_eq_true, beq_iff_eq, Bool.true_and, Bool.not_eq_true', bne_eq_false_iff_eq]; refine ⟨by omega, Or.inr ?_⟩
     by_cases hli : li = 0
     ·exact Or.inl hli
     ·right
      have h3 : h ≤ lv * 3 := iv.ok.h12
      rcases Int.lt_or_gt_of_ne he0 with q | q
      ·have e1 : e = extI 0 0 := by show e = (-1 : Int); omega
       rw [e1, carAt_front hl h3 0 (by omega)]; exact (ge.ld hli).2 (by show ex < 0; omega)
      ·have e1 : e = extI 1 0 := by show e = (1 : Int); omega
       rw [e1, carAt_front hl h3 1 (by omega)]; exact (ge.ld hli).1 (by show 0 < ex; omega)
   refine Wi.le (Wi.reachTo (d := d) (fun st' hu' h0' => ?_) (ex - 0).natAbs ex st hu h0 key rfl) (by omega)
   exact Wi.drop hP (by simp [nextS, Go.Proofs.YtopgllmjeliklaaGreatDoor.nextC]) (by simp) (Wi.drop hP (by simp [nextS, Go.Proofs.YtopgllmjeliklaaGreatDoor.nextC]) hr (k st' hu' h0'))
theorem Wi.heightTo {lv N li ba h st : Int} {hu : Bool} {D : DataW Unit} {l : List (Int × Int)} {d : Nat} (hP : ∀ τ, P τ → τ.gs = []) (hl : l ≠ []) (hN : 0 ≤ N ∧ N ≤ lv * 3) (h4 : lv ≤ 4) (h0 : 0 ≤ st) (hh : 0 ≤ h ∧ h ≤ lv * 3)
  (k : ∀ st hu, 0 ≤ st → Wi m P d ⟨⟨lv, N, 0, false, 0, li, ba, D, st, hu⟩, b, l⟩) : Wi m P (d + 12) ⟨⟨lv, h, 0, false, 0, li, ba, D, st, hu⟩, b, (1, N) :: l⟩ :=
 Wi.le (Wi.height hN (fun st' hu' h0' => Wi.drop hP (by simp [nextS, Go.Proofs.YtopgllmjeliklaaGreatDoor.nextC]) hl (k st' hu' h0')) (h - N).natAbs h st hu h0 hh rfl) (by omega)
theorem Wi.fetch {s : St} {X Y Z : Int} (hP : ∀ τ, P τ → τ.gs = []) (iv : Inv s) (ge : Geo s) (hs : Settled b s) (hX : 1 ≤ X ∧ X ≤ s.lv) (hY : 0 ≤ Y ∧ Y ≤ 1) (hZ : 0 ≤ Z ∧ Z ≤ 1) (hli : s.li = 0) (hc : carOf s.D X Y Z ≠ 0) (hf : Z = 1 → carOf s.D X Y 0 = 0)
  (k : ∀ st hu, 0 ≤ st → P ⟨⟨s.lv, X * 3, 0, false, 0, carOf s.D X Y Z, s.ba, s.D.del (pk X Y Z), st, hu⟩, b, []⟩) : Wi m P 20 ⟨s, b, gThere 3 X Y Z⟩ := by
 obtain ⟨e1, e2, e3, e4⟩ := end_pl (lv := s.lv) hX hY hZ; have l4 := iv.ok.lv4; have hex := ext_ne hY hZ; have hl := level_pl hX.1; have hr : InR X Y Z := ⟨by omega, hY, hZ⟩
 show Wi m P (18 + 2) ⟨s, b, (2, 0) :: (5, 0) :: [(1, X * 3), (2, extI Y Z), (3, 0), (2, 0)]⟩
 refine Wi.begin hP iv ge hs (by simp) (fun _ => Or.inl hli) fun st hu h0 => ?_
 rw [hli]; refine Wi.heightTo (d := 6) hP (by simp) (by omega) l4 h0 ⟨iv.ok.h0, iv.ok.h12⟩ fun st hu h0 => ?_
 refine Wi.le (Wi.reachTo (d := 4) (fun st hu h0 => ?_) (0 - extI Y Z).natAbs 0 st hu h0 (fun e he => ?_) rfl) (by omega)
 rotate_left
 ·simp only [reachB, hl, Bool.and_eq_true, decide_eq_true_eq, Bool.or_eq_true, beq_iff_eq, Bool.true_and]
  refine ⟨by omega, Or.inr ?_⟩
  simp
 refine Wi.drop hP (by simp [nextS, Go.Proofs.YtopgllmjeliklaaGreatDoor.nextC]) (by simp) ?_; refine Wi.go (d := 3) 103 h0 settled_shut (by simp [nextS, Go.Proofs.YtopgllmjeliklaaGreatDoor.nextC]) (by decide) (by simp [mayS, mayB, hl, hex.1, carAt_pl hX hY hZ, hc]) fun st h0 => ?_
 have hdo : doS 103 ⟨s.lv, X * 3, extI Y Z, false, 0, 0, s.ba, s.D, st, hu⟩ = ⟨s.lv, X * 3, extI Y Z, false, 0, carOf s.D X Y Z, s.ba, s.D.del (pk X Y Z), st, hu⟩ := by
  rw [show doS 103 ⟨s.lv, X * 3, extI Y Z, false, 0, 0, s.ba, s.D, st, hu⟩ = grabS ⟨s.lv, X * 3, extI Y Z, false, 0, 0, s.ba, s.D, st, hu⟩ from by simp [doS]]
  unfold grabS; rw [if_pos (by simp [grabB, e1])]; simp only [e2, e3, e4]
 simp only [hdo]; rw [pre_shut rfl]; refine Wi.drop hP (by simp [nextS, Go.Proofs.YtopgllmjeliklaaGreatDoor.nextC, hc]) (by simp) ?_; refine Wi.le (Wi.reachTo (d := 1) (fun st hu h0 => ?_) (extI Y Z - 0).natAbs (extI Y Z) st hu h0 (fun e he => ?_) rfl) (by omega)
 ·exact Wi.last settled_shut (by simp [nextS, Go.Proofs.YtopgllmjeliklaaGreatDoor.nextC]) (k st hu h0)
 ·simp only [reachB, hl, Bool.and_eq_true, decide_eq_true_eq, Bool.or_eq_true, beq_iff_eq, Bool.true_and, Bool.not_eq_true', bne_eq_false_iff_eq]
  refine ⟨by omega, ?_⟩
  by_cases e0 : e = 0
  ·exact Or.inl e0
  ·refine Or.inr (Or.inr ?_)
   have hz : Z = 1 := by unfold extI at he; split at he <;> omega
   have he2 : e = extI Y 0 := by unfold extI at he ⊢; split at he <;> split <;> omega
   rw [he2, carAt_pl hX hY (by omega), C_del hr X Y 0 ⟨by omega, hY, by omega⟩, if_neg (by omega)]
   exact hf hz
theorem Wi.bring {s : St} {X Y Z : Int} (hP : ∀ τ, P τ → τ.gs = []) (iv : Inv s) (ge : Geo s) (hs : Settled b s) (hX : 1 ≤ X ∧ X ≤ s.lv) (hY : 0 ≤ Y ∧ Y ≤ 1) (hZ : 0 ≤ Z ∧ Z ≤ 1) (hli : s.li ≠ 0) (hc : carOf s.D X Y Z = 0) (hf : Z = 1 → carOf s.D X Y 0 = 0)
  (k : ∀ st hu, 0 ≤ st → P ⟨⟨s.lv, X * 3, 0, false, 0, 0, s.ba, s.D.put (pk X Y Z) (.lit (.int .i64 s.li)), st, hu⟩, b, []⟩) : Wi m P 20 ⟨s, b, gThere 4 X Y Z⟩ := by
 obtain ⟨e1, e2, e3, e4⟩ := end_pl (lv := s.lv) hX hY hZ; have l4 := iv.ok.lv4; have hex := ext_ne hY hZ; have hl := level_pl hX.1; have hr : InR X Y Z := ⟨by omega, hY, hZ⟩
 show Wi m P (18 + 2) ⟨s, b, (2, 0) :: (5, 0) :: [(1, X * 3), (2, extI Y Z), (4, 0), (2, 0)]⟩
 refine Wi.begin hP iv ge hs (by simp) (fun _ => Or.inr hli) fun st hu h0 => ?_
 refine Wi.heightTo (d := 6) hP (by simp) (by omega) l4 h0 ⟨iv.ok.h0, iv.ok.h12⟩ fun st hu h0 => ?_
 refine Wi.le (Wi.reachTo (d := 4) (fun st hu h0 => ?_) (0 - extI Y Z).natAbs 0 st hu h0 (fun e he => ?_) rfl) (by omega)
 rotate_left
 ·simp only [reachB, hl, Bool.and_eq_true, decide_eq_true_eq, Bool.or_eq_true, beq_iff_eq, Bool.true_and, Bool.not_eq_true', bne_eq_false_iff_eq]
  refine ⟨by omega, Or.inr (Or.inr ?_)⟩
  by_cases e0 : e = extI Y Z
  ·rw [e0, carAt_pl hX hY hZ]; exact hc
  ·have hz : Z = 1 := by unfold extI at he e0; split at he <;> simp_all <;> omega
   have he2 : e = extI Y 0 := by unfold extI at he e0 ⊢; split at he <;> simp_all <;> omega
   rw [he2, carAt_pl hX hY (by omega)]; exact hf hz
 refine Wi.drop hP (by simp [nextS, Go.Proofs.YtopgllmjeliklaaGreatDoor.nextC]) (by simp) ?_; refine Wi.go (d := 3) 112 h0 settled_shut (by simp [nextS, Go.Proofs.YtopgllmjeliklaaGreatDoor.nextC, hli]) (by decide) (by simp [mayS, mayB, hl, hex.1, carAt_pl hX hY hZ, hc, hli]) fun st h0 => ?_
 have hdo : doS 112 ⟨s.lv, X * 3, extI Y Z, false, 0, s.li, s.ba, s.D, st, hu⟩ = ⟨s.lv, X * 3, extI Y Z, false, 0, 0, s.ba, s.D.put (pk X Y Z) (.lit (.int .i64 s.li)), st, hu⟩ := by
  rw [show doS 112 ⟨s.lv, X * 3, extI Y Z, false, 0, s.li, s.ba, s.D, st, hu⟩ = putS ⟨s.lv, X * 3, extI Y Z, false, 0, s.li, s.ba, s.D, st, hu⟩ from by simp [doS]]
  unfold putS; rw [if_pos (by simp [putB, e1, hli, carAt_pl hX hY hZ, hc])]; simp only [e2, e3, e4]
 simp only [hdo]; rw [pre_shut rfl]; refine Wi.drop hP (by simp [nextS, Go.Proofs.YtopgllmjeliklaaGreatDoor.nextC]) (by simp) ?_; refine Wi.le (Wi.reachTo (d := 1) (fun st hu h0 => ?_) (extI Y Z - 0).natAbs (extI Y Z) st hu h0 (fun e he => ?_) rfl) (by omega)
 ·exact Wi.last settled_shut (by simp [nextS, Go.Proofs.YtopgllmjeliklaaGreatDoor.nextC]) (k st hu h0)
 ·simp only [reachB, hl, Bool.and_eq_true, decide_eq_true_eq, Bool.or_eq_true, beq_iff_eq, Bool.true_and]
  refine ⟨by omega, Or.inr ?_⟩
  simp
theorem Wi.takeIn {s : St} (hP : ∀ τ, P τ → τ.gs = []) (iv : Inv s) (ge : Geo s) (hs : Settled b s) (hli : s.li = 0) (hb : s.ba ≠ 0) (k : ∀ st hu, 0 ≤ st → P ⟨⟨s.lv, 0, 0, false, 0, s.ba, 0, s.D, st, hu⟩, b, []⟩) : Wi m P 20 ⟨s, b, gTake⟩ := by
 have l4 := iv.ok.lv4; have l1 := iv.ok.lv1; refine Wi.le (d := (2 + 12) + 2) ?_ (by omega)
 show Wi m P _ ⟨s, b, (2, 0) :: (5, 0) :: [(1, 0), (7, 0)]⟩
 refine Wi.begin hP iv ge hs (by simp) (fun _ => Or.inl hli) fun st hu h0 => ?_
 rw [hli]; refine Wi.heightTo (d := 2) hP (by simp) (by omega) l4 h0 ⟨iv.ok.h0, iv.ok.h12⟩ fun st hu h0 => ?_
 refine Wi.go (d := 1) 110 h0 settled_shut (by simp [nextS, Go.Proofs.YtopgllmjeliklaaGreatDoor.nextC]) (by decide) (by simp [mayS, mayB, belowB, closedB, hb]) fun st h0 => ?_
 have hdo : doS 110 ⟨s.lv, 0, 0, false, 0, 0, s.ba, s.D, st, hu⟩ = ⟨s.lv, 0, 0, false, 0, s.ba, 0, s.D, st, hu || (false || (0 : Int) != 0)⟩ := by simp [doS, takeInS]
 simp only [hdo]; rw [pre_shut rfl]; exact Wi.last settled_shut (by simp [nextS, Go.Proofs.YtopgllmjeliklaaGreatDoor.nextC, hb]) (k st _ h0)
theorem settled_bay {lv h ex li ba st : Int} {D : DataW Unit} {hu : Bool} : Settled b ⟨lv, h, ex, true, 0, li, bay' b ba, D, st, hu⟩ := ⟨rfl, fun _ => by
 show bay' b ba = 0 ∨ waitsB b (bay' b ba) = true
 unfold bay'
 cases hw : waitsB b ba
 ·exact Or.inl rfl
 ·right; exact hw⟩
theorem Wi.giveOut {s : St} (hP : ∀ τ, P τ → τ.gs = []) (iv : Inv s) (ge : Geo s) (hs : Settled b s) (hli : s.li ≠ 0) (hb : s.ba = 0) (k : ∀ st hu, 0 ≤ st → P ⟨⟨s.lv, 0, 0, true, 0, 0, bay' b s.li, s.D, st, hu⟩, b, []⟩) : Wi m P 20 ⟨s, b, gGive⟩ := by
 have l4 := iv.ok.lv4; have l1 := iv.ok.lv1; refine Wi.le (d := (3 + 12) + 2) ?_ (by omega)
 show Wi m P _ ⟨s, b, (2, 0) :: (5, 0) :: [(1, 0), (8, 0), (6, 0)]⟩
 refine Wi.begin hP iv ge hs (by simp) (fun _ => Or.inr hli) fun st hu h0 => ?_
 rw [hb]; refine Wi.heightTo (d := 3) hP (by simp) (by omega) l4 h0 ⟨iv.ok.h0, iv.ok.h12⟩ fun st hu h0 => ?_
 refine Wi.go (d := 2) 120 h0 settled_shut (by simp [nextS, Go.Proofs.YtopgllmjeliklaaGreatDoor.nextC, hli]) (by decide) (by simp [mayS, mayB, belowB, closedB, hli]) fun st h0 => ?_
 have hdo : doS 120 ⟨s.lv, 0, 0, false, 0, s.li, 0, s.D, st, hu⟩ = ⟨s.lv, 0, 0, false, 0, 0, s.li, s.D, st, hu || (false || (0 : Int) != 0)⟩ := by simp [doS, giveOutS]
 simp only [hdo]; rw [pre_shut rfl]; refine Wi.drop hP (by simp [nextS, Go.Proofs.YtopgllmjeliklaaGreatDoor.nextC]) (by simp) ?_; refine Wi.go (d := 1) 111 h0 settled_shut (by simp [nextS, Go.Proofs.YtopgllmjeliklaaGreatDoor.nextC]) (by decide) (by simp [mayS, mayB, belowB]) fun st h0 => ?_
 have hdo2 : ∀ hu, doS 111 ⟨s.lv, 0, 0, false, 0, 0, s.li, s.D, st, hu⟩ = ⟨s.lv, 0, 0, true, 0, 0, s.li, s.D, st, hu || !decide ((0 : Int) = 0 ∧ (0 : Int) = 0)⟩ := fun hu => by simp [doS, Pl.openS]
 simp only [hdo2]; rw [pre_open]; exact Wi.last settled_bay (by simp [nextS, Go.Proofs.YtopgllmjeliklaaGreatDoor.nextC]) (k st _ h0)
theorem Wi.welcome {s : St} (hP : ∀ τ, P τ → τ.gs = []) (iv : Inv s) (ge : Geo s) (hs : Settled b s) (hli : s.li = 0) (k : ∀ st hu, 0 ≤ st → P ⟨⟨s.lv, 0, 0, true, 0, 0, bay' b s.ba, s.D, st, hu⟩, b, []⟩) : Wi m P 20 ⟨s, b, gWel⟩ := by
 have l4 := iv.ok.lv4; have l1 := iv.ok.lv1; refine Wi.le (d := (2 + 12) + 2) ?_ (by omega)
 show Wi m P _ ⟨s, b, (2, 0) :: (5, 0) :: [(1, 0), (6, 0)]⟩
 refine Wi.begin hP iv ge hs (by simp) (fun _ => Or.inl hli) fun st hu h0 => ?_
 rw [hli]; refine Wi.heightTo (d := 2) hP (by simp) (by omega) l4 h0 ⟨iv.ok.h0, iv.ok.h12⟩ fun st hu h0 => ?_
 refine Wi.go (d := 1) 111 h0 settled_shut (by simp [nextS, Go.Proofs.YtopgllmjeliklaaGreatDoor.nextC]) (by decide) (by simp [mayS, mayB, belowB]) fun st h0 => ?_
 have hdo2 : ∀ hu, doS 111 ⟨s.lv, 0, 0, false, 0, 0, s.ba, s.D, st, hu⟩ = ⟨s.lv, 0, 0, true, 0, 0, s.ba, s.D, st, hu || !decide ((0 : Int) = 0 ∧ (0 : Int) = 0)⟩ := fun hu => by simp [doS, Pl.openS]
 simp only [hdo2]; rw [pre_open]; exact Wi.last settled_bay (by simp [nextS, Go.Proofs.YtopgllmjeliklaaGreatDoor.nextC]) (k st _ h0)
theorem Wi.shut {s : St} (hP : ∀ τ, P τ → τ.gs = []) (iv : Inv s) (hs : Settled b s) (ho : s.op = true) (k : ∀ st hu, 0 ≤ st → P ⟨⟨s.lv, s.h, s.ex, false, 0, s.li, s.ba, s.D, st, hu⟩, b, []⟩) : Wi m P 20 ⟨s, b, [(5, 0)]⟩ := by
 obtain ⟨lv, h, ex, op, pe, li, ba, D, st, hu⟩ := s; have hpe : pe = 0 := hs.pe; simp only at ho; subst hpe ho; have h0 := iv.st.1; simp only at h0; refine Wi.le (Wi.go (d := 1) 99 h0 hs (by simp [nextS, Go.Proofs.YtopgllmjeliklaaGreatDoor.nextC]) (by decide) (by simp [mayS, mayB]) fun st' h0' => ?_) (by omega)
 have hdo : doS 99 ⟨lv, h, ex, true, 0, li, ba, D, st', hu⟩ = ⟨lv, h, ex, false, 0, li, ba, D, st', hu || (0 : Int) != 0⟩ := by simp [doS, shutS]
 simp only [hdo]; rw [pre_shut rfl]; exact Wi.last settled_shut (by simp [nextS, Go.Proofs.YtopgllmjeliklaaGreatDoor.nextC]) (k st' _ h0')
end
end Hs
end Go.Proofs.YtopgllmjeliklaaGreatDoor
