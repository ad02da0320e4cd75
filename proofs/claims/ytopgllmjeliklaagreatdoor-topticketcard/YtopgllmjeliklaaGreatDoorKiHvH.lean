/- HvH. -/
import Derived.Test.YtopgllmjeliklaaGreatDoorKiHvF
set_option maxRecDepth 100000
set_option linter.unusedSimpArgs false
set_option linter.unusedVariables false
namespace Go.Proofs.YtopgllmjeliklaaGreatDoor
open Go.Shelf Go.Lib Go.ChangeShapes Go.WideShapes Go.ChangeAt Go.RowKit Go.Maps
namespace Hs
open Bk Lg Pl Dk Tx Tn Ac
def Okg (m : Int) (g : Int × Int) : Prop := (g.1 = 1 → 0 ≤ g.2 ∧ g.2 ≤ m * 3) ∧ (g.1 = 2 → -2 ≤ g.2 ∧ g.2 ≤ 2)
def Og (m : Int) (gs : List (Int × Int)) : Prop := gs.length ≤ 6 ∧ ∀ g ∈ gs, Okg m g
theorem Og.nil (m : Int) : Og m [] := ⟨by decide, fun g h => by cases h⟩
theorem Og.tail {m : Int} {g : Int × Int} {l : List (Int × Int)} (h : Og m (g :: l)) : Og m l := ⟨by have := h.1; simp at this; omega, fun x hx => h.2 x (by simp [hx])⟩
theorem Og.follow {m : Int} : ∀ (gs : List (Int × Int)) (s : St), Og m gs → Og m (followS gs s).1
 | [], s, h => h
 | g :: l, s, h => by
   unfold followS
   split
   ·exact Og.follow l s h.tail
   ·split
    ·exact h
    ·exact Og.nil m
theorem og_there {m k X Y Z : Int} (hm : 1 ≤ m) (hk : k = 3 ∨ k = 4) (hX : 0 ≤ X ∧ X ≤ m) (hY : 0 ≤ Y ∧ Y ≤ 1) (hZ : 0 ≤ Z ∧ Z ≤ 1) : Og m (gThere k X Y Z) := by
 refine ⟨Nat.le_refl 6, fun g hg => ?_⟩
 have := ext_ne hY hZ; simp only [gThere, List.mem_cons, List.not_mem_nil, or_false] at hg
 rcases hg with rfl | rfl | rfl | rfl | rfl | rfl <;> unfold Okg <;> simp only <;> omega
theorem og_list {m : Int} (hm : 1 ≤ m) {l : List (Int × Int)} (h : l = gGive ∨ l = gWel ∨ l = gTake ∨ l = [(5, 0)] ∨ l = []) : Og m l := by
 have key : ∀ g ∈ l, g.2 = 0 := by
  rcases h with rfl | rfl | rfl | rfl | rfl <;> intro g hg <;> simp [gGive, gWel, gTake] at hg <;> (try (rcases hg with rfl | rfl | rfl | rfl | rfl)) <;> (try (rcases hg with rfl | rfl | rfl | rfl)) <;> simp_all
 refine ⟨?_, fun g hg => ?_⟩
 ·rcases h with rfl | rfl | rfl | rfl | rfl <;> decide
 ·have := key g hg
  unfold Okg; rw [this]
  omega
theorem Og.next {m : Nat} {b : PB} {s : St} {l : List (Int × Int)} (m14 : 1 ≤ m ∧ m ≤ 4) (ok : BookOK b.last m b.stays b.jobs) (iv : Inv s) (hlv : s.lv = m) (h : nextL b s m l) : Og m l := by
 have sf : SF m b.stays := stays_sf ok.s m14.1 m14.2; have hms := sf.m14; have h1 := hms.1; unfold nextL NextL at h
 rcases h with ⟨hl, rfl⟩ | ⟨hl, hs, rfl⟩ | ⟨_, _, _, rfl⟩ | ⟨hl, hs, hz, ho, ⟨hf, h⟩ | ⟨hf, rfl⟩⟩
 ·unfold unloadG
  cases hc : carO b.book s.li with
  | none => exact og_list h1 (Or.inl rfl)
  | some x =>
    obtain ⟨hx, hid⟩ := carO_some sf rfl hc; obtain ⟨hr, hm⟩ := sf.r x hx; simp only [unloadO]
    split
    ·exact og_list h1 (Or.inl rfl)
    ·split
     ·exact og_there h1 (Or.inr rfl) (by omega) (by omega) (by omega)
     ·exact og_there h1 (Or.inr rfl) ⟨by have := hr.1; omega, hm⟩ hr.2.1 hr.2.2
 ·exact og_there h1 (Or.inl rfl) (by omega) (by omega) (by omega)
 ·unfold welG; split
  ·exact og_list h1 (by simp)
  ·exact og_list h1 (by simp)
 ·unfold FetchP at h
  split at h
  ·rw [h]; unfold welG; split
   ·exact og_list h1 (by simp)
   ·exact og_list h1 (by simp)
  ·split at h
   ·rw [h]; exact og_list h1 (by simp)
   ·obtain ⟨x, y, z, ok', hw, ⟨_, rfl⟩ | ⟨rfl, hlx⟩⟩ := h
    ·exact og_list h1 (by simp)
    ·obtain ⟨v, hv, e1, e2, e3, e4⟩ := first_job sf ok s (vj_f hf)
     rw [e1] at hw; have hi := sf.i1 v hv; obtain ⟨hr, hxm, hc⟩ := where_at iv hlv (by omega) hw; rw [hlx]
     split
     ·exact og_there h1 (Or.inl rfl) ⟨by have := hr.1; omega, hxm⟩ hr.2.1 (by omega)
     ·exact og_there h1 (Or.inl rfl) ⟨by have := hr.1; omega, hxm⟩ hr.2.1 hr.2.2
 ·unfold putG; split
  ·exact og_list h1 (by simp)
  ·exact og_list h1 (by simp)
theorem Og.tick {m : Nat} {σ σ' : Sg} (w : Wf m σ) (o : Og m σ.gs) (h : TickR m σ σ') : Og m σ'.gs := by
 rcases h with ⟨_, rfl⟩ | ⟨hg, l, hl, rfl⟩ | ⟨hg, hc, rfl⟩
 ·exact o.follow σ.gs σ.s
 ·exact Og.follow l σ.s (Og.next w.m14 w.ok w.wg.iv w.wg.lv hl)
 ·exact Og.nil m
theorem Og.ticks {m : Nat} : ∀ (j : Nat) {σ σ' : Sg}, Wf m σ → Og m σ.gs → Ticks m j σ σ' → Og m σ'.gs
 | 0, σ, σ', _, o, ht => by rw [show σ' = σ from ht]; exact o
 | j + 1, σ, σ', h, o, ⟨τ, h1, h2⟩ => Og.tick (Wf.ticks j h h1) (Og.ticks j h o h1) h2
theorem Og.play {lv : List (Int × Int × Int)} {x : ActC} {σ σ' : Sg} (h : Wf lv.length σ) (o : Og lv.length σ.gs) (hp : PlayR lv x σ σ') : Og lv.length σ'.gs := by
 rcases hp with ⟨_, t, k, ⟨_, _, rfl, _⟩ | ⟨_, _, _, _, _, po, _, rfl⟩⟩ | ⟨k, ⟨_, rfl⟩⟩ | rfl | ⟨hk, rfl⟩ | ⟨j, _, hp⟩
 ·exact o
 ·exact o
 ·split
  ·exact o
  ·exact o
 ·exact Og.nil _
 ·exact o
 ·exact Og.ticks j h o hp
def mxg (g : Int × Int) : Nat := if g.1 = 1 then 12 else if g.1 = 2 then 4 else 1
def cost (g : Int × Int) (s : St) : Nat := if nextS g s = 45 then 0 else if g.1 = 1 then (s.h - g.2).natAbs else if g.1 = 2 then (s.ex - g.2).natAbs else 1
def Mg : List (Int × Int) → St → Nat
 | [], _ => 0
 | g :: l, s => cost g s + (l.map mxg).sum + 1
def pre (σ : Sg) : Sg := ⟨preS σ.b σ.s, σ.b, σ.gs⟩
def SetN (m : Nat) : Nat → Sg → Sg → Prop
 | 0, σ, σ' => σ' = σ
 | n + 1, σ, σ' => ∃ τ, SetN m n σ τ ∧ TickR m (pre τ) σ'
def EndR (m : Nat) (σ σ' : Sg) : Prop := SetN m 2500 σ σ' ∨ ∃ n τ, SetN m n σ τ ∧ σ' = pre τ ∧ Fin τ
end Hs
end Go.Proofs.YtopgllmjeliklaaGreatDoor
