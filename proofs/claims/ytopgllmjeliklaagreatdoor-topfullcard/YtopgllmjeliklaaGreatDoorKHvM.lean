/- HvM. -/
import Derived.Test.YtopgllmjeliklaaGreatDoorKCars
set_option maxRecDepth 100000
set_option linter.unusedSimpArgs false
set_option linter.unusedVariables false
namespace Go.Proofs.YtopgllmjeliklaaGreatDoor
open Go.Shelf Go.Lib Go.ChangeShapes Go.WideShapes Go.ChangeAt Go.RowKit Go.Maps
namespace Hs
open Bk Lg Pl Dk Tx Tn Ac
theorem PlayR.lastUp {lv : List (Int × Int × Int)} {x : ActC} {σ σ' : Sg} (h : PlayR lv x σ σ') : σ'.b.last ≤ σ.b.last + 1 := by
 rcases h with ⟨_, t, k, h⟩ | ⟨k, h⟩ | rfl | ⟨_, rfl⟩ | ⟨j, _, h⟩
 ·rcases h.last with ⟨_, _, rfl⟩ | ⟨_, _, e⟩ <;> omega
 ·have := h.last; omega
 ·show σ.b.last ≤ σ.b.last + 1; omega
 ·show σ.b.last ≤ σ.b.last + 1; omega
 ·have := Ticks.last j h; omega
theorem SetN.last {m : Nat} : ∀ (n : Nat) {σ σ' : Sg}, SetN m n σ σ' → σ'.b.last = σ.b.last
 | 0, σ, σ', h => by rw [show σ' = σ from h]
 | n + 1, σ, σ', ⟨τ, h1, h2⟩ => by
   rw [h2.last]; exact (SetN.last n h1 : τ.b.last = σ.b.last)
theorem EndR.last {m : Nat} {σ σ' : Sg} (h : EndR m σ σ') : σ'.b.last = σ.b.last := by
 rcases h with h | ⟨n, τ, h, rfl, _⟩
 ·exact SetN.last 2500 h
 ·exact (SetN.last n h : τ.b.last = σ.b.last)
theorem Fin.newcar {m : Nat} {σ : Sg} (w : Wf m σ) (f : Fin σ) {ci : Int} (h : arriveB ci σ.s = true) {v : Stay} (hv : v ∈ σ.b.stays) : v.id ≠ ci := fun e => by
 have hh := f.home w hv; obtain ⟨r1, r2, r3⟩ := (w.sf.r v hv).1; have hi := w.sf.i1 v hv; have hat : atB σ.s.D ci = true := atB_iff.2 ⟨v.x, v.y, v.z, ⟨r1, r2, r3⟩, hh.trans e⟩; unfold arriveB hasB at h; rw [hat] at h
 simp at h
 omega
theorem full_park {m : Nat} {σ : Sg} (w : Wf m σ) (f : Fin σ) {ci ca cb cc : Int} (g : Nat → Int × Int × Int) (h : arriveB ci σ.s = true) (hc : carN ci ca cb cc = 0) (hl : σ.b.last < 999999) (len : Nat) :
  parkN σ.b.book g len ci ca cb cc = if (pickO σ.b.book g ca cb cc len).isSome = false then 8 else 0 := by
 have h0 : ¬ 0 ≤ ofI σ.b.book ci := fun k => by
  have e := stayIdx_nonneg (fun s => s.id == ci) σ.b.book.stays
  have k' : 0 ≤ stayIdx (fun s => s.id == ci) σ.b.book.stays := k
  rw [decide_eq_true k'] at e; obtain ⟨v, hv, q⟩ := List.any_eq_true.1 e.symm; exact f.newcar w h hv (by simpa using q)
 have e : σ.b.book.last = σ.b.last := rfl; have e2 : σ.b.book.jobs = [] := f.js; unfold parkN; rw [if_neg (by rw [hc]; simp), if_neg h0, e, e2]
 by_cases q : (pickO σ.b.book g ca cb cc len).isSome = false
 ·rw [if_pos (Or.inl q), if_pos q]
 ·rw [if_neg q, if_neg (by
   rintro (h | h | h)
   ·exact q h
   ·omega
   ·simp at h)]
end Hs
end Go.Proofs.YtopgllmjeliklaaGreatDoor
