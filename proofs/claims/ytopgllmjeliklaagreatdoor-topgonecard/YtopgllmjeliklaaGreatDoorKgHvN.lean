/- HvN. -/
import Derived.Test.YtopgllmjeliklaaGreatDoorKgCars
set_option maxRecDepth 100000
set_option linter.unusedSimpArgs false
set_option linter.unusedVariables false
namespace Go.Proofs.YtopgllmjeliklaaGreatDoor
open Go.Shelf Go.Lib Go.ChangeShapes Go.WideShapes Go.ChangeAt Go.RowKit Go.Maps
namespace Hs
open Bk Lg Pl Dk Tx Tn Ac
theorem follow_cnt : ∀ (gs : List (Int × Int)) {s : St}, Inv s → ∀ x, x ≠ 0 → cnt (followS gs s).2 x = cnt s x
 | [], s, _, _, _ => rfl
 | g :: l, s, iv, x, hx => by
   unfold followS
   split
   ·exact follow_cnt l iv x hx
   ·split
    ·exact cnt_step iv _ x hx
    ·rfl
theorem TickR.cnt {m : Nat} {σ σ' : Sg} (h : TickR m σ σ') (iv : Inv σ.s) : Inv σ'.s ∧ ∀ x, x ≠ 0 → Pl.cnt σ'.s x = Pl.cnt σ.s x := by
 rcases h with ⟨_, rfl⟩ | ⟨_, l, _, rfl⟩ | ⟨_, _, rfl⟩
 ·exact ⟨follow_inv _ iv, follow_cnt _ iv⟩
 ·exact ⟨follow_inv _ iv, follow_cnt _ iv⟩
 ·exact ⟨iv, fun _ _ => rfl⟩
theorem Ticks.cnt {m : Nat} : ∀ (j : Nat) {σ σ' : Sg}, Ticks m j σ σ' → Inv σ.s → Inv σ'.s ∧ ∀ x, x ≠ 0 → Pl.cnt σ'.s x = Pl.cnt σ.s x
 | 0, σ, σ', h, iv => by rw [show σ' = σ from h]; exact ⟨iv, fun _ _ => rfl⟩
 | j + 1, σ, σ', ⟨τ, h1, h2⟩, iv => by
   obtain ⟨a, b⟩ := Ticks.cnt j h1 iv; obtain ⟨c, d⟩ := h2.cnt a; exact ⟨c, fun x hx => (d x hx).trans (b x hx)⟩
theorem PlayR.cnt {lv : List (Int × Int × Int)} {x : ActC} {σ σ' : Sg} (h : PlayR lv x σ σ') (iv : Inv σ.s) (ka : (x.kind.toList == [97, 114, 114, 105, 118, 101]) = false) (kl : (x.kind.toList == [108, 101, 97, 118, 101]) = false) : ∀ y, y ≠ 0 → Pl.cnt σ'.s y = Pl.cnt σ.s y := by
 rcases h with ⟨_, t, k, h⟩ | ⟨k, h⟩ | rfl | ⟨_, rfl⟩ | ⟨j, _, h⟩
 ·rcases h with ⟨_, _, rfl, _⟩ | ⟨_, _, _, _, _, po, _, rfl⟩ <;> exact fun _ _ => rfl
 ·obtain ⟨_, rfl⟩ := h
  split <;> exact fun _ _ => rfl
 ·exact fun _ _ => rfl
 ·exact fun y hy => cnt_out iv x y hy ka kl
 ·exact (Ticks.cnt j h iv).2
structure Gone (s : St) (l : List Int) : Prop where
 u : Uniq s
 c : ∀ x, l.count x = if x = 0 then 0 else Pl.cnt s x
theorem Gone.start (lv : Int) : Gone (newS lv) [] := ⟨Uniq.new lv, fun x => by
 by_cases hx : x = 0
 ·rw [if_pos hx]; rfl
 ·rw [if_neg hx]
  have h : ∀ j, Pl.carN (newS lv) j = 0 := fun j => carOf_of rfl
  have h2 : countN (Pl.carN (newS lv)) x 16 = 0 := by
   rcases Nat.eq_zero_or_pos (countN (Pl.carN (newS lv)) x 16) with h0 | h0
   ·exact h0
   ·obtain ⟨j, _, e⟩ := (countN_pos 16).1 h0
    rw [h j] at e; omega
  show 0 = _
  simp only [Pl.cnt, newS, h2] at h2 ⊢; rw [one_ne (a := 0) (by omega)]⟩
theorem Gone.same {s s' : St} {l : List Int} (h : Gone s l) (e : ∀ x, x ≠ 0 → Pl.cnt s' x = Pl.cnt s x) : Gone s' l := ⟨h.u.of e, fun x => by
 rw [h.c]
 split
 ·rfl
 ·rename_i hx; exact (e x hx).symm⟩
theorem Gone.arrive {s : St} {l : List Int} {id : Int} (h : Gone s l) (ha : arriveB id s = true) : Gone (arriveS id s) (l ++ [id]) := ⟨h.u.arrive id ha, fun y => by
 have h1 : id ≠ 0 := by simp only [arriveB, Bool.and_eq_true, decide_eq_true_eq] at ha; omega
 rw [List.count_append, h.c]
 split
 ·rename_i h; subst h; simp [List.count_cons, h1]
 ·rename_i h; rw [cnt_arrive id y h ha]; simp [List.count_cons, Pl.one]⟩
theorem Gone.leave {s : St} {l : List Int} (h : Gone s l) (hl : leaveB s = true) : Gone (leaveS s) (l.filter (fun z => z != s.ba)) := ⟨fun y hy => by have := cnt_leave y hy hl; have := h.u y hy; omega, fun y => by
 by_cases e : y = s.ba
 ·subst e
  have h0 : s.ba ≠ 0 := by simp only [leaveB, Bool.and_eq_true, bne_iff_ne] at hl; exact hl.2
  have h1 := cnt_leave s.ba h0 hl; have h2 := h.u s.ba h0; rw [one_self] at h1; rw [if_neg h0, List.count_eq_zero.2 (by simp)]
  omega
 ·rw [List.count_filter (by simp [e]), h.c]
  split
  ·rfl
  ·rename_i h
   have := cnt_leave y h hl; rw [one_ne (fun h => e h.symm)] at this
   omega⟩
theorem Gone.len {s : St} {l : List Int} (h : Gone s l) : (carsL s).length = l.length ∧ (∀ x, (carsL s).count x = l.count x) ∧ l.length ≤ 18 := by
 obtain ⟨a, b⟩ := alike_of h.c; exact ⟨a, b, by rw [← a]; exact carsTo_le s 16⟩
end Hs
end Go.Proofs.YtopgllmjeliklaaGreatDoor
