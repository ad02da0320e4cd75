/- Chapter 6: what the document reads a text as, and what the program does, are one (pure). -/
import Derived.Test.YtkgicpialdhnhaaDoorTextQ
namespace Go.Proofs.YtkgicpialdhnhaaDoor
open Go.Shelf Go.ChangeShapes Go.WideShapes Go.ChangeAt Go.RowKit
set_option maxRecDepth 100000
set_option linter.unusedSimpArgs false
set_option linter.unusedVariables false

namespace Tx
open Bk
/-- The words of a text, behind one that is begun. -/
def wordsP : List UInt8 → List UInt8 → List (List UInt8)
  | [], v => [v]
  | b :: r, v => if b = 32 then v :: wordsP r [] else wordsP r (v ++ [b])
theorem wordsP_ne : ∀ (l v : List UInt8), wordsP l v ≠ []
  | [], v => by simp [wordsP]
  | b :: r, v => by
    unfold wordsP
    split
    · simp
    · exact wordsP_ne r _
theorem wordsP_len : ∀ (l v : List UInt8), (wordsP l v).length ≤ l.length + 1
  | [], v => by simp [wordsP]
  | b :: r, v => by
    unfold wordsP
    split
    · have := wordsP_len r []
      simp only [List.length_cons]; omega
    · have := wordsP_len r (v ++ [b])
      simp only [List.length_cons]; omega
theorem join_wordsP : ∀ (l v : List UInt8), Lib.join (wordsP l v) [32] = v ++ l
  | [], v => by rw [wordsP, Lib.join_one, List.append_nil]
  | b :: r, v => by
    unfold wordsP
    split
    · rename_i hb
      subst hb
      have ih := join_wordsP r []
      have hn := wordsP_ne r []
      generalize wordsP r [] = L at *
      cases L with
      | nil => exact absurd rfl hn
      | cons x xs => rw [join_two, ih]; rfl
    · rw [join_wordsP r (v ++ [b])]; simp
theorem wordsP_no : ∀ (x v r : List UInt8), (32 : UInt8) ∉ x → wordsP (x ++ r) v = wordsP r (v ++ x)
  | [], v, r, _ => by simp
  | b :: x, v, r, h => by
    rw [List.cons_append, wordsP, if_neg (fun e => h (by simp [e])), wordsP_no x (v ++ [b]) r (fun hm => h (by simp [hm]))]
    simp
theorem wordsP_join : ∀ (ws : List (List UInt8)), ws ≠ [] → (∀ w ∈ ws, (32 : UInt8) ∉ w) → wordsP (Lib.join ws [32]) [] = ws
  | [], h, _ => absurd rfl h
  | [x], _, h => by
    rw [Lib.join_one]
    have := wordsP_no x [] [] (h x (by simp))
    rw [List.append_nil, List.nil_append] at this
    rw [this, wordsP]
  | x :: y :: r, _, h => by
    rw [join_two, wordsP_no x [] _ (h x (by simp)), wordsP, if_pos rfl, wordsP_join (y :: r) (by simp) (fun w hw => h w (by simp [hw])), List.nil_append]

/-- A natural number's text: no nought ahead; else -1. -/
def natHead (l : List UInt8) : Bool := decide (l.length < 1) || (decide (9 < l.length) || (l.getD 0 0 == 48 && decide (1 < l.length)))
def natP (l : List UInt8) : Int := if natHead l = true then -1 else match Lib.decFrom 0 l with
  | none => -1
  | some n => if n ≤ 999999 then (n : Int) else -1
theorem digits_head {u : Nat} (h : 0 < u) : ∀ b r, Lib.decDigits u = b :: r → b ≠ 48 := by
  induction u using Nat.strongRecOn with
  | _ u ih =>
    intro b r e hb
    subst hb
    by_cases h10 : u < 10
    · rw [Lib.decDigits_one h10] at e
      simp only [List.cons.injEq] at e
      have e2 := congrArg UInt8.toNat e.1
      rw [digit_ofNat h10] at e2
      have : (48 : UInt8).toNat = 48 := rfl
      omega
    · rw [Lib.decDigits, dif_neg h10] at e
      have hne := digits_ne (u / 10)
      generalize hd : Lib.decDigits (u / 10) = l at *
      cases l with
      | nil => exact absurd rfl hne
      | cons c t =>
        simp only [List.cons_append, List.cons.injEq] at e
        exact ih (u / 10) (by omega) (by omega) c t hd e.1
theorem digits_of : ∀ (n : Nat) (l : List UInt8) (u : Nat), l.length = n → l ≠ [] → (l.getD 0 0 = 48 → l.length = 1) → Lib.decFrom 0 l = some u → l = Lib.decDigits u := by
  intro n
  induction n with
  | zero => intro l u hl hne; exact absurd (List.length_eq_zero_iff.1 hl) hne
  | succ n ih =>
    intro l u hl hne hh hd
    obtain ⟨l', b, rfl⟩ : ∃ l' b, l = l' ++ [b] := ⟨l.dropLast, l.getLast hne, (List.dropLast_concat_getLast hne).symm⟩
    rw [decFrom_snoc] at hd
    cases h1 : Lib.decFrom 0 l' with
    | none => rw [h1] at hd; cases hd
    | some m =>
      rw [h1] at hd
      simp only [Option.bind_some] at hd
      cases h2 : Lib.digitVal b with
      | none => rw [h2] at hd; cases hd
      | some d =>
        rw [h2] at hd
        simp only [Option.map_some, Option.some.injEq] at hd
        have hb : d < 10 ∧ b = UInt8.ofNat (48 + d) := by
          unfold Lib.digitVal at h2
          split at h2
          · rename_i hr
            simp only [Option.some.injEq] at h2
            refine ⟨by omega, ?_⟩
            apply UInt8.toNat_inj.1
            rw [digit_ofNat (by omega)]
            omega
          · cases h2
        obtain ⟨hd10, rfl⟩ := hb
        cases l' with
        | nil =>
          simp only [Lib.decFrom, Option.some.injEq] at h1
          subst h1
          rw [show u = d from by omega, Lib.decDigits_one hd10]
          rfl
        | cons c t =>
          have hc : c ≠ 48 := fun e => by
            have := hh (by rw [e]; rfl)
            simp at this
          have ih' := ih (c :: t) m (by simpa using hl) (by simp) (fun e => absurd e hc) h1
          have hm : 0 < m := by
            rcases Nat.eq_zero_or_pos m with h0 | h0
            · subst h0
              rw [Lib.decDigits_one (by decide)] at ih'
              simp only [List.cons.injEq] at ih'
              exact absurd ih'.1 hc
            · exact h0
          have hu : ¬ u < 10 := by omega
          rw [Lib.decDigits, dif_neg hu, show u / 10 = m from by omega, ← ih', show u % 10 = d from by omega]
theorem natP_some {l : List UInt8} (h : 0 ≤ natP l) : l = Lib.itoa (natP l) ∧ natP l ≤ 999999 := by
  unfold natP at h ⊢
  split at h
  · exact absurd h (by decide)
  · rename_i hh
    rw [if_neg hh]
    unfold natHead at hh
    simp only [Bool.or_eq_true, decide_eq_true_eq, Bool.and_eq_true, beq_iff_eq, not_or, not_and] at hh
    cases hd : Lib.decFrom 0 l with
    | none => rw [hd] at h; exact absurd h (by decide)
    | some n =>
      rw [hd] at h
      simp only at h ⊢
      split at h
      · rename_i hn
        rw [if_pos hn, itoa_pos (by omega), Int.toNat_natCast]
        exact ⟨digits_of _ l n rfl (by intro e; rw [e] at hh; simp at hh) (fun e => by have := hh.2.2 e; omega) hd, by omega⟩
      · exact absurd h (by decide)
theorem natP_itoa {n : Int} (h0 : 0 ≤ n) (h1 : n ≤ 999999) : natP (Lib.itoa n) = n := by
  rw [itoa_pos h0]
  have hl := digits_len 5 n.toNat (by omega)
  have hne := digits_ne n.toNat
  have hd := decFrom_digits n.toNat
  unfold natP
  have hh : natHead (Lib.decDigits n.toNat) = false := by
    unfold natHead
    rcases Nat.eq_zero_or_pos n.toNat with e | e
    · rw [e, Lib.decDigits_one (by decide)]; rfl
    · have hx := digits_head e
      generalize Lib.decDigits n.toNat = l at *
      cases l with
      | nil => exact absurd rfl hne
      | cons c t =>
        have hc := hx c t rfl
        have h1 : ((c :: t : List UInt8).getD 0 0 == 48) = false := beq_eq_false_iff_ne.2 hc
        rw [h1]
        simp only [Bool.false_and, Bool.or_false, Bool.or_eq_false_iff, decide_eq_false_iff_not, List.length_cons] at hl ⊢
        omega
  rw [hh, hd]
  simp only [Bool.false_eq_true, if_false]
  rw [if_pos (by omega)]
  omega

/-- The jobs' marks are 0 or 1. -/
def flagsOK : Nat → List Int → Bool
  | 0, _ => true
  | k + 1, L => decide (L.getD 1 0 ≤ 1) && flagsOK k (L.drop 2)
/-- As many numbers as the counts say. -/
def countB (L : List Int) : Bool := decide (L.length < 3) || decide ((L.length : Int) ≠ 3 + 8 * L.getD 1 0 + 2 * L.getD 2 0)
def refB (L : List Int) : Option PB :=
  if countB L = true then none else
  if flagsOK (L.getD 2 0).toNat (L.drop (3 + 8 * (L.getD 1 0).toNat)) = true then some ⟨L.getD 0 0, staysP (L.getD 1 0).toNat (L.drop 3), jobsP (L.getD 2 0).toNat (L.drop (3 + 8 * (L.getD 1 0).toNat))⟩ else none
/-- What the document reads a text as. -/
def refP (s : List UInt8) (n : Nat) : Option PB :=
  if (wordsP s []).all (fun x => decide (0 ≤ natP x)) = true then (refB ((wordsP s []).map natP)).bind fun b => if bookN b.book n = 0 then some b else none else none
theorem stay8 (L : List Int) (h : 8 ≤ L.length) : stayNs (stayP L) = L.take 8 := by
  match L, h with
  | a :: b :: c :: d :: e :: f :: g :: i :: r, _ => rfl
theorem job2 (L : List Int) (h : 2 ≤ L.length) (h0 : 0 ≤ L.getD 1 0) (h1 : L.getD 1 0 ≤ 1) : jobNs (jobP L) = L.take 2 := by
  match L, h with
  | a :: b :: r, _ =>
    have e1 : (a :: b :: r).getD 1 0 = b := rfl
    rw [e1] at h0 h1
    show [a, if decide (b = 1) = true then 1 else 0] = [a, b]
    by_cases hb : b = 1
    · rw [hb]; rfl
    · have : b = 0 := by omega
      rw [this]; rfl
theorem stays_back : ∀ (k : Nat) (L : List Int), 8 * k ≤ L.length → (staysP k L).flatMap stayNs = L.take (8 * k)
  | 0, L, _ => by simp [staysP]
  | k + 1, L, h => by
    rw [staysP, List.flatMap_cons, stay8 L (by omega), stays_back k (L.drop 8) (by rw [List.length_drop]; omega), show 8 * (k + 1) = 8 + 8 * k from by omega, List.take_add]
theorem jobs_back : ∀ (k : Nat) (L : List Int), 2 * k ≤ L.length → (∀ x ∈ L, 0 ≤ x) → flagsOK k L = true → (jobsP k L).flatMap jobNs = L.take (2 * k)
  | 0, L, _, _, _ => by simp [jobsP]
  | k + 1, L, h, hp, hf => by
    unfold flagsOK at hf
    simp only [Bool.and_eq_true, decide_eq_true_eq] at hf
    have h1 : 0 ≤ L.getD 1 0 := by
      rw [List.getD_eq_getElem?_getD, List.getElem?_eq_getElem (by omega)]
      exact hp _ (List.getElem_mem _)
    rw [jobsP, List.flatMap_cons, job2 L (by omega) h1 hf.1, jobs_back k (L.drop 2) (by rw [List.length_drop]; omega) (fun x hx => hp x (List.mem_of_mem_drop hx)) hf.2, show 2 * (k + 1) = 2 + 2 * k from by omega, List.take_add]
theorem nums_back {L : List Int} {b : PB} (hp : ∀ x ∈ L, 0 ≤ x) (h : refB L = some b) : L = numsOf b.last b.stays b.jobs := by
  unfold refB at h
  split at h
  · cases h
  · rename_i hc
    split at h
    · rename_i hf
      simp only [Option.some.injEq] at h
      subst h
      unfold countB at hc
      simp only [Bool.or_eq_true, decide_eq_true_eq, not_or, Decidable.not_not] at hc
      obtain ⟨h3, hl⟩ := hc
      have h3' : 3 ≤ L.length := by omega
      have e1 : 0 ≤ L.getD 1 0 := by
        rw [List.getD_eq_getElem?_getD, List.getElem?_eq_getElem (by omega)]
        exact hp _ (List.getElem_mem _)
      have e2 : 0 ≤ L.getD 2 0 := by
        rw [List.getD_eq_getElem?_getD, List.getElem?_eq_getElem (by omega)]
        exact hp _ (List.getElem_mem _)
      obtain ⟨A, hA⟩ : ∃ A : Nat, L.getD 1 0 = (A : Int) := ⟨(L.getD 1 0).toNat, by omega⟩
      obtain ⟨B, hB⟩ : ∃ B : Nat, L.getD 2 0 = (B : Int) := ⟨(L.getD 2 0).toNat, by omega⟩
      rw [hA, hB] at hl
      rw [hA, hB] at hf
      simp only [Int.toNat_natCast] at hf
      show L = numsOf _ _ _
      rw [hA, hB]
      simp only [Int.toNat_natCast]
      have s1 := stays_back A (L.drop 3) (by rw [List.length_drop]; omega)
      have s2 := jobs_back B (L.drop (3 + 8 * A)) (by rw [List.length_drop]; omega) (fun x hx => hp x (List.mem_of_mem_drop hx)) hf
      unfold numsOf
      have l1 : (staysP A (L.drop 3)).length = A := staysP_len _ _
      have l2 : (jobsP B (L.drop (3 + 8 * A))).length = B := jobsP_len _ _
      rw [l1, l2, s1, s2, ← hA, ← hB]
      have e3 : [L.getD 0 0, L.getD 1 0, L.getD 2 0] = L.take 3 := by
        match L, h3' with
        | a :: b :: c :: r, _ => rfl
      rw [e3, List.append_assoc, ← List.drop_drop, show (L.drop 3).drop (8 * A) = (L.drop 3).drop (8 * A) from rfl]
      have e4 : ((L.drop 3).drop (8 * A)).take (2 * B) = (L.drop 3).drop (8 * A) := List.take_of_length_le (by rw [List.length_drop, List.length_drop]; omega)
      rw [e4, List.take_append_drop, List.take_append_drop]
    · cases h
theorem flags_ns : ∀ (l : List Job), flagsOK l.length (l.flatMap jobNs) = true
  | [] => rfl
  | j :: l => by
    rw [List.flatMap_cons, List.length_cons, flagsOK]
    have e1 : (jobNs j ++ l.flatMap jobNs).drop 2 = l.flatMap jobNs := rfl
    rw [e1, flags_ns l]
    obtain ⟨t, f⟩ := j
    cases f <;> rfl
theorem refB_nums (last : Int) (stays : List Stay) (jobs : List Job) : refB (numsOf last stays jobs) = some ⟨last, stays, jobs⟩ := by
  have hl := nums_len last stays jobs
  have e0 : (numsOf last stays jobs).getD 0 0 = last := rfl
  have e1 : (numsOf last stays jobs).getD 1 0 = (stays.length : Int) := rfl
  have e2 : (numsOf last stays jobs).getD 2 0 = (jobs.length : Int) := rfl
  have e3 : (numsOf last stays jobs).drop 3 = stays.flatMap stayNs ++ jobs.flatMap jobNs := rfl
  have e4 : (numsOf last stays jobs).drop (3 + 8 * stays.length) = jobs.flatMap jobNs := by
    rw [← List.drop_drop, e3, ← stays_flat, List.drop_left]
  unfold refB
  rw [if_neg (by unfold countB; rw [e1, e2, hl]; simp only [Bool.or_eq_true, decide_eq_true_eq]; omega), e0, e1, e2]
  simp only [Int.toNat_natCast]
  rw [e4, if_pos (flags_ns jobs), e3, staysP_ns]
  have := jobsP_ns jobs []
  rw [List.append_nil] at this
  rw [this]
theorem all_nat {ws : List (List UInt8)} (h : ws.all (fun x => decide (0 ≤ natP x)) = true) : ws = (ws.map natP).map Lib.itoa ∧ ∀ x ∈ ws.map natP, 0 ≤ x ∧ x ≤ 999999 := by
  induction ws with
  | nil => simp
  | cons x r ih =>
    simp only [List.all_cons, Bool.and_eq_true, decide_eq_true_eq] at h
    obtain ⟨i1, i2⟩ := ih h.2
    obtain ⟨j1, j2⟩ := natP_some h.1
    constructor
    · rw [List.map_cons, List.map_cons, ← j1, ← i1]
    · intro y hy
      rcases List.mem_cons.1 hy with rfl | hy
      · exact ⟨h.1, j2⟩
      · exact i2 y hy
theorem map_natP {ns : List Int} (h : ∀ x ∈ ns, 0 ≤ x ∧ x ≤ 999999) : (ns.map Lib.itoa).map natP = ns := by
  rw [List.map_map]
  conv => rhs; rw [← List.map_id ns]
  apply List.map_congr_left
  intro x hx
  exact natP_itoa (h x hx).1 (h x hx).2
/-- The document's reading is the program's. -/
theorem ref_parse (s : ByteArray) (n : Nat) (hn : n ≤ 4) : refP s.data.toList n = parseP s n := by
  have key : ∀ b, refP s.data.toList n = some b ↔ parseP s n = some b := by
    intro b
    constructor
    · intro h
      unfold refP at h
      split at h
      · rename_i ha
        obtain ⟨h1, h2⟩ := all_nat ha
        cases hr : refB ((wordsP s.data.toList []).map natP) with
        | none => rw [hr] at h; cases h
        | some b' =>
          rw [hr] at h
          simp only [Option.bind_some] at h
          split at h
          · rename_i hb
            simp only [Option.some.injEq] at h
            subst h
            have h3 := nums_back (fun x hx => (h2 x hx).1) hr
            have h4 := join_wordsP s.data.toList []
            rw [h1, h3, List.nil_append] at h4
            obtain ⟨last, stays, jobs⟩ := b'
            have hok : BookOK last n stays jobs := (bookN_zero _ _).1 hb
            have := parse_text hn hok
            have e : (⟨(textL last stays jobs).toArray⟩ : ByteArray) = s := by
              show (⟨(Lib.join ((numsOf last stays jobs).map Lib.itoa) [32]).toArray⟩ : ByteArray) = s
              rw [show Lib.join ((numsOf last stays jobs).map Lib.itoa) [32] = s.data.toList from h4]
            rwa [e] at this
          · cases h
      · cases h
    · intro h
      have h0 := h
      unfold parseP at h
      cases h1 : numsP s with
      | none => rw [h1] at h; cases h
      | some L =>
        rw [h1] at h
        simp only [Option.bind_some] at h
        cases h2 : fromP L with
        | none => rw [h2] at h; cases h
        | some b' =>
          rw [h2] at h
          simp only [Option.bind_some] at h
          split at h
          · rename_i hb
            simp only [Option.some.injEq] at h
            subst h
            obtain ⟨last, stays, jobs⟩ := b'
            have hok : BookOK last n stays jobs := (bookN_zero _ _).1 hb.1
            have ht : Lib.join ((numsOf last stays jobs).map Lib.itoa) [32] = s.data.toList := hb.2
            have hns := ok_nums hn hok
            have hw : wordsP s.data.toList [] = (numsOf last stays jobs).map Lib.itoa := by
              rw [← ht]
              refine wordsP_join _ ?_ ?_
              · intro e
                have := nums_len last stays jobs
                rw [List.map_eq_nil_iff] at e
                rw [e] at this
                simp at this
                omega
              · intro w hw
                obtain ⟨k, hk, rfl⟩ := List.mem_map.1 hw
                exact no32 (hns k hk).1
            unfold refP
            rw [hw, map_natP hns, refB_nums]
            rw [if_pos (by
              rw [List.all_map, List.all_eq_true]
              intro k hk
              have := hns k hk
              simp only [Function.comp, decide_eq_true_eq]
              rw [natP_itoa this.1 this.2]
              exact this.1)]
            simp only [Option.bind_some]
            rw [if_pos hb.1]
          · cases h
  cases h1 : refP s.data.toList n with
  | some b => exact ((key b).1 h1).symm
  | none =>
    cases h2 : parseP s n with
    | some b => rw [(key b).2 h2] at h1; cases h1
    | none => rfl

end Tx
end Go.Proofs.YtkgicpialdhnhaaDoor
