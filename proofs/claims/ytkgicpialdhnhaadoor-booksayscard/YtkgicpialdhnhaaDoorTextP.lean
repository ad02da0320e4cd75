/- Chapter 6: the numbers of a text, and back; pure. -/
import Derived.Test.YtkgicpialdhnhaaDoorRead
import Derived.Test.YtkgicpialdhnhaaDoorBookPure
import Derived.Lib.AtoiTie
import Derived.Lib.IndexBytes
namespace Go.Proofs.YtkgicpialdhnhaaDoor
open Go.Shelf Go.ChangeShapes Go.WideShapes Go.ChangeAt Go.RowKit
set_option maxRecDepth 100000
set_option linter.unusedSimpArgs false
set_option linter.unusedVariables false

namespace Tx
open Bk
theorem decFrom_snoc : ∀ (l : List UInt8) (acc : Nat) (b : UInt8), Lib.decFrom acc (l ++ [b]) = (Lib.decFrom acc l).bind fun n => (Lib.digitVal b).map fun d => n * 10 + d
  | [], acc, b => by
    simp only [List.nil_append, Lib.decFrom, Option.bind_some]
    cases Lib.digitVal b <;> rfl
  | a :: t, acc, b => by
    simp only [List.cons_append, Lib.decFrom]
    cases Lib.digitVal a with
    | none => rfl
    | some d => exact decFrom_snoc t _ b
theorem digit_ofNat {d : Nat} (h : d < 10) : (UInt8.ofNat (48 + d)).toNat = 48 + d := by
  simp only [UInt8.toNat_ofNat']
  omega
theorem digitVal_ofNat {d : Nat} (h : d < 10) : Lib.digitVal (UInt8.ofNat (48 + d)) = some d := by
  unfold Lib.digitVal
  rw [digit_ofNat h, if_pos (by omega)]
  congr 1
  omega
theorem decFrom_digits (u : Nat) : Lib.decFrom 0 (Lib.decDigits u) = some u := by
  induction u using Nat.strongRecOn with
  | _ u ih =>
    by_cases h : u < 10
    · rw [Lib.decDigits_one h]
      unfold Lib.decFrom
      rw [digitVal_ofNat h]
      simp only [Nat.zero_mul, Nat.zero_add]
      rfl
    · rw [Lib.decDigits, dif_neg h, decFrom_snoc, ih (u / 10) (by omega), digitVal_ofNat (by omega)]
      simp only [Option.bind_some, Option.map_some, Option.some.injEq]
      omega
theorem digits_mem (u : Nat) : ∀ b ∈ Lib.decDigits u, 48 ≤ b.toNat ∧ b.toNat ≤ 57 := by
  induction u using Nat.strongRecOn with
  | _ u ih =>
    intro b hb
    by_cases h : u < 10
    · rw [Lib.decDigits_one h] at hb
      simp only [List.mem_singleton] at hb
      subst hb
      rw [digit_ofNat h]
      omega
    · rw [Lib.decDigits, dif_neg h] at hb
      rcases List.mem_append.1 hb with hb | hb
      · exact ih (u / 10) (by omega) b hb
      · simp only [List.mem_singleton] at hb
        subst hb
        rw [digit_ofNat (by omega)]
        omega
theorem digits_len : ∀ (k u : Nat), u < 10 ^ (k + 1) → (Lib.decDigits u).length ≤ k + 1
  | 0, u, h => by rw [Lib.decDigits_one (by simpa using h)]; simp
  | k + 1, u, h => by
    by_cases h1 : u < 10
    · rw [Lib.decDigits_one h1]; simp
    · rw [Lib.decDigits, dif_neg h1, List.length_append, List.length_singleton]
      have := digits_len k (u / 10) (by rw [Nat.pow_succ] at h; omega)
      omega
theorem digits_ne (u : Nat) : Lib.decDigits u ≠ [] := by
  intro e
  have := decFrom_digits u
  have hl : (Lib.decDigits u).length = 0 := by rw [e]; rfl
  rw [Lib.decDigits_length] at hl
  have := Lib.nDigits_pos u
  omega
theorem atoi_digits (u : Nat) (h : u ≤ 999999) : Lib.atoiAll (Lib.decDigits u) = .ok (u : Int) := by
  have hl := digits_len 5 u (by omega)
  rw [Lib.atoiAll_short _ (by omega)]
  have hm := digits_mem u
  have hd := decFrom_digits u
  have hn := digits_ne u
  generalize Lib.decDigits u = l at *
  cases l with
  | nil => exact absurd rfl hn
  | cons b r =>
    have hb := hm b (by simp)
    have e1 : (b == 45) = false := by
      cases hc : b == 45 with
      | false => rfl
      | true => rw [beq_iff_eq] at hc; subst hc; exact absurd hb.1 (by decide)
    have e2 : (b == 43) = false := by
      cases hc : b == 43 with
      | false => rfl
      | true => rw [beq_iff_eq] at hc; subst hc; exact absurd hb.1 (by decide)
    have e3 : Lib.decNat (b :: r) = some u := by
      unfold Lib.decNat
      rw [if_neg (by simp)]
      exact hd
    unfold Lib.atoi
    simp only [e1, e2, e3]
    rfl
theorem itoa_pos {n : Int} (h0 : 0 ≤ n) : Lib.itoa n = Lib.decDigits n.toNat := by
  unfold Lib.itoa
  rw [if_neg (by omega)]
theorem atoi_itoa {n : Int} (h0 : 0 ≤ n) (h1 : n ≤ 999999) : Lib.atoiAll (Lib.itoa n) = .ok n := by
  rw [itoa_pos h0, atoi_digits _ (by omega)]
  congr 1
  omega
theorem itoa_mem {n : Int} (h0 : 0 ≤ n) : ∀ b ∈ Lib.itoa n, 48 ≤ b.toNat ∧ b.toNat ≤ 57 := by
  rw [itoa_pos h0]
  exact digits_mem _
theorem no32 {n : Int} (h0 : 0 ≤ n) : (32 : UInt8) ∉ Lib.itoa n := fun h => absurd (itoa_mem h0 32 h).1 (by decide)
theorem itoa_len (k : Nat) {n : Int} (h0 : 0 ≤ n) (h1 : n < ((10 ^ (k + 1) : Nat) : Int)) : (Lib.itoa n).length ≤ k + 1 := by
  rw [itoa_pos h0]
  exact digits_len k _ (by omega)

/-! ### Words -/
theorem index_absent : ∀ l : List UInt8, (32 : UInt8) ∉ l → Lib.index l [32] = -1
  | [], _ => rfl
  | b :: l, h => by
    have hb : ([32] : List UInt8).isPrefixOf (b :: l) = false := by
      simp only [List.isPrefixOf, Bool.and_true]
      exact beq_eq_false_iff_ne.2 fun e => h (by rw [e]; simp)
    have ih := index_absent l (fun hm => h (by simp [hm]))
    unfold Lib.index
    rw [if_neg (by rw [hb]; decide), ih]
    rfl
theorem index_at : ∀ (w r : List UInt8), (32 : UInt8) ∉ w → Lib.index (w ++ 32 :: r) [32] = w.length
  | [], r, _ => by
    rw [List.nil_append]
    unfold Lib.index
    rw [if_pos (by simp [List.isPrefixOf])]
    rfl
  | b :: w, r, h => by
    have hb : ([32] : List UInt8).isPrefixOf (b :: (w ++ 32 :: r)) = false := by
      simp only [List.isPrefixOf, Bool.and_true]
      exact beq_eq_false_iff_ne.2 fun e => h (by rw [e]; simp)
    have ih := index_at w r (fun hm => h (by simp [hm]))
    rw [List.cons_append]
    unfold Lib.index
    rw [if_neg (by rw [hb]; decide), ih, if_neg (by simp only [beq_iff_eq]; omega)]
    simp
theorem join_two (w v : List UInt8) (r : List (List UInt8)) : Lib.join (w :: v :: r) [32] = w ++ 32 :: Lib.join (v :: r) [32] := by
  rw [Lib.join_cons, Lib.join_cons]
  simp [Lib.joinTail]
theorem splitK_join : ∀ (ws : List (List UInt8)) (k : Nat), ws ≠ [] → ws.length ≤ k + 1 → (∀ w ∈ ws, (32 : UInt8) ∉ w) → Lib.splitK [32] 0 k (Lib.join ws [32]) = ws
  | [], _, h, _, _ => absurd rfl h
  | [w], k, _, _, h => by
    rw [Lib.join_one]
    cases k with
    | zero => rfl
    | succ k =>
      unfold Lib.splitK
      rw [if_pos (by rw [index_absent w (h w (by simp))]; rfl)]
  | w :: v :: r, 0, _, hk, _ => by simp at hk
  | w :: v :: r, k + 1, _, hk, h => by
    have hw := h w (by simp)
    rw [join_two]
    unfold Lib.splitK
    rw [index_at w _ hw, if_neg (by simp only [beq_iff_eq]; omega)]
    have ih := splitK_join (v :: r) k (by simp) (by simpa using hk) (fun x hx => h x (by simp [hx]))
    have e1 : (w ++ 32 :: Lib.join (v :: r) [32]).take ((w.length : Int).toNat + 0) = w := by simp
    have e2 : (w ++ 32 :: Lib.join (v :: r) [32]).drop ((w.length : Int).toNat + [(32 : UInt8)].length) = Lib.join (v :: r) [32] := by
      rw [show (w.length : Int).toNat + [(32 : UInt8)].length = w.length + 1 from by simp, ← List.drop_drop, List.drop_left]
      rfl
    rw [e1, e2, ih]
theorem join_count : ∀ (ws : List (List UInt8)), ws.length ≤ (Lib.join ws [32]).length + 1
  | [] => by simp
  | [w] => by simp
  | w :: v :: r => by
    have := join_count (v :: r)
    rw [join_two, List.length_append]
    simp only [List.length_cons] at this ⊢
    omega
theorem words_join (ws : List (List UInt8)) (h0 : ws ≠ []) (h1 : ws.length ≤ 147) (h : ∀ w ∈ ws, (32 : UInt8) ∉ w) : (wordsB ⟨(Lib.join ws [32]).toArray⟩).map (·.data.toList) = ws := by
  unfold wordsB
  rw [Lib.splitB_data]
  have hc := join_count ws
  have hs : (⟨(Lib.join ws [32]).toArray⟩ : ByteArray).size = (Lib.join ws [32]).length := by
    show (Lib.join ws [32]).toArray.size = _
    simp
  rw [hs]
  exact splitK_join ws _ h0 (by omega) h
theorem atoiO_of {x : ByteArray} {n : Int} (hx : x.data.toList = Lib.itoa n) (h0 : 0 ≤ n) (h1 : n ≤ 999999) : atoiO x = some n := by
  unfold atoiO
  rw [hx, atoi_itoa h0 h1]
theorem mapM_itoa : ∀ (l : List ByteArray) (ns : List Int), l.map (·.data.toList) = ns.map Lib.itoa → (∀ n ∈ ns, 0 ≤ n ∧ n ≤ 999999) → l.mapM atoiO = some ns
  | [], [], _, _ => rfl
  | [], n :: ns, h, _ => by simp at h
  | x :: l, [], h, _ => by simp at h
  | x :: l, n :: ns, h, hn => by
    simp only [List.map_cons, List.cons.injEq] at h
    rw [List.mapM_cons, atoiO_of h.1 (hn n (by simp)).1 (hn n (by simp)).2, mapM_itoa l ns h.2 (fun k hk => hn k (by simp [hk]))]
    rfl
theorem numsP_text (ns : List Int) (h0 : ns ≠ []) (h1 : ns.length ≤ 147) (h : ∀ n ∈ ns, 0 ≤ n ∧ n ≤ 999999) : numsP ⟨(Lib.join (ns.map Lib.itoa) [32]).toArray⟩ = some ns := by
  unfold numsP
  refine mapM_itoa _ _ (words_join _ (by simpa using h0) (by simpa using h1) ?_) h
  intro w hw
  obtain ⟨n, hn, rfl⟩ := List.mem_map.1 hw
  exact no32 (h n hn).1

/-! ### The book that numbers stand for -/
def stayP (L : List Int) : Stay := ⟨L.getD 0 0, L.getD 1 0, L.getD 2 0, L.getD 3 0, L.getD 4 0, L.getD 5 0, L.getD 6 0, L.getD 7 0⟩
def jobP (L : List Int) : Job := ⟨L.getD 0 0, decide (L.getD 1 0 = 1)⟩
def staysP : Nat → List Int → List Stay
  | 0, _ => []
  | k + 1, L => stayP L :: staysP k (L.drop 8)
def jobsP : Nat → List Int → List Job
  | 0, _ => []
  | k + 1, L => jobP L :: jobsP k (L.drop 2)
/-- A book without its memory. -/
structure PB where
  last : Int
  stays : List Stay
  jobs : List Job
def PB.book (b : PB) : Book := ⟨b.last, none, 0, none, 0, b.stays, b.jobs⟩
def PB.text (b : PB) : List UInt8 := textL b.last b.stays b.jobs
def okNs (a b : Int) (m : Nat) : Bool := decide (0 ≤ a ∧ a ≤ 16) && (decide (0 ≤ b ∧ b ≤ 8) && decide ((m : Int) = a * 8 + b * 2))
def fromP (L : List Int) : Option PB :=
  if L.length < 3 then none else
  if okNs (L.getD 1 0) (L.getD 2 0) (L.length - 3) = true then some ⟨L.getD 0 0, staysP (L.getD 1 0).toNat (L.drop 3), jobsP (L.getD 2 0).toNat (L.drop (3 + 8 * (L.getD 1 0).toNat))⟩ else none
theorem bookN_pure (b : Book) (n : Nat) : bookN b n = bookN (PB.book ⟨b.last, b.stays, b.jobs⟩) n := by
  have hf : ∀ k, findI b k = findI (PB.book ⟨b.last, b.stays, b.jobs⟩) k := fun k => rfl
  have hj : ∀ i, jobBad b i = jobBad (PB.book ⟨b.last, b.stays, b.jobs⟩) i := fun i => rfl
  have hF : ∀ m i, jobsF b m i = jobsF (PB.book ⟨b.last, b.stays, b.jobs⟩) m i := by
    intro m
    induction m with
    | zero => intro i; rfl
    | succ m ih => intro i; unfold jobsF; rw [hj, ih]
  unfold bookN
  rw [hF]
  rfl
def parseP (s : ByteArray) (n : Nat) : Option PB := (numsP s).bind fun L => (fromP L).bind fun b => if bookN b.book n = 0 ∧ b.text = s.data.toList then some b else none
theorem stayP_ns (x : Stay) (r : List Int) : stayP (stayNs x ++ r) = x := rfl
theorem staysP_ns : ∀ (l : List Stay) (r : List Int), staysP l.length (l.flatMap stayNs ++ r) = l
  | [], _ => rfl
  | x :: l, r => by
    rw [List.flatMap_cons, List.append_assoc, List.length_cons]
    unfold staysP
    rw [stayP_ns, show (stayNs x ++ (l.flatMap stayNs ++ r)).drop 8 = l.flatMap stayNs ++ r from rfl, staysP_ns l r]
theorem jobP_ns (x : Job) (r : List Int) : jobP (jobNs x ++ r) = x := by
  obtain ⟨t, f⟩ := x
  cases f <;> rfl
theorem jobsP_ns : ∀ (l : List Job) (r : List Int), jobsP l.length (l.flatMap jobNs ++ r) = l
  | [], _ => rfl
  | x :: l, r => by
    rw [List.flatMap_cons, List.append_assoc, List.length_cons]
    unfold jobsP
    rw [jobP_ns, show (jobNs x ++ (l.flatMap jobNs ++ r)).drop 2 = l.flatMap jobNs ++ r from rfl, jobsP_ns l r]
theorem stays_flat : ∀ (l : List Stay), (l.flatMap stayNs).length = 8 * l.length
  | [] => rfl
  | x :: l => by rw [List.flatMap_cons, List.length_append, stays_flat l, List.length_cons]; simp [stayNs]; omega
theorem jobs_flat : ∀ (l : List Job), (l.flatMap jobNs).length = 2 * l.length
  | [] => rfl
  | x :: l => by rw [List.flatMap_cons, List.length_append, jobs_flat l, List.length_cons]; simp [jobNs]; omega
theorem nums_len (last : Int) (stays : List Stay) (jobs : List Job) : (numsOf last stays jobs).length = 3 + 8 * stays.length + 2 * jobs.length := by
  unfold numsOf
  rw [List.length_append, List.length_append, stays_flat, jobs_flat]
  rfl
theorem fromP_nums (last : Int) (stays : List Stay) (jobs : List Job) (hs : stays.length ≤ 16) (hj : jobs.length ≤ 8) : fromP (numsOf last stays jobs) = some ⟨last, stays, jobs⟩ := by
  have hl := nums_len last stays jobs
  have e0 : (numsOf last stays jobs).getD 0 0 = last := rfl
  have e1 : (numsOf last stays jobs).getD 1 0 = (stays.length : Int) := rfl
  have e2 : (numsOf last stays jobs).getD 2 0 = (jobs.length : Int) := rfl
  have e3 : (numsOf last stays jobs).drop 3 = stays.flatMap stayNs ++ jobs.flatMap jobNs := rfl
  unfold fromP
  rw [if_neg (by omega), e0, e1, e2]
  have e4 : (numsOf last stays jobs).drop (3 + 8 * ((stays.length : Int)).toNat) = jobs.flatMap jobNs ++ [] := by
    rw [← List.drop_drop, e3, Int.toNat_natCast, ← stays_flat, List.drop_left, List.append_nil]
  rw [if_pos (by unfold okNs; rw [hl]; simp only [Bool.and_eq_true, decide_eq_true_eq]; omega), e3, e4]
  simp only [Int.toNat_natCast]
  rw [staysP_ns, jobsP_ns]
theorem car_bounds {id a b c : Int} (h : carN id a b c = 0) : (1 ≤ id ∧ id ≤ 999) ∧ (1 ≤ a ∧ a ≤ 99) ∧ (1 ≤ b ∧ b ≤ 99) ∧ (1 ≤ c ∧ c ≤ 99) := by
  unfold carN faultN at h
  cases hb : decide (1 ≤ id ∧ id ≤ 999) && sizeB a b c with
  | false => rw [hb] at h; simp at h
  | true =>
    unfold sizeB at hb
    simp only [Bool.and_eq_true, decide_eq_true_eq] at hb
    omega
theorem place_bounds {x y z : Int} {n : Nat} (hn : n ≤ 4) (h : placeB x y z n = true) : (1 ≤ x ∧ x ≤ 4) ∧ (0 ≤ y ∧ y ≤ 1) ∧ (0 ≤ z ∧ z ≤ 1) := by
  unfold placeB at h
  simp only [decide_eq_true_eq] at h
  omega
end Tx
end Go.Proofs.YtkgicpialdhnhaaDoor
