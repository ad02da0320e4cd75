/- Plans, followed goal by goal: where they lead (C1, D1, D2); pure facts. -/
import Derived.Test.YticjjnmmedmbiabCalm
namespace Go.Proofs.Yticjjnmmedmbiab
open Go.ChangeShapes Go.WideShapes Go.ChangeAt Go.RowKit Go.Maps
set_option maxRecDepth 100000
set_option linter.unusedSimpArgs false
set_option linter.unusedVariables false

namespace Pl
open Ac
/-- A quiet machine: shut, nobody in it, nothing stalls, nothing went wrong. -/
def Qu (lv h ex li ba : Int) (D : DataW Unit) : St := ⟨lv, h, ex, false, 0, li, ba, D, 0, false⟩

/-! ### a calm machine is quiet -/
def Sh (s : St) : Prop := s.op = false → s.pe = 0
theorem do_pe (c : Int) (s : St) : (doS c s).pe = s.pe := by
  unfold doS
  split; · rfl
  split; · rfl
  split; · unfold slideS; split <;> rfl
  split; · unfold slideS; split <;> rfl
  split; · unfold grabS; split <;> rfl
  split; · unfold putS; split <;> rfl
  split; · rfl
  split; · rfl
  split; · unfold takeInS; split <;> rfl
  split; · unfold giveOutS; split <;> rfl
  rfl
theorem do_st' (c : Int) (s : St) : (doS c s).st = s.st := by
  unfold doS
  split; · rfl
  split; · rfl
  split; · unfold slideS; split <;> rfl
  split; · unfold slideS; split <;> rfl
  split; · unfold grabS; split <;> rfl
  split; · unfold putS; split <;> rfl
  split; · rfl
  split; · rfl
  split; · unfold takeInS; split <;> rfl
  split; · unfold giveOutS; split <;> rfl
  rfl
theorem do_op (c : Int) (s : St) (h1 : c ≠ 111) (h2 : c ≠ 99) : (doS c s).op = s.op := by
  unfold doS
  split; · rfl
  split; · rfl
  split; · unfold slideS; split <;> rfl
  split; · unfold slideS; split <;> rfl
  split; · unfold grabS; split <;> rfl
  split; · unfold putS; split <;> rfl
  split; · unfold takeInS; split <;> rfl
  split; · unfold giveOutS; split <;> rfl
  rfl
theorem step_st' {c : Int} {s : St} (h : s.st = 0) : stepS c s = doS c s := by unfold stepS; rw [if_neg (by omega)]
theorem Sh.guard {s : St} (h : Sh s) (c : Int) : Sh (guardS c s) := by
  unfold guardS
  split
  · rename_i hm
    unfold stepS
    split
    · exact h
    · intro ho
      rw [do_pe]
      by_cases k1 : c = 111
      · subst k1; simp [doS, openS] at ho
      · by_cases k2 : c = 99
        · subst k2; simpa [mayS, mayB] using hm
        · rw [do_op c s k1 k2] at ho; exact h ho
  · exact h
theorem Sh.out {s : St} (h : Sh s) (x : ActC) (hk : (x.kind.toList == [115, 116, 101, 112]) = false) : Sh (outS x s) := by
  unfold outS
  rw [if_neg (by simp [hk])]
  split
  · unfold walkS
    split
    · rename_i k; intro ho; simp only at ho; rw [ho] at k; simp at k
    · exact h
  split; · unfold arriveS; split <;> exact h
  split; · unfold leaveS; split <;> exact h
  split; · unfold stallS; split <;> exact h
  exact h
theorem Sh.acts {s : St} (h : Sh s) (f : Nat → ActC) : ∀ k, Sh (actsS f k s)
  | 0 => h
  | k + 1 => by
    unfold actsS actG
    split
    · exact (Sh.acts h f k).guard _
    · rename_i hk; exact (Sh.acts h f k).out _ (by simpa using hk)
/-- Nobody is in it, and nothing stalls. -/
def Em (s : St) : Prop := s.pe = 0 ∧ s.st = 0
theorem calm1_em {lv : Int} (hl : 1 ≤ lv ∧ lv ≤ 4) (len : Nat) (f : Nat → ActC) : Em (calm1 lv len f) := by
  have hs : Sh (actsS f len (newS lv)) := Sh.acts (by intro h; rfl) f len
  have hi : Inv (actsS f len (newS lv)) := (Inv.new hl.1 hl.2).acts f len
  have hp := hi.pe
  unfold calm1
  generalize actsS f len (newS lv) = s at *
  have e1 : stallS 0 s = { s with st := 0 } := by simp [stallS]
  rw [e1]
  unfold walkS
  split
  · refine ⟨?_, rfl⟩; simp only; omega
  · rename_i k
    refine ⟨?_, rfl⟩
    cases ho : s.op
    · exact hs ho
    · simp [ho] at k
theorem Em.guard {s : St} (h : Em s) (c : Int) : Em (guardS c s) := by
  unfold guardS
  split
  · rw [step_st' h.2]; exact ⟨(do_pe c s).trans h.1, (do_st' c s).trans h.2⟩
  · exact h
theorem Em.run : ∀ t l {s : St}, Em s → Em (runS t l s).2
  | 0, _, _, h => h
  | _ + 1, [], _, h => h
  | t + 1, g :: l, s, h => by
    unfold runS
    split
    · exact Em.run t l h
    · exact Em.run t (g :: l) (h.guard _)
theorem run_shut : ∀ t {s : St}, Em s → s.ex = 0 → (runS t [(5, 0)] s).1 = [] → (runS t [(5, 0)] s).2.ex = 0 ∧ (runS t [(5, 0)] s).2.op = false
  | 0, _, _, _, h => by simp [runS] at h
  | t + 1, s, he, hx, h => by
    unfold runS at h ⊢
    cases ho : s.op with
    | false =>
      have hn : nextS (5, 0) s = 45 := by simp [nextS, nextC, ho]
      rw [if_pos hn, runS_nil] at h ⊢
      exact ⟨hx, ho⟩
    | true =>
      have hn : nextS (5, 0) s = 99 := by simp [nextS, nextC, ho]
      rw [if_neg (by rw [hn]; decide), hn] at h ⊢
      refine run_shut t (he.guard _) ?_ h
      unfold guardS
      split
      · rw [step_st' he.2]; simp [doS, shutS, hx]
      · exact hx
theorem run_in : ∀ t {s : St}, Em s → (runS t [(2, 0), (5, 0)] s).1 = [] → (runS t [(2, 0), (5, 0)] s).2.ex = 0 ∧ (runS t [(2, 0), (5, 0)] s).2.op = false
  | 0, _, _, h => by simp [runS] at h
  | t + 1, s, he, h => by
    unfold runS at h ⊢
    by_cases hx : s.ex = 0
    · have hn : nextS (2, 0) s = 45 := by simp [nextS, nextC, hx]
      rw [if_pos hn] at h ⊢
      exact run_shut t he hx h
    · have hn : nextS (2, 0) s ≠ 45 := by
        rcases Int.lt_or_gt_of_ne hx with h1 | h1
        · simp [nextS, nextC, h1]
        · have h2 : ¬ s.ex < 0 := by omega
          simp [nextS, nextC, h1, h2]
      rw [if_neg hn] at h ⊢
      exact run_in t (he.guard _) h

theorem calm_quiet {lv : Int} (hl : 1 ≤ lv ∧ lv ≤ 4) (len : Nat) (f : Nat → ActC) (hb : calmB lv len f = true) :
    ∃ h li ba D, calmSt lv len f = Qu (calmSt lv len f).lv h 0 li ba D ∧ Inv (calmSt lv len f) := by
  have em2 : Em (calm2 (calm1 lv len f)) := by
    unfold calm2
    split
    · rw [step_st' (calm1_em hl len f).2]; exact ⟨(do_pe _ _).trans (calm1_em hl len f).1, (do_st' _ _).trans (calm1_em hl len f).2⟩
    · exact calm1_em hl len f
  have em := Em.run 20 [(2, 0), (5, 0)] em2
  simp only [calmB, Bool.and_eq_true, Bool.not_eq_true', List.isEmpty_iff] at hb
  have hr := run_in 20 em2 hb.1
  have iv := Inv.calm hl len f
  refine ⟨(calmSt lv len f).h, (calmSt lv len f).li, (calmSt lv len f).ba, (calmSt lv len f).D, ?_, iv⟩
  have h1 : (calmSt lv len f).ex = 0 := hr.1
  have h2 : (calmSt lv len f).op = false := hr.2
  have h3 : (calmSt lv len f).pe = 0 := em.1
  have h4 : (calmSt lv len f).st = 0 := em.2
  have h5 := hb.2
  generalize calmSt lv len f = s at *
  obtain ⟨lv', h, ex, op, pe, li, ba, D, st, hu⟩ := s
  simp only at h1 h2 h3 h4 h5
  simp [Qu, h1, h2, h3, h4, h5]

/-! ### one tick -/
theorem run_done {g : Int × Int} {l : List (Int × Int)} {s : St} (t : Nat) (h : nextS g s = 45) : runS (t + 1) (g :: l) s = runS t l s := by
  show (if nextS g s = 45 then _ else _) = _
  rw [if_pos h]
theorem run_go {g : Int × Int} {l : List (Int × Int)} {s : St} (t : Nat) (c : Int) (h : nextS g s = c) (hc : c ≠ 45) (hm : mayS c s = true) (hs : s.st = 0) : runS (t + 1) (g :: l) s = runS t (g :: l) (doS c s) := by
  show (if nextS g s = 45 then _ else _) = _
  rw [h, if_neg hc]
  unfold guardS
  rw [if_pos hm, step_st' hs]

/-- To a height. -/
theorem run_height {lv N li ba : Int} {D : DataW Unit} {l : List (Int × Int)} (hN : 0 ≤ N ∧ N ≤ lv * 3) : ∀ (d t : Nat) (h : Int), 0 ≤ h ∧ h ≤ lv * 3 → (h - N).natAbs = d → runS (t + d) ((1, N) :: l) (Qu lv h 0 li ba D) = runS t ((1, N) :: l) (Qu lv N 0 li ba D)
  | 0, t, h, _, hd => by rw [show h = N from by omega]; rfl
  | d + 1, t, h, hh, hd => by
    by_cases hlt : h < N
    · have hn : nextS (1, N) (Qu lv h 0 li ba D) = 117 := by simp [nextS, nextC, Qu, hlt]
      have hm : mayS 117 (Qu lv h 0 li ba D) = true := by simp [mayS, mayB, closedB, Qu]
      have hdo : doS 117 (Qu lv h 0 li ba D) = Qu lv (h + 1) 0 li ba D := by
        simp only [doS, if_true, raiseS, Qu]
        rw [show min (max (h + 1) 0) (lv * 3) = h + 1 from by omega]
        simp
      rw [← Nat.add_assoc, run_go (t + d) 117 hn (by decide) hm rfl, hdo]
      exact run_height hN d t (h + 1) (by omega) (by omega)
    · have hgt : N < h := by omega
      have hn : nextS (1, N) (Qu lv h 0 li ba D) = 100 := by simp [nextS, nextC, Qu, hlt, hgt]
      have hm : mayS 100 (Qu lv h 0 li ba D) = true := by simp [mayS, mayB, closedB, Qu]
      have hdo : doS 100 (Qu lv h 0 li ba D) = Qu lv (h + -1) 0 li ba D := by
        have e1 : ¬ ((100 : Int) = 117) := by decide
        simp only [doS, if_true, e1, if_false, raiseS, Qu]
        rw [show min (max (h + -1) 0) (lv * 3) = h + -1 from by omega]
        simp
      rw [← Nat.add_assoc, run_go (t + d) 100 hn (by decide) hm rfl, hdo]
      exact run_height hN d t (h + -1) (by omega) (by omega)

/-- The shuttle goes one farther. -/
theorem slide_Q {lv h ex li ba b : Int} {D : DataW Unit} (iv : Inv (Qu lv h ex li ba D)) (hr : reachB (ex + b) h li (carAtI D lv h (ex + b) != 0) = true) : slideS b (Qu lv h ex li ba D) = Qu lv h (ex + b) li ba D := by
  have hs := slide_safe iv b rfl hr
  simp only [reachB, Bool.and_eq_true, decide_eq_true_eq] at hr
  have e : slideS b (Qu lv h ex li ba D) = ⟨lv, h, ex + b, false, 0, li, ba, D, 0, (false || (ex + b != 0 && !endB lv h (ex + b))) || (li != 0 && carAtI D lv h (ex + b) != 0)⟩ := if_pos hr.1
  rw [e] at hs ⊢
  have hs' : ((false || (ex + b != 0 && !endB lv h (ex + b))) || (li != 0 && carAtI D lv h (ex + b) != 0)) = false := hs
  rw [hs']
  rfl
/-- To a reach. -/
theorem run_reach {lv h N li ba : Int} {D : DataW Unit} {l : List (Int × Int)} : ∀ (d t : Nat) (ex : Int), Inv (Qu lv h ex li ba D) → (∀ e, (ex < e ∧ e ≤ N) ∨ (N ≤ e ∧ e < ex) → reachB e h li (carAtI D lv h e != 0) = true) → (ex - N).natAbs = d → runS (t + d) ((2, N) :: l) (Qu lv h ex li ba D) = runS t ((2, N) :: l) (Qu lv h N li ba D)
  | 0, t, ex, _, _, hd => by rw [show ex = N from by omega]; rfl
  | d + 1, t, ex, iv, hr, hd => by
    by_cases hlt : ex < N
    · have hn : nextS (2, N) (Qu lv h ex li ba D) = 114 := by simp [nextS, nextC, Qu, hlt]
      have hr1 := hr (ex + 1) (by omega)
      have hm : mayS 114 (Qu lv h ex li ba D) = true := by simpa [mayS, mayB, Qu] using hr1
      have hdo : doS 114 (Qu lv h ex li ba D) = Qu lv h (ex + 1) li ba D := by
        rw [show doS 114 (Qu lv h ex li ba D) = slideS 1 (Qu lv h ex li ba D) from by simp [doS]]
        exact slide_Q iv hr1
      have iv2 : Inv (Qu lv h (ex + 1) li ba D) := by rw [← hdo]; exact iv.do 114
      rw [← Nat.add_assoc, run_go (t + d) 114 hn (by decide) hm rfl, hdo]
      exact run_reach d t (ex + 1) iv2 (fun e he => hr e (by omega)) (by omega)
    · have hgt : N < ex := by omega
      have hn : nextS (2, N) (Qu lv h ex li ba D) = 108 := by simp [nextS, nextC, Qu, hlt, hgt]
      have hr1 := hr (ex - 1) (by omega)
      have hm : mayS 108 (Qu lv h ex li ba D) = true := by simpa [mayS, mayB, Qu] using hr1
      have hdo : doS 108 (Qu lv h ex li ba D) = Qu lv h (ex - 1) li ba D := by
        rw [show doS 108 (Qu lv h ex li ba D) = slideS (-1) (Qu lv h ex li ba D) from by simp [doS]]
        exact slide_Q iv (by rw [show ex + -1 = ex - 1 from by omega]; exact hr1)
      have iv2 : Inv (Qu lv h (ex - 1) li ba D) := by rw [← hdo]; exact iv.do 108
      rw [← Nat.add_assoc, run_go (t + d) 108 hn (by decide) hm rfl, hdo]
      exact run_reach d t (ex - 1) iv2 (fun e he => hr e (by omega)) (by omega)

/-- Where a place is, by height and reach. -/
theorem end_at {lv X Y Z : Int} (hX : 1 ≤ X ∧ X ≤ lv) (hY : 0 ≤ Y ∧ Y ≤ 1) (hZ : 0 ≤ Z ∧ Z ≤ 1) : endB lv (X * 3) (extI Y Z) = true ∧ endX lv (X * 3) (extI Y Z) = X ∧ endY lv (X * 3) (extI Y Z) = Y ∧ endZ lv (X * 3) (extI Y Z) = Z := by
  have hY2 : Y = 0 ∨ Y = 1 := by omega
  have hb : endB lv (X * 3) (extI Y Z) = true := by
    simp only [endB, placeB, Bool.and_eq_true, decide_eq_true_eq]
    rcases hY2 with rfl | rfl
    · have e : extI 0 Z = -(Z + 1) := by simp [extI]
      rw [e]
      have hn : -(Z + 1) < 0 := by omega
      simp only [hn, if_true]
      omega
    · have e : extI 1 Z = Z + 1 := by simp [extI]
      rw [e]
      have hn : ¬ (Z + 1 < 0) := by omega
      simp only [hn, if_false]
      omega
  refine ⟨hb, ?_, ?_, ?_⟩ <;> simp only [endX, endY, endZ, hb, if_true]
  · omega
  · rcases hY2 with rfl | rfl
    · have e : extI 0 Z = -(Z + 1) := by simp [extI]
      rw [e, if_pos (by omega)]
    · have e : extI 1 Z = Z + 1 := by simp [extI]
      rw [e, if_neg (by omega)]
  · rcases hY2 with rfl | rfl
    · have e : extI 0 Z = -(Z + 1) := by simp [extI]
      rw [e, if_pos (by omega)]; omega
    · have e : extI 1 Z = Z + 1 := by simp [extI]
      rw [e, if_neg (by omega)]; omega
theorem carAt_place {D : DataW Unit} {lv X Y Z : Int} (hX : 1 ≤ X ∧ X ≤ lv) (hY : 0 ≤ Y ∧ Y ≤ 1) (hZ : 0 ≤ Z ∧ Z ≤ 1) : carAtI D lv (X * 3) (extI Y Z) = carOf D X Y Z := by
  obtain ⟨e1, e2, e3, e4⟩ := end_at hX hY hZ
  simp only [carAtI, e1, if_true, e2, e3, e4]
theorem level_3 {X : Int} (h : 1 ≤ X) : levelB (X * 3) = true := by
  simp only [levelB, Bool.and_eq_true, decide_eq_true_eq, beq_iff_eq]
  omega

/-- A car is fetched. -/
theorem run_fetch {lv h ba X Y Z : Int} {D : DataW Unit} (iv : Inv (Qu lv h 0 0 ba D)) (hX : 1 ≤ X ∧ X ≤ lv) (hY : 0 ≤ Y ∧ Y ≤ 1) (hZ : 0 ≤ Z ∧ Z ≤ 1) (hc : carOf D X Y Z ≠ 0) (hf : Z = 1 → carOf D X Y 0 = 0) :
    runS 80 [(2, 0), (5, 0), (1, X * 3), (2, extI Y Z), (3, 0), (2, 0)] (Qu lv h 0 0 ba D) = ([], Qu lv (X * 3) 0 (carOf D X Y Z) ba (D.del (pk X Y Z))) := by
  obtain ⟨e1, e2, e3, e4⟩ := end_at hX hY hZ
  have h0 := iv.ok.h0; have h12 := iv.ok.h12; have l4 := iv.ok.lv4
  simp only [Qu] at h0 h12 l4
  have hex : extI Y Z ≠ 0 ∧ -2 ≤ extI Y Z ∧ extI Y Z ≤ 2 := by unfold extI; split <;> omega
  obtain ⟨dh, hdh⟩ : ∃ d, (h - X * 3).natAbs = d := ⟨_, rfl⟩
  obtain ⟨de, hde⟩ : ∃ d, ((0 : Int) - extI Y Z).natAbs = d := ⟨_, rfl⟩
  obtain ⟨r, hr⟩ : ∃ r, 80 = r + 1 + de + 1 + 1 + 1 + de + 1 + dh + 1 + 1 := ⟨80 - (1 + de + 1 + 1 + 1 + de + 1 + dh + 1 + 1), by omega⟩
  rw [hr, run_done _ (by simp [nextS, nextC, Qu]), run_done _ (by simp [nextS, nextC, Qu]), run_height (by omega) dh _ h ⟨h0, h12⟩ hdh, run_done _ (by simp [nextS, nextC, Qu])]
  have iv1 : Inv (Qu lv (X * 3) 0 0 ba D) := ⟨⟨iv.ok.lv1, iv.ok.lv4, by simp only [Qu]; omega, by simp only [Qu]; omega, iv.ok.e0, iv.ok.e2⟩, iv.pe, iv.st, iv.li, iv.ba, iv.D⟩
  have hl := level_3 hX.1
  rw [run_reach de _ 0 iv1 (fun e he => by
    simp only [reachB, hl, Bool.and_eq_true, decide_eq_true_eq, Bool.or_eq_true, beq_iff_eq, Bool.true_and]
    refine ⟨by omega, Or.inr ?_⟩
    simp) hde, run_done _ (by simp [nextS, nextC, Qu])]
  have iv2 : Inv (Qu lv (X * 3) (extI Y Z) 0 ba D) := ⟨⟨iv.ok.lv1, iv.ok.lv4, by simp only [Qu]; omega, by simp only [Qu]; omega, hex.2.1, hex.2.2⟩, iv.pe, iv.st, iv.li, iv.ba, iv.D⟩
  have hdo : doS 103 (Qu lv (X * 3) (extI Y Z) 0 ba D) = Qu lv (X * 3) (extI Y Z) (carOf D X Y Z) ba (D.del (pk X Y Z)) := by
    rw [show doS 103 (Qu lv (X * 3) (extI Y Z) 0 ba D) = grabS (Qu lv (X * 3) (extI Y Z) 0 ba D) from by simp [doS]]
    unfold grabS
    rw [if_pos (by simp [grabB, Qu, e1])]
    simp only [Qu, e2, e3, e4]
  rw [run_go _ 103 (by simp [nextS, nextC, Qu]) (by decide) (by simp [mayS, mayB, Qu, hl, hex.1, carAt_place hX hY hZ, hc]) rfl, hdo, run_done _ (by simp [nextS, nextC, Qu, hc])]
  have iv3 : Inv (Qu lv (X * 3) (extI Y Z) (carOf D X Y Z) ba (D.del (pk X Y Z))) := by rw [← hdo]; exact iv2.do 103
  rw [run_reach (N := 0) de _ (extI Y Z) iv3 (fun e he => by
    simp only [reachB, hl, Bool.and_eq_true, decide_eq_true_eq, Bool.or_eq_true, beq_iff_eq, Bool.true_and, Bool.not_eq_true', bne_eq_false_iff_eq]
    refine ⟨by omega, ?_⟩
    by_cases e0 : e = 0
    · exact Or.inl e0
    · refine Or.inr (Or.inr ?_)
      have hz : Z = 1 := by unfold extI at he; split at he <;> omega
      have he2 : e = extI Y 0 := by unfold extI at he ⊢; split at he <;> split <;> omega
      rw [he2, carAt_place hX hY (by omega), carOf_del (wfI (by omega)) (wfI (by omega)) (wfI (by omega)) (wfI (by omega)) (wfI (by omega)) (wfI (by omega)), if_neg (by omega)]
      exact hf hz) (by omega), run_done _ (by simp [nextS, nextC, Qu]), runS_nil]

/-- A car is brought. -/
theorem run_bring {lv h li ba X Y Z : Int} {D : DataW Unit} (iv : Inv (Qu lv h 0 li ba D)) (hX : 1 ≤ X ∧ X ≤ lv) (hY : 0 ≤ Y ∧ Y ≤ 1) (hZ : 0 ≤ Z ∧ Z ≤ 1) (hli : li ≠ 0) (hc : carOf D X Y Z = 0) (hf : Z = 1 → carOf D X Y 0 = 0) :
    runS 80 [(2, 0), (5, 0), (1, X * 3), (2, extI Y Z), (4, 0), (2, 0)] (Qu lv h 0 li ba D) = ([], Qu lv (X * 3) 0 0 ba (D.put (pk X Y Z) (.lit (.int .i64 li)))) := by
  obtain ⟨e1, e2, e3, e4⟩ := end_at hX hY hZ
  have h0 := iv.ok.h0; have h12 := iv.ok.h12; have l4 := iv.ok.lv4
  simp only [Qu] at h0 h12 l4
  have hex : extI Y Z ≠ 0 ∧ -2 ≤ extI Y Z ∧ extI Y Z ≤ 2 := by unfold extI; split <;> omega
  obtain ⟨dh, hdh⟩ : ∃ d, (h - X * 3).natAbs = d := ⟨_, rfl⟩
  obtain ⟨de, hde⟩ : ∃ d, ((0 : Int) - extI Y Z).natAbs = d := ⟨_, rfl⟩
  obtain ⟨r, hr⟩ : ∃ r, 80 = r + 1 + de + 1 + 1 + 1 + de + 1 + dh + 1 + 1 := ⟨80 - (1 + de + 1 + 1 + 1 + de + 1 + dh + 1 + 1), by omega⟩
  rw [hr, run_done _ (by simp [nextS, nextC, Qu]), run_done _ (by simp [nextS, nextC, Qu]), run_height (by omega) dh _ h ⟨h0, h12⟩ hdh, run_done _ (by simp [nextS, nextC, Qu])]
  have iv1 : Inv (Qu lv (X * 3) 0 li ba D) := ⟨⟨iv.ok.lv1, iv.ok.lv4, by simp only [Qu]; omega, by simp only [Qu]; omega, iv.ok.e0, iv.ok.e2⟩, iv.pe, iv.st, iv.li, iv.ba, iv.D⟩
  have hl := level_3 hX.1
  rw [run_reach de _ 0 iv1 (fun e he => by
    simp only [reachB, hl, Bool.and_eq_true, decide_eq_true_eq, Bool.or_eq_true, beq_iff_eq, Bool.true_and, Bool.not_eq_true', bne_eq_false_iff_eq]
    refine ⟨by omega, Or.inr (Or.inr ?_)⟩
    by_cases e0 : e = extI Y Z
    · rw [e0, carAt_place hX hY hZ]; exact hc
    · have hz : Z = 1 := by unfold extI at he e0; split at he <;> simp_all <;> omega
      have he2 : e = extI Y 0 := by unfold extI at he e0 ⊢; split at he <;> simp_all <;> omega
      rw [he2, carAt_place hX hY (by omega)]
      exact hf hz) hde, run_done _ (by simp [nextS, nextC, Qu])]
  have iv2 : Inv (Qu lv (X * 3) (extI Y Z) li ba D) := ⟨⟨iv.ok.lv1, iv.ok.lv4, by simp only [Qu]; omega, by simp only [Qu]; omega, hex.2.1, hex.2.2⟩, iv.pe, iv.st, iv.li, iv.ba, iv.D⟩
  have hdo : doS 112 (Qu lv (X * 3) (extI Y Z) li ba D) = Qu lv (X * 3) (extI Y Z) 0 ba (D.put (pk X Y Z) (.lit (.int .i64 li))) := by
    rw [show doS 112 (Qu lv (X * 3) (extI Y Z) li ba D) = putS (Qu lv (X * 3) (extI Y Z) li ba D) from by simp [doS]]
    unfold putS
    rw [if_pos (by simp [putB, Qu, e1, hli, carAt_place hX hY hZ, hc])]
    simp only [Qu, e2, e3, e4]
  rw [run_go _ 112 (by simp [nextS, nextC, Qu, hli]) (by decide) (by simp [mayS, mayB, Qu, hl, hex.1, carAt_place hX hY hZ, hc, hli]) rfl, hdo, run_done _ (by simp [nextS, nextC, Qu])]
  have iv3 : Inv (Qu lv (X * 3) (extI Y Z) 0 ba (D.put (pk X Y Z) (.lit (.int .i64 li)))) := by rw [← hdo]; exact iv2.do 112
  rw [run_reach (N := 0) de _ (extI Y Z) iv3 (fun e he => by
    simp only [reachB, hl, Bool.and_eq_true, decide_eq_true_eq, Bool.or_eq_true, beq_iff_eq, Bool.true_and]
    refine ⟨by omega, Or.inr ?_⟩
    simp) (by omega), run_done _ (by simp [nextS, nextC, Qu]), runS_nil]

/-- A car is taken in. -/
theorem run_takeIn {lv h ba : Int} {D : DataW Unit} (iv : Inv (Qu lv h 0 0 ba D)) (hb : ba ≠ 0) : runS 80 [(2, 0), (5, 0), (1, 0), (7, 0)] (Qu lv h 0 0 ba D) = ([], Qu lv 0 0 ba 0 D) := by
  have h0 := iv.ok.h0; have h12 := iv.ok.h12; have l4 := iv.ok.lv4; have l1 := iv.ok.lv1
  simp only [Qu] at h0 h12 l4 l1
  obtain ⟨dh, hdh⟩ : ∃ d, (h - 0).natAbs = d := ⟨_, rfl⟩
  obtain ⟨r, hr⟩ : ∃ r, 80 = r + 1 + 1 + 1 + dh + 1 + 1 := ⟨80 - (1 + 1 + 1 + dh + 1 + 1), by omega⟩
  have hdo : doS 110 (Qu lv 0 0 0 ba D) = Qu lv 0 0 ba 0 D := by simp [doS, takeInS, Qu]
  rw [hr, run_done _ (by simp [nextS, nextC, Qu]), run_done _ (by simp [nextS, nextC, Qu]), run_height (by omega) dh _ h ⟨h0, h12⟩ hdh, run_done _ (by simp [nextS, nextC, Qu]),
    run_go _ 110 (by simp [nextS, nextC, Qu]) (by decide) (by simp [mayS, mayB, belowB, closedB, Qu, hb]) rfl, hdo, run_done _ (by simp [nextS, nextC, Qu, hb]), runS_nil]
/-- A car is given out. -/
theorem run_giveOut {lv h li : Int} {D : DataW Unit} (iv : Inv (Qu lv h 0 li 0 D)) (hl : li ≠ 0) : runS 80 [(2, 0), (5, 0), (1, 0), (8, 0), (6, 0)] (Qu lv h 0 li 0 D) = ([], ⟨lv, 0, 0, true, 0, 0, li, D, 0, false⟩) := by
  have h0 := iv.ok.h0; have h12 := iv.ok.h12; have l4 := iv.ok.lv4; have l1 := iv.ok.lv1
  simp only [Qu] at h0 h12 l4 l1
  obtain ⟨dh, hdh⟩ : ∃ d, (h - 0).natAbs = d := ⟨_, rfl⟩
  obtain ⟨r, hr⟩ : ∃ r, 80 = r + 1 + 1 + 1 + 1 + 1 + dh + 1 + 1 := ⟨80 - (1 + 1 + 1 + 1 + 1 + dh + 1 + 1), by omega⟩
  have hdo : doS 120 (Qu lv 0 0 li 0 D) = Qu lv 0 0 0 li D := by simp [doS, giveOutS, Qu]
  have hdo2 : doS 111 (Qu lv 0 0 0 li D) = ⟨lv, 0, 0, true, 0, 0, li, D, 0, false⟩ := by simp [doS, openS, Qu]
  rw [hr, run_done _ (by simp [nextS, nextC, Qu]), run_done _ (by simp [nextS, nextC, Qu]), run_height (by omega) dh _ h ⟨h0, h12⟩ hdh, run_done _ (by simp [nextS, nextC, Qu]),
    run_go _ 120 (by simp [nextS, nextC, Qu, hl]) (by decide) (by simp [mayS, mayB, belowB, closedB, Qu, hl]) rfl, hdo, run_done _ (by simp [nextS, nextC, Qu]),
    run_go _ 111 (by simp [nextS, nextC, Qu]) (by decide) (by simp [mayS, mayB, belowB, Qu]) rfl, hdo2, run_done _ (by simp [nextS, nextC]), runS_nil]

end Pl
end Go.Proofs.Yticjjnmmedmbiab
