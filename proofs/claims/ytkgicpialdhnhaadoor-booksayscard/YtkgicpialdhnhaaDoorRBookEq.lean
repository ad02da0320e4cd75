/- The document's BookFault (E1): it answers what book.Check answers; contract for the laws. -/
import Derived.Test.YtkgicpialdhnhaaDoorRBookFault
import Derived.Test.YtkgicpialdhnhaaDoorBookCheckB
import Derived.Deep.DeepCutAuto
import Derived.Deep.LoopGhost
namespace Go.Proofs.YtkgicpialdhnhaaDoor
open Go.Shelf Go.Lib Go.ChangeShapes Go.WideShapes Go.ChangeAt Go.RowKit
set_option maxRecDepth 100000
set_option linter.unusedSimpArgs false
set_option linter.unusedVariables false

namespace Bk
theorem bn_range {b : Book} {n : Nat} (h : b.last < 0 ∨ 999999 < b.last) : bookN b n = 1 := by
  unfold bookN
  rw [if_pos (decide_eq_false (by omega))]
theorem bn_many {b : Book} {n : Nat} (h : 0 ≤ b.last ∧ b.last ≤ 999999) (h2 : 16 < b.stays.length ∨ 8 < b.jobs.length) : bookN b n = 2 := by
  unfold bookN
  rw [if_neg (by rw [decide_eq_true h]; decide), if_pos h2]
theorem staysF_first (last : Int) (n : Nat) (l : List Stay) (i : Nat) (hz : ∀ j, j < i → stayN last n (l.take j) l[j]! = 0) (hi : stayN last n (l.take i) l[i]! ≠ 0) : ∀ m s, s ≤ i → i < s + m → staysF last n l m s = stayN last n (l.take i) l[i]!
  | 0, s, h1, h2 => by omega
  | m + 1, s, h1, h2 => by
    unfold staysF
    by_cases e : s = i
    · subst e
      rw [if_neg hi]
    · rw [if_pos (hz s (by omega))]
      exact staysF_first last n l i hz hi m (s + 1) (by omega) (by omega)
theorem jobsF_first (b : Book) (i : Nat) (hz : ∀ j, j < i → jobBad b j = false) (hi : jobBad b i = true) : ∀ m s, s ≤ i → i < s + m → jobsF b m s = 3
  | 0, s, h1, h2 => by omega
  | m + 1, s, h1, h2 => by
    unfold jobsF
    by_cases e : s = i
    · subst e
      rw [if_pos hi]
    · rw [if_neg (by rw [hz s (by omega)]; decide)]
      exact jobsF_first b i hz hi m (s + 1) (by omega) (by omega)
theorem bn_stay {b : Book} {n : Nat} (h : 0 ≤ b.last ∧ b.last ≤ 999999) (h2 : ¬ (16 < b.stays.length ∨ 8 < b.jobs.length)) (i : Nat) (hl : i < b.stays.length) (hz : ∀ j, j < i → stayN b.last n (b.stays.take j) b.stays[j]! = 0) (hi : stayN b.last n (b.stays.take i) b.stays[i]! ≠ 0) : bookN b n = stayN b.last n (b.stays.take i) b.stays[i]! := by
  have e := staysF_first b.last n b.stays i hz hi b.stays.length 0 (by omega) (by omega)
  unfold bookN
  rw [if_neg (by rw [decide_eq_true h]; decide), if_neg h2, e, if_pos hi]
theorem bn_job {b : Book} {n : Nat} (h : 0 ≤ b.last ∧ b.last ≤ 999999) (h2 : ¬ (16 < b.stays.length ∨ 8 < b.jobs.length)) (hs : StaysOK b.last n b.stays) (i : Nat) (hl : i < b.jobs.length) (hz : ∀ j, j < i → jobBad b j = false) (hi : jobBad b i = true) : bookN b n = 3 := by
  unfold bookN
  rw [if_neg (by rw [decide_eq_true h]; decide), if_neg h2, if_neg (by simp [(staysOK_iff _ _ _).2 hs]), jobsF_first b i hz hi b.jobs.length 0 (by omega) (by omega)]
theorem stayN_one {last : Int} {n : Nat} {l : List Stay} {s : Stay} (h : carN s.id s.a s.b s.c ≠ 0 ∨ placeB s.x s.y s.z n = false ∨ ¬ (1 ≤ s.t ∧ s.t ≤ last)) : stayN last n l s = 1 := by
  unfold stayN
  by_cases h1 : carN s.id s.a s.b s.c ≠ 0
  · rw [if_pos h1]
  rw [if_neg h1]
  by_cases h2 : placeB s.x s.y s.z n = false
  · rw [if_pos h2]
  rw [if_neg h2]
  have h3 : ¬ (1 ≤ s.t ∧ s.t ≤ last) := by
    rcases h with h | h | h
    · exact absurd h h1
    · exact absurd h h2
    · exact h
  rw [if_pos (decide_eq_false h3)]
theorem carN_one {i x y z : Int} (h : carN i x y z ≠ 0) : carN i x y z = 1 := by
  unfold carN at h ⊢
  generalize (decide (1 ≤ i ∧ i ≤ 999) && sizeB x y z) = q at *
  cases q
  · rfl
  · exact absurd rfl h
theorem stay_three {last : Int} {n : Nat} {l : List Stay} {s : Stay} (h1 : carN s.id s.a s.b s.c = 0) (h2 : placeB s.x s.y s.z n = true) (h3 : 1 ≤ s.t ∧ s.t ≤ last) (h : hasPlace (placesTo n (2 * n)) (s.x, s.y, s.z) = false ∨ (0 < l.length ∧ s.t ≤ (l.getD (l.length - 1) default).t) ∨ l.any (clash s) = true) : stayN last n l s = 3 := by
  unfold stayN
  rw [if_neg (by simp [h1]), if_neg (by simp [h2]), if_neg (by rw [decide_eq_true h3]; decide)]
  by_cases g1 : hasPlace (placesTo n (2 * n)) (s.x, s.y, s.z) = false
  · rw [if_pos g1]
  rw [if_neg g1]
  by_cases g2 : 0 < l.length ∧ s.t ≤ (l.getD (l.length - 1) default).t
  · rw [if_pos g2]
  rw [if_neg g2]
  have g3 : l.any (clash s) = true := by
    rcases h with h | h | h
    · exact absurd h g1
    · exact absurd h g2
    · exact h
  rw [if_pos g3]
theorem take_prev (l : List Stay) (i : Nat) (hi : i < l.length) (h : 0 < i) (t : Int) (ht : t ≤ l[i - 1]!.t) : 0 < (l.take i).length ∧ t ≤ ((l.take i).getD ((l.take i).length - 1) default).t := by
  have hl : (l.take i).length = i := by simp; omega
  rw [hl]
  have hg : (l.take i).getD (i - 1) default = l[i - 1]! := by
    rw [getElem!_pos l (i - 1) (by omega)]
    simp [List.getD, List.getElem?_take, show i - 1 < i from by omega, show i - 1 < l.length from by omega]
  rw [hg]
  exact ⟨h, ht⟩
theorem take_clash (l : List Stay) (i : Nat) (hi : i < l.length) (s : Stay) (j : Nat) (hj : j < i) (h : clash s l[j]! = true) : (l.take i).any (clash s) = true := by
  rw [List.any_eq_true]
  refine ⟨l[j]!, ?_, h⟩
  rw [List.mem_take_iff_getElem]
  exact ⟨j, by omega, (getElem!_pos l j (by omega)).symm⟩

set_option maxHeartbeats 8000000 in
theorem rbookFault_eq (b : Book) (n : Nat) (w : World) (hb : b.At w) (n1 : 1 ≤ n) (n4 : n ≤ 4) :
    Calls Tryd.prog 6 #[b.val, .int .i64 n] w fun e w' => e = .returned (.int .i64 (bookN b n)) ∧ Below w.heap.size w w' := by
  obtain ⟨last, sa, sc, ja, jc, stays, jobs⟩ := b
  simp only [Book.val] at *
  have H1 : Hid (∀ wx, Below w.heap.size w wx → RowsAt wx sa sc 8 Stay.enc stays) := fun wx h => hb.1.below h
  have H3 : Hid (∀ wx, Below w.heap.size w wx → RowsAt wx ja jc 2 Job.enc jobs) := fun wx h => hb.2.below h
  have hm1 : sc ≤ maxLen := hb.1.2.1
  have hn1 : stays.length ≤ sc := hb.1.1
  have hm3 : jc ≤ maxLen := hb.2.2.1
  have hn3 : jobs.length ≤ jc := hb.2.1
  unfold maxLen at hm1 hm3
  have HX1 : Hid (last < 0 ∨ 999999 < last → bookN ⟨last, sa, sc, ja, jc, stays, jobs⟩ n = 1) := fun h => bn_range h
  have HX2 : Hid (0 ≤ last ∧ last ≤ 999999 → 16 < stays.length ∨ 8 < jobs.length → bookN ⟨last, sa, sc, ja, jc, stays, jobs⟩ n = 2) := fun h h2 => bn_many h h2
  have HXS : Hid (0 ≤ last ∧ last ≤ 999999 → ¬ (16 < stays.length ∨ 8 < jobs.length) → ∀ i, i < stays.length → (∀ j, j < i → stayN last n (stays.take j) stays[j]! = 0) → stayN last n (stays.take i) stays[i]! ≠ 0 → bookN ⟨last, sa, sc, ja, jc, stays, jobs⟩ n = stayN last n (stays.take i) stays[i]!) := fun h h2 i hl hz hi => bn_stay h h2 i hl hz hi
  have HXJ : Hid (0 ≤ last ∧ last ≤ 999999 → ¬ (16 < stays.length ∨ 8 < jobs.length) → StaysOK last n stays → ∀ i, i < jobs.length → (∀ j, j < i → jobBad ⟨last, sa, sc, ja, jc, stays, jobs⟩ j = false) → jobBad ⟨last, sa, sc, ja, jc, stays, jobs⟩ i = true → bookN ⟨last, sa, sc, ja, jc, stays, jobs⟩ n = 3) := fun h h2 hs i hl hz hi => bn_job h h2 hs i hl hz hi
  have HXG : Hid (BookOK last n stays jobs → bookN ⟨last, sa, sc, ja, jc, stays, jobs⟩ n = 0) := fun h => (bookN_zero _ _).2 h
  generalize bookN ⟨last, sa, sc, ja, jc, stays, jobs⟩ n = X at *
  generalize hPP : (fun (e : Ending) (w' : World) => e = .returned (.int .i64 X) ∧ Below w.heap.size w w') = PP
  have HB : Hid (∀ (k : Int) w', X = k → Below w.heap.size w w' → PP (.returned (.int .i64 k)) w') := fun k w' h1 h2 => by rw [← hPP, ← h1]; exact ⟨rfl, h2⟩
  have HG : Hid (BookOK last n stays jobs → ∀ w', Below w.heap.size w w' → PP (.returned (.int .i64 0)) w') := fun h w' h2 => by rw [← hPP, HXG.out h]; exact ⟨rfl, h2⟩
  have HST3 : Hid (∀ (s : Stay) (l : List Stay), carN s.id s.a s.b s.c = 0 → placeB s.x s.y s.z n = true → (1 ≤ s.t ∧ s.t ≤ last) → ((placesTo n (2 * n)).any (fun p => eqP p.1 p.2.1 p.2.2 s.x s.y s.z) = false ∨ (0 < l.length ∧ s.t ≤ (l.getD (l.length - 1) default).t) ∨ l.any (clash s) = true) → stayN last n l s = 3) := fun s l h1 h2 h3 h => stay_three h1 h2 h3 (by rwa [has_eq] at h)
  clear HXG
  clear hPP
  obtain ⟨w0, hw0⟩ : ∃ w0, w.alloc (.cells #[.int .i64 last, .slice sa stays.length sc, .slice ja jobs.length jc] 25) = w0 := ⟨_, rfl⟩
  have N0 : Hid (Below w.heap.size w w0 ∧ Blk w0 w.heap.size #[.int .i64 last, .slice sa stays.length sc, .slice ja jobs.length jc] 25) := by
    show _ ∧ _
    rw [← hw0]
    exact ⟨B.new1 _ _, Blk.new _ _ _⟩
  have r0 := N0.out.2.cell
  have hplen := places_len n n1 n4
  have HM : Hid (∀ wx, Calls Tryd.prog 17 #[.int .i64 n] wx fun e w' => ∃ v, e = .returned v ∧ PlacesOwn wx w' v (placesTo n (2 * n))) := fun wx => rplaces_any n wx n1 n4
  have HPE : Hid (∀ x y z, (placesTo n (2 * n)).any (fun p => eqP p.1 p.2.1 p.2.2 x y z) = hasPlace (placesTo n (2 * n)) (x, y, z)) := fun x y z => has_eq _ x y z
  have HOK : Hid (∀ s : Stay, carN s.id s.a s.b s.c = 0 → placeB s.x s.y s.z n = true → (1 ≤ s.t ∧ s.t ≤ last) → (placesTo n (2 * n)).any (fun p => eqP p.1 p.2.1 p.2.2 s.x s.y s.z) = true → okS last n s) := fun s h1 h2 h3 h4 => ⟨h1, h2, decide_eq_true h3, by rw [← has_eq]; exact h4⟩
  generalize hpl : placesTo n (2 * n) = pl at *
  clear hpl HPE
  obtain ⟨m, hm⟩ : ∃ m, m = pl.length := ⟨_, rfl⟩
  have HM1 : Hid (pl.length = m) := hm.symm
  have mm1 : 1 ≤ m := by omega
  have m14 : m ≤ 14 := by omega
  clear hm hplen hb
  go_enter Tryd.func6, Tryd.ntmps6
  by_cases hla : last < 0
  · go_wp2
    exact HB.out 1 _ (HX1.out (by omega)) N0.out.1
  by_cases hlb : 999999 < last
  · go_wp2
    exact HB.out 1 _ (HX1.out (by omega)) N0.out.1
  by_cases hs16 : 16 < stays.length
  · have hz : (16 : Int) < (stays.length : Int) := by omega
    go_wp2
    exact HB.out 2 _ (HX2.out (by omega) (by omega)) N0.out.1
  by_cases hj8 : 8 < jobs.length
  · have hz : ¬ (16 : Int) < (stays.length : Int) := by omega
    have hz2 : (8 : Int) < (jobs.length : Int) := by omega
    go_wp2
    exact HB.out 2 _ (HX2.out (by omega) (by omega)) N0.out.1
  have hz : ¬ (16 : Int) < (stays.length : Int) := by omega
  have hz2 : ¬ (8 : Int) < (jobs.length : Int) := by omega
  go_wp2_with fail
  clear hw0 r0 hz hz2
  have HS0 : Hid (∀ i, i < stays.length → (∀ j, j < i → stayN last n (stays.take j) stays[j]! = 0) → stayN last n (stays.take i) stays[i]! ≠ 0 → X = stayN last n (stays.take i) stays[i]!) := HXS.out (by omega) (by omega)
  have HJ0 : Hid (StaysOK last n stays → ∀ i, i < jobs.length → (∀ j, j < i → jobBad ⟨last, sa, sc, ja, jc, stays, jobs⟩ j = false) → jobBad ⟨last, sa, sc, ja, jc, stays, jobs⟩ i = true → X = 3) := HXJ.out (by omega) (by omega)
  clear HX1 HX2 HXS HXJ
  refine (HM.out _).mono ?_
  rintro e w9 ⟨v9, rfl, ho⟩
  obtain ⟨g, cap, rfl, pa⟩ := ho.at (by rw [HM1.out]; omega)
  rw [HM1.out] at pa ⊢
  have P9 : Hid (BFI w w9 #[.int .i64 last, .slice sa stays.length sc, .slice ja jobs.length jc] g m (fun k => pl.getD k (0, 0, 0))) := ⟨B.next N0.out.1 ho.2 N0.out.1.size, N0.out.2.below ho.2, pa⟩
  clear ho pa N0 HM
  go_wp2_with fail
  go_loopg [6] stays.length (fun gg s6 wr => ∃ i : Nat, i ≤ stays.length ∧ stays.length - i ≤ gg ∧ s6 = .int .i64 i ∧ Hid (BFI w wr #[.int .i64 last, .slice sa stays.length sc, .slice ja jobs.length jc] g m (fun k => pl.getD k (0, 0, 0))) ∧ Hid (∀ j, j < i → stayN last n (stays.take j) stays[j]! = 0))
  case atStart => exact ⟨0, Nat.zero_le _, by omega, rfl, P9, fun j hj => absurd hj (Nat.not_lt_zero _)⟩
  case round =>
    clear P9
    obtain ⟨i, hi, hg, rfl, P, A⟩ := hrel
    have ra := P.out.b0.cell
    by_cases hlt : i < stays.length
    · have hltz : (i : Int) < (stays.length : Int) := by omega
      obtain ⟨sb, soff, rfl⟩ := rows_some (H1.out _ P.out.below) (by omega)
      have s0 := rows_cell (H1.out _ P.out.below) i hlt 0 _ rfl
      have s1 := rows_cell (H1.out _ P.out.below) i hlt 1 _ rfl
      have s2 := rows_cell (H1.out _ P.out.below) i hlt 2 _ rfl
      have s3 := rows_cell (H1.out _ P.out.below) i hlt 3 _ rfl
      have s4 := rows_cell (H1.out _ P.out.below) i hlt 4 _ rfl
      have s5 := rows_cell (H1.out _ P.out.below) i hlt 5 _ rfl
      have s6 := rows_cell (H1.out _ P.out.below) i hlt 6 _ rfl
      have s7 := rows_cell (H1.out _ P.out.below) i hlt 7 _ rfl
      simp only [Nat.add_zero] at s0
      have KZ : Hid (okS last n stays[i]! → (decide (0 < i) && decide (stays[i]!.t ≤ stays[i - 1]!.t)) = false → (∀ j, j < i → clash stays[i]! stays[j]! = false) → ∀ j, j < i + 1 → stayN last n (stays.take j) stays[j]! = 0) := fun h1 h2 h3 j hj => by
        by_cases e : j < i
        · exact A.out j e
        · have : j = i := by omega
          subst this
          exact stayN_upto stays j hlt h1 h2 h3
      have K0 : Hid (stayN last n (stays.take i) stays[i]! ≠ 0 → X = stayN last n (stays.take i) stays[i]!) := HS0.out i hlt A.out
      clear A
      generalize stays[i]! = sv at *
      have K1 : Hid ((carN sv.id sv.a sv.b sv.c ≠ 0 ∨ placeB sv.x sv.y sv.z n = false ∨ ¬ (1 ≤ sv.t ∧ sv.t ≤ last)) → X = 1) := fun h => by
        have e : stayN last n (stays.take i) sv = 1 := stayN_one h
        rw [K0.out (by rw [e]; decide), e]
      obtain ⟨wa, hwa⟩ : ∃ wa, wr.alloc (.cells #[.int .i64 sv.t, .int .i64 sv.id, .int .i64 sv.a, .int .i64 sv.b, .int .i64 sv.c, .int .i64 sv.x, .int .i64 sv.y, .int .i64 sv.z] 47) = wa := ⟨_, rfl⟩
      obtain ⟨sbk, hsb⟩ : ∃ sbk, wr.heap.size = sbk := ⟨_, rfl⟩
      have MA : Hid ((BFI w wa #[.int .i64 last, .slice (some ⟨sb, soff, none⟩) stays.length sc, .slice ja jobs.length jc] g m (fun k => pl.getD k (0, 0, 0))) ∧ Blk wa sbk #[.int .i64 sv.t, .int .i64 sv.id, .int .i64 sv.a, .int .i64 sv.b, .int .i64 sv.c, .int .i64 sv.x, .int .i64 sv.y, .int .i64 sv.z] 47) := by
        show _ ∧ _
        rw [← hwa]
        exact ⟨P.out.next (B.new1 _ _), Blk.new1 hsb.symm _ _⟩
      have r7 := MA.out.2.cell
      clear P
      go_upto_region 10 with fail
      clear s0 s1 s2 s3 s4 s5 s6 s7 ra hwa
      (try simp only [hsb])
      clear hsb
      go_wp2_with fail
      clear r7
      refine (rcar_any sv.id sv.a sv.b sv.c _).mono ?_
      rintro e w1 ⟨rfl, b1⟩
      have M1 : Hid ((BFI w w1 #[.int .i64 last, .slice (some ⟨sb, soff, none⟩) stays.length sc, .slice ja jobs.length jc] g m (fun k => pl.getD k (0, 0, 0))) ∧ Blk w1 sbk #[.int .i64 sv.t, .int .i64 sv.id, .int .i64 sv.a, .int .i64 sv.b, .int .i64 sv.c, .int .i64 sv.x, .int .i64 sv.y, .int .i64 sv.z] 47) := ⟨MA.out.1.next b1, MA.out.2.below b1⟩
      clear b1 MA
      by_cases hc : carN sv.id sv.a sv.b sv.c = 0
      case neg =>
        have hp0 := carN_pos hc
        have hp : X = carN sv.id sv.a sv.b sv.c := by rw [K1.out (Or.inl hc), carN_one hc]
        clear K0 K1
        generalize carN sv.id sv.a sv.b sv.c = c0 at hp hp0 ⊢
        clear hc
        go_wp2
        exact HB.out c0 _ hp M1.out.1.below
      rw [hc]
      have r7 := M1.out.2.cell
      go_wp2_with fail
      clear r7
      refine (rplace_any sv.x sv.y sv.z n _).mono ?_
      rintro e w2 ⟨rfl, b2⟩
      have M2 : Hid ((BFI w w2 #[.int .i64 last, .slice (some ⟨sb, soff, none⟩) stays.length sc, .slice ja jobs.length jc] g m (fun k => pl.getD k (0, 0, 0))) ∧ Blk w2 sbk #[.int .i64 sv.t, .int .i64 sv.id, .int .i64 sv.a, .int .i64 sv.b, .int .i64 sv.c, .int .i64 sv.x, .int .i64 sv.y, .int .i64 sv.z] 47) := ⟨M1.out.1.next b2, M1.out.2.below b2⟩
      clear b2 M1
      cases hpb : placeB sv.x sv.y sv.z n
      · rw [faultN_f]
        go_wp2
        exact HB.out 1 _ (K1.out (Or.inr (Or.inl hpb))) M2.out.1.below
      rw [faultN_t]
      have r7 := M2.out.2.cell
      have ra := M2.out.1.b0.cell
      by_cases ht1 : sv.t < 1
      · go_wp2
        exact HB.out 1 _ (K1.out (Or.inr (Or.inr (by omega)))) M2.out.1.below
      by_cases ht2 : last < sv.t
      · go_wp2
        exact HB.out 1 _ (K1.out (Or.inr (Or.inr (by omega)))) M2.out.1.below
      have K3 : Hid ((pl.any (fun p => eqP p.1 p.2.1 p.2.2 sv.x sv.y sv.z) = false ∨ (0 < i ∧ sv.t ≤ stays[i - 1]!.t) ∨ ∃ j, j < i ∧ clash sv stays[j]! = true) → X = 3) := fun h => by
        have e : stayN last n (stays.take i) sv = 3 := HST3.out sv (stays.take i) hc hpb (by omega) (by
          rcases h with h | ⟨h1, h2⟩ | ⟨j, hj, h⟩
          · exact Or.inl h
          · exact Or.inr (Or.inl (take_prev stays i hlt h1 _ h2))
          · exact Or.inr (Or.inr (take_clash stays i hlt sv j hj h)))
        rw [K0.out (by rw [e]; decide), e]
      clear K0 K1
      have KY : Hid (pl.any (fun p => eqP p.1 p.2.1 p.2.2 sv.x sv.y sv.z) = true → okS last n sv) := HOK.out sv hc hpb (by omega)
      go_wp2_with fail
      clear r7 ra hc hpb ht1 ht2
      have AO : Hid (stays.length - i ≤ gk ∧ i ≤ stays.length) := ⟨hg, hi⟩
      go_loopg [10, 11] m (fun gg s10 s11 wr => ∃ (k : Nat) (q : Bool), k ≤ m ∧ m - k ≤ gg ∧ s11 = .int .i64 k ∧ s10 = .bool q ∧ Hid (q = (pl.take k).any (fun p => eqP p.1 p.2.1 p.2.2 sv.x sv.y sv.z)) ∧ Hid ((BFI w wr #[.int .i64 last, .slice (some ⟨sb, soff, none⟩) stays.length sc, .slice ja jobs.length jc] g m (fun k => pl.getD k (0, 0, 0))) ∧ Blk wr sbk #[.int .i64 sv.t, .int .i64 sv.id, .int .i64 sv.a, .int .i64 sv.b, .int .i64 sv.c, .int .i64 sv.x, .int .i64 sv.y, .int .i64 sv.z] 47))
      case atStart => exact ⟨0, false, Nat.zero_le _, by omega, rfl, rfl, (show Hid _ from by simp [Hid]), M2⟩
      case round =>
        clear M2
        obtain ⟨k, q, hk, hgk, rfl, rfl, HQ, M⟩ := hrel
        by_cases hlk : k < m
        · have hlkz : (k : Int) < (m : Int) := by omega
          have QN : Hid ((q || eqP (pl.getD k (0, 0, 0)).1 (pl.getD k (0, 0, 0)).2.1 (pl.getD k (0, 0, 0)).2.2 sv.x sv.y sv.z) = (pl.take (k + 1)).any (fun p => eqP p.1 p.2.1 p.2.2 sv.x sv.y sv.z)) := by show _ = _; rw [any_getD _ _ _ (by rw [HM1.out]; exact hlk), ← HQ.out]
          have HPC : Hid (∀ wx, BFI w wx #[.int .i64 last, .slice (some ⟨sb, soff, none⟩) stays.length sc, .slice ja jobs.length jc] g m (fun k => pl.getD k (0, 0, 0)) → wx.cell? ⟨g, k * 3, none⟩ = some (.int .i64 (pl.getD k (0, 0, 0)).1) ∧ wx.cell? ⟨g, k * 3 + 1, none⟩ = some (.int .i64 (pl.getD k (0, 0, 0)).2.1) ∧ wx.cell? ⟨g, k * 3 + 2, none⟩ = some (.int .i64 (pl.getD k (0, 0, 0)).2.2)) := fun wx h => h.pl.2 k hlk
          have v5 := fun p : BelowW wr => (M.out.2.below p.hb).cell 5
          have v6 := fun p : BelowW wr => (M.out.2.below p.hb).cell 6
          have v7 := fun p : BelowW wr => (M.out.2.below p.hb).cell 7
          obtain ⟨pp, hpp⟩ : ∃ pp, pl.getD k (0, 0, 0) = pp := ⟨_, rfl⟩
          rw [hpp] at HPC QN
          clear hpp
          obtain ⟨px, py, pz⟩ := pp
          simp only at HPC QN
          have p0 := fun p : BelowW wr => (HPC.out p.wd (M.out.1.next p.hb)).1
          have p1 := fun p : BelowW wr => (HPC.out p.wd (M.out.1.next p.hb)).2.1
          have p2 := fun p : BelowW wr => (HPC.out p.wd (M.out.1.next p.hb)).2.2
          have e1 := eqP_run px py pz sv.x sv.y sv.z
          have g1 := eqP_guard px py pz sv.x sv.y sv.z
          generalize eqP px py pz sv.x sv.y sv.z = qe at e1 QN
          clear HQ
          cases q
          · go_wp2_with fail
            refine wp_region_below (by kernel_rfl) (by kernel_rfl) ?_
            repeat (go_big_quiet_step (fail))
            refine wpQuiet_nil ?_
            rintro wb ⟨⟨_, NQ⟩, rfl⟩
            have MB : Hid ((BFI w wb #[.int .i64 last, .slice (some ⟨sb, soff, none⟩) stays.length sc, .slice ja jobs.length jc] g m (fun k => pl.getD k (0, 0, 0))) ∧ Blk wb sbk #[.int .i64 sv.t, .int .i64 sv.id, .int .i64 sv.a, .int .i64 sv.b, .int .i64 sv.c, .int .i64 sv.x, .int .i64 sv.y, .int .i64 sv.z] 47) := ⟨M.out.1.next NQ, M.out.2.below NQ⟩
            clear p0 p1 p2 v5 v6 v7 e1 g1 NQ M
            go_wp2
            go_roundg (m - (k + 1))
            case measure => omega
            case rel => exact ⟨k + 1, qe, by omega, by omega, by go_num, rfl, (by have := QN.out; simpa [Hid] using this), MB⟩
          · go_wp2_with fail
            refine wp_region_below (by kernel_rfl) (by kernel_rfl) ?_
            repeat (go_big_quiet_step (fail))
            refine wpQuiet_nil ?_
            rintro wb ⟨⟨_, NQ⟩, rfl⟩
            have MB : Hid ((BFI w wb #[.int .i64 last, .slice (some ⟨sb, soff, none⟩) stays.length sc, .slice ja jobs.length jc] g m (fun k => pl.getD k (0, 0, 0))) ∧ Blk wb sbk #[.int .i64 sv.t, .int .i64 sv.id, .int .i64 sv.a, .int .i64 sv.b, .int .i64 sv.c, .int .i64 sv.x, .int .i64 sv.y, .int .i64 sv.z] 47) := ⟨M.out.1.next NQ, M.out.2.below NQ⟩
            clear p0 p1 p2 v5 v6 v7 e1 g1 NQ M
            go_wp2
            go_roundg (m - (k + 1))
            case measure => omega
            case rel => exact ⟨k + 1, true, by omega, by omega, by go_num, rfl, (by have := QN.out; simpa [Hid] using this), MB⟩
        · have hlkz : ¬ (k : Int) < (m : Int) := by omega
          have hkm : k = m := by omega
          have Q2 : Hid (q = pl.any (fun p => eqP p.1 p.2.1 p.2.2 sv.x sv.y sv.z)) := by show _ = _; rw [HQ.out, hkm, ← HM1.out, List.take_length]
          clear HQ hkm
          obtain ⟨qb, HQB⟩ : ∃ qb, Hid ((decide (0 < i) && decide (sv.t ≤ stays[i - 1]!.t)) = qb) := ⟨_, rfl⟩
          obtain ⟨qx, HQX⟩ : ∃ qx, Hid (qx = (!q || qb)) := ⟨_, rfl⟩
          go_upto_region 23 with fail
          go_cut [105] (fun s105 wx => s105 = .bool qx ∧ Hid ((BFI w wx #[.int .i64 last, .slice (some ⟨sb, soff, none⟩) stays.length sc, .slice ja jobs.length jc] g m (fun k => pl.getD k (0, 0, 0))) ∧ Blk wx sbk #[.int .i64 sv.t, .int .i64 sv.id, .int .i64 sv.a, .int .i64 sv.b, .int .i64 sv.c, .int .i64 sv.x, .int .i64 sv.y, .int .i64 sv.z] 47))
          case first =>
            cases q
            · clear HQB KY KZ Q2 HB HG HOK H3
              refine wp_region_below (by kernel_rfl) (by kernel_rfl) ?_
              repeat (go_big_quiet_step (fail))
              refine wpQuiet_nil ?_
              rintro wb ⟨⟨_, NQ⟩, rfl⟩
              go_wp2
              go_meet
              exact ⟨congrArg Value.bool (by rw [HQX.out]; rfl), M.out.1.next NQ, M.out.2.below NQ⟩
            · rcases i with _ | i'
              · clear KY KZ Q2 HB HG HOK H3
                refine wp_region_below (by kernel_rfl) (by kernel_rfl) ?_
                repeat (go_big_quiet_step (fail))
                refine wpQuiet_nil ?_
                rintro wb ⟨⟨_, NQ⟩, rfl⟩
                go_wp2
                go_meet
                exact ⟨congrArg Value.bool (by rw [HQX.out, ← HQB.out]; rfl), M.out.1.next NQ, M.out.2.below NQ⟩
              · have hli : i' < stays.length := by omega
                have hliz : (i' : Int) < (stays.length : Int) := by omega
                have wj : IntKind.i64.wrap (i' : Int) = (i' : Int) := by rw [IntKind.wrap_i64]; omega
                have c0 := fun p : BelowW wr => rows_cell (H1.out p.wd (M.out.1.next p.hb).below) i' hli 0 _ rfl
                have v0 := fun p : BelowW wr => (M.out.2.below p.hb).cell 0
                have b1 := fun p : BelowW wr => (M.out.1.b0.below p.hb).cell 1
                simp only [Nat.add_zero] at c0
                have HQB2 : Hid (decide (sv.t ≤ stays[i']!.t) = qb) := by
                  show _ = _
                  rw [← HQB.out]
                  simp
                generalize stays[i']!.t = pt at c0 HQB2
                clear HQB KY KZ Q2 HB HG HOK H3 H1
                have e9 : ((i' + 1 : Nat) : Int) = (i' : Int) + 1 := by omega
                (try simp only [e9])
                by_cases hle : sv.t ≤ pt
                · obtain rfl : qb = true := by rw [← HQB2.out]; simpa using hle
                  refine wp_region_below (by kernel_rfl) (by kernel_rfl) ?_
                  repeat (go_big_quiet_step (fail))
                  refine wpQuiet_nil ?_
                  rintro wb ⟨⟨_, NQ⟩, rfl⟩
                  go_wp2
                  go_meet
                  exact ⟨congrArg Value.bool (by rw [HQX.out]; rfl), M.out.1.next NQ, M.out.2.below NQ⟩
                · obtain rfl : qb = false := by rw [← HQB2.out]; simpa using hle
                  refine wp_region_below (by kernel_rfl) (by kernel_rfl) ?_
                  repeat (go_big_quiet_step (fail))
                  refine wpQuiet_nil ?_
                  rintro wb ⟨⟨_, NQ⟩, rfl⟩
                  go_wp2
                  go_meet
                  exact ⟨congrArg Value.bool (by rw [HQX.out]; rfl), M.out.1.next NQ, M.out.2.below NQ⟩
          case rest =>
          clear M
          obtain ⟨rfl, M⟩ := hcut
          cases qx
          case true =>
            go_wp2
            exact HB.out 3 _ (K3.out (by
              have h1 := HQX.out
              have h2 := Q2.out
              have h3 := HQB.out
              cases q
              · exact Or.inl h2.symm
              · obtain rfl : qb = true := by simpa using h1.symm
                simp only [Bool.and_eq_true, decide_eq_true_eq] at h3
                exact Or.inr (Or.inl h3))) M.out.1.below
          have hqq : q = true ∧ qb = false := by
            have := HQX.out
            revert this
            cases q <;> cases qb <;> decide
          obtain ⟨rfl, rfl⟩ := hqq
          have KX : Hid ((∀ j, j < i → clash sv stays[j]! = false) → ∀ j, j < i + 1 → stayN last n (stays.take j) stays[j]! = 0) := KZ.out (KY.out Q2.out.symm) HQB.out
          clear KZ KY Q2 HQB HQX
          go_wp2_with fail
          go_loopg [12] i (fun gg s12 wr => ∃ k : Nat, k ≤ i ∧ i - k ≤ gg ∧ s12 = .int .i64 k ∧ Hid (∀ j, j < k → clash sv stays[j]! = false) ∧ Hid ((BFI w wr #[.int .i64 last, .slice (some ⟨sb, soff, none⟩) stays.length sc, .slice ja jobs.length jc] g m (fun k => pl.getD k (0, 0, 0))) ∧ Blk wr sbk #[.int .i64 sv.t, .int .i64 sv.id, .int .i64 sv.a, .int .i64 sv.b, .int .i64 sv.c, .int .i64 sv.x, .int .i64 sv.y, .int .i64 sv.z] 47))
          case atStart => exact ⟨0, Nat.zero_le _, by omega, rfl, fun j hj => absurd hj (Nat.not_lt_zero _), M⟩
          case round =>
            clear M
            obtain ⟨k, hk, hgk, rfl, C, M⟩ := hrel
            by_cases hlk : k < i
            · have hlkz : (k : Int) < (i : Int) := by omega
              have hks : k < stays.length := by omega
              have hksz : (k : Int) < (stays.length : Int) := by omega
              have b1 := fun p : BelowW wr => (M.out.1.b0.below p.hb).cell 1
              have c1 := fun p : BelowW wr => rows_cell (H1.out p.wd (M.out.1.next p.hb).below) k hks 1 _ rfl
              have c5 := fun p : BelowW wr => rows_cell (H1.out p.wd (M.out.1.next p.hb).below) k hks 5 _ rfl
              have c6 := fun p : BelowW wr => rows_cell (H1.out p.wd (M.out.1.next p.hb).below) k hks 6 _ rfl
              have c7 := fun p : BelowW wr => rows_cell (H1.out p.wd (M.out.1.next p.hb).below) k hks 7 _ rfl
              have v1 := fun p : BelowW wr => (M.out.2.below p.hb).cell 1
              have v5 := fun p : BelowW wr => (M.out.2.below p.hb).cell 5
              have v6 := fun p : BelowW wr => (M.out.2.below p.hb).cell 6
              have v7 := fun p : BelowW wr => (M.out.2.below p.hb).cell 7
              have CN : Hid (clash sv stays[k]! = false → ∀ j, j < k + 1 → clash sv stays[j]! = false) := fun h => clash_more C.out h
              have KD : Hid (clash sv stays[k]! = true → X = 3) := fun h => K3.out (Or.inr (Or.inr ⟨k, hlk, h⟩))
              have KC : Hid (clash sv stays[k]! = (eqP stays[k]!.x stays[k]!.y stays[k]!.z sv.x sv.y sv.z || stays[k]!.id == sv.id)) := rfl
              have e1 := eqP_run stays[k]!.x stays[k]!.y stays[k]!.z sv.x sv.y sv.z
              have g1 := eqP_guard stays[k]!.x stays[k]!.y stays[k]!.z sv.x sv.y sv.z
              generalize clash sv stays[k]! = qc at CN KC KD
              generalize stays[k]! = av at *
              generalize eqP av.x av.y av.z sv.x sv.y sv.z = qe at e1 KC
              clear C
              go_upto_region 28 with fail
              go_cut [132] (fun s132 wx => s132 = .bool qc ∧ Hid ((BFI w wx #[.int .i64 last, .slice (some ⟨sb, soff, none⟩) stays.length sc, .slice ja jobs.length jc] g m (fun k => pl.getD k (0, 0, 0))) ∧ Blk wx sbk #[.int .i64 sv.t, .int .i64 sv.id, .int .i64 sv.a, .int .i64 sv.b, .int .i64 sv.c, .int .i64 sv.x, .int .i64 sv.y, .int .i64 sv.z] 47))
              case first =>
                clear CN KX HB HG HOK H3 H1
                cases qe
                · cases q2 : (av.id == sv.id)
                  · rw [q2] at KC
                    refine wp_region_below (by kernel_rfl) (by kernel_rfl) ?_
                    repeat (go_big_quiet_step (fail))
                    refine wpQuiet_nil ?_
                    rintro wb ⟨⟨_, NQ⟩, rfl⟩
                    go_wp2
                    go_meet
                    exact ⟨congrArg Value.bool (by rw [KC.out]; rfl), M.out.1.next NQ, M.out.2.below NQ⟩
                  · rw [q2] at KC
                    refine wp_region_below (by kernel_rfl) (by kernel_rfl) ?_
                    repeat (go_big_quiet_step (fail))
                    refine wpQuiet_nil ?_
                    rintro wb ⟨⟨_, NQ⟩, rfl⟩
                    go_wp2
                    go_meet
                    exact ⟨congrArg Value.bool (by rw [KC.out]; rfl), M.out.1.next NQ, M.out.2.below NQ⟩
                · refine wp_region_below (by kernel_rfl) (by kernel_rfl) ?_
                  repeat (go_big_quiet_step (fail))
                  refine wpQuiet_nil ?_
                  rintro wb ⟨⟨_, NQ⟩, rfl⟩
                  go_wp2
                  go_meet
                  exact ⟨congrArg Value.bool (by rw [KC.out]; rfl), M.out.1.next NQ, M.out.2.below NQ⟩
              case rest =>
              clear b1 c1 c5 c6 c7 v1 v5 v6 v7 e1 g1 M
              obtain ⟨rfl, M⟩ := hcut
              clear KC
              cases qc
              · go_wp2
                go_roundg (i - (k + 1))
                case measure => omega
                case rel => exact ⟨k + 1, by omega, by omega, by go_num, CN.out (by trivial), M⟩
              · clear CN
                go_wp2
                exact HB.out 3 _ (KD.out (by trivial)) M.out.1.below
            · have hlkz : ¬ (k : Int) < (i : Int) := by omega
              have hke : k = i := by omega
              subst hke
              have KW : Hid (∀ j, j < k + 1 → stayN last n (stays.take j) stays[j]! = 0) := KX.out C.out
              clear KX C
              go_wp2
              go_roundg (stays.length - (k + 1))
              case measure => omega
              case rel => exact ⟨k + 1, by omega, by omega, by go_num, M.out.1, KW⟩
    · have hltz : ¬ (i : Int) < (stays.length : Int) := by omega
      have hil : i = stays.length := by omega
      have HSO : Hid (StaysOK last n stays) := (staysOK_iff last n stays).1 ((staysF_zero last n stays _ 0).2 (fun j _ hj => A.out j (by omega)))
      clear A hil HOK
      go_wp2_with fail
      clear ra hltz hg hi hlt
      go_loopg [13] jobs.length (fun gg s13 wr => ∃ i : Nat, i ≤ jobs.length ∧ jobs.length - i ≤ gg ∧ s13 = .int .i64 i ∧ Hid (BFI w wr #[.int .i64 last, .slice sa stays.length sc, .slice ja jobs.length jc] g m (fun k => pl.getD k (0, 0, 0))) ∧ Hid (∀ j, j < i → jobBad ⟨last, sa, sc, ja, jc, stays, jobs⟩ j = false))
      case atStart => exact ⟨0, Nat.zero_le _, by omega, rfl, P, fun j hj => absurd hj (Nat.not_lt_zero _)⟩
      case round =>
        clear P
        obtain ⟨i, hi, hg, rfl, P, A⟩ := hrel
        have ra := P.out.b0.cell
        by_cases hlt : i < jobs.length
        · have hltz : (i : Int) < (jobs.length : Int) := by omega
          obtain ⟨jb, joff, rfl⟩ := rows_some (H3.out _ P.out.below) (by omega)
          have KZ : Hid (stays.any (fun s => s.t == jobs[i]!.t) = true → hasJob (jobs.take i) jobs[i]! = false → ∀ j, j < i + 1 → jobBad ⟨last, sa, sc, (some ⟨jb, joff, none⟩), jc, stays, jobs⟩ j = false) := fun h1 h2 j hj => by
            by_cases e : j < i
            · exact A.out j e
            · have : j = i := by omega
              subst this
              unfold jobBad
              show (decide (findI ⟨last, sa, sc, (some ⟨jb, joff, none⟩), jc, stays, jobs⟩ jobs[j]!.t < 0) || hasJob (jobs.take j) jobs[j]!) = false
              rw [h2, Bool.or_false]
              obtain ⟨s, hs, e⟩ := List.any_eq_true.1 h1
              have := (findI_nonneg ⟨last, sa, sc, (some ⟨jb, joff, none⟩), jc, stays, jobs⟩ jobs[j]!.t).2 ⟨s, hs, by simpa using e⟩
              exact decide_eq_false (by omega)
          have KJ : Hid (stays.any (fun s => s.t == jobs[i]!.t) = false ∨ hasJob (jobs.take i) jobs[i]! = true → X = 3) := fun h => HJ0.out HSO.out i hlt A.out (by
            unfold jobBad
            show (decide (findI ⟨last, sa, sc, (some ⟨jb, joff, none⟩), jc, stays, jobs⟩ jobs[i]!.t < 0) || hasJob (jobs.take i) jobs[i]!) = true
            rcases h with h | h
            · rw [decide_eq_true, Bool.true_or]
              have hn := findI_nonneg ⟨last, sa, sc, (some ⟨jb, joff, none⟩), jc, stays, jobs⟩ jobs[i]!.t
              have hx : ¬ ∃ s ∈ stays, s.t = jobs[i]!.t := fun ⟨s, hs, e⟩ => by
                rw [List.any_eq_false] at h
                exact h s hs (by simpa using e)
              exact Int.not_le.1 (fun h0 => hx (hn.1 h0))
            · rw [h, Bool.or_true])
          clear A
          have HJC : Hid (∀ wx, Below w.heap.size w wx → wx.cell? ⟨jb, joff + i * 2, none⟩ = some (.int .i64 jobs[i]!.t) ∧ wx.cell? ⟨jb, joff + i * 2 + 1, none⟩ = some (.bool jobs[i]!.f)) := fun wx h => ⟨rows_cell (H3.out wx h) i hlt 0 _ rfl, rows_cell (H3.out wx h) i hlt 1 _ rfl⟩
          obtain ⟨jv, hjv⟩ : ∃ jv, jobs[i]! = jv := ⟨_, rfl⟩
          rw [hjv] at KZ HJC KJ
          clear hjv
          obtain ⟨jt, jf⟩ := jv
          simp only at HJC KZ KJ
          have AO : Hid (jobs.length - i ≤ gk ∧ i ≤ jobs.length) := ⟨hg, hi⟩
          go_wp2_with fail
          clear ra
          go_loopg [14, 15] stays.length (fun gg s14 s15 wr => ∃ (k : Nat) (q : Bool), k ≤ stays.length ∧ stays.length - k ≤ gg ∧ s15 = .int .i64 k ∧ s14 = .bool q ∧ Hid (q = (stays.take k).any (fun s => s.t == jt)) ∧ Hid (BFI w wr #[.int .i64 last, .slice sa stays.length sc, .slice (some ⟨jb, joff, none⟩) jobs.length jc] g m (fun k => pl.getD k (0, 0, 0))))
          case atStart => exact ⟨0, false, Nat.zero_le _, by omega, rfl, rfl, (show Hid _ from by simp [Hid]), P⟩
          case round =>
            clear P
            obtain ⟨k, q, hk, hgk, rfl, rfl, HQ, P⟩ := hrel
            have ra := P.out.b0.cell
            by_cases hlk : k < stays.length
            · have hlkz : (k : Int) < (stays.length : Int) := by omega
              obtain ⟨sb, soff, rfl⟩ := rows_some (H1.out _ P.out.below) (by omega)
              have QN : Hid ((q || stays[k]!.t == jt) = (stays.take (k + 1)).any (fun s => s.t == jt)) := by show _ = _; rw [any_upto _ _ _ hlk, ← HQ.out]
              have c0 := fun p : BelowW wr => rows_cell (H1.out p.wd (P.out.next p.hb).below) k hlk 0 _ rfl
              have b1 := fun p : BelowW wr => (P.out.b0.below p.hb).cell 1
              have b2 := fun p : BelowW wr => (P.out.b0.below p.hb).cell 2
              have e0 := fun p : BelowW wr => (HJC.out p.wd (P.out.next p.hb).below).1
              simp only [Nat.add_zero] at c0
              obtain ⟨st, hst⟩ : ∃ st, stays[k]!.t = st := ⟨_, rfl⟩
              rw [hst] at QN
              simp only [hst] at c0
              clear HQ hst
              cases q
              · go_wp2_with fail
                clear ra
                refine wp_region_below (by kernel_rfl) (by kernel_rfl) ?_
                repeat (go_big_quiet_step (fail))
                refine wpQuiet_nil ?_
                rintro wb ⟨⟨_, NQ⟩, rfl⟩
                have PB : Hid (BFI w wb #[.int .i64 last, .slice (some ⟨sb, soff, none⟩) stays.length sc, .slice (some ⟨jb, joff, none⟩) jobs.length jc] g m (fun k => pl.getD k (0, 0, 0))) := P.out.next NQ
                clear c0 b1 b2 e0 NQ P
                go_wp2
                go_roundg (stays.length - (k + 1))
                case measure => omega
                case rel => exact ⟨k + 1, (st == jt), by omega, by omega, by go_num, rfl, (by have := QN.out; simpa [Hid] using this), PB⟩
              · go_wp2_with fail
                clear ra
                refine wp_region_below (by kernel_rfl) (by kernel_rfl) ?_
                repeat (go_big_quiet_step (fail))
                refine wpQuiet_nil ?_
                rintro wb ⟨⟨_, NQ⟩, rfl⟩
                have PB : Hid (BFI w wb #[.int .i64 last, .slice (some ⟨sb, soff, none⟩) stays.length sc, .slice (some ⟨jb, joff, none⟩) jobs.length jc] g m (fun k => pl.getD k (0, 0, 0))) := P.out.next NQ
                clear c0 b1 b2 e0 NQ P
                go_wp2
                go_roundg (stays.length - (k + 1))
                case measure => omega
                case rel => exact ⟨k + 1, true, by omega, by omega, by go_num, rfl, (by have := QN.out; simpa [Hid] using this), PB⟩
            · have hlkz : ¬ (k : Int) < (stays.length : Int) := by omega
              have hkm : k = stays.length := by omega
              have Q2 : Hid (q = stays.any (fun s => s.t == jt)) := by show _ = _; rw [HQ.out, hkm, List.take_length]
              clear HQ hkm
              go_wp2_with fail
              clear ra
              go_loopg [14, 16] i (fun gg s14 s16 wr => ∃ (k : Nat) (r : Bool), k ≤ i ∧ i - k ≤ gg ∧ s16 = .int .i64 k ∧ s14 = .bool r ∧ Hid (r = (q && !hasJob (jobs.take k) ⟨jt, jf⟩)) ∧ Hid (BFI w wr #[.int .i64 last, .slice sa stays.length sc, .slice (some ⟨jb, joff, none⟩) jobs.length jc] g m (fun k => pl.getD k (0, 0, 0))))
              case atStart => exact ⟨0, q, Nat.zero_le _, by omega, rfl, rfl, (show Hid _ from by simp [Hid, hasJob]), P⟩
              case round =>
                clear P
                obtain ⟨k, r, hk, hgk, rfl, rfl, HR, P⟩ := hrel
                by_cases hlk : k < i
                · have hlkz : (k : Int) < (i : Int) := by omega
                  have hkj : k < jobs.length := by omega
                  have hkjz : (k : Int) < (jobs.length : Int) := by omega
                  have RN : Hid ((r && !(jobs[k]!.t == jt && jobs[k]!.f == jf)) = (q && !hasJob (jobs.take (k + 1)) ⟨jt, jf⟩)) := by
                    show _ = _
                    unfold hasJob
                    rw [any_upto _ _ _ hkj, HR.out]
                    unfold hasJob
                    simp only
                    rw [beq_sym jobs[k]!.t jt, bool_sym jobs[k]!.f jf]
                    generalize (jobs.take k).any _ = r1
                    generalize (jt == jobs[k]!.t && jf == jobs[k]!.f) = r2
                    cases q <;> cases r1 <;> cases r2 <;> rfl
                  have HKC : Hid (∀ wx, Below w.heap.size w wx → wx.cell? ⟨jb, joff + k * 2, none⟩ = some (.int .i64 jobs[k]!.t) ∧ wx.cell? ⟨jb, joff + k * 2 + 1, none⟩ = some (.bool jobs[k]!.f)) := fun wx h => ⟨rows_cell (H3.out wx h) k hkj 0 _ rfl, rows_cell (H3.out wx h) k hkj 1 _ rfl⟩
                  obtain ⟨kv, hkv⟩ : ∃ kv, jobs[k]! = kv := ⟨_, rfl⟩
                  rw [hkv] at RN HKC
                  clear hkv
                  obtain ⟨kt, kf⟩ := kv
                  simp only at HKC RN
                  have b2 := fun p : BelowW wr => (P.out.b0.below p.hb).cell 2
                  have c0 := fun p : BelowW wr => (HKC.out p.wd (P.out.next p.hb).below).1
                  have c1 := fun p : BelowW wr => (HKC.out p.wd (P.out.next p.hb).below).2
                  have e0 := fun p : BelowW wr => (HJC.out p.wd (P.out.next p.hb).below).1
                  have e1 := fun p : BelowW wr => (HJC.out p.wd (P.out.next p.hb).below).2
                  have eS := neqJJ_run kt jt kf jf
                  have gS := eqJ_guard kt jt kf jf
                  generalize (kt == jt && kf == jf) = qe at eS RN
                  clear HR
                  cases r
                  · go_wp2_with fail
                    refine wp_region_below (by kernel_rfl) (by kernel_rfl) ?_
                    repeat (go_big_quiet_step (fail))
                    refine wpQuiet_nil ?_
                    rintro wb ⟨⟨_, NQ⟩, rfl⟩
                    have PB : Hid (BFI w wb #[.int .i64 last, .slice sa stays.length sc, .slice (some ⟨jb, joff, none⟩) jobs.length jc] g m (fun k => pl.getD k (0, 0, 0))) := P.out.next NQ
                    clear c0 c1 b2 e0 e1 eS gS NQ P
                    go_wp2
                    go_roundg (i - (k + 1))
                    case measure => omega
                    case rel => exact ⟨k + 1, false, by omega, by omega, by go_num, rfl, (show Hid _ from by have := RN.out; simpa [Hid] using this), PB⟩
                  · go_wp2_with fail
                    refine wp_region_below (by kernel_rfl) (by kernel_rfl) ?_
                    repeat (go_big_quiet_step (fail))
                    refine wpQuiet_nil ?_
                    rintro wb ⟨⟨_, NQ⟩, rfl⟩
                    have PB : Hid (BFI w wb #[.int .i64 last, .slice sa stays.length sc, .slice (some ⟨jb, joff, none⟩) jobs.length jc] g m (fun k => pl.getD k (0, 0, 0))) := P.out.next NQ
                    clear c0 c1 b2 e0 e1 eS gS NQ P
                    go_wp2
                    go_roundg (i - (k + 1))
                    case measure => omega
                    case rel => exact ⟨k + 1, !qe, by omega, by omega, by go_num, rfl, (show Hid _ from by have := RN.out; simpa [Hid] using this), PB⟩
                · have hlkz : ¬ (k : Int) < (i : Int) := by omega
                  have hke : k = i := by omega
                  subst hke
                  cases r
                  · have HX3 : Hid (X = 3) := by
                      refine KJ.out ?_
                      have h1 := HR.out
                      have h2 := Q2.out
                      cases q
                      · exact Or.inl h2.symm
                      · right
                        revert h1
                        cases hasJob (jobs.take k) ⟨jt, jf⟩ <;> decide
                    clear HR KJ
                    go_wp2
                    exact HB.out 3 _ HX3.out P.out.below
                  · have hqq : q = true ∧ hasJob (jobs.take k) ⟨jt, jf⟩ = false := by
                      have := HR.out
                      revert this
                      cases q <;> cases hasJob (jobs.take k) ⟨jt, jf⟩ <;> decide
                    have KW := KZ.out (Q2.out.symm.trans hqq.1) hqq.2
                    have KW' : Hid (∀ j, j < k + 1 → jobBad ⟨last, sa, sc, (some ⟨jb, joff, none⟩), jc, stays, jobs⟩ j = false) := KW
                    clear HR hqq KZ KW
                    go_wp2
                    go_roundg (jobs.length - (k + 1))
                    case measure => omega
                    case rel => exact ⟨k + 1, by omega, by omega, by go_num, P, KW'⟩
        · have hltz : ¬ (i : Int) < (jobs.length : Int) := by omega
          have hil : i = jobs.length := by omega
          have HJO : Hid (JobsOK stays jobs) := (jobsOK_iff ⟨last, sa, sc, ja, jc, stays, jobs⟩).1 ((jobsF_zero ⟨last, sa, sc, ja, jc, stays, jobs⟩ _ 0).2 (fun j _ hj => A.out j (by subst hil; simpa using hj)))
          have HF : Hid (∀ w', Below w.heap.size w w' → PP (.returned (.int .i64 0)) w') := HG.out ⟨by omega, by omega, by omega, HSO.out, HJO.out⟩
          clear A hil HJO HSO HG
          go_wp2
          exact HF.out _ P.out.below

end Bk
end Go.Proofs.YtkgicpialdhnhaaDoor
