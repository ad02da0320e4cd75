/- FromNumsB. -/
import Derived.Test.YtopgllmjeliklaaGreatDoorKhFromNums
set_option maxRecDepth 100000
set_option linter.unusedSimpArgs false
set_option linter.unusedVariables false
namespace Go.Proofs.YtopgllmjeliklaaGreatDoor
open Go.Shelf Go.ChangeShapes Go.WideShapes Go.ChangeAt Go.RowKit
namespace Tx
open Bk
theorem staysP_len : ∀ (k : Nat) (L : List Int), (staysP k L).length = k
 | 0, _ => rfl
 | k + 1, L => by unfold staysP; rw [List.length_cons, staysP_len k]
theorem jobsP_len : ∀ (k : Nat) (L : List Int), (jobsP k L).length = k
 | 0, _ => rfl
 | k + 1, L => by unfold jobsP; rw [List.length_cons, jobsP_len k]
theorem staysP_succ : ∀ (k : Nat) (L : List Int), staysP (k + 1) L = staysP k L ++ [stayP (L.drop (8 * k))]
 | 0, L => rfl
 | k + 1, L => by
   have ih := staysP_succ k (L.drop 8); rw [staysP, ih, staysP, List.cons_append, List.drop_drop, show 8 + 8 * k = 8 * (k + 1) from by omega]
theorem jobsP_succ : ∀ (k : Nat) (L : List Int), jobsP (k + 1) L = jobsP k L ++ [jobP (L.drop (2 * k))]
 | 0, L => rfl
 | k + 1, L => by
   have ih := jobsP_succ k (L.drop 2); rw [jobsP, ih, jobsP, List.cons_append, List.drop_drop, show 2 + 2 * k = 2 * (k + 1) from by omega]
theorem ownUp {α : Type} [Inhabited α] {w : World} {base base' : Nat} {T : TypeId} {k : Nat} {enc : α → List Value} {v : Value} {l : List α} (h : OwnAt w base T k enc v l) (hb : base' ≤ base) : OwnAt w base' T k enc v l := by
 rcases h with h | ⟨g, cap, cur, hv, hg, r⟩
 ·exact Or.inl h
 ·exact Or.inr ⟨g, cap, cur, hv, by omega, r⟩
set_option maxHeartbeats 4000000 in
theorem fromNumbers_few (g : Nat) (L : List Int) (w : World) (h3 : L.length < 3) (hg : g < w.heap.size) (h : NumsAt w g 0 L) :
  Calls Tryz.prog 144 #[.slice (some ⟨g, 0, none⟩) L.length L.length] w (FromPost L w) := by
 have HNO : Hid (fromP L = none → ∀ w', Below w.heap.size w w' → FromPost L w (.returned (.tuple #[.agg #[.int .i64 0, .slice none 0 0, .slice none 0 0], .bool false])) w') := fun hf w' hb => ⟨hb, Or.inl ⟨hf, rfl⟩⟩
 have HYES : Hid (∀ b, fromP L = some b → ∀ vs vj w', OwnBook w' w.heap.size vs vj b.stays b.jobs → Below w.heap.size w w' → FromPost L w (.returned (.tuple #[.agg #[.int .i64 b.last, vs, vj], .bool true])) w') := fun b hf vs vj w' ho hb => ⟨hb, Or.inr ⟨b, vs, vj, hf, rfl, ho⟩⟩
 generalize FromPost L w = PP at *; have HN : Hid (NumsAt w g 0 L) := h; obtain ⟨w0, hw0⟩ : ∃ w0, w.alloc (.cells #[.int .i64 0, .slice none 0 0, .slice none 0 0] 39) = w0 := ⟨_, rfl⟩
 have N0 : Hid (Below w.heap.size w w0 ∧ Blk w0 w.heap.size #[.int .i64 0, .slice none 0 0, .slice none 0 0] 39) := by
  show _ ∧ _
  rw [← hw0]; exact ⟨B.new1 _ _, Blk.new _ _ _⟩
 have r0 := N0.out.2.cell; have f0 := N0.out.2.free
 have z0 : Hid (∀ w1, w1 = (((w0.setCell ⟨w.heap.size, 0, none⟩ (.int .i64 0)).setCell ⟨w.heap.size, 1, none⟩ (.slice none 0 0)).setCell ⟨w.heap.size, 2, none⟩ (.slice none 0 0)) → Below w.heap.size w w1) := fun w1 e => by
  rw [e]; exact ((N0.out.1.setCell (p := ⟨w.heap.size, 0, none⟩) (Nat.le_refl _) _).setCell (p := ⟨w.heap.size, 1, none⟩) (Nat.le_refl _) _).setCell (p := ⟨w.heap.size, 2, none⟩) (Nat.le_refl _) _
 clear h; have h3z : (L.length : Int) < 3 := by omega
 have HF : Hid (fromP L = none) := by show _ = _; unfold fromP; rw [if_pos h3]
 have HF2 : Hid (PP (.returned (.tuple #[.agg #[.int .i64 0, .slice none 0 0, .slice none 0 0], .bool false])) (((w0.setCell ⟨w.heap.size, 0, none⟩ (.int .i64 0)).setCell ⟨w.heap.size, 1, none⟩ (.slice none 0 0)).setCell ⟨w.heap.size, 2, none⟩ (.slice none 0 0))) := HNO.out HF.out _ (z0.out _ rfl)
 go_enter Tryz.func144, Tryz.ntmps144
 go_wp2
 (try simp only [Exit.inBlock, Exit.then])
 refine bodyPost_ret (v := .tuple #[.agg #[.int .i64 0, .slice none 0 0, .slice none 0 0], .bool false]) (by simp [results, Tryz.results144, go_sem, set3_0 r0, set3_1 r0, set3_2 r0]; try rfl) rfl ?_; exact HF2.out
set_option maxHeartbeats 4000000 in
theorem fromNumbers_three (g : Nat) (L : List Int) (w : World) (h3 : L.length = 3) (hg : g < w.heap.size) (h : NumsAt w g 0 L) :
  Calls Tryz.prog 144 #[.slice (some ⟨g, 0, none⟩) L.length L.length] w (FromPost L w) := by
 have HNO : Hid (fromP L = none → ∀ w', Below w.heap.size w w' → FromPost L w (.returned (.tuple #[.agg #[.int .i64 0, .slice none 0 0, .slice none 0 0], .bool false])) w') := fun hf w' hb => ⟨hb, Or.inl ⟨hf, rfl⟩⟩
 have HYES : Hid (∀ b, fromP L = some b → ∀ vs vj w', OwnBook w' w.heap.size vs vj b.stays b.jobs → Below w.heap.size w w' → FromPost L w (.returned (.tuple #[.agg #[.int .i64 b.last, vs, vj], .bool true])) w') := fun b hf vs vj w' ho hb => ⟨hb, Or.inr ⟨b, vs, vj, hf, rfl, ho⟩⟩
 generalize FromPost L w = PP at *; have HN : Hid (NumsAt w g 0 L) := h; obtain ⟨w0, hw0⟩ : ∃ w0, w.alloc (.cells #[.int .i64 0, .slice none 0 0, .slice none 0 0] 39) = w0 := ⟨_, rfl⟩
 have N0 : Hid (Below w.heap.size w w0 ∧ Blk w0 w.heap.size #[.int .i64 0, .slice none 0 0, .slice none 0 0] 39) := by
  show _ ∧ _
  rw [← hw0]; exact ⟨B.new1 _ _, Blk.new _ _ _⟩
 have r0 := N0.out.2.cell; have f0 := N0.out.2.free
 have z0 : Hid (∀ w1, w1 = (((w0.setCell ⟨w.heap.size, 0, none⟩ (.int .i64 0)).setCell ⟨w.heap.size, 1, none⟩ (.slice none 0 0)).setCell ⟨w.heap.size, 2, none⟩ (.slice none 0 0)) → Below w.heap.size w w1) := fun w1 e => by
  rw [e]; exact ((N0.out.1.setCell (p := ⟨w.heap.size, 0, none⟩) (Nat.le_refl _) _).setCell (p := ⟨w.heap.size, 1, none⟩) (Nat.le_refl _) _).setCell (p := ⟨w.heap.size, 2, none⟩) (Nat.le_refl _) _
 clear h; have h3z : ¬ (L.length : Int) < 3 := by omega
 have h1 : (1 : Int) < (L.length : Int) := by omega
 have h2 : (2 : Int) < (L.length : Int) := by omega
 have h0 : 0 < L.length := by omega
 have h3' : (3 : Int) ≤ (L.length : Int) := by omega
 have h3d : L.length - 3 = 0 := by omega
 have s0 := (N0.out.1.cell (p := ⟨g, 0 + 0, none⟩) hg).trans (HN.out 0 (by omega)); have s1 := (N0.out.1.cell (p := ⟨g, 0 + 1, none⟩) hg).trans (HN.out 1 (by omega)); have s2 := (N0.out.1.cell (p := ⟨g, 0 + 2, none⟩) hg).trans (HN.out 2 (by omega)); simp only [Nat.zero_add] at s0 s1 s2
 have HFB : Hid (fromP L = if okNs (L.getD 1 0) (L.getD 2 0) (L.length - 3) = true then some ⟨L.getD 0 0, staysP (L.getD 1 0).toNat (L.drop 3), jobsP (L.getD 2 0).toNat (L.drop (3 + 8 * (L.getD 1 0).toNat))⟩ else none) := by
  show _ = _
  unfold fromP
  rw [if_neg (by omega)]
 generalize L.getD 0 0 = last at *; generalize L.getD 1 0 = a at *; generalize L.getD 2 0 = b at *
 go_enter Tryz.func144, Tryz.ntmps144
 go_wp2_with fail
 go_region
 all_goals go_wp2_with fail
 refine (bwithin_any _ _ _ _).mono ?_; rintro e W1 ⟨rfl, hw1⟩; subst hw1
 cases hqa : decide (0 ≤ a ∧ a ≤ 16)
 ·have HF : Hid (fromP L = none) := by show _ = _; rw [HFB.out]; unfold okNs; rw [hqa]; rfl
  have HF2 : Hid (PP (.returned (.tuple #[.agg #[.int .i64 0, .slice none 0 0, .slice none 0 0], .bool false])) (((w0.setCell ⟨w.heap.size, 0, none⟩ (.int .i64 0)).setCell ⟨w.heap.size, 1, none⟩ (.slice none 0 0)).setCell ⟨w.heap.size, 2, none⟩ (.slice none 0 0)).drew) := HNO.out HF.out _ (z0.out _ rfl).drew; clear HYES HNO HFB HN HF; go_wp2
  (try simp only [Exit.inBlock, Exit.then])
  refine bodyPost_ret (v := .tuple #[.agg #[.int .i64 0, .slice none 0 0, .slice none 0 0], .bool false]) (by simp [results, Tryz.results144, go_sem, set3_0 r0, set3_1 r0, set3_2 r0]; try rfl) rfl ?_; exact HF2.out
 go_wp2_with fail; refine (bwithin_any _ _ _ _).mono ?_; rintro e W1 ⟨rfl, hw1⟩; subst hw1
 have e8 : IntKind.i64.wrap (a * 8) = a * 8 := by
  have := of_decide_eq_true hqa; rw [IntKind.wrap_i64]; omega
 cases hqb : decide (0 ≤ b ∧ b ≤ 8)
 ·have HF : Hid (fromP L = none) := by show _ = _; rw [HFB.out]; unfold okNs; rw [hqa, hqb]; rfl
  have HF2 : Hid (PP (.returned (.tuple #[.agg #[.int .i64 0, .slice none 0 0, .slice none 0 0], .bool false])) (((w0.setCell ⟨w.heap.size, 0, none⟩ (.int .i64 0)).setCell ⟨w.heap.size, 1, none⟩ (.slice none 0 0)).setCell ⟨w.heap.size, 2, none⟩ (.slice none 0 0)).drew) := HNO.out HF.out _ (z0.out _ rfl).drew; clear HYES HNO HFB HN HF; go_wp2
  (try simp only [Exit.inBlock, Exit.then])
  refine bodyPost_ret (v := .tuple #[.agg #[.int .i64 0, .slice none 0 0, .slice none 0 0], .bool false]) (by simp [results, Tryz.results144, go_sem, set3_0 r0, set3_1 r0, set3_2 r0]; try rfl) rfl ?_; exact HF2.out
 have e2 : IntKind.i64.wrap (b * 2) = b * 2 := by
  have := of_decide_eq_true hqb; rw [IntKind.wrap_i64]; omega
 have e82 : IntKind.i64.wrap (a * 8 + b * 2) = a * 8 + b * 2 := by
  have := of_decide_eq_true hqb; have := of_decide_eq_true hqa; rw [IntKind.wrap_i64]; omega
 cases hql : decide (((L.length - 3 : Nat) : Int) = a * 8 + b * 2)
 ·have HF : Hid (fromP L = none) := by show _ = _; rw [HFB.out]; unfold okNs; rw [hqa, hqb, hql]; rfl
  have hne := of_decide_eq_false hql; have HF2 : Hid (PP (.returned (.tuple #[.agg #[.int .i64 0, .slice none 0 0, .slice none 0 0], .bool false])) (((w0.setCell ⟨w.heap.size, 0, none⟩ (.int .i64 0)).setCell ⟨w.heap.size, 1, none⟩ (.slice none 0 0)).setCell ⟨w.heap.size, 2, none⟩ (.slice none 0 0)).drew) := HNO.out HF.out _ (z0.out _ rfl).drew; clear HYES HNO HFB HN HF; go_wp2
  (try simp only [Exit.inBlock, Exit.then])
  refine bodyPost_ret (v := .tuple #[.agg #[.int .i64 0, .slice none 0 0, .slice none 0 0], .bool false]) (by simp [results, Tryz.results144, go_sem, set3_0 r0, set3_1 r0, set3_2 r0]; try rfl) rfl ?_; exact HF2.out
 have heq := of_decide_eq_true hql; obtain ⟨A, rfl⟩ : ∃ A : Nat, a = (A : Int) := ⟨a.toNat, by have := of_decide_eq_true hqa; omega⟩
 obtain ⟨Bn, rfl⟩ : ∃ Bn : Nat, b = (Bn : Int) := ⟨b.toNat, by have := of_decide_eq_true hqb; omega⟩
 have hA : A ≤ 16 := by have := of_decide_eq_true hqa; omega
 have hB : Bn ≤ 8 := by have := of_decide_eq_true hqb; omega
 have HLL : Hid (L.length = 3 + 8 * A + 2 * Bn) := by show _ = _; omega
 have HFIN : Hid (∀ vs vj w', OwnBook w' w.heap.size vs vj (staysP A (L.drop 3)) (jobsP Bn (L.drop (3 + 8 * A))) → Below w.heap.size w w' → PP (.returned (.tuple #[.agg #[.int .i64 last, vs, vj], .bool true])) w') := by
  have hf : fromP L = some ⟨last, staysP A (L.drop 3), jobsP Bn (L.drop (3 + 8 * A))⟩ := by
   rw [HFB.out, if_pos (by unfold okNs; rw [hqa, hqb, hql]; rfl), Int.toNat_natCast, Int.toNat_natCast]
  exact fun vs vj w' ho hb => HYES.out _ hf vs vj w' ho hb
 have hz0 : w0.heap.size = w.heap.size + 1 := by rw [← hw0]; simp
 have NF : Hid (FI w (w0.alloc (.cells #[.int .i64 last, .slice none 0 0, .slice none 0 0] 39)).drew last (.slice none 0 0) (.slice none 0 0) [] []) := by
  refine ⟨(N0.out.1.alloc N0.out.1.size _).drew, N0.out.2.old _, ?_, Or.inl ⟨rfl, rfl⟩, Or.inl ⟨rfl, rfl⟩⟩; rw [← hz0]; exact Blk.new w0 _ _
 clear HYES HNO HFB; go_wp2_with fail; clear r0 f0 z0 s0 s1 s2 hw0 N0; clear hqa hqb hql e8 e2 e82 heq
 (try rw [hz0])
 clear hz0; generalize (w0.alloc (.cells #[.int .i64 last, .slice none 0 0, .slice none 0 0] 39)).drew = wf at *; clear w0
 go_loopg [6, 44] A (fun gg s6 s44 wr => ∃ (k ra rc : Nat) (vs : Value), k ≤ A ∧ A - k ≤ gg ∧ s44 = .int .i64 k ∧ s6 = .slice (some ⟨g, ra, none⟩) (L.length - (3 + 8 * k)) rc ∧ (3 + 8 * k < L.length → ra = 3 + 8 * k ∧ rc = L.length - (3 + 8 * k)) ∧ Hid (FI w wr last vs (.slice none 0 0) (staysP k (L.drop 3)) []))
 case atStart => first | exact ⟨0, 3, L.length - 3, _, Nat.zero_le _, by omega, rfl, rfl, fun _ => ⟨rfl, rfl⟩, NF⟩ | exact ⟨0, 0, 0, _, Nat.zero_le _, by omega, rfl, (by simp [h3]), fun h => absurd h (by omega), NF⟩
 case round =>
  clear NF; obtain ⟨k, ra, rc, vs, hk, hgg, rfl, rfl, hr, M⟩ := hrel
  by_cases hlt : k < A
  ·exact absurd hlt (by have := HLL.out; omega)
  ·have hltz : ¬ (k : Int) < (A : Int) := by omega
   have hke : A = k := by omega
   subst hke; clear hltz hlt hgg hk; go_wp2_with fail; generalize staysP A (L.drop 3) = S at *
   go_loopg [6, 57] Bn (fun gg s6 s57 wr => ∃ (k ra rc : Nat) (vj : Value), k ≤ Bn ∧ Bn - k ≤ gg ∧ s57 = .int .i64 k ∧ s6 = .slice (some ⟨g, ra, none⟩) (L.length - (3 + 8 * A + 2 * k)) rc ∧ (3 + 8 * A + 2 * k < L.length → ra = 3 + 8 * A + 2 * k ∧ rc = L.length - (3 + 8 * A + 2 * k)) ∧ Hid (FI w wr last vs vj S (jobsP k (L.drop (3 + 8 * A)))))
   case atStart => exact ⟨0, ra, rc, _, Nat.zero_le _, by omega, rfl, rfl, hr, M⟩
   case round =>
    clear M hr; obtain ⟨k, ra, rc, vj, hk, hgg, rfl, rfl, hr, M⟩ := hrel
    by_cases hlt : k < Bn
    ·exact absurd hlt (by have := HLL.out; omega)
    ·have hltz : ¬ (k : Int) < (Bn : Int) := by omega
     have hke : k = Bn := by omega
     subst hke; have k0 := M.out.b0.cell; have fk0 := M.out.b0.free; have k1 := M.out.b1.cell
     have HOB : Hid (∀ a b c, OwnBook (((wr.setCell ⟨w.heap.size, 0, none⟩ a).setCell ⟨w.heap.size, 1, none⟩ b).setCell ⟨w.heap.size, 2, none⟩ c) w.heap.size vs vj S (jobsP k (L.drop (3 + 8 * A))) ∧ Below w.heap.size w (((wr.setCell ⟨w.heap.size, 0, none⟩ a).setCell ⟨w.heap.size, 1, none⟩ b).setCell ⟨w.heap.size, 2, none⟩ c)) := fun a b c =>
      ⟨⟨ownUp (ownSet (ownSet (ownSet M.out.s _ (by omega)) _ (by omega)) _ (by omega)) (by omega), ownUp (ownSet (ownSet (ownSet M.out.j _ (by omega)) _ (by omega)) _ (by omega)) (by omega), M.out.apart⟩, ((M.out.below.setCell (p := ⟨w.heap.size, 0, none⟩) (Nat.le_refl _) _).setCell (p := ⟨w.heap.size, 1, none⟩) (Nat.le_refl _) _).setCell (p := ⟨w.heap.size, 2, none⟩) (Nat.le_refl _) _⟩
     obtain ⟨sa1, sc1, hvs, _⟩ := M.out.s.rows; obtain ⟨ja1, jc1, hvj, _⟩ := M.out.j.rows; subst hvs hvj
     have HF2 : Hid (∀ W, W = (((wr.setCell ⟨w.heap.size, 0, none⟩ (.int .i64 last)).setCell ⟨w.heap.size, 1, none⟩ (.slice sa1 S.length sc1)).setCell ⟨w.heap.size, 2, none⟩ (.slice ja1 (jobsP k (L.drop (3 + 8 * A))).length jc1)) → PP (.returned (.tuple #[.agg #[.int .i64 last, .slice sa1 S.length sc1, .slice ja1 (jobsP k (L.drop (3 + 8 * A))).length jc1], .bool true])) W) := fun W e => by
      rw [e]; exact HFIN.out _ _ _ (HOB.out _ _ _).1 (HOB.out _ _ _).2
     clear HOB HFIN HN M; generalize (jobsP k (L.drop (3 + 8 * A))).length = jl at *; go_wp2
     (try simp only [Exit.inBlock, Exit.then])
     refine bodyPost_ret (v := .tuple #[.agg #[.int .i64 last, .slice sa1 S.length sc1, .slice ja1 jl jc1], .bool true]) (by simp [results, Tryz.results144, go_sem, set3_0 k0, set3_1 k0, set3_2 k0]; try rfl) rfl ?_; exact HF2.out _ rfl
set_option maxHeartbeats 4000000 in
theorem fromNumbers_more (g : Nat) (L : List Int) (w : World) (h3 : 3 < L.length) (hm : L.length ≤ 1000000) (hg : g < w.heap.size) (h : NumsAt w g 0 L) :
  Calls Tryz.prog 144 #[.slice (some ⟨g, 0, none⟩) L.length L.length] w (FromPost L w) := by
 have HNO : Hid (fromP L = none → ∀ w', Below w.heap.size w w' → FromPost L w (.returned (.tuple #[.agg #[.int .i64 0, .slice none 0 0, .slice none 0 0], .bool false])) w') := fun hf w' hb => ⟨hb, Or.inl ⟨hf, rfl⟩⟩
 have HYES : Hid (∀ b, fromP L = some b → ∀ vs vj w', OwnBook w' w.heap.size vs vj b.stays b.jobs → Below w.heap.size w w' → FromPost L w (.returned (.tuple #[.agg #[.int .i64 b.last, vs, vj], .bool true])) w') := fun b hf vs vj w' ho hb => ⟨hb, Or.inr ⟨b, vs, vj, hf, rfl, ho⟩⟩
 generalize FromPost L w = PP at *; have HN : Hid (NumsAt w g 0 L) := h; obtain ⟨w0, hw0⟩ : ∃ w0, w.alloc (.cells #[.int .i64 0, .slice none 0 0, .slice none 0 0] 39) = w0 := ⟨_, rfl⟩
 have N0 : Hid (Below w.heap.size w w0 ∧ Blk w0 w.heap.size #[.int .i64 0, .slice none 0 0, .slice none 0 0] 39) := by
  show _ ∧ _
  rw [← hw0]; exact ⟨B.new1 _ _, Blk.new _ _ _⟩
 have r0 := N0.out.2.cell; have f0 := N0.out.2.free
 have z0 : Hid (∀ w1, w1 = (((w0.setCell ⟨w.heap.size, 0, none⟩ (.int .i64 0)).setCell ⟨w.heap.size, 1, none⟩ (.slice none 0 0)).setCell ⟨w.heap.size, 2, none⟩ (.slice none 0 0)) → Below w.heap.size w w1) := fun w1 e => by
  rw [e]; exact ((N0.out.1.setCell (p := ⟨w.heap.size, 0, none⟩) (Nat.le_refl _) _).setCell (p := ⟨w.heap.size, 1, none⟩) (Nat.le_refl _) _).setCell (p := ⟨w.heap.size, 2, none⟩) (Nat.le_refl _) _
 clear h; have h3z : ¬ (L.length : Int) < 3 := by omega
 have h1 : (1 : Int) < (L.length : Int) := by omega
 have h2 : (2 : Int) < (L.length : Int) := by omega
 have h0 : 0 < L.length := by omega
 have h3' : (3 : Int) ≤ (L.length : Int) := by omega
 have h3d : ¬ L.length - 3 = 0 := by omega
 have h3e : ¬ L.length = 3 := by omega
 have h3f : ¬ 3 = L.length := by omega
 have s0 := (N0.out.1.cell (p := ⟨g, 0 + 0, none⟩) hg).trans (HN.out 0 (by omega)); have s1 := (N0.out.1.cell (p := ⟨g, 0 + 1, none⟩) hg).trans (HN.out 1 (by omega)); have s2 := (N0.out.1.cell (p := ⟨g, 0 + 2, none⟩) hg).trans (HN.out 2 (by omega)); simp only [Nat.zero_add] at s0 s1 s2
 have HFB : Hid (fromP L = if okNs (L.getD 1 0) (L.getD 2 0) (L.length - 3) = true then some ⟨L.getD 0 0, staysP (L.getD 1 0).toNat (L.drop 3), jobsP (L.getD 2 0).toNat (L.drop (3 + 8 * (L.getD 1 0).toNat))⟩ else none) := by
  show _ = _
  unfold fromP
  rw [if_neg (by omega)]
 generalize L.getD 0 0 = last at *; generalize L.getD 1 0 = a at *; generalize L.getD 2 0 = b at *
 go_enter Tryz.func144, Tryz.ntmps144
 go_wp2_with fail
 go_region
 all_goals go_wp2_with fail
 refine (bwithin_any _ _ _ _).mono ?_; rintro e W1 ⟨rfl, hw1⟩; subst hw1
 cases hqa : decide (0 ≤ a ∧ a ≤ 16)
 ·have HF : Hid (fromP L = none) := by show _ = _; rw [HFB.out]; unfold okNs; rw [hqa]; rfl
  have HF2 : Hid (PP (.returned (.tuple #[.agg #[.int .i64 0, .slice none 0 0, .slice none 0 0], .bool false])) (((w0.setCell ⟨w.heap.size, 0, none⟩ (.int .i64 0)).setCell ⟨w.heap.size, 1, none⟩ (.slice none 0 0)).setCell ⟨w.heap.size, 2, none⟩ (.slice none 0 0)).drew) := HNO.out HF.out _ (z0.out _ rfl).drew; clear HYES HNO HFB HN HF; go_wp2
  (try simp only [Exit.inBlock, Exit.then])
  refine bodyPost_ret (v := .tuple #[.agg #[.int .i64 0, .slice none 0 0, .slice none 0 0], .bool false]) (by simp [results, Tryz.results144, go_sem, set3_0 r0, set3_1 r0, set3_2 r0]; try rfl) rfl ?_; exact HF2.out
 go_wp2_with fail; refine (bwithin_any _ _ _ _).mono ?_; rintro e W1 ⟨rfl, hw1⟩; subst hw1
 have e8 : IntKind.i64.wrap (a * 8) = a * 8 := by
  have := of_decide_eq_true hqa; rw [IntKind.wrap_i64]; omega
 cases hqb : decide (0 ≤ b ∧ b ≤ 8)
 ·have HF : Hid (fromP L = none) := by show _ = _; rw [HFB.out]; unfold okNs; rw [hqa, hqb]; rfl
  have HF2 : Hid (PP (.returned (.tuple #[.agg #[.int .i64 0, .slice none 0 0, .slice none 0 0], .bool false])) (((w0.setCell ⟨w.heap.size, 0, none⟩ (.int .i64 0)).setCell ⟨w.heap.size, 1, none⟩ (.slice none 0 0)).setCell ⟨w.heap.size, 2, none⟩ (.slice none 0 0)).drew) := HNO.out HF.out _ (z0.out _ rfl).drew; clear HYES HNO HFB HN HF; go_wp2
  (try simp only [Exit.inBlock, Exit.then])
  refine bodyPost_ret (v := .tuple #[.agg #[.int .i64 0, .slice none 0 0, .slice none 0 0], .bool false]) (by simp [results, Tryz.results144, go_sem, set3_0 r0, set3_1 r0, set3_2 r0]; try rfl) rfl ?_; exact HF2.out
 have e2 : IntKind.i64.wrap (b * 2) = b * 2 := by
  have := of_decide_eq_true hqb; rw [IntKind.wrap_i64]; omega
 have e82 : IntKind.i64.wrap (a * 8 + b * 2) = a * 8 + b * 2 := by
  have := of_decide_eq_true hqb; have := of_decide_eq_true hqa; rw [IntKind.wrap_i64]; omega
 cases hql : decide (((L.length - 3 : Nat) : Int) = a * 8 + b * 2)
 ·have HF : Hid (fromP L = none) := by show _ = _; rw [HFB.out]; unfold okNs; rw [hqa, hqb, hql]; rfl
  have hne := of_decide_eq_false hql; have HF2 : Hid (PP (.returned (.tuple #[.agg #[.int .i64 0, .slice none 0 0, .slice none 0 0], .bool false])) (((w0.setCell ⟨w.heap.size, 0, none⟩ (.int .i64 0)).setCell ⟨w.heap.size, 1, none⟩ (.slice none 0 0)).setCell ⟨w.heap.size, 2, none⟩ (.slice none 0 0)).drew) := HNO.out HF.out _ (z0.out _ rfl).drew; clear HYES HNO HFB HN HF; go_wp2
  (try simp only [Exit.inBlock, Exit.then])
  refine bodyPost_ret (v := .tuple #[.agg #[.int .i64 0, .slice none 0 0, .slice none 0 0], .bool false]) (by simp [results, Tryz.results144, go_sem, set3_0 r0, set3_1 r0, set3_2 r0]; try rfl) rfl ?_; exact HF2.out
 have heq := of_decide_eq_true hql; obtain ⟨A, rfl⟩ : ∃ A : Nat, a = (A : Int) := ⟨a.toNat, by have := of_decide_eq_true hqa; omega⟩
 obtain ⟨Bn, rfl⟩ : ∃ Bn : Nat, b = (Bn : Int) := ⟨b.toNat, by have := of_decide_eq_true hqb; omega⟩
 have hA : A ≤ 16 := by have := of_decide_eq_true hqa; omega
 have hB : Bn ≤ 8 := by have := of_decide_eq_true hqb; omega
 have HLL : Hid (L.length = 3 + 8 * A + 2 * Bn) := by show _ = _; omega
 have HFIN : Hid (∀ vs vj w', OwnBook w' w.heap.size vs vj (staysP A (L.drop 3)) (jobsP Bn (L.drop (3 + 8 * A))) → Below w.heap.size w w' → PP (.returned (.tuple #[.agg #[.int .i64 last, vs, vj], .bool true])) w') := by
  have hf : fromP L = some ⟨last, staysP A (L.drop 3), jobsP Bn (L.drop (3 + 8 * A))⟩ := by
   rw [HFB.out, if_pos (by unfold okNs; rw [hqa, hqb, hql]; rfl), Int.toNat_natCast, Int.toNat_natCast]
  exact fun vs vj w' ho hb => HYES.out _ hf vs vj w' ho hb
 have hz0 : w0.heap.size = w.heap.size + 1 := by rw [← hw0]; simp
 have NF : Hid (FI w (w0.alloc (.cells #[.int .i64 last, .slice none 0 0, .slice none 0 0] 39)).drew last (.slice none 0 0) (.slice none 0 0) [] []) := by
  refine ⟨(N0.out.1.alloc N0.out.1.size _).drew, N0.out.2.old _, ?_, Or.inl ⟨rfl, rfl⟩, Or.inl ⟨rfl, rfl⟩⟩; rw [← hz0]; exact Blk.new w0 _ _
 clear HYES HNO HFB; go_wp2_with fail; clear r0 f0 z0 s0 s1 s2 hw0 N0; clear hqa hqb hql e8 e2 e82 heq
 (try rw [hz0])
 clear hz0; generalize (w0.alloc (.cells #[.int .i64 last, .slice none 0 0, .slice none 0 0] 39)).drew = wf at *; clear w0
 go_loopg [6, 44] A (fun gg s6 s44 wr => ∃ (k ra rc : Nat) (vs : Value), k ≤ A ∧ A - k ≤ gg ∧ s44 = .int .i64 k ∧ s6 = .slice (some ⟨g, ra, none⟩) (L.length - (3 + 8 * k)) rc ∧ (3 + 8 * k < L.length → ra = 3 + 8 * k ∧ rc = L.length - (3 + 8 * k)) ∧ Hid (FI w wr last vs (.slice none 0 0) (staysP k (L.drop 3)) []))
 case atStart => first | exact ⟨0, 3, L.length - 3, _, Nat.zero_le _, by omega, rfl, rfl, fun _ => ⟨rfl, rfl⟩, NF⟩ | exact ⟨0, 0, 0, _, Nat.zero_le _, by omega, rfl, rfl, fun h => absurd h (by omega), NF⟩
 case round =>
  clear NF; obtain ⟨k, ra, rc, vs, hk, hgg, rfl, rfl, hr, M⟩ := hrel
  by_cases hlt : k < A
  ·have hltz : (k : Int) < (A : Int) := by omega
   obtain ⟨rfl, rfl⟩ := hr (by have := HLL.out; omega); have h8l : 8 ≤ L.length - (3 + 8 * k) := by have := HLL.out; omega
   have hlen : (L.drop (3 + 8 * k)).length = L.length - (3 + 8 * k) := List.length_drop
   have HSF : Hid (Calls Tryz.prog 159 #[.slice (some ⟨g, 3 + 8 * k, none⟩) (L.length - (3 + 8 * k)) (L.length - (3 + 8 * k))] wr.drew fun e w' => e = .returned (.agg #[.int .i64 (stayP (L.drop (3 + 8 * k))).t, .int .i64 (stayP (L.drop (3 + 8 * k))).id, .int .i64 (stayP (L.drop (3 + 8 * k))).a, .int .i64 (stayP (L.drop (3 + 8 * k))).b, .int .i64 (stayP (L.drop (3 + 8 * k))).c, .int .i64 (stayP (L.drop (3 + 8 * k))).x, .int .i64 (stayP (L.drop (3 + 8 * k))).y, .int .i64 (stayP (L.drop (3 + 8 * k))).z]) ∧ Below wr.drew.heap.size wr.drew w') := by
    have h1 := ((HN.out.below hg M.out.below).drop (3 + 8 * k)); rw [Nat.zero_add] at h1; have := stayFrom_any g (3 + 8 * k) (L.length - (3 + 8 * k)) (L.drop (3 + 8 * k)) wr.drew (by omega) (by omega) (by omega) (Nat.lt_of_lt_of_le hg M.out.below.size) h1; rw [hlen] at this; exact this
   have HSS : Hid (staysP (k + 1) (L.drop 3) = staysP k (L.drop 3) ++ [stayP (L.drop (3 + 8 * k))]) := by
    show _ = _
    rw [staysP_succ, List.drop_drop]
   have HSL : Hid ((staysP k (L.drop 3)).length = k) := staysP_len _ _; generalize staysP k (L.drop 3) = S at *; generalize stayP (L.drop (3 + 8 * k)) = sv at *; obtain ⟨t, id, a1, a2, a3, x, y, z⟩ := sv; simp only at HSF; have ra1 : wr.cell? ⟨w.heap.size + 1, 1, none⟩ = some vs := M.out.b1.cell 1; have hlw : Hid (w.heap.size + 1 < wr.heap.size) := M.out.b1.lt; have GE : Hid (∀ g, vs.ownBlock = some g → w.heap.size + 2 ≤ g) := fun g e => (ownGe M.out.s g e).1
   have kl : S.length ≤ 1000 := by have := HSL.out; omega
   obtain ⟨iS, hiS, hzS0, hzS1, hzS2⟩ := Tryz.infoStay; have HIS : Hid (Tryz.prog.info? 67 = some iS) := hiS; have HZS : Hid (iS.zero = some (.agg #[.int .i64 0, .int .i64 0, .int .i64 0, .int .i64 0, .int .i64 0, .int .i64 0, .int .i64 0, .int .i64 0]) ∧ iS.size = 8 ∧ iS.bytes = 64) := ⟨hzS0, hzS1, hzS2⟩; clear hiS hzS0 hzS1 hzS2 hlen
   have HAF : Hid (∀ wp, Below wr.drew.heap.size wr.drew wp → ∃ WA, wp.alloc (.cells #[.int .i64 t, .int .i64 id, .int .i64 a1, .int .i64 a2, .int .i64 a3, .int .i64 x, .int .i64 y, .int .i64 z] 67) = WA ∧ Hid (FI w WA last vs (.slice none 0 0) S [] ∧ (∀ j u, ([.int .i64 t, .int .i64 id, .int .i64 a1, .int .i64 a2, .int .i64 a3, .int .i64 x, .int .i64 y, .int .i64 z] : List Value)[j]? = some u → WA.cell? ((⟨wp.heap.size, 0, none⟩ : Addr).add j) = some u) ∧ w.heap.size + 2 ≤ WA.heap.size)) := fun wp hb => by
    refine ⟨_, rfl, ((M.out.next ((Below.refl _ wr).drew)).next hb).next (B.new1 _ _), news_new wp [.int .i64 t, .int .i64 id, .int .i64 a1, .int .i64 a2, .int .i64 a3, .int .i64 x, .int .i64 y, .int .i64 z] 67 _ rfl, ?_⟩; have h1 := hlw.out; have h2 : wr.heap.size ≤ wp.heap.size := hb.size; have h3 : (wp.alloc (.cells #[.int .i64 t, .int .i64 id, .int .i64 a1, .int .i64 a2, .int .i64 a3, .int .i64 x, .int .i64 y, .int .i64 z] 67)).heap.size = wp.heap.size + 1 := by simp
    omega
   have HM1 : Hid (∀ u ∈ ([.int .i64 t, .int .i64 id, .int .i64 a1, .int .i64 a2, .int .i64 a3, .int .i64 x, .int .i64 y, .int .i64 z] : List Value), u.oneCell' = true) := by
    intro u hu
    simp only [List.mem_cons, List.not_mem_nil, or_false] at hu
    rcases hu with rfl | rfl | rfl | rfl | rfl | rfl | rfl | rfl <;> rfl
   clear M; generalize hnl : L.length - (3 + 8 * k) = nl at *; go_wp2_with fail
   go_region_law (first
    | (go_simp; go_at_call 159; refine HSF.out.mono ?_; rintro e wp ⟨rfl, hbp⟩; obtain ⟨WA, hWA, FA⟩ := HAF.out wp hbp; clear HAF HSF; have ra2 : wp.cell? ⟨w.heap.size + 1, 1, none⟩ = some vs := (hbp.cell (p := ⟨w.heap.size + 1, 1, none⟩) hlw.out).trans ra1; have ra3 : WA.cell? ⟨w.heap.size + 1, 1, none⟩ = some vs := FA.out.1.b1.cell 1; clear hbp)
    | (refine step_append_lies _ (by rfl) _ _ _ (by rfl) (w.heap.size + 2) 67 iS _ 8 64 Tryz.underlying36 HIS.out HZS.out.1 HZS.out.2.1 HZS.out.2.2 rfl (by decide) vs S.length (S.flatMap Stay.enc) (by rfl) (FA.out.1.s.to_owns stay_len) ⟨wp.heap.size, 0, none⟩ 1 1 [.int .i64 t, .int .i64 id, .int .i64 a1, .int .i64 a2, .int .i64 a3, .int .i64 x, .int .i64 y, .int .i64 z] (by rfl) (by rfl) FA.out.2.1 HM1.out (by decide) (by unfold maxLen; omega) (by omega) FA.out.2.2 _ rfl ?_; intro g1 cap1 w1 hown hgrow hat hlt'; have rb1 : w1.cell? ⟨w.heap.size + 1, 1, none⟩ = some vs := (hgrow.cell_far ⟨w.heap.size + 1, 1, none⟩ (FA.out.1.b1.lt) (fun e => by have := GE.out _ e.symm; simp only at this; omega)).trans (FA.out.1.b1.cell 1); have fb1 : w1.frozen? ⟨w.heap.size + 1, 1, none⟩ = false := (hgrow.frozen_far ⟨w.heap.size + 1, 1, none⟩ (FA.out.1.b1.lt) (fun e => by have := GE.out _ e.symm; simp only at this; omega)).trans (FA.out.1.b1.free 1); have X : Hid (FI w (w1.setCell ⟨w.heap.size + 1, 1, none⟩ (.slice (some ⟨g1, 0, none⟩) (S.length + 1) cap1)) last (.slice (some ⟨g1, 0, none⟩) (S.length + 1) cap1) (.slice none 0 0) (S ++ [⟨t, id, a1, a2, a3, x, y, z⟩]) []) := FA.out.1.appS hgrow hown; clear hown hgrow hat hlt'))
   all_goals
    rw [← HSS.out] at X; go_wp2
    all_goals
     go_roundg (A - (k + 1))
     case measure => omega
     case rel =>
      by_cases h9 : nl = 8
      ·first
        | (exfalso; omega)
        | exact ⟨k + 1, 3 + 8 * k, 0, _, by omega, by omega, by go_num, (by rw [show L.length - (3 + 8 * (k + 1)) = 0 from by omega]), fun h => absurd h (by omega), X⟩
      ·first
        | (exfalso; omega)
        | exact ⟨k + 1, 3 + 8 * k + 8, nl - 8, _, by omega, by omega, by go_num, (by rw [show L.length - (3 + 8 * (k + 1)) = nl - 8 from by omega]), fun _ => ⟨by omega, by omega⟩, X⟩
  ·have hltz : ¬ (k : Int) < (A : Int) := by omega
   have hke : A = k := by omega
   subst hke; clear hltz hlt hgg hk; go_wp2_with fail; generalize staysP A (L.drop 3) = S at *
   go_loopg [6, 57] Bn (fun gg s6 s57 wr => ∃ (k ra rc : Nat) (vj : Value), k ≤ Bn ∧ Bn - k ≤ gg ∧ s57 = .int .i64 k ∧ s6 = .slice (some ⟨g, ra, none⟩) (L.length - (3 + 8 * A + 2 * k)) rc ∧ (3 + 8 * A + 2 * k < L.length → ra = 3 + 8 * A + 2 * k ∧ rc = L.length - (3 + 8 * A + 2 * k)) ∧ Hid (FI w wr last vs vj S (jobsP k (L.drop (3 + 8 * A)))))
   case atStart => exact ⟨0, ra, rc, _, Nat.zero_le _, by omega, rfl, rfl, hr, M⟩
   case round =>
    clear M hr; obtain ⟨k, ra, rc, vj, hk, hgg, rfl, rfl, hr, M⟩ := hrel
    by_cases hlt : k < Bn
    ·have hltz : (k : Int) < (Bn : Int) := by omega
     obtain ⟨rfl, rfl⟩ := hr (by have := HLL.out; omega); have h2l : 2 ≤ L.length - (3 + 8 * A + 2 * k) := by have := HLL.out; omega
     have hnn := ((HN.out.below hg M.out.below).drop (3 + 8 * A + 2 * k)); rw [Nat.zero_add] at hnn; have u0 := hnn 0 (by rw [List.length_drop]; omega); have u1 := hnn 1 (by rw [List.length_drop]; omega); rw [Nat.add_zero] at u0; clear hnn
     have HSS : Hid (jobsP (k + 1) (L.drop (3 + 8 * A)) = jobsP k (L.drop (3 + 8 * A)) ++ [jobP (L.drop (3 + 8 * A + 2 * k))]) := by
      show _ = _
      rw [jobsP_succ, List.drop_drop]
     have HSL : Hid ((jobsP k (L.drop (3 + 8 * A))).length = k) := jobsP_len _ _; have HJP : Hid (jobP (L.drop (3 + 8 * A + 2 * k)) = ⟨(L.drop (3 + 8 * A + 2 * k)).getD 0 0, decide ((L.drop (3 + 8 * A + 2 * k)).getD 1 0 = 1)⟩) := rfl; generalize jobsP k (L.drop (3 + 8 * A)) = J at *; generalize jobP (L.drop (3 + 8 * A + 2 * k)) = jv at *; generalize (L.drop (3 + 8 * A + 2 * k)).getD 0 0 = t at *; generalize (L.drop (3 + 8 * A + 2 * k)).getD 1 0 = y at *; have hn0 : (0 : Int) < ((L.length - (3 + 8 * A + 2 * k) : Nat) : Int) := by omega
     have hn0' : 0 < L.length - (3 + 8 * A + 2 * k) := by omega
     have hn1 : (1 : Int) < ((L.length - (3 + 8 * A + 2 * k) : Nat) : Int) := by omega
     obtain ⟨q, hq⟩ : ∃ q, decide (y = 1) = q := ⟨_, rfl⟩
     have hq' : (y == 1) = q := by rw [← hq]; rfl
     rw [hq] at HJP; have ra1 : wr.cell? ⟨w.heap.size + 1, 2, none⟩ = some vj := M.out.b1.cell 2; have hlw : Hid (w.heap.size + 1 < wr.heap.size) := M.out.b1.lt; have GE : Hid (∀ g, vj.ownBlock = some g → w.heap.size + 2 ≤ g) := fun g e => (ownGe M.out.j g e).1
     have kl : J.length ≤ 1000 := by have := HSL.out; omega
     obtain ⟨iJ, hiJ, hzJ0, hzJ1, hzJ2⟩ := Tryz.infoJob; have HIJ : Hid (Tryz.prog.info? 88 = some iJ) := hiJ; have HZJ : Hid (iJ.zero = some (.agg #[.int .i64 0, .bool false]) ∧ iJ.size = 2 ∧ iJ.bytes = 16) := ⟨hzJ0, hzJ1, hzJ2⟩; clear hiJ hzJ0 hzJ1 hzJ2; obtain ⟨WA, hWA⟩ : ∃ WA, wr.drew.alloc (.cells #[.int .i64 t, .bool q] 88) = WA := ⟨_, rfl⟩
     have FA : Hid (FI w WA last vs vj S J ∧ (∀ j u, ([.int .i64 t, .bool q] : List Value)[j]? = some u → WA.cell? ((⟨wr.heap.size, 0, none⟩ : Addr).add j) = some u) ∧ w.heap.size + 2 ≤ WA.heap.size) := by
      show _ ∧ _ ∧ _
      rw [← hWA]; refine ⟨(M.out.next ((Below.refl _ wr).drew)).next (B.new1 _ _), news_new wr.drew [.int .i64 t, .bool q] 88 _ rfl, ?_⟩; have h1 := hlw.out; have h3 : (wr.drew.alloc (.cells #[.int .i64 t, .bool q] 88)).heap.size = wr.heap.size + 1 := by simp
      omega
     have hgw : g < wr.heap.size := Nat.lt_of_lt_of_le hg M.out.below.size; have hbA : Below wr.heap.size wr WA := by rw [← hWA]; exact ((Below.refl _ wr).drew).alloc (Nat.le_refl _) _
     have ra2 : WA.cell? ⟨w.heap.size + 1, 2, none⟩ = some vj := FA.out.1.b1.cell 2; have v0 : WA.cell? ⟨g, 3 + 8 * A + 2 * k, none⟩ = some (.int .i64 t) := (hbA.cell (p := ⟨g, 3 + 8 * A + 2 * k, none⟩) hgw).trans u0; have v1 : WA.cell? ⟨g, 3 + 8 * A + 2 * k + 1, none⟩ = some (.int .i64 y) := (hbA.cell (p := ⟨g, 3 + 8 * A + 2 * k + 1, none⟩) hgw).trans u1
     have HM1 : Hid (∀ u ∈ ([.int .i64 t, .bool q] : List Value), u.oneCell' = true) := by
      intro u hu
      simp only [List.mem_cons, List.not_mem_nil, or_false] at hu
      rcases hu with rfl | rfl <;> rfl
     clear M hbA; generalize hnl : L.length - (3 + 8 * A + 2 * k) = nl at *; go_wp2_with fail
     go_region_law (refine step_append_lies _ (by rfl) _ _ _ (by rfl) (w.heap.size + 2) 88 iJ _ 2 16 Tryz.underlying37 HIJ.out HZJ.out.1 HZJ.out.2.1 HZJ.out.2.2 rfl (by decide) vj J.length (J.flatMap Job.enc) (by rfl) (FA.out.1.j.to_owns job_len) ⟨wr.heap.size, 0, none⟩ 1 1 [.int .i64 t, .bool q] (by rfl) (by rfl) FA.out.2.1 HM1.out (by decide) (by unfold maxLen; omega) (by omega) FA.out.2.2 _ rfl ?_; intro g1 cap1 w1 hown hgrow hat hlt'; have rb1 : w1.cell? ⟨w.heap.size + 1, 2, none⟩ = some vj := (hgrow.cell_far ⟨w.heap.size + 1, 2, none⟩ (FA.out.1.b1.lt) (fun e => by have := GE.out _ e.symm; simp only at this; omega)).trans (FA.out.1.b1.cell 2); have fb1 : w1.frozen? ⟨w.heap.size + 1, 2, none⟩ = false := (hgrow.frozen_far ⟨w.heap.size + 1, 2, none⟩ (FA.out.1.b1.lt) (fun e => by have := GE.out _ e.symm; simp only at this; omega)).trans (FA.out.1.b1.free 2); have X : Hid (FI w (w1.setCell ⟨w.heap.size + 1, 2, none⟩ (.slice (some ⟨g1, 0, none⟩) (J.length + 1) cap1)) last vs (.slice (some ⟨g1, 0, none⟩) (J.length + 1) cap1) S (J ++ [⟨t, q⟩])) := FA.out.1.appJ hgrow hown; clear hown hgrow hat hlt')
     all_goals
      rw [← HJP.out, ← HSS.out] at X; go_wp2
      all_goals
       go_roundg (Bn - (k + 1))
       case measure => omega
       case rel =>
        by_cases h9 : nl = 2
        ·first
          | (exfalso; omega)
          | exact ⟨k + 1, 3 + 8 * A + 2 * k, 0, _, by omega, by omega, by go_num, (by rw [show L.length - (3 + 8 * A + 2 * (k + 1)) = 0 from by omega]), fun h => absurd h (by omega), X⟩
        ·first
          | (exfalso; omega)
          | exact ⟨k + 1, 3 + 8 * A + 2 * k + 2, nl - 2, _, by omega, by omega, by go_num, (by rw [show L.length - (3 + 8 * A + 2 * (k + 1)) = nl - 2 from by omega]), fun _ => ⟨by omega, by omega⟩, X⟩
    ·have hltz : ¬ (k : Int) < (Bn : Int) := by omega
     have hke : k = Bn := by omega
     subst hke; have k0 := M.out.b0.cell; have fk0 := M.out.b0.free; have k1 := M.out.b1.cell
     have HOB : Hid (∀ a b c, OwnBook (((wr.setCell ⟨w.heap.size, 0, none⟩ a).setCell ⟨w.heap.size, 1, none⟩ b).setCell ⟨w.heap.size, 2, none⟩ c) w.heap.size vs vj S (jobsP k (L.drop (3 + 8 * A))) ∧ Below w.heap.size w (((wr.setCell ⟨w.heap.size, 0, none⟩ a).setCell ⟨w.heap.size, 1, none⟩ b).setCell ⟨w.heap.size, 2, none⟩ c)) := fun a b c =>
      ⟨⟨ownUp (ownSet (ownSet (ownSet M.out.s _ (by omega)) _ (by omega)) _ (by omega)) (by omega), ownUp (ownSet (ownSet (ownSet M.out.j _ (by omega)) _ (by omega)) _ (by omega)) (by omega), M.out.apart⟩, ((M.out.below.setCell (p := ⟨w.heap.size, 0, none⟩) (Nat.le_refl _) _).setCell (p := ⟨w.heap.size, 1, none⟩) (Nat.le_refl _) _).setCell (p := ⟨w.heap.size, 2, none⟩) (Nat.le_refl _) _⟩
     obtain ⟨sa1, sc1, hvs, _⟩ := M.out.s.rows; obtain ⟨ja1, jc1, hvj, _⟩ := M.out.j.rows; subst hvs hvj
     have HF2 : Hid (∀ W, W = (((wr.setCell ⟨w.heap.size, 0, none⟩ (.int .i64 last)).setCell ⟨w.heap.size, 1, none⟩ (.slice sa1 S.length sc1)).setCell ⟨w.heap.size, 2, none⟩ (.slice ja1 (jobsP k (L.drop (3 + 8 * A))).length jc1)) → PP (.returned (.tuple #[.agg #[.int .i64 last, .slice sa1 S.length sc1, .slice ja1 (jobsP k (L.drop (3 + 8 * A))).length jc1], .bool true])) W) := fun W e => by
      rw [e]; exact HFIN.out _ _ _ (HOB.out _ _ _).1 (HOB.out _ _ _).2
     clear HOB HFIN HN M; generalize (jobsP k (L.drop (3 + 8 * A))).length = jl at *; go_wp2
     (try simp only [Exit.inBlock, Exit.then])
     refine bodyPost_ret (v := .tuple #[.agg #[.int .i64 last, .slice sa1 S.length sc1, .slice ja1 jl jc1], .bool true]) (by simp [results, Tryz.results144, go_sem, set3_0 k0, set3_1 k0, set3_2 k0]; try rfl) rfl ?_; exact HF2.out _ rfl
end Tx
end Go.Proofs.YtopgllmjeliklaaGreatDoor
