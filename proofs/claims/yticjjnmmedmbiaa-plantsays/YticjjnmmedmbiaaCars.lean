/- All cars that a machine has, anywhere: contract of the laws' own function 'cars'. -/
import Derived.Test.YticjjnmmedmbiaaMoved
import Derived.Test.YticjjnmmedmbiaaPlaces
namespace Go.Proofs.Yticjjnmmedmbiaa
open Go.ChangeShapes Go.WideShapes Go.ChangeAt Go.RowKit Go.Maps
set_option maxRecDepth 100000
set_option linter.unusedSimpArgs false
set_option linter.unusedVariables false

namespace Pl
open Ac
def ints (l : List Int) : List Value := l.map (Value.int .i64)
theorem ints_length (l : List Int) : (ints l).length = l.length * 1 := by simp [ints]
theorem ints_append (l m : List Int) : ints (l ++ m) = ints l ++ ints m := by simp [ints]
/-- The car at the place number m. -/
def carN (s : St) (m : Nat) : Int := carOf s.D (((m / 4 : Nat) : Int) + 1) ((m % 4 / 2 : Nat) : Int) ((m % 2 : Nat) : Int)
def headL (s : St) : List Int := (if s.li = 0 then [] else [s.li]) ++ (if s.ba = 0 then [] else [s.ba])
/-- The cars on the lift, in the bay, and in the first m places. -/
def carsTo (s : St) : Nat → List Int
  | 0 => headL s
  | m + 1 => if carN s m = 0 then carsTo s m else carsTo s m ++ [carN s m]
def carsL (s : St) : List Int := carsTo s 16
theorem headL_le (s : St) : (headL s).length ≤ 2 := by
  unfold headL
  split <;> split <;> simp
theorem carsTo_le (s : St) : ∀ m, (carsTo s m).length ≤ m + 2
  | 0 => headL_le s
  | m + 1 => by
    have := carsTo_le s m
    unfold carsTo
    split
    · omega
    · simp; omega
theorem carN_at (s : St) (k j : Nat) (hj : j < 4) : carN s (4 * k + j) = carOf s.D ((k : Int) + 1) ((j / 2 : Nat) : Int) ((j % 2 : Nat) : Int) := by
  unfold carN
  rw [show (4 * k + j) / 4 = k from by omega, show (4 * k + j) % 4 = j from by omega, show (4 * k + j) % 2 = j % 2 from by omega]

/-- A list of numbers of the call's own. -/
def IntsOwn (w w' : World) (v : Value) (l : List Int) : Prop := w'.ownsRow w.heap.size 3 1 v l.length (ints l) ∧ Below w.heap.size w w'
theorem IntsOwn.below {w wx W : World} {v : Value} {l : List Int} (h : IntsOwn w wx v l) (hb : Below wx.heap.size wx W) : IntsOwn w W v l :=
  ⟨owns_below h.1 hb, B.next h.2 hb h.2.size⟩
theorem IntsOwn.grown {w W w3 : World} {v v' : Value} {l : List Int} {x : Int} (h : IntsOwn w W v l) (ho : w3.ownsRow w.heap.size 3 1 v' (l.length + 1) (ints l ++ [.int .i64 x])) (hg : W.grownBy w3 v.ownBlock) : IntsOwn w w3 v' (l ++ [x]) := by
  refine ⟨?_, Below.grown h.2 hg h.2.size (fun k hk => (h.1.lt k hk).1)⟩
  rw [ints_append, List.length_append]
  exact ho
theorem IntsOwn.nil {w W : World} (h : Below w.heap.size w W) : IntsOwn w W (.slice none 0 0) [] := ⟨World.ownsRow_nil _ _ _ _, h⟩
theorem Try.infoInt : (Try.prog.info? 3).map (fun i => (i.zero, i.size, i.bytes)) = some (some (.int .i64 0), 1, 8) := by kernel_rfl

set_option maxHeartbeats 4000000 in
theorem cars_any (pb mb n : Nat) (s : St) (w : World) (hp : IsP w pb mb n s) (iv : Inv s) : Calls Try.prog 61 #[.pointer (some ⟨pb, 0, none⟩)] w fun e w' => ∃ v, e = .returned v ∧ IntsOwn w w' v (carsL s) := by
  obtain ⟨i0, hi, hi0, hi1, hi2⟩ := info_parts Try.infoInt
  have HP : Hid (∀ w1, Below w.heap.size w w1 → IsP w1 pb mb n s) := fun w1 hb => hp.below hb
  have HSe : Hid (Calls Try.prog 67 #[.pointer (some ⟨pb, 0, none⟩)] w fun e w' => e = .returned (senseV s) ∧ Below w.heap.size w w') := sense_any pb mb n s w hp iv.ok
  have HV : Hid (senseV s = .agg #[.int .i64 s.h, .int .i64 s.ex, .bool s.op, .int .i64 s.pe, .int .i64 s.li, .int .i64 s.ba, .bool (carAtI s.D s.lv s.h s.ex != 0), .bool (carAtI s.D s.lv s.h (s.ex - 1) != 0), .bool (carAtI s.D s.lv s.h (s.ex + 1) != 0)]) := rfl
  rw [HV.out] at HSe
  have HC0 : Hid (∀ l, carsTo s 0 = l ↔ headL s = l) := fun l => Iff.rfl
  have HH : Hid (headL s = (if s.li = 0 then [] else [s.li]) ++ (if s.ba = 0 then [] else [s.ba])) := rfl
  have HST : Hid (∀ m, carsTo s (m + 1) = if carN s m = 0 then carsTo s m else carsTo s m ++ [carN s m]) := fun m => rfl
  have HLE : Hid (∀ m, (carsTo s m).length ≤ m + 2) := carsTo_le s
  have HAT : Hid (∀ (k j : Nat), k < 4 → j < 4 → ∀ w1, Below w.heap.size w w1 → Calls Try.prog 79 #[.pointer (some ⟨pb, 0, none⟩), .agg #[.int .i64 ((k : Int) + 1), .int .i64 ((j / 2 : Nat) : Int), .int .i64 ((j % 2 : Nat) : Int)]] w1 fun e w' => e = .returned (.int .i64 (carN s (4 * k + j))) ∧ Below w1.heap.size w1 w') := fun k j hk hj w1 hb => by
    rw [carN_at s k j hj]
    exact at_any pb mb n s.D _ _ _ w1 (hp.below hb).c7 (hp.below hb).cars (wfI (by omega)) (wfI (by omega)) (wfI (by omega))
  have HL : Hid (carsL s = carsTo s 16) := rfl
  rw [HL.out]
  clear HV hp iv
  generalize s.li = li at *
  generalize s.ba = ba at *
  generalize (carAtI s.D s.lv s.h s.ex != 0) = q1 at *
  generalize (carAtI s.D s.lv s.h (s.ex - 1) != 0) = q2 at *
  generalize (carAtI s.D s.lv s.h (s.ex + 1) != 0) = q3 at *
  generalize s.h = h at *
  generalize s.ex = ex at *
  generalize s.op = op at *
  generalize s.pe = pe at *
  generalize carsTo s = C at *
  generalize carN s = cN at *
  have HC1 : Hid (C 0 = headL s) := (HC0.out _).2 rfl
  clear HC0 HL
  rw [HH.out] at HC1
  clear HH
  rcases Int.decEq li 0 with kl | kl <;> rcases Int.decEq ba 0 with kb | kb
  · simp only [kl, kb, if_true, if_false, List.nil_append, List.append_nil, List.singleton_append] at HC1
    go_enter Try.func61, Try.ntmps61
    go_wp2_with fail
    refine HSe.out.mono ?_
    rintro e w1 ⟨rfl, b1⟩
    have O1 : Hid (IntsOwn w (w1.alloc (.cells #[.int .i64 h, .int .i64 ex, .bool op, .int .i64 pe, .int .i64 li, .int .i64 ba, .bool q1, .bool q2, .bool q3] 71)) (.slice none 0 0) []) := IntsOwn.nil (b1.alloc b1.size _)
    clear b1 HSe
    have O2 : Hid (IntsOwn w ((w1.alloc (.cells #[.int .i64 h, .int .i64 ex, .bool op, .int .i64 pe, .int .i64 li, .int .i64 ba, .bool q1, .bool q2, .bool q3] 71)).alloc (.cells #[.int .i64 li] 3)) (.slice none 0 0) []) := O1.out.below (B.new1 _ _)
    go_wp2_with (first
      | (at_builtin; refine wpList_append_own _ rfl _ _ 86 rfl w.heap.size 3 i0 (.int .i64 0) 1 8 Try.underlying86 hi hi0 hi1 hi2 rfl (by decide) _ ([] : List Int).length (ints ([] : List Int)) rfl O2.out.1 ⟨w1.heap.size + 1, 0, none⟩ 1 1 [.int .i64 li] rfl rfl (news_new _ _ _ _ (by simp)) (ints_one [li]) (by unfold maxLen; first | omega | simp | (simp; omega)) (by first | omega | simp | (simp; omega)) (by have := (O2.out).2.size; first | omega | (simp at this ⊢; omega)) ?_
         intro v' w2 hown' hgrow3 hnil3
         have O3 : Hid (IntsOwn w w2 v' (([] : List Int) ++ [li])) := IntsOwn.grown O2.out hown' hgrow3
         have d5 : w2.cell? ⟨w1.heap.size, 5, none⟩ = some (.int .i64 ba) := (World.cell?_of_block (hgrow3.block w1.heap.size (by simp <;> omega) (fun e => absurd (show some w1.heap.size = (none : Option Nat) from e) (by simp)))).trans (by simp)
         have O3b : Hid (IntsOwn w (w2.alloc (.cells #[.int .i64 ba] 3)) v' [li]) := O3.out.below (B.new1 _ _)
         clear hown' hgrow3 hnil3)
      | (at_builtin; refine wpList_append_own _ rfl _ _ 86 rfl w.heap.size 3 i0 (.int .i64 0) 1 8 Try.underlying86 hi hi0 hi1 hi2 rfl (by decide) _ ([li] : List Int).length (ints ([li] : List Int)) rfl O3b.out.1 ⟨w2.heap.size, 0, none⟩ 1 1 [.int .i64 ba] rfl rfl (news_new _ _ _ _ (by simp)) (ints_one [ba]) (by unfold maxLen; first | omega | simp | (simp; omega)) (by first | omega | simp | (simp; omega)) (by have := (O3b.out).2.size; first | omega | (simp at this ⊢; omega)) ?_
         intro v'' w4 hown' hgrow3 hnil3
         have O5 : Hid (IntsOwn w w4 v'' (([li] : List Int) ++ [ba])) := IntsOwn.grown O3b.out hown' hgrow3
         clear hown' hgrow3 hnil3))
    clear d5
    have O4 : Hid (IntsOwn w w4 v'' (C (4 * 0))) := by rw [show 4 * 0 = 0 from rfl, HC1.out]; exact O5.out
    clear O1 O2 O3 O3b O5 HC1
    go_loopg [4, 5] 4 (fun q v i wr => ∃ k : Nat, k + q = 4 ∧ i = .int .i64 ((k : Int) + 1) ∧ Hid (IntsOwn w wr v (C (4 * k))))
    case atStart => exact ⟨0, by omega, by simp, O4⟩
    case round =>
      obtain ⟨k, hk, rfl, PR⟩ := hrel
      have HK : Hid (k + gk = 4) := hk
      clear O4
      by_cases hlt : k < 4
      · have i4 : ((k : Int) + 1) ≤ 4 := by omega
        go_wp2_with fail
        go_loopg [4, 6] 4 (fun q v i wr => ∃ j : Nat, j + q = 4 ∧ i = .int .i64 j ∧ Hid (IntsOwn w wr v (C (4 * k + j))))
        case atStart => exact ⟨0, by omega, rfl, PR⟩
        case round =>
          obtain ⟨j, hj, rfl, PI⟩ := hrel
          have HJ : Hid (j + gk = 4) := hj
          by_cases hlj : j < 4
          · have hat := fun w1 => HAT.out k j hlt hlj w1
            have hst := HST.out (4 * k + j)
            have hle := HLE.out (4 * k + j)
            have HST1 : Hid (C (4 * k + (j + 1)) = if cN (4 * k + j) = 0 then C (4 * k + j) else C (4 * k + j) ++ [cN (4 * k + j)]) := hst
            have HAT1 : Hid (∀ w1, Below w.heap.size w w1 → Calls Try.prog 79 #[.pointer (some ⟨pb, 0, none⟩), .agg #[.int .i64 ((k : Int) + 1), .int .i64 ((j / 2 : Nat) : Int), .int .i64 ((j % 2 : Nat) : Int)]] w1 fun e w' => e = .returned (.int .i64 (cN (4 * k + j))) ∧ Below w1.heap.size w1 w') := hat
            generalize cN (4 * k + j) = c at *
            generalize C (4 * k + j) = L at *
            clear hat hst hj
            have hJ : j = 0 ∨ j = 1 ∨ j = 2 ∨ j = 3 := by omega
            rcases hJ with rfl | rfl | rfl | rfl
            · go_wp2_with fail
              refine (HAT1.out _ PI.out.2).mono ?_
              rintro e wa ⟨rfl, ba⟩
              have PA : Hid (IntsOwn w wa u4 L) := PI.out.below ba
              clear ba
              by_cases hc : c = 0
              · have HCC : Hid (c = 0) := hc
                subst hc
                go_wp2_with fail
                go_roundg (gk - 1)
                case measure => have := HJ.out; omega
                case rel => exact ⟨0 + 1, by have := HJ.out; omega, by go_num, by show IntsOwn _ _ _ _; rw [HST1.out, if_pos (by trivial)]; exact PA.out⟩
              · have PB : Hid (IntsOwn w (wa.alloc (.cells #[.int .i64 c] 3)) u4 L) := PA.out.below (B.new1 _ _)
                have HCC : Hid (¬ c = 0) := hc
                go_wp2_with (first
                  | (at_builtin; refine wpList_append_own _ rfl _ _ 86 rfl w.heap.size 3 i0 (.int .i64 0) 1 8 Try.underlying86 hi hi0 hi1 hi2 rfl (by decide) _ L.length (ints L) rfl PB.out.1 ⟨wa.heap.size, 0, none⟩ 1 1 [.int .i64 c] rfl rfl (news_new _ _ _ _ (by simp)) (ints_one [c]) (by unfold maxLen; first | omega | simp | (simp; omega)) (by first | omega | simp | (simp; omega)) (by have := (PB.out).2.size; first | omega | (simp at this ⊢; omega)) ?_
                     intro v' w3 hown' hgrow3 hnil3
                     have X : Hid (IntsOwn w w3 v' (L ++ [c])) := IntsOwn.grown PB.out hown' hgrow3
                     clear hown' hgrow3 hnil3))
                go_roundg (gk - 1)
                case measure => have := HJ.out; omega
                case rel => exact ⟨0 + 1, by have := HJ.out; omega, by go_num, by show IntsOwn _ _ _ _; rw [HST1.out, if_neg HCC.out]; exact X.out⟩
            · go_wp2_with fail
              refine (HAT1.out _ PI.out.2).mono ?_
              rintro e wa ⟨rfl, ba⟩
              have PA : Hid (IntsOwn w wa u4 L) := PI.out.below ba
              clear ba
              by_cases hc : c = 0
              · have HCC : Hid (c = 0) := hc
                subst hc
                go_wp2_with fail
                go_roundg (gk - 1)
                case measure => have := HJ.out; omega
                case rel => exact ⟨1 + 1, by have := HJ.out; omega, by go_num, by show IntsOwn _ _ _ _; rw [HST1.out, if_pos (by trivial)]; exact PA.out⟩
              · have PB : Hid (IntsOwn w (wa.alloc (.cells #[.int .i64 c] 3)) u4 L) := PA.out.below (B.new1 _ _)
                have HCC : Hid (¬ c = 0) := hc
                go_wp2_with (first
                  | (at_builtin; refine wpList_append_own _ rfl _ _ 86 rfl w.heap.size 3 i0 (.int .i64 0) 1 8 Try.underlying86 hi hi0 hi1 hi2 rfl (by decide) _ L.length (ints L) rfl PB.out.1 ⟨wa.heap.size, 0, none⟩ 1 1 [.int .i64 c] rfl rfl (news_new _ _ _ _ (by simp)) (ints_one [c]) (by unfold maxLen; first | omega | simp | (simp; omega)) (by first | omega | simp | (simp; omega)) (by have := (PB.out).2.size; first | omega | (simp at this ⊢; omega)) ?_
                     intro v' w3 hown' hgrow3 hnil3
                     have X : Hid (IntsOwn w w3 v' (L ++ [c])) := IntsOwn.grown PB.out hown' hgrow3
                     clear hown' hgrow3 hnil3))
                go_roundg (gk - 1)
                case measure => have := HJ.out; omega
                case rel => exact ⟨1 + 1, by have := HJ.out; omega, by go_num, by show IntsOwn _ _ _ _; rw [HST1.out, if_neg HCC.out]; exact X.out⟩
            · go_wp2_with fail
              refine (HAT1.out _ PI.out.2).mono ?_
              rintro e wa ⟨rfl, ba⟩
              have PA : Hid (IntsOwn w wa u4 L) := PI.out.below ba
              clear ba
              by_cases hc : c = 0
              · have HCC : Hid (c = 0) := hc
                subst hc
                go_wp2_with fail
                go_roundg (gk - 1)
                case measure => have := HJ.out; omega
                case rel => exact ⟨2 + 1, by have := HJ.out; omega, by go_num, by show IntsOwn _ _ _ _; rw [HST1.out, if_pos (by trivial)]; exact PA.out⟩
              · have PB : Hid (IntsOwn w (wa.alloc (.cells #[.int .i64 c] 3)) u4 L) := PA.out.below (B.new1 _ _)
                have HCC : Hid (¬ c = 0) := hc
                go_wp2_with (first
                  | (at_builtin; refine wpList_append_own _ rfl _ _ 86 rfl w.heap.size 3 i0 (.int .i64 0) 1 8 Try.underlying86 hi hi0 hi1 hi2 rfl (by decide) _ L.length (ints L) rfl PB.out.1 ⟨wa.heap.size, 0, none⟩ 1 1 [.int .i64 c] rfl rfl (news_new _ _ _ _ (by simp)) (ints_one [c]) (by unfold maxLen; first | omega | simp | (simp; omega)) (by first | omega | simp | (simp; omega)) (by have := (PB.out).2.size; first | omega | (simp at this ⊢; omega)) ?_
                     intro v' w3 hown' hgrow3 hnil3
                     have X : Hid (IntsOwn w w3 v' (L ++ [c])) := IntsOwn.grown PB.out hown' hgrow3
                     clear hown' hgrow3 hnil3))
                go_roundg (gk - 1)
                case measure => have := HJ.out; omega
                case rel => exact ⟨2 + 1, by have := HJ.out; omega, by go_num, by show IntsOwn _ _ _ _; rw [HST1.out, if_neg HCC.out]; exact X.out⟩
            · go_wp2_with fail
              refine (HAT1.out _ PI.out.2).mono ?_
              rintro e wa ⟨rfl, ba⟩
              have PA : Hid (IntsOwn w wa u4 L) := PI.out.below ba
              clear ba
              by_cases hc : c = 0
              · have HCC : Hid (c = 0) := hc
                subst hc
                go_wp2_with fail
                go_roundg (gk - 1)
                case measure => have := HJ.out; omega
                case rel => exact ⟨3 + 1, by have := HJ.out; omega, by go_num, by show IntsOwn _ _ _ _; rw [HST1.out, if_pos (by trivial)]; exact PA.out⟩
              · have PB : Hid (IntsOwn w (wa.alloc (.cells #[.int .i64 c] 3)) u4 L) := PA.out.below (B.new1 _ _)
                have HCC : Hid (¬ c = 0) := hc
                go_wp2_with (first
                  | (at_builtin; refine wpList_append_own _ rfl _ _ 86 rfl w.heap.size 3 i0 (.int .i64 0) 1 8 Try.underlying86 hi hi0 hi1 hi2 rfl (by decide) _ L.length (ints L) rfl PB.out.1 ⟨wa.heap.size, 0, none⟩ 1 1 [.int .i64 c] rfl rfl (news_new _ _ _ _ (by simp)) (ints_one [c]) (by unfold maxLen; first | omega | simp | (simp; omega)) (by first | omega | simp | (simp; omega)) (by have := (PB.out).2.size; first | omega | (simp at this ⊢; omega)) ?_
                     intro v' w3 hown' hgrow3 hnil3
                     have X : Hid (IntsOwn w w3 v' (L ++ [c])) := IntsOwn.grown PB.out hown' hgrow3
                     clear hown' hgrow3 hnil3))
                go_roundg (gk - 1)
                case measure => have := HJ.out; omega
                case rel => exact ⟨3 + 1, by have := HJ.out; omega, by go_num, by show IntsOwn _ _ _ _; rw [HST1.out, if_neg HCC.out]; exact X.out⟩
          · have hj4 : j = 4 := by omega
            subst hj4
            go_wp2
            go_roundg (4 - (k + 1))
            case measure => have := HK.out; omega
            case rel => exact ⟨k + 1, by omega, by go_num, by show IntsOwn _ _ _ _; rw [show 4 * (k + 1) = 4 * k + 4 from by omega]; exact PI.out⟩
      · have hk4 : k = 4 := by omega
        subst hk4
        go_wp2
        go_returns
        exact ⟨_, rfl, PR.out⟩
  · subst kb
    simp only [kl, if_true, if_false, List.nil_append, List.append_nil, List.singleton_append] at HC1
    go_enter Try.func61, Try.ntmps61
    go_wp2_with fail
    refine HSe.out.mono ?_
    rintro e w1 ⟨rfl, b1⟩
    have O1 : Hid (IntsOwn w (w1.alloc (.cells #[.int .i64 h, .int .i64 ex, .bool op, .int .i64 pe, .int .i64 li, .int .i64 0, .bool q1, .bool q2, .bool q3] 71)) (.slice none 0 0) []) := IntsOwn.nil (b1.alloc b1.size _)
    clear b1 HSe
    have O2 : Hid (IntsOwn w ((w1.alloc (.cells #[.int .i64 h, .int .i64 ex, .bool op, .int .i64 pe, .int .i64 li, .int .i64 0, .bool q1, .bool q2, .bool q3] 71)).alloc (.cells #[.int .i64 li] 3)) (.slice none 0 0) []) := O1.out.below (B.new1 _ _)
    go_wp2_with (first
      | (at_builtin; refine wpList_append_own _ rfl _ _ 86 rfl w.heap.size 3 i0 (.int .i64 0) 1 8 Try.underlying86 hi hi0 hi1 hi2 rfl (by decide) _ ([] : List Int).length (ints ([] : List Int)) rfl O2.out.1 ⟨w1.heap.size + 1, 0, none⟩ 1 1 [.int .i64 li] rfl rfl (news_new _ _ _ _ (by simp)) (ints_one [li]) (by unfold maxLen; first | omega | simp | (simp; omega)) (by first | omega | simp | (simp; omega)) (by have := (O2.out).2.size; first | omega | (simp at this ⊢; omega)) ?_
         intro v' w2 hown' hgrow3 hnil3
         have O3 : Hid (IntsOwn w w2 v' (([] : List Int) ++ [li])) := IntsOwn.grown O2.out hown' hgrow3
         have d5 : w2.cell? ⟨w1.heap.size, 5, none⟩ = some (.int .i64 0) := (World.cell?_of_block (hgrow3.block w1.heap.size (by simp <;> omega) (fun e => absurd (show some w1.heap.size = (none : Option Nat) from e) (by simp)))).trans (by simp)
         clear hown' hgrow3 hnil3))
    clear d5
    have O4 : Hid (IntsOwn w w2 v' (C (4 * 0))) := by rw [show 4 * 0 = 0 from rfl, HC1.out]; exact O3.out
    clear O1 O2 O3 HC1
    go_loopg [4, 5] 4 (fun q v i wr => ∃ k : Nat, k + q = 4 ∧ i = .int .i64 ((k : Int) + 1) ∧ Hid (IntsOwn w wr v (C (4 * k))))
    case atStart => exact ⟨0, by omega, by simp, O4⟩
    case round =>
      obtain ⟨k, hk, rfl, PR⟩ := hrel
      have HK : Hid (k + gk = 4) := hk
      clear O4
      by_cases hlt : k < 4
      · have i4 : ((k : Int) + 1) ≤ 4 := by omega
        go_wp2_with fail
        go_loopg [4, 6] 4 (fun q v i wr => ∃ j : Nat, j + q = 4 ∧ i = .int .i64 j ∧ Hid (IntsOwn w wr v (C (4 * k + j))))
        case atStart => exact ⟨0, by omega, rfl, PR⟩
        case round =>
          obtain ⟨j, hj, rfl, PI⟩ := hrel
          have HJ : Hid (j + gk = 4) := hj
          by_cases hlj : j < 4
          · have hat := fun w1 => HAT.out k j hlt hlj w1
            have hst := HST.out (4 * k + j)
            have hle := HLE.out (4 * k + j)
            have HST1 : Hid (C (4 * k + (j + 1)) = if cN (4 * k + j) = 0 then C (4 * k + j) else C (4 * k + j) ++ [cN (4 * k + j)]) := hst
            have HAT1 : Hid (∀ w1, Below w.heap.size w w1 → Calls Try.prog 79 #[.pointer (some ⟨pb, 0, none⟩), .agg #[.int .i64 ((k : Int) + 1), .int .i64 ((j / 2 : Nat) : Int), .int .i64 ((j % 2 : Nat) : Int)]] w1 fun e w' => e = .returned (.int .i64 (cN (4 * k + j))) ∧ Below w1.heap.size w1 w') := hat
            generalize cN (4 * k + j) = c at *
            generalize C (4 * k + j) = L at *
            clear hat hst hj
            have hJ : j = 0 ∨ j = 1 ∨ j = 2 ∨ j = 3 := by omega
            rcases hJ with rfl | rfl | rfl | rfl
            · go_wp2_with fail
              refine (HAT1.out _ PI.out.2).mono ?_
              rintro e wa ⟨rfl, ba⟩
              have PA : Hid (IntsOwn w wa u4 L) := PI.out.below ba
              clear ba
              by_cases hc : c = 0
              · have HCC : Hid (c = 0) := hc
                subst hc
                go_wp2_with fail
                go_roundg (gk - 1)
                case measure => have := HJ.out; omega
                case rel => exact ⟨0 + 1, by have := HJ.out; omega, by go_num, by show IntsOwn _ _ _ _; rw [HST1.out, if_pos (by trivial)]; exact PA.out⟩
              · have PB : Hid (IntsOwn w (wa.alloc (.cells #[.int .i64 c] 3)) u4 L) := PA.out.below (B.new1 _ _)
                have HCC : Hid (¬ c = 0) := hc
                go_wp2_with (first
                  | (at_builtin; refine wpList_append_own _ rfl _ _ 86 rfl w.heap.size 3 i0 (.int .i64 0) 1 8 Try.underlying86 hi hi0 hi1 hi2 rfl (by decide) _ L.length (ints L) rfl PB.out.1 ⟨wa.heap.size, 0, none⟩ 1 1 [.int .i64 c] rfl rfl (news_new _ _ _ _ (by simp)) (ints_one [c]) (by unfold maxLen; first | omega | simp | (simp; omega)) (by first | omega | simp | (simp; omega)) (by have := (PB.out).2.size; first | omega | (simp at this ⊢; omega)) ?_
                     intro v' w3 hown' hgrow3 hnil3
                     have X : Hid (IntsOwn w w3 v' (L ++ [c])) := IntsOwn.grown PB.out hown' hgrow3
                     clear hown' hgrow3 hnil3))
                go_roundg (gk - 1)
                case measure => have := HJ.out; omega
                case rel => exact ⟨0 + 1, by have := HJ.out; omega, by go_num, by show IntsOwn _ _ _ _; rw [HST1.out, if_neg HCC.out]; exact X.out⟩
            · go_wp2_with fail
              refine (HAT1.out _ PI.out.2).mono ?_
              rintro e wa ⟨rfl, ba⟩
              have PA : Hid (IntsOwn w wa u4 L) := PI.out.below ba
              clear ba
              by_cases hc : c = 0
              · have HCC : Hid (c = 0) := hc
                subst hc
                go_wp2_with fail
                go_roundg (gk - 1)
                case measure => have := HJ.out; omega
                case rel => exact ⟨1 + 1, by have := HJ.out; omega, by go_num, by show IntsOwn _ _ _ _; rw [HST1.out, if_pos (by trivial)]; exact PA.out⟩
              · have PB : Hid (IntsOwn w (wa.alloc (.cells #[.int .i64 c] 3)) u4 L) := PA.out.below (B.new1 _ _)
                have HCC : Hid (¬ c = 0) := hc
                go_wp2_with (first
                  | (at_builtin; refine wpList_append_own _ rfl _ _ 86 rfl w.heap.size 3 i0 (.int .i64 0) 1 8 Try.underlying86 hi hi0 hi1 hi2 rfl (by decide) _ L.length (ints L) rfl PB.out.1 ⟨wa.heap.size, 0, none⟩ 1 1 [.int .i64 c] rfl rfl (news_new _ _ _ _ (by simp)) (ints_one [c]) (by unfold maxLen; first | omega | simp | (simp; omega)) (by first | omega | simp | (simp; omega)) (by have := (PB.out).2.size; first | omega | (simp at this ⊢; omega)) ?_
                     intro v' w3 hown' hgrow3 hnil3
                     have X : Hid (IntsOwn w w3 v' (L ++ [c])) := IntsOwn.grown PB.out hown' hgrow3
                     clear hown' hgrow3 hnil3))
                go_roundg (gk - 1)
                case measure => have := HJ.out; omega
                case rel => exact ⟨1 + 1, by have := HJ.out; omega, by go_num, by show IntsOwn _ _ _ _; rw [HST1.out, if_neg HCC.out]; exact X.out⟩
            · go_wp2_with fail
              refine (HAT1.out _ PI.out.2).mono ?_
              rintro e wa ⟨rfl, ba⟩
              have PA : Hid (IntsOwn w wa u4 L) := PI.out.below ba
              clear ba
              by_cases hc : c = 0
              · have HCC : Hid (c = 0) := hc
                subst hc
                go_wp2_with fail
                go_roundg (gk - 1)
                case measure => have := HJ.out; omega
                case rel => exact ⟨2 + 1, by have := HJ.out; omega, by go_num, by show IntsOwn _ _ _ _; rw [HST1.out, if_pos (by trivial)]; exact PA.out⟩
              · have PB : Hid (IntsOwn w (wa.alloc (.cells #[.int .i64 c] 3)) u4 L) := PA.out.below (B.new1 _ _)
                have HCC : Hid (¬ c = 0) := hc
                go_wp2_with (first
                  | (at_builtin; refine wpList_append_own _ rfl _ _ 86 rfl w.heap.size 3 i0 (.int .i64 0) 1 8 Try.underlying86 hi hi0 hi1 hi2 rfl (by decide) _ L.length (ints L) rfl PB.out.1 ⟨wa.heap.size, 0, none⟩ 1 1 [.int .i64 c] rfl rfl (news_new _ _ _ _ (by simp)) (ints_one [c]) (by unfold maxLen; first | omega | simp | (simp; omega)) (by first | omega | simp | (simp; omega)) (by have := (PB.out).2.size; first | omega | (simp at this ⊢; omega)) ?_
                     intro v' w3 hown' hgrow3 hnil3
                     have X : Hid (IntsOwn w w3 v' (L ++ [c])) := IntsOwn.grown PB.out hown' hgrow3
                     clear hown' hgrow3 hnil3))
                go_roundg (gk - 1)
                case measure => have := HJ.out; omega
                case rel => exact ⟨2 + 1, by have := HJ.out; omega, by go_num, by show IntsOwn _ _ _ _; rw [HST1.out, if_neg HCC.out]; exact X.out⟩
            · go_wp2_with fail
              refine (HAT1.out _ PI.out.2).mono ?_
              rintro e wa ⟨rfl, ba⟩
              have PA : Hid (IntsOwn w wa u4 L) := PI.out.below ba
              clear ba
              by_cases hc : c = 0
              · have HCC : Hid (c = 0) := hc
                subst hc
                go_wp2_with fail
                go_roundg (gk - 1)
                case measure => have := HJ.out; omega
                case rel => exact ⟨3 + 1, by have := HJ.out; omega, by go_num, by show IntsOwn _ _ _ _; rw [HST1.out, if_pos (by trivial)]; exact PA.out⟩
              · have PB : Hid (IntsOwn w (wa.alloc (.cells #[.int .i64 c] 3)) u4 L) := PA.out.below (B.new1 _ _)
                have HCC : Hid (¬ c = 0) := hc
                go_wp2_with (first
                  | (at_builtin; refine wpList_append_own _ rfl _ _ 86 rfl w.heap.size 3 i0 (.int .i64 0) 1 8 Try.underlying86 hi hi0 hi1 hi2 rfl (by decide) _ L.length (ints L) rfl PB.out.1 ⟨wa.heap.size, 0, none⟩ 1 1 [.int .i64 c] rfl rfl (news_new _ _ _ _ (by simp)) (ints_one [c]) (by unfold maxLen; first | omega | simp | (simp; omega)) (by first | omega | simp | (simp; omega)) (by have := (PB.out).2.size; first | omega | (simp at this ⊢; omega)) ?_
                     intro v' w3 hown' hgrow3 hnil3
                     have X : Hid (IntsOwn w w3 v' (L ++ [c])) := IntsOwn.grown PB.out hown' hgrow3
                     clear hown' hgrow3 hnil3))
                go_roundg (gk - 1)
                case measure => have := HJ.out; omega
                case rel => exact ⟨3 + 1, by have := HJ.out; omega, by go_num, by show IntsOwn _ _ _ _; rw [HST1.out, if_neg HCC.out]; exact X.out⟩
          · have hj4 : j = 4 := by omega
            subst hj4
            go_wp2
            go_roundg (4 - (k + 1))
            case measure => have := HK.out; omega
            case rel => exact ⟨k + 1, by omega, by go_num, by show IntsOwn _ _ _ _; rw [show 4 * (k + 1) = 4 * k + 4 from by omega]; exact PI.out⟩
      · have hk4 : k = 4 := by omega
        subst hk4
        go_wp2
        go_returns
        exact ⟨_, rfl, PR.out⟩
  · subst kl
    simp only [kb, if_true, if_false, List.nil_append, List.append_nil, List.singleton_append] at HC1
    go_enter Try.func61, Try.ntmps61
    go_wp2_with fail
    refine HSe.out.mono ?_
    rintro e w1 ⟨rfl, b1⟩
    have O1 : Hid (IntsOwn w (w1.alloc (.cells #[.int .i64 h, .int .i64 ex, .bool op, .int .i64 pe, .int .i64 0, .int .i64 ba, .bool q1, .bool q2, .bool q3] 71)) (.slice none 0 0) []) := IntsOwn.nil (b1.alloc b1.size _)
    clear b1 HSe
    have O2 : Hid (IntsOwn w ((w1.alloc (.cells #[.int .i64 h, .int .i64 ex, .bool op, .int .i64 pe, .int .i64 0, .int .i64 ba, .bool q1, .bool q2, .bool q3] 71)).alloc (.cells #[.int .i64 ba] 3)) (.slice none 0 0) []) := O1.out.below (B.new1 _ _)
    go_wp2_with (first
      | (at_builtin; refine wpList_append_own _ rfl _ _ 86 rfl w.heap.size 3 i0 (.int .i64 0) 1 8 Try.underlying86 hi hi0 hi1 hi2 rfl (by decide) _ ([] : List Int).length (ints ([] : List Int)) rfl O2.out.1 ⟨w1.heap.size + 1, 0, none⟩ 1 1 [.int .i64 ba] rfl rfl (news_new _ _ _ _ (by simp)) (ints_one [ba]) (by unfold maxLen; first | omega | simp | (simp; omega)) (by first | omega | simp | (simp; omega)) (by have := (O2.out).2.size; first | omega | (simp at this ⊢; omega)) ?_
         intro v' w2 hown' hgrow3 hnil3
         have O3 : Hid (IntsOwn w w2 v' (([] : List Int) ++ [ba])) := IntsOwn.grown O2.out hown' hgrow3
         clear hown' hgrow3 hnil3))
    have O4 : Hid (IntsOwn w w2 v' (C (4 * 0))) := by rw [show 4 * 0 = 0 from rfl, HC1.out]; exact O3.out
    clear O1 O2 O3 HC1
    go_loopg [4, 5] 4 (fun q v i wr => ∃ k : Nat, k + q = 4 ∧ i = .int .i64 ((k : Int) + 1) ∧ Hid (IntsOwn w wr v (C (4 * k))))
    case atStart => exact ⟨0, by omega, by simp, O4⟩
    case round =>
      obtain ⟨k, hk, rfl, PR⟩ := hrel
      have HK : Hid (k + gk = 4) := hk
      clear O4
      by_cases hlt : k < 4
      · have i4 : ((k : Int) + 1) ≤ 4 := by omega
        go_wp2_with fail
        go_loopg [4, 6] 4 (fun q v i wr => ∃ j : Nat, j + q = 4 ∧ i = .int .i64 j ∧ Hid (IntsOwn w wr v (C (4 * k + j))))
        case atStart => exact ⟨0, by omega, rfl, PR⟩
        case round =>
          obtain ⟨j, hj, rfl, PI⟩ := hrel
          have HJ : Hid (j + gk = 4) := hj
          by_cases hlj : j < 4
          · have hat := fun w1 => HAT.out k j hlt hlj w1
            have hst := HST.out (4 * k + j)
            have hle := HLE.out (4 * k + j)
            have HST1 : Hid (C (4 * k + (j + 1)) = if cN (4 * k + j) = 0 then C (4 * k + j) else C (4 * k + j) ++ [cN (4 * k + j)]) := hst
            have HAT1 : Hid (∀ w1, Below w.heap.size w w1 → Calls Try.prog 79 #[.pointer (some ⟨pb, 0, none⟩), .agg #[.int .i64 ((k : Int) + 1), .int .i64 ((j / 2 : Nat) : Int), .int .i64 ((j % 2 : Nat) : Int)]] w1 fun e w' => e = .returned (.int .i64 (cN (4 * k + j))) ∧ Below w1.heap.size w1 w') := hat
            generalize cN (4 * k + j) = c at *
            generalize C (4 * k + j) = L at *
            clear hat hst hj
            have hJ : j = 0 ∨ j = 1 ∨ j = 2 ∨ j = 3 := by omega
            rcases hJ with rfl | rfl | rfl | rfl
            · go_wp2_with fail
              refine (HAT1.out _ PI.out.2).mono ?_
              rintro e wa ⟨rfl, ba⟩
              have PA : Hid (IntsOwn w wa u4 L) := PI.out.below ba
              clear ba
              by_cases hc : c = 0
              · have HCC : Hid (c = 0) := hc
                subst hc
                go_wp2_with fail
                go_roundg (gk - 1)
                case measure => have := HJ.out; omega
                case rel => exact ⟨0 + 1, by have := HJ.out; omega, by go_num, by show IntsOwn _ _ _ _; rw [HST1.out, if_pos (by trivial)]; exact PA.out⟩
              · have PB : Hid (IntsOwn w (wa.alloc (.cells #[.int .i64 c] 3)) u4 L) := PA.out.below (B.new1 _ _)
                have HCC : Hid (¬ c = 0) := hc
                go_wp2_with (first
                  | (at_builtin; refine wpList_append_own _ rfl _ _ 86 rfl w.heap.size 3 i0 (.int .i64 0) 1 8 Try.underlying86 hi hi0 hi1 hi2 rfl (by decide) _ L.length (ints L) rfl PB.out.1 ⟨wa.heap.size, 0, none⟩ 1 1 [.int .i64 c] rfl rfl (news_new _ _ _ _ (by simp)) (ints_one [c]) (by unfold maxLen; first | omega | simp | (simp; omega)) (by first | omega | simp | (simp; omega)) (by have := (PB.out).2.size; first | omega | (simp at this ⊢; omega)) ?_
                     intro v' w3 hown' hgrow3 hnil3
                     have X : Hid (IntsOwn w w3 v' (L ++ [c])) := IntsOwn.grown PB.out hown' hgrow3
                     clear hown' hgrow3 hnil3))
                go_roundg (gk - 1)
                case measure => have := HJ.out; omega
                case rel => exact ⟨0 + 1, by have := HJ.out; omega, by go_num, by show IntsOwn _ _ _ _; rw [HST1.out, if_neg HCC.out]; exact X.out⟩
            · go_wp2_with fail
              refine (HAT1.out _ PI.out.2).mono ?_
              rintro e wa ⟨rfl, ba⟩
              have PA : Hid (IntsOwn w wa u4 L) := PI.out.below ba
              clear ba
              by_cases hc : c = 0
              · have HCC : Hid (c = 0) := hc
                subst hc
                go_wp2_with fail
                go_roundg (gk - 1)
                case measure => have := HJ.out; omega
                case rel => exact ⟨1 + 1, by have := HJ.out; omega, by go_num, by show IntsOwn _ _ _ _; rw [HST1.out, if_pos (by trivial)]; exact PA.out⟩
              · have PB : Hid (IntsOwn w (wa.alloc (.cells #[.int .i64 c] 3)) u4 L) := PA.out.below (B.new1 _ _)
                have HCC : Hid (¬ c = 0) := hc
                go_wp2_with (first
                  | (at_builtin; refine wpList_append_own _ rfl _ _ 86 rfl w.heap.size 3 i0 (.int .i64 0) 1 8 Try.underlying86 hi hi0 hi1 hi2 rfl (by decide) _ L.length (ints L) rfl PB.out.1 ⟨wa.heap.size, 0, none⟩ 1 1 [.int .i64 c] rfl rfl (news_new _ _ _ _ (by simp)) (ints_one [c]) (by unfold maxLen; first | omega | simp | (simp; omega)) (by first | omega | simp | (simp; omega)) (by have := (PB.out).2.size; first | omega | (simp at this ⊢; omega)) ?_
                     intro v' w3 hown' hgrow3 hnil3
                     have X : Hid (IntsOwn w w3 v' (L ++ [c])) := IntsOwn.grown PB.out hown' hgrow3
                     clear hown' hgrow3 hnil3))
                go_roundg (gk - 1)
                case measure => have := HJ.out; omega
                case rel => exact ⟨1 + 1, by have := HJ.out; omega, by go_num, by show IntsOwn _ _ _ _; rw [HST1.out, if_neg HCC.out]; exact X.out⟩
            · go_wp2_with fail
              refine (HAT1.out _ PI.out.2).mono ?_
              rintro e wa ⟨rfl, ba⟩
              have PA : Hid (IntsOwn w wa u4 L) := PI.out.below ba
              clear ba
              by_cases hc : c = 0
              · have HCC : Hid (c = 0) := hc
                subst hc
                go_wp2_with fail
                go_roundg (gk - 1)
                case measure => have := HJ.out; omega
                case rel => exact ⟨2 + 1, by have := HJ.out; omega, by go_num, by show IntsOwn _ _ _ _; rw [HST1.out, if_pos (by trivial)]; exact PA.out⟩
              · have PB : Hid (IntsOwn w (wa.alloc (.cells #[.int .i64 c] 3)) u4 L) := PA.out.below (B.new1 _ _)
                have HCC : Hid (¬ c = 0) := hc
                go_wp2_with (first
                  | (at_builtin; refine wpList_append_own _ rfl _ _ 86 rfl w.heap.size 3 i0 (.int .i64 0) 1 8 Try.underlying86 hi hi0 hi1 hi2 rfl (by decide) _ L.length (ints L) rfl PB.out.1 ⟨wa.heap.size, 0, none⟩ 1 1 [.int .i64 c] rfl rfl (news_new _ _ _ _ (by simp)) (ints_one [c]) (by unfold maxLen; first | omega | simp | (simp; omega)) (by first | omega | simp | (simp; omega)) (by have := (PB.out).2.size; first | omega | (simp at this ⊢; omega)) ?_
                     intro v' w3 hown' hgrow3 hnil3
                     have X : Hid (IntsOwn w w3 v' (L ++ [c])) := IntsOwn.grown PB.out hown' hgrow3
                     clear hown' hgrow3 hnil3))
                go_roundg (gk - 1)
                case measure => have := HJ.out; omega
                case rel => exact ⟨2 + 1, by have := HJ.out; omega, by go_num, by show IntsOwn _ _ _ _; rw [HST1.out, if_neg HCC.out]; exact X.out⟩
            · go_wp2_with fail
              refine (HAT1.out _ PI.out.2).mono ?_
              rintro e wa ⟨rfl, ba⟩
              have PA : Hid (IntsOwn w wa u4 L) := PI.out.below ba
              clear ba
              by_cases hc : c = 0
              · have HCC : Hid (c = 0) := hc
                subst hc
                go_wp2_with fail
                go_roundg (gk - 1)
                case measure => have := HJ.out; omega
                case rel => exact ⟨3 + 1, by have := HJ.out; omega, by go_num, by show IntsOwn _ _ _ _; rw [HST1.out, if_pos (by trivial)]; exact PA.out⟩
              · have PB : Hid (IntsOwn w (wa.alloc (.cells #[.int .i64 c] 3)) u4 L) := PA.out.below (B.new1 _ _)
                have HCC : Hid (¬ c = 0) := hc
                go_wp2_with (first
                  | (at_builtin; refine wpList_append_own _ rfl _ _ 86 rfl w.heap.size 3 i0 (.int .i64 0) 1 8 Try.underlying86 hi hi0 hi1 hi2 rfl (by decide) _ L.length (ints L) rfl PB.out.1 ⟨wa.heap.size, 0, none⟩ 1 1 [.int .i64 c] rfl rfl (news_new _ _ _ _ (by simp)) (ints_one [c]) (by unfold maxLen; first | omega | simp | (simp; omega)) (by first | omega | simp | (simp; omega)) (by have := (PB.out).2.size; first | omega | (simp at this ⊢; omega)) ?_
                     intro v' w3 hown' hgrow3 hnil3
                     have X : Hid (IntsOwn w w3 v' (L ++ [c])) := IntsOwn.grown PB.out hown' hgrow3
                     clear hown' hgrow3 hnil3))
                go_roundg (gk - 1)
                case measure => have := HJ.out; omega
                case rel => exact ⟨3 + 1, by have := HJ.out; omega, by go_num, by show IntsOwn _ _ _ _; rw [HST1.out, if_neg HCC.out]; exact X.out⟩
          · have hj4 : j = 4 := by omega
            subst hj4
            go_wp2
            go_roundg (4 - (k + 1))
            case measure => have := HK.out; omega
            case rel => exact ⟨k + 1, by omega, by go_num, by show IntsOwn _ _ _ _; rw [show 4 * (k + 1) = 4 * k + 4 from by omega]; exact PI.out⟩
      · have hk4 : k = 4 := by omega
        subst hk4
        go_wp2
        go_returns
        exact ⟨_, rfl, PR.out⟩
  · subst kl
    subst kb
    simp only [if_true, if_false, List.nil_append, List.append_nil, List.singleton_append] at HC1
    go_enter Try.func61, Try.ntmps61
    go_wp2_with fail
    refine HSe.out.mono ?_
    rintro e w1 ⟨rfl, b1⟩
    have O1 : Hid (IntsOwn w (w1.alloc (.cells #[.int .i64 h, .int .i64 ex, .bool op, .int .i64 pe, .int .i64 0, .int .i64 0, .bool q1, .bool q2, .bool q3] 71)) (.slice none 0 0) []) := IntsOwn.nil (b1.alloc b1.size _)
    clear b1 HSe
    go_wp2_with fail
    have O4 : Hid (IntsOwn w (w1.alloc (.cells #[.int .i64 h, .int .i64 ex, .bool op, .int .i64 pe, .int .i64 0, .int .i64 0, .bool q1, .bool q2, .bool q3] 71)) (.slice none 0 0) (C (4 * 0))) := by rw [show 4 * 0 = 0 from rfl, HC1.out]; exact O1.out
    clear O1 HC1
    go_loopg [4, 5] 4 (fun q v i wr => ∃ k : Nat, k + q = 4 ∧ i = .int .i64 ((k : Int) + 1) ∧ Hid (IntsOwn w wr v (C (4 * k))))
    case atStart => exact ⟨0, by omega, by simp, O4⟩
    case round =>
      obtain ⟨k, hk, rfl, PR⟩ := hrel
      have HK : Hid (k + gk = 4) := hk
      clear O4
      by_cases hlt : k < 4
      · have i4 : ((k : Int) + 1) ≤ 4 := by omega
        go_wp2_with fail
        go_loopg [4, 6] 4 (fun q v i wr => ∃ j : Nat, j + q = 4 ∧ i = .int .i64 j ∧ Hid (IntsOwn w wr v (C (4 * k + j))))
        case atStart => exact ⟨0, by omega, rfl, PR⟩
        case round =>
          obtain ⟨j, hj, rfl, PI⟩ := hrel
          have HJ : Hid (j + gk = 4) := hj
          by_cases hlj : j < 4
          · have hat := fun w1 => HAT.out k j hlt hlj w1
            have hst := HST.out (4 * k + j)
            have hle := HLE.out (4 * k + j)
            have HST1 : Hid (C (4 * k + (j + 1)) = if cN (4 * k + j) = 0 then C (4 * k + j) else C (4 * k + j) ++ [cN (4 * k + j)]) := hst
            have HAT1 : Hid (∀ w1, Below w.heap.size w w1 → Calls Try.prog 79 #[.pointer (some ⟨pb, 0, none⟩), .agg #[.int .i64 ((k : Int) + 1), .int .i64 ((j / 2 : Nat) : Int), .int .i64 ((j % 2 : Nat) : Int)]] w1 fun e w' => e = .returned (.int .i64 (cN (4 * k + j))) ∧ Below w1.heap.size w1 w') := hat
            generalize cN (4 * k + j) = c at *
            generalize C (4 * k + j) = L at *
            clear hat hst hj
            have hJ : j = 0 ∨ j = 1 ∨ j = 2 ∨ j = 3 := by omega
            rcases hJ with rfl | rfl | rfl | rfl
            · go_wp2_with fail
              refine (HAT1.out _ PI.out.2).mono ?_
              rintro e wa ⟨rfl, ba⟩
              have PA : Hid (IntsOwn w wa u4 L) := PI.out.below ba
              clear ba
              by_cases hc : c = 0
              · have HCC : Hid (c = 0) := hc
                subst hc
                go_wp2_with fail
                go_roundg (gk - 1)
                case measure => have := HJ.out; omega
                case rel => exact ⟨0 + 1, by have := HJ.out; omega, by go_num, by show IntsOwn _ _ _ _; rw [HST1.out, if_pos (by trivial)]; exact PA.out⟩
              · have PB : Hid (IntsOwn w (wa.alloc (.cells #[.int .i64 c] 3)) u4 L) := PA.out.below (B.new1 _ _)
                have HCC : Hid (¬ c = 0) := hc
                go_wp2_with (first
                  | (at_builtin; refine wpList_append_own _ rfl _ _ 86 rfl w.heap.size 3 i0 (.int .i64 0) 1 8 Try.underlying86 hi hi0 hi1 hi2 rfl (by decide) _ L.length (ints L) rfl PB.out.1 ⟨wa.heap.size, 0, none⟩ 1 1 [.int .i64 c] rfl rfl (news_new _ _ _ _ (by simp)) (ints_one [c]) (by unfold maxLen; first | omega | simp | (simp; omega)) (by first | omega | simp | (simp; omega)) (by have := (PB.out).2.size; first | omega | (simp at this ⊢; omega)) ?_
                     intro v' w3 hown' hgrow3 hnil3
                     have X : Hid (IntsOwn w w3 v' (L ++ [c])) := IntsOwn.grown PB.out hown' hgrow3
                     clear hown' hgrow3 hnil3))
                go_roundg (gk - 1)
                case measure => have := HJ.out; omega
                case rel => exact ⟨0 + 1, by have := HJ.out; omega, by go_num, by show IntsOwn _ _ _ _; rw [HST1.out, if_neg HCC.out]; exact X.out⟩
            · go_wp2_with fail
              refine (HAT1.out _ PI.out.2).mono ?_
              rintro e wa ⟨rfl, ba⟩
              have PA : Hid (IntsOwn w wa u4 L) := PI.out.below ba
              clear ba
              by_cases hc : c = 0
              · have HCC : Hid (c = 0) := hc
                subst hc
                go_wp2_with fail
                go_roundg (gk - 1)
                case measure => have := HJ.out; omega
                case rel => exact ⟨1 + 1, by have := HJ.out; omega, by go_num, by show IntsOwn _ _ _ _; rw [HST1.out, if_pos (by trivial)]; exact PA.out⟩
              · have PB : Hid (IntsOwn w (wa.alloc (.cells #[.int .i64 c] 3)) u4 L) := PA.out.below (B.new1 _ _)
                have HCC : Hid (¬ c = 0) := hc
                go_wp2_with (first
                  | (at_builtin; refine wpList_append_own _ rfl _ _ 86 rfl w.heap.size 3 i0 (.int .i64 0) 1 8 Try.underlying86 hi hi0 hi1 hi2 rfl (by decide) _ L.length (ints L) rfl PB.out.1 ⟨wa.heap.size, 0, none⟩ 1 1 [.int .i64 c] rfl rfl (news_new _ _ _ _ (by simp)) (ints_one [c]) (by unfold maxLen; first | omega | simp | (simp; omega)) (by first | omega | simp | (simp; omega)) (by have := (PB.out).2.size; first | omega | (simp at this ⊢; omega)) ?_
                     intro v' w3 hown' hgrow3 hnil3
                     have X : Hid (IntsOwn w w3 v' (L ++ [c])) := IntsOwn.grown PB.out hown' hgrow3
                     clear hown' hgrow3 hnil3))
                go_roundg (gk - 1)
                case measure => have := HJ.out; omega
                case rel => exact ⟨1 + 1, by have := HJ.out; omega, by go_num, by show IntsOwn _ _ _ _; rw [HST1.out, if_neg HCC.out]; exact X.out⟩
            · go_wp2_with fail
              refine (HAT1.out _ PI.out.2).mono ?_
              rintro e wa ⟨rfl, ba⟩
              have PA : Hid (IntsOwn w wa u4 L) := PI.out.below ba
              clear ba
              by_cases hc : c = 0
              · have HCC : Hid (c = 0) := hc
                subst hc
                go_wp2_with fail
                go_roundg (gk - 1)
                case measure => have := HJ.out; omega
                case rel => exact ⟨2 + 1, by have := HJ.out; omega, by go_num, by show IntsOwn _ _ _ _; rw [HST1.out, if_pos (by trivial)]; exact PA.out⟩
              · have PB : Hid (IntsOwn w (wa.alloc (.cells #[.int .i64 c] 3)) u4 L) := PA.out.below (B.new1 _ _)
                have HCC : Hid (¬ c = 0) := hc
                go_wp2_with (first
                  | (at_builtin; refine wpList_append_own _ rfl _ _ 86 rfl w.heap.size 3 i0 (.int .i64 0) 1 8 Try.underlying86 hi hi0 hi1 hi2 rfl (by decide) _ L.length (ints L) rfl PB.out.1 ⟨wa.heap.size, 0, none⟩ 1 1 [.int .i64 c] rfl rfl (news_new _ _ _ _ (by simp)) (ints_one [c]) (by unfold maxLen; first | omega | simp | (simp; omega)) (by first | omega | simp | (simp; omega)) (by have := (PB.out).2.size; first | omega | (simp at this ⊢; omega)) ?_
                     intro v' w3 hown' hgrow3 hnil3
                     have X : Hid (IntsOwn w w3 v' (L ++ [c])) := IntsOwn.grown PB.out hown' hgrow3
                     clear hown' hgrow3 hnil3))
                go_roundg (gk - 1)
                case measure => have := HJ.out; omega
                case rel => exact ⟨2 + 1, by have := HJ.out; omega, by go_num, by show IntsOwn _ _ _ _; rw [HST1.out, if_neg HCC.out]; exact X.out⟩
            · go_wp2_with fail
              refine (HAT1.out _ PI.out.2).mono ?_
              rintro e wa ⟨rfl, ba⟩
              have PA : Hid (IntsOwn w wa u4 L) := PI.out.below ba
              clear ba
              by_cases hc : c = 0
              · have HCC : Hid (c = 0) := hc
                subst hc
                go_wp2_with fail
                go_roundg (gk - 1)
                case measure => have := HJ.out; omega
                case rel => exact ⟨3 + 1, by have := HJ.out; omega, by go_num, by show IntsOwn _ _ _ _; rw [HST1.out, if_pos (by trivial)]; exact PA.out⟩
              · have PB : Hid (IntsOwn w (wa.alloc (.cells #[.int .i64 c] 3)) u4 L) := PA.out.below (B.new1 _ _)
                have HCC : Hid (¬ c = 0) := hc
                go_wp2_with (first
                  | (at_builtin; refine wpList_append_own _ rfl _ _ 86 rfl w.heap.size 3 i0 (.int .i64 0) 1 8 Try.underlying86 hi hi0 hi1 hi2 rfl (by decide) _ L.length (ints L) rfl PB.out.1 ⟨wa.heap.size, 0, none⟩ 1 1 [.int .i64 c] rfl rfl (news_new _ _ _ _ (by simp)) (ints_one [c]) (by unfold maxLen; first | omega | simp | (simp; omega)) (by first | omega | simp | (simp; omega)) (by have := (PB.out).2.size; first | omega | (simp at this ⊢; omega)) ?_
                     intro v' w3 hown' hgrow3 hnil3
                     have X : Hid (IntsOwn w w3 v' (L ++ [c])) := IntsOwn.grown PB.out hown' hgrow3
                     clear hown' hgrow3 hnil3))
                go_roundg (gk - 1)
                case measure => have := HJ.out; omega
                case rel => exact ⟨3 + 1, by have := HJ.out; omega, by go_num, by show IntsOwn _ _ _ _; rw [HST1.out, if_neg HCC.out]; exact X.out⟩
          · have hj4 : j = 4 := by omega
            subst hj4
            go_wp2
            go_roundg (4 - (k + 1))
            case measure => have := HK.out; omega
            case rel => exact ⟨k + 1, by omega, by go_num, by show IntsOwn _ _ _ _; rw [show 4 * (k + 1) = 4 * k + 4 from by omega]; exact PI.out⟩
      · have hk4 : k = 4 := by omega
        subst hk4
        go_wp2
        go_returns
        exact ⟨_, rfl, PR.out⟩

end Pl
end Go.Proofs.Yticjjnmmedmbiaa
