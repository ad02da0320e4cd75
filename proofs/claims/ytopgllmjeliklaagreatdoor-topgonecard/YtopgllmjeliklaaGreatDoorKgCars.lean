/- Cars Alike CarsPure HsZ. -/
import Derived.Test.YtopgllmjeliklaaGreatDoorKgHsX
set_option maxRecDepth 100000
set_option linter.unusedSimpArgs false
set_option linter.unusedVariables false
namespace Go.Proofs.YtopgllmjeliklaaGreatDoor
open Go.ChangeShapes Go.WideShapes Go.ChangeAt Go.RowKit Go.Maps
namespace Pl
open Ac
def ints (l : List Int) : List Value := l.map (Value.int .i64)
theorem ints_append (l m : List Int) : ints (l ++ m) = ints l ++ ints m := by simp [ints]
def carN (s : St) (m : Nat) : Int := carOf s.D (((m / 4 : Nat) : Int) + 1) ((m % 4 / 2 : Nat) : Int) ((m % 2 : Nat) : Int)
def headL (s : St) : List Int := (if s.li = 0 then [] else [s.li]) ++ (if s.ba = 0 then [] else [s.ba])
def carsTo (s : St) : Nat → List Int
 | 0 => headL s
 | m + 1 => if carN s m = 0 then carsTo s m else carsTo s m ++ [carN s m]
def carsL (s : St) : List Int := carsTo s 16
theorem headL_le (s : St) : (headL s).length ≤ 2 := by
 unfold headL
 split <;> split <;> simp
theorem carsTo_le (s : St) : ∀ m, (carsTo s m).length ≤ m + 2
 | 0 => headL_le s
 | m + 1 => by
   have := carsTo_le s m; unfold carsTo
   split
   ·omega
   ·simp; omega
theorem carN_at (s : St) (k j : Nat) (hj : j < 4) : carN s (4 * k + j) = carOf s.D ((k : Int) + 1) ((j / 2 : Nat) : Int) ((j % 2 : Nat) : Int) := by
 unfold carN; rw [show (4 * k + j) / 4 = k from by omega, show (4 * k + j) % 4 = j from by omega, show (4 * k + j) % 2 = j % 2 from by omega]
def IntsOwn (w w' : World) (v : Value) (l : List Int) : Prop := w'.ownsRow w.heap.size 3 1 v l.length (ints l) ∧ Below w.heap.size w w'
theorem IntsOwn.below {w wx W : World} {v : Value} {l : List Int} (h : IntsOwn w wx v l) (hb : Below wx.heap.size wx W) : IntsOwn w W v l :=
 ⟨owns_below h.1 hb, B.next h.2 hb h.2.size⟩
theorem IntsOwn.grown {w W w3 : World} {v v' : Value} {l : List Int} {x : Int} (h : IntsOwn w W v l) (ho : w3.ownsRow w.heap.size 3 1 v' (l.length + 1) (ints l ++ [.int .i64 x])) (hg : W.grownBy w3 v.ownBlock) : IntsOwn w w3 v' (l ++ [x]) := by
 refine ⟨?_, Below.grown h.2 hg h.2.size (fun k hk => (h.1.lt k hk).1)⟩
 rw [ints_append, List.length_append]; exact ho
theorem IntsOwn.nil {w W : World} (h : Below w.heap.size w W) : IntsOwn w W (.slice none 0 0) [] := ⟨World.ownsRow_nil _ _ _ _, h⟩
theorem Tryz.infoInt : (Tryz.prog.info? 3).map (fun i => (i.zero, i.size, i.bytes)) = some (some (.int .i64 0), 1, 8) := by kernel_rfl
set_option maxHeartbeats 4000000 in
theorem cars_any (pb mb n : Nat) (s : St) (w : World) (hp : IsP w pb mb n s) (iv : Inv s) : Calls Tryz.prog 28 #[.pointer (some ⟨pb, 0, none⟩)] w fun e w' => ∃ v, e = .returned v ∧ IntsOwn w w' v (carsL s) := by
 obtain ⟨i0, hi, hi0, hi1, hi2⟩ := info_parts Tryz.infoInt; have HP : Hid (∀ w1, Below w.heap.size w w1 → IsP w1 pb mb n s) := fun w1 hb => hp.below hb
 have HSe : Hid (Calls Tryz.prog 19 #[.pointer (some ⟨pb, 0, none⟩)] w fun e w' => e = .returned (senseV s) ∧ Below w.heap.size w w') := sense_any pb mb n s w hp iv.ok
 have HV : Hid (senseV s = .agg #[.int .i64 s.h, .int .i64 s.ex, .bool s.op, .int .i64 s.pe, .int .i64 s.li, .int .i64 s.ba, .bool (carAtI s.D s.lv s.h s.ex != 0), .bool (carAtI s.D s.lv s.h (s.ex - 1) != 0), .bool (carAtI s.D s.lv s.h (s.ex + 1) != 0)]) := rfl; rw [HV.out] at HSe; have HC0 : Hid (∀ l, carsTo s 0 = l ↔ headL s = l) := fun l => Iff.rfl
 have HH : Hid (headL s = (if s.li = 0 then [] else [s.li]) ++ (if s.ba = 0 then [] else [s.ba])) := rfl
 have HST : Hid (∀ m, carsTo s (m + 1) = if carN s m = 0 then carsTo s m else carsTo s m ++ [carN s m]) := fun m => rfl
 have HLE : Hid (∀ m, (carsTo s m).length ≤ m + 2) := carsTo_le s
 have HAT : Hid (∀ (k j : Nat), k < 4 → j < 4 → ∀ w1, Below w.heap.size w w1 → Calls Tryz.prog 34 #[.pointer (some ⟨pb, 0, none⟩), .agg #[.int .i64 ((k : Int) + 1), .int .i64 ((j / 2 : Nat) : Int), .int .i64 ((j % 2 : Nat) : Int)]] w1 fun e w' => e = .returned (.int .i64 (carN s (4 * k + j))) ∧ Below w1.heap.size w1 w') := fun k j hk hj w1 hb => by
  rw [carN_at s k j hj]; exact at_any pb mb n s.D _ _ _ w1 (hp.below hb).c7 (hp.below hb).cars (wfI (by omega)) (wfI (by omega)) (wfI (by omega))
 have HL : Hid (carsL s = carsTo s 16) := rfl; rw [HL.out]; clear HV hp iv; generalize s.li = li at *; generalize s.ba = ba at *; generalize (carAtI s.D s.lv s.h s.ex != 0) = q1 at *; generalize (carAtI s.D s.lv s.h (s.ex - 1) != 0) = q2 at *; generalize (carAtI s.D s.lv s.h (s.ex + 1) != 0) = q3 at *; generalize s.h = h at *; generalize s.ex = ex at *; generalize s.op = op at *; generalize s.pe = pe at *; generalize carsTo s = C at *; generalize carN s = cN at *; have HC1 : Hid (C 0 = headL s) := (HC0.out _).2 rfl; clear HC0 HL; rw [HH.out] at HC1; clear HH
 rcases Int.decEq li 0 with kl | kl <;> rcases Int.decEq ba 0 with kb | kb
 ·simp only [kl, kb, if_true, if_false, List.nil_append, List.append_nil, List.singleton_append] at HC1
  go_enter Tryz.func28, Tryz.ntmps28
  go_wp2_with fail; refine HSe.out.mono ?_; rintro e w1 ⟨rfl, b1⟩; have O1 : Hid (IntsOwn w (w1.alloc (.cells #[.int .i64 h, .int .i64 ex, .bool op, .int .i64 pe, .int .i64 li, .int .i64 ba, .bool q1, .bool q2, .bool q3] 46)) (.slice none 0 0) []) := IntsOwn.nil (b1.alloc b1.size _); clear b1 HSe; have O2 : Hid (IntsOwn w ((w1.alloc (.cells #[.int .i64 h, .int .i64 ex, .bool op, .int .i64 pe, .int .i64 li, .int .i64 ba, .bool q1, .bool q2, .bool q3] 46)).alloc (.cells #[.int .i64 li] 3)) (.slice none 0 0) []) := O1.out.below (B.new1 _ _)
  go_wp2_with (first
   | (at_builtin; refine wpList_append_own _ rfl _ _ 56 rfl w.heap.size 3 i0 (.int .i64 0) 1 8 Tryz.underlying56 hi hi0 hi1 hi2 rfl (by decide) _ ([] : List Int).length (ints ([] : List Int)) rfl O2.out.1 ⟨w1.heap.size + 1, 0, none⟩ 1 1 [.int .i64 li] rfl rfl (news_new _ _ _ _ (by simp)) (ints_one [li]) (by unfold maxLen; first | omega | simp | (simp; omega)) (by first | omega | simp | (simp; omega)) (by have := (O2.out).2.size; first | omega | (simp at this ⊢; omega)) ?_
      intro v' w2 hown' hgrow3 hnil3
      have O3 : Hid (IntsOwn w w2 v' (([] : List Int) ++ [li])) := IntsOwn.grown O2.out hown' hgrow3; have d5 : w2.cell? ⟨w1.heap.size, 5, none⟩ = some (.int .i64 ba) := (World.cell?_of_block (hgrow3.block w1.heap.size (by simp <;> omega) (fun e => absurd (show some w1.heap.size = (none : Option Nat) from e) (by simp)))).trans (by simp)
      have O3b : Hid (IntsOwn w (w2.alloc (.cells #[.int .i64 ba] 3)) v' [li]) := O3.out.below (B.new1 _ _); clear hown' hgrow3 hnil3)
   | (at_builtin; refine wpList_append_own _ rfl _ _ 56 rfl w.heap.size 3 i0 (.int .i64 0) 1 8 Tryz.underlying56 hi hi0 hi1 hi2 rfl (by decide) _ ([li] : List Int).length (ints ([li] : List Int)) rfl O3b.out.1 ⟨w2.heap.size, 0, none⟩ 1 1 [.int .i64 ba] rfl rfl (news_new _ _ _ _ (by simp)) (ints_one [ba]) (by unfold maxLen; first | omega | simp | (simp; omega)) (by first | omega | simp | (simp; omega)) (by have := (O3b.out).2.size; first | omega | (simp at this ⊢; omega)) ?_
      intro v'' w4 hown' hgrow3 hnil3
      have O5 : Hid (IntsOwn w w4 v'' (([li] : List Int) ++ [ba])) := IntsOwn.grown O3b.out hown' hgrow3; clear hown' hgrow3 hnil3))
  clear d5; have O4 : Hid (IntsOwn w w4 v'' (C (4 * 0))) := by rw [show 4 * 0 = 0 from rfl, HC1.out]; exact O5.out
  clear O1 O2 O3 O3b O5 HC1
  go_loopg [4, 5] 4 (fun q v i wr => ∃ k : Nat, k + q = 4 ∧ i = .int .i64 ((k : Int) + 1) ∧ Hid (IntsOwn w wr v (C (4 * k))))
  case atStart => exact ⟨0, by omega, by simp, O4⟩
  case round =>
   obtain ⟨k, hk, rfl, PR⟩ := hrel; have HK : Hid (k + gk = 4) := hk; clear O4
   by_cases hlt : k < 4
   ·have i4 : ((k : Int) + 1) ≤ 4 := by omega
    go_wp2_with fail
    go_loopg [4, 6] 4 (fun q v i wr => ∃ j : Nat, j + q = 4 ∧ i = .int .i64 j ∧ Hid (IntsOwn w wr v (C (4 * k + j))))
    case atStart => exact ⟨0, by omega, rfl, PR⟩
    case round =>
     obtain ⟨j, hj, rfl, PI⟩ := hrel; have HJ : Hid (j + gk = 4) := hj
     by_cases hlj : j < 4
     ·have hat := fun w1 => HAT.out k j hlt hlj w1
      have hst := HST.out (4 * k + j); have hle := HLE.out (4 * k + j); have HST1 : Hid (C (4 * k + (j + 1)) = if cN (4 * k + j) = 0 then C (4 * k + j) else C (4 * k + j) ++ [cN (4 * k + j)]) := hst
      have HAT1 : Hid (∀ w1, Below w.heap.size w w1 → Calls Tryz.prog 34 #[.pointer (some ⟨pb, 0, none⟩), .agg #[.int .i64 ((k : Int) + 1), .int .i64 ((j / 2 : Nat) : Int), .int .i64 ((j % 2 : Nat) : Int)]] w1 fun e w' => e = .returned (.int .i64 (cN (4 * k + j))) ∧ Below w1.heap.size w1 w') := hat
      generalize cN (4 * k + j) = c at *; generalize C (4 * k + j) = L at *; clear hat hst hj; have hJ : j = 0 ∨ j = 1 ∨ j = 2 ∨ j = 3 := by omega
      rcases hJ with rfl | rfl | rfl | rfl
      ·go_wp2_with fail
       refine (HAT1.out _ PI.out.2).mono ?_; rintro e wa ⟨rfl, ba⟩; have PA : Hid (IntsOwn w wa u4 L) := PI.out.below ba; clear ba
       by_cases hc : c = 0
       ·have HCC : Hid (c = 0) := hc
        subst hc; go_wp2_with fail
        go_roundg (gk - 1)
        case measure => have := HJ.out; omega
        case rel => exact ⟨0 + 1, by have := HJ.out; omega, by go_num, by show IntsOwn _ _ _ _; rw [HST1.out, if_pos (by trivial)]; exact PA.out⟩
       ·have PB : Hid (IntsOwn w (wa.alloc (.cells #[.int .i64 c] 3)) u4 L) := PA.out.below (B.new1 _ _)
        have HCC : Hid (¬ c = 0) := hc
        go_wp2_with (first
         | (at_builtin; refine wpList_append_own _ rfl _ _ 56 rfl w.heap.size 3 i0 (.int .i64 0) 1 8 Tryz.underlying56 hi hi0 hi1 hi2 rfl (by decide) _ L.length (ints L) rfl PB.out.1 ⟨wa.heap.size, 0, none⟩ 1 1 [.int .i64 c] rfl rfl (news_new _ _ _ _ (by simp)) (ints_one [c]) (by unfold maxLen; first | omega | simp | (simp; omega)) (by first | omega | simp | (simp; omega)) (by have := (PB.out).2.size; first | omega | (simp at this ⊢; omega)) ?_
            intro v' w3 hown' hgrow3 hnil3
            have X : Hid (IntsOwn w w3 v' (L ++ [c])) := IntsOwn.grown PB.out hown' hgrow3; clear hown' hgrow3 hnil3))
        go_roundg (gk - 1)
        case measure => have := HJ.out; omega
        case rel => exact ⟨0 + 1, by have := HJ.out; omega, by go_num, by show IntsOwn _ _ _ _; rw [HST1.out, if_neg HCC.out]; exact X.out⟩
      ·go_wp2_with fail
       refine (HAT1.out _ PI.out.2).mono ?_; rintro e wa ⟨rfl, ba⟩; have PA : Hid (IntsOwn w wa u4 L) := PI.out.below ba; clear ba
       by_cases hc : c = 0
       ·have HCC : Hid (c = 0) := hc
        subst hc; go_wp2_with fail
        go_roundg (gk - 1)
        case measure => have := HJ.out; omega
        case rel => exact ⟨1 + 1, by have := HJ.out; omega, by go_num, by show IntsOwn _ _ _ _; rw [HST1.out, if_pos (by trivial)]; exact PA.out⟩
       ·have PB : Hid (IntsOwn w (wa.alloc (.cells #[.int .i64 c] 3)) u4 L) := PA.out.below (B.new1 _ _)
        have HCC : Hid (¬ c = 0) := hc
        go_wp2_with (first
         | (at_builtin; refine wpList_append_own _ rfl _ _ 56 rfl w.heap.size 3 i0 (.int .i64 0) 1 8 Tryz.underlying56 hi hi0 hi1 hi2 rfl (by decide) _ L.length (ints L) rfl PB.out.1 ⟨wa.heap.size, 0, none⟩ 1 1 [.int .i64 c] rfl rfl (news_new _ _ _ _ (by simp)) (ints_one [c]) (by unfold maxLen; first | omega | simp | (simp; omega)) (by first | omega | simp | (simp; omega)) (by have := (PB.out).2.size; first | omega | (simp at this ⊢; omega)) ?_
            intro v' w3 hown' hgrow3 hnil3
            have X : Hid (IntsOwn w w3 v' (L ++ [c])) := IntsOwn.grown PB.out hown' hgrow3; clear hown' hgrow3 hnil3))
        go_roundg (gk - 1)
        case measure => have := HJ.out; omega
        case rel => exact ⟨1 + 1, by have := HJ.out; omega, by go_num, by show IntsOwn _ _ _ _; rw [HST1.out, if_neg HCC.out]; exact X.out⟩
      ·go_wp2_with fail
       refine (HAT1.out _ PI.out.2).mono ?_; rintro e wa ⟨rfl, ba⟩; have PA : Hid (IntsOwn w wa u4 L) := PI.out.below ba; clear ba
       by_cases hc : c = 0
       ·have HCC : Hid (c = 0) := hc
        subst hc; go_wp2_with fail
        go_roundg (gk - 1)
        case measure => have := HJ.out; omega
        case rel => exact ⟨2 + 1, by have := HJ.out; omega, by go_num, by show IntsOwn _ _ _ _; rw [HST1.out, if_pos (by trivial)]; exact PA.out⟩
       ·have PB : Hid (IntsOwn w (wa.alloc (.cells #[.int .i64 c] 3)) u4 L) := PA.out.below (B.new1 _ _)
        have HCC : Hid (¬ c = 0) := hc
        go_wp2_with (first
         | (at_builtin; refine wpList_append_own _ rfl _ _ 56 rfl w.heap.size 3 i0 (.int .i64 0) 1 8 Tryz.underlying56 hi hi0 hi1 hi2 rfl (by decide) _ L.length (ints L) rfl PB.out.1 ⟨wa.heap.size, 0, none⟩ 1 1 [.int .i64 c] rfl rfl (news_new _ _ _ _ (by simp)) (ints_one [c]) (by unfold maxLen; first | omega | simp | (simp; omega)) (by first | omega | simp | (simp; omega)) (by have := (PB.out).2.size; first | omega | (simp at this ⊢; omega)) ?_
            intro v' w3 hown' hgrow3 hnil3
            have X : Hid (IntsOwn w w3 v' (L ++ [c])) := IntsOwn.grown PB.out hown' hgrow3; clear hown' hgrow3 hnil3))
        go_roundg (gk - 1)
        case measure => have := HJ.out; omega
        case rel => exact ⟨2 + 1, by have := HJ.out; omega, by go_num, by show IntsOwn _ _ _ _; rw [HST1.out, if_neg HCC.out]; exact X.out⟩
      ·go_wp2_with fail
       refine (HAT1.out _ PI.out.2).mono ?_; rintro e wa ⟨rfl, ba⟩; have PA : Hid (IntsOwn w wa u4 L) := PI.out.below ba; clear ba
       by_cases hc : c = 0
       ·have HCC : Hid (c = 0) := hc
        subst hc; go_wp2_with fail
        go_roundg (gk - 1)
        case measure => have := HJ.out; omega
        case rel => exact ⟨3 + 1, by have := HJ.out; omega, by go_num, by show IntsOwn _ _ _ _; rw [HST1.out, if_pos (by trivial)]; exact PA.out⟩
       ·have PB : Hid (IntsOwn w (wa.alloc (.cells #[.int .i64 c] 3)) u4 L) := PA.out.below (B.new1 _ _)
        have HCC : Hid (¬ c = 0) := hc
        go_wp2_with (first
         | (at_builtin; refine wpList_append_own _ rfl _ _ 56 rfl w.heap.size 3 i0 (.int .i64 0) 1 8 Tryz.underlying56 hi hi0 hi1 hi2 rfl (by decide) _ L.length (ints L) rfl PB.out.1 ⟨wa.heap.size, 0, none⟩ 1 1 [.int .i64 c] rfl rfl (news_new _ _ _ _ (by simp)) (ints_one [c]) (by unfold maxLen; first | omega | simp | (simp; omega)) (by first | omega | simp | (simp; omega)) (by have := (PB.out).2.size; first | omega | (simp at this ⊢; omega)) ?_
            intro v' w3 hown' hgrow3 hnil3
            have X : Hid (IntsOwn w w3 v' (L ++ [c])) := IntsOwn.grown PB.out hown' hgrow3; clear hown' hgrow3 hnil3))
        go_roundg (gk - 1)
        case measure => have := HJ.out; omega
        case rel => exact ⟨3 + 1, by have := HJ.out; omega, by go_num, by show IntsOwn _ _ _ _; rw [HST1.out, if_neg HCC.out]; exact X.out⟩
     ·have hj4 : j = 4 := by omega
      subst hj4; go_wp2
      go_roundg (4 - (k + 1))
      case measure => have := HK.out; omega
      case rel => exact ⟨k + 1, by omega, by go_num, by show IntsOwn _ _ _ _; rw [show 4 * (k + 1) = 4 * k + 4 from by omega]; exact PI.out⟩
   ·have hk4 : k = 4 := by omega
    subst hk4; go_wp2; go_returns; exact ⟨_, rfl, PR.out⟩
 ·subst kb
  simp only [kl, if_true, if_false, List.nil_append, List.append_nil, List.singleton_append] at HC1
  go_enter Tryz.func28, Tryz.ntmps28
  go_wp2_with fail; refine HSe.out.mono ?_; rintro e w1 ⟨rfl, b1⟩; have O1 : Hid (IntsOwn w (w1.alloc (.cells #[.int .i64 h, .int .i64 ex, .bool op, .int .i64 pe, .int .i64 li, .int .i64 0, .bool q1, .bool q2, .bool q3] 46)) (.slice none 0 0) []) := IntsOwn.nil (b1.alloc b1.size _); clear b1 HSe; have O2 : Hid (IntsOwn w ((w1.alloc (.cells #[.int .i64 h, .int .i64 ex, .bool op, .int .i64 pe, .int .i64 li, .int .i64 0, .bool q1, .bool q2, .bool q3] 46)).alloc (.cells #[.int .i64 li] 3)) (.slice none 0 0) []) := O1.out.below (B.new1 _ _)
  go_wp2_with (first
   | (at_builtin; refine wpList_append_own _ rfl _ _ 56 rfl w.heap.size 3 i0 (.int .i64 0) 1 8 Tryz.underlying56 hi hi0 hi1 hi2 rfl (by decide) _ ([] : List Int).length (ints ([] : List Int)) rfl O2.out.1 ⟨w1.heap.size + 1, 0, none⟩ 1 1 [.int .i64 li] rfl rfl (news_new _ _ _ _ (by simp)) (ints_one [li]) (by unfold maxLen; first | omega | simp | (simp; omega)) (by first | omega | simp | (simp; omega)) (by have := (O2.out).2.size; first | omega | (simp at this ⊢; omega)) ?_
      intro v' w2 hown' hgrow3 hnil3
      have O3 : Hid (IntsOwn w w2 v' (([] : List Int) ++ [li])) := IntsOwn.grown O2.out hown' hgrow3; have d5 : w2.cell? ⟨w1.heap.size, 5, none⟩ = some (.int .i64 0) := (World.cell?_of_block (hgrow3.block w1.heap.size (by simp <;> omega) (fun e => absurd (show some w1.heap.size = (none : Option Nat) from e) (by simp)))).trans (by simp)
      clear hown' hgrow3 hnil3))
  clear d5; have O4 : Hid (IntsOwn w w2 v' (C (4 * 0))) := by rw [show 4 * 0 = 0 from rfl, HC1.out]; exact O3.out
  clear O1 O2 O3 HC1
  go_loopg [4, 5] 4 (fun q v i wr => ∃ k : Nat, k + q = 4 ∧ i = .int .i64 ((k : Int) + 1) ∧ Hid (IntsOwn w wr v (C (4 * k))))
  case atStart => exact ⟨0, by omega, by simp, O4⟩
  case round =>
   obtain ⟨k, hk, rfl, PR⟩ := hrel; have HK : Hid (k + gk = 4) := hk; clear O4
   by_cases hlt : k < 4
   ·have i4 : ((k : Int) + 1) ≤ 4 := by omega
    go_wp2_with fail
    go_loopg [4, 6] 4 (fun q v i wr => ∃ j : Nat, j + q = 4 ∧ i = .int .i64 j ∧ Hid (IntsOwn w wr v (C (4 * k + j))))
    case atStart => exact ⟨0, by omega, rfl, PR⟩
    case round =>
     obtain ⟨j, hj, rfl, PI⟩ := hrel; have HJ : Hid (j + gk = 4) := hj
     by_cases hlj : j < 4
     ·have hat := fun w1 => HAT.out k j hlt hlj w1
      have hst := HST.out (4 * k + j); have hle := HLE.out (4 * k + j); have HST1 : Hid (C (4 * k + (j + 1)) = if cN (4 * k + j) = 0 then C (4 * k + j) else C (4 * k + j) ++ [cN (4 * k + j)]) := hst
      have HAT1 : Hid (∀ w1, Below w.heap.size w w1 → Calls Tryz.prog 34 #[.pointer (some ⟨pb, 0, none⟩), .agg #[.int .i64 ((k : Int) + 1), .int .i64 ((j / 2 : Nat) : Int), .int .i64 ((j % 2 : Nat) : Int)]] w1 fun e w' => e = .returned (.int .i64 (cN (4 * k + j))) ∧ Below w1.heap.size w1 w') := hat
      generalize cN (4 * k + j) = c at *; generalize C (4 * k + j) = L at *; clear hat hst hj; have hJ : j = 0 ∨ j = 1 ∨ j = 2 ∨ j = 3 := by omega
      rcases hJ with rfl | rfl | rfl | rfl
      ·go_wp2_with fail
       refine (HAT1.out _ PI.out.2).mono ?_; rintro e wa ⟨rfl, ba⟩; have PA : Hid (IntsOwn w wa u4 L) := PI.out.below ba; clear ba
       by_cases hc : c = 0
       ·have HCC : Hid (c = 0) := hc
        subst hc; go_wp2_with fail
        go_roundg (gk - 1)
        case measure => have := HJ.out; omega
        case rel => exact ⟨0 + 1, by have := HJ.out; omega, by go_num, by show IntsOwn _ _ _ _; rw [HST1.out, if_pos (by trivial)]; exact PA.out⟩
       ·have PB : Hid (IntsOwn w (wa.alloc (.cells #[.int .i64 c] 3)) u4 L) := PA.out.below (B.new1 _ _)
        have HCC : Hid (¬ c = 0) := hc
        go_wp2_with (first
         | (at_builtin; refine wpList_append_own _ rfl _ _ 56 rfl w.heap.size 3 i0 (.int .i64 0) 1 8 Tryz.underlying56 hi hi0 hi1 hi2 rfl (by decide) _ L.length (ints L) rfl PB.out.1 ⟨wa.heap.size, 0, none⟩ 1 1 [.int .i64 c] rfl rfl (news_new _ _ _ _ (by simp)) (ints_one [c]) (by unfold maxLen; first | omega | simp | (simp; omega)) (by first | omega | simp | (simp; omega)) (by have := (PB.out).2.size; first | omega | (simp at this ⊢; omega)) ?_
            intro v' w3 hown' hgrow3 hnil3
            have X : Hid (IntsOwn w w3 v' (L ++ [c])) := IntsOwn.grown PB.out hown' hgrow3; clear hown' hgrow3 hnil3))
        go_roundg (gk - 1)
        case measure => have := HJ.out; omega
        case rel => exact ⟨0 + 1, by have := HJ.out; omega, by go_num, by show IntsOwn _ _ _ _; rw [HST1.out, if_neg HCC.out]; exact X.out⟩
      ·go_wp2_with fail
       refine (HAT1.out _ PI.out.2).mono ?_; rintro e wa ⟨rfl, ba⟩; have PA : Hid (IntsOwn w wa u4 L) := PI.out.below ba; clear ba
       by_cases hc : c = 0
       ·have HCC : Hid (c = 0) := hc
        subst hc; go_wp2_with fail
        go_roundg (gk - 1)
        case measure => have := HJ.out; omega
        case rel => exact ⟨1 + 1, by have := HJ.out; omega, by go_num, by show IntsOwn _ _ _ _; rw [HST1.out, if_pos (by trivial)]; exact PA.out⟩
       ·have PB : Hid (IntsOwn w (wa.alloc (.cells #[.int .i64 c] 3)) u4 L) := PA.out.below (B.new1 _ _)
        have HCC : Hid (¬ c = 0) := hc
        go_wp2_with (first
         | (at_builtin; refine wpList_append_own _ rfl _ _ 56 rfl w.heap.size 3 i0 (.int .i64 0) 1 8 Tryz.underlying56 hi hi0 hi1 hi2 rfl (by decide) _ L.length (ints L) rfl PB.out.1 ⟨wa.heap.size, 0, none⟩ 1 1 [.int .i64 c] rfl rfl (news_new _ _ _ _ (by simp)) (ints_one [c]) (by unfold maxLen; first | omega | simp | (simp; omega)) (by first | omega | simp | (simp; omega)) (by have := (PB.out).2.size; first | omega | (simp at this ⊢; omega)) ?_
            intro v' w3 hown' hgrow3 hnil3
            have X : Hid (IntsOwn w w3 v' (L ++ [c])) := IntsOwn.grown PB.out hown' hgrow3; clear hown' hgrow3 hnil3))
        go_roundg (gk - 1)
        case measure => have := HJ.out; omega
        case rel => exact ⟨1 + 1, by have := HJ.out; omega, by go_num, by show IntsOwn _ _ _ _; rw [HST1.out, if_neg HCC.out]; exact X.out⟩
      ·go_wp2_with fail
       refine (HAT1.out _ PI.out.2).mono ?_; rintro e wa ⟨rfl, ba⟩; have PA : Hid (IntsOwn w wa u4 L) := PI.out.below ba; clear ba
       by_cases hc : c = 0
       ·have HCC : Hid (c = 0) := hc
        subst hc; go_wp2_with fail
        go_roundg (gk - 1)
        case measure => have := HJ.out; omega
        case rel => exact ⟨2 + 1, by have := HJ.out; omega, by go_num, by show IntsOwn _ _ _ _; rw [HST1.out, if_pos (by trivial)]; exact PA.out⟩
       ·have PB : Hid (IntsOwn w (wa.alloc (.cells #[.int .i64 c] 3)) u4 L) := PA.out.below (B.new1 _ _)
        have HCC : Hid (¬ c = 0) := hc
        go_wp2_with (first
         | (at_builtin; refine wpList_append_own _ rfl _ _ 56 rfl w.heap.size 3 i0 (.int .i64 0) 1 8 Tryz.underlying56 hi hi0 hi1 hi2 rfl (by decide) _ L.length (ints L) rfl PB.out.1 ⟨wa.heap.size, 0, none⟩ 1 1 [.int .i64 c] rfl rfl (news_new _ _ _ _ (by simp)) (ints_one [c]) (by unfold maxLen; first | omega | simp | (simp; omega)) (by first | omega | simp | (simp; omega)) (by have := (PB.out).2.size; first | omega | (simp at this ⊢; omega)) ?_
            intro v' w3 hown' hgrow3 hnil3
            have X : Hid (IntsOwn w w3 v' (L ++ [c])) := IntsOwn.grown PB.out hown' hgrow3; clear hown' hgrow3 hnil3))
        go_roundg (gk - 1)
        case measure => have := HJ.out; omega
        case rel => exact ⟨2 + 1, by have := HJ.out; omega, by go_num, by show IntsOwn _ _ _ _; rw [HST1.out, if_neg HCC.out]; exact X.out⟩
      ·go_wp2_with fail
       refine (HAT1.out _ PI.out.2).mono ?_; rintro e wa ⟨rfl, ba⟩; have PA : Hid (IntsOwn w wa u4 L) := PI.out.below ba; clear ba
       by_cases hc : c = 0
       ·have HCC : Hid (c = 0) := hc
        subst hc; go_wp2_with fail
        go_roundg (gk - 1)
        case measure => have := HJ.out; omega
        case rel => exact ⟨3 + 1, by have := HJ.out; omega, by go_num, by show IntsOwn _ _ _ _; rw [HST1.out, if_pos (by trivial)]; exact PA.out⟩
       ·have PB : Hid (IntsOwn w (wa.alloc (.cells #[.int .i64 c] 3)) u4 L) := PA.out.below (B.new1 _ _)
        have HCC : Hid (¬ c = 0) := hc
        go_wp2_with (first
         | (at_builtin; refine wpList_append_own _ rfl _ _ 56 rfl w.heap.size 3 i0 (.int .i64 0) 1 8 Tryz.underlying56 hi hi0 hi1 hi2 rfl (by decide) _ L.length (ints L) rfl PB.out.1 ⟨wa.heap.size, 0, none⟩ 1 1 [.int .i64 c] rfl rfl (news_new _ _ _ _ (by simp)) (ints_one [c]) (by unfold maxLen; first | omega | simp | (simp; omega)) (by first | omega | simp | (simp; omega)) (by have := (PB.out).2.size; first | omega | (simp at this ⊢; omega)) ?_
            intro v' w3 hown' hgrow3 hnil3
            have X : Hid (IntsOwn w w3 v' (L ++ [c])) := IntsOwn.grown PB.out hown' hgrow3; clear hown' hgrow3 hnil3))
        go_roundg (gk - 1)
        case measure => have := HJ.out; omega
        case rel => exact ⟨3 + 1, by have := HJ.out; omega, by go_num, by show IntsOwn _ _ _ _; rw [HST1.out, if_neg HCC.out]; exact X.out⟩
     ·have hj4 : j = 4 := by omega
      subst hj4; go_wp2
      go_roundg (4 - (k + 1))
      case measure => have := HK.out; omega
      case rel => exact ⟨k + 1, by omega, by go_num, by show IntsOwn _ _ _ _; rw [show 4 * (k + 1) = 4 * k + 4 from by omega]; exact PI.out⟩
   ·have hk4 : k = 4 := by omega
    subst hk4; go_wp2; go_returns; exact ⟨_, rfl, PR.out⟩
 ·subst kl
  simp only [kb, if_true, if_false, List.nil_append, List.append_nil, List.singleton_append] at HC1
  go_enter Tryz.func28, Tryz.ntmps28
  go_wp2_with fail; refine HSe.out.mono ?_; rintro e w1 ⟨rfl, b1⟩; have O1 : Hid (IntsOwn w (w1.alloc (.cells #[.int .i64 h, .int .i64 ex, .bool op, .int .i64 pe, .int .i64 0, .int .i64 ba, .bool q1, .bool q2, .bool q3] 46)) (.slice none 0 0) []) := IntsOwn.nil (b1.alloc b1.size _); clear b1 HSe; have O2 : Hid (IntsOwn w ((w1.alloc (.cells #[.int .i64 h, .int .i64 ex, .bool op, .int .i64 pe, .int .i64 0, .int .i64 ba, .bool q1, .bool q2, .bool q3] 46)).alloc (.cells #[.int .i64 ba] 3)) (.slice none 0 0) []) := O1.out.below (B.new1 _ _)
  go_wp2_with (first
   | (at_builtin; refine wpList_append_own _ rfl _ _ 56 rfl w.heap.size 3 i0 (.int .i64 0) 1 8 Tryz.underlying56 hi hi0 hi1 hi2 rfl (by decide) _ ([] : List Int).length (ints ([] : List Int)) rfl O2.out.1 ⟨w1.heap.size + 1, 0, none⟩ 1 1 [.int .i64 ba] rfl rfl (news_new _ _ _ _ (by simp)) (ints_one [ba]) (by unfold maxLen; first | omega | simp | (simp; omega)) (by first | omega | simp | (simp; omega)) (by have := (O2.out).2.size; first | omega | (simp at this ⊢; omega)) ?_
      intro v' w2 hown' hgrow3 hnil3
      have O3 : Hid (IntsOwn w w2 v' (([] : List Int) ++ [ba])) := IntsOwn.grown O2.out hown' hgrow3; clear hown' hgrow3 hnil3))
  have O4 : Hid (IntsOwn w w2 v' (C (4 * 0))) := by rw [show 4 * 0 = 0 from rfl, HC1.out]; exact O3.out
  clear O1 O2 O3 HC1
  go_loopg [4, 5] 4 (fun q v i wr => ∃ k : Nat, k + q = 4 ∧ i = .int .i64 ((k : Int) + 1) ∧ Hid (IntsOwn w wr v (C (4 * k))))
  case atStart => exact ⟨0, by omega, by simp, O4⟩
  case round =>
   obtain ⟨k, hk, rfl, PR⟩ := hrel; have HK : Hid (k + gk = 4) := hk; clear O4
   by_cases hlt : k < 4
   ·have i4 : ((k : Int) + 1) ≤ 4 := by omega
    go_wp2_with fail
    go_loopg [4, 6] 4 (fun q v i wr => ∃ j : Nat, j + q = 4 ∧ i = .int .i64 j ∧ Hid (IntsOwn w wr v (C (4 * k + j))))
    case atStart => exact ⟨0, by omega, rfl, PR⟩
    case round =>
     obtain ⟨j, hj, rfl, PI⟩ := hrel; have HJ : Hid (j + gk = 4) := hj
     by_cases hlj : j < 4
     ·have hat := fun w1 => HAT.out k j hlt hlj w1
      have hst := HST.out (4 * k + j); have hle := HLE.out (4 * k + j); have HST1 : Hid (C (4 * k + (j + 1)) = if cN (4 * k + j) = 0 then C (4 * k + j) else C (4 * k + j) ++ [cN (4 * k + j)]) := hst
      have HAT1 : Hid (∀ w1, Below w.heap.size w w1 → Calls Tryz.prog 34 #[.pointer (some ⟨pb, 0, none⟩), .agg #[.int .i64 ((k : Int) + 1), .int .i64 ((j / 2 : Nat) : Int), .int .i64 ((j % 2 : Nat) : Int)]] w1 fun e w' => e = .returned (.int .i64 (cN (4 * k + j))) ∧ Below w1.heap.size w1 w') := hat
      generalize cN (4 * k + j) = c at *; generalize C (4 * k + j) = L at *; clear hat hst hj; have hJ : j = 0 ∨ j = 1 ∨ j = 2 ∨ j = 3 := by omega
      rcases hJ with rfl | rfl | rfl | rfl
      ·go_wp2_with fail
       refine (HAT1.out _ PI.out.2).mono ?_; rintro e wa ⟨rfl, ba⟩; have PA : Hid (IntsOwn w wa u4 L) := PI.out.below ba; clear ba
       by_cases hc : c = 0
       ·have HCC : Hid (c = 0) := hc
        subst hc; go_wp2_with fail
        go_roundg (gk - 1)
        case measure => have := HJ.out; omega
        case rel => exact ⟨0 + 1, by have := HJ.out; omega, by go_num, by show IntsOwn _ _ _ _; rw [HST1.out, if_pos (by trivial)]; exact PA.out⟩
       ·have PB : Hid (IntsOwn w (wa.alloc (.cells #[.int .i64 c] 3)) u4 L) := PA.out.below (B.new1 _ _)
        have HCC : Hid (¬ c = 0) := hc
        go_wp2_with (first
         | (at_builtin; refine wpList_append_own _ rfl _ _ 56 rfl w.heap.size 3 i0 (.int .i64 0) 1 8 Tryz.underlying56 hi hi0 hi1 hi2 rfl (by decide) _ L.length (ints L) rfl PB.out.1 ⟨wa.heap.size, 0, none⟩ 1 1 [.int .i64 c] rfl rfl (news_new _ _ _ _ (by simp)) (ints_one [c]) (by unfold maxLen; first | omega | simp | (simp; omega)) (by first | omega | simp | (simp; omega)) (by have := (PB.out).2.size; first | omega | (simp at this ⊢; omega)) ?_
            intro v' w3 hown' hgrow3 hnil3
            have X : Hid (IntsOwn w w3 v' (L ++ [c])) := IntsOwn.grown PB.out hown' hgrow3; clear hown' hgrow3 hnil3))
        go_roundg (gk - 1)
        case measure => have := HJ.out; omega
        case rel => exact ⟨0 + 1, by have := HJ.out; omega, by go_num, by show IntsOwn _ _ _ _; rw [HST1.out, if_neg HCC.out]; exact X.out⟩
      ·go_wp2_with fail
       refine (HAT1.out _ PI.out.2).mono ?_; rintro e wa ⟨rfl, ba⟩; have PA : Hid (IntsOwn w wa u4 L) := PI.out.below ba; clear ba
       by_cases hc : c = 0
       ·have HCC : Hid (c = 0) := hc
        subst hc; go_wp2_with fail
        go_roundg (gk - 1)
        case measure => have := HJ.out; omega
        case rel => exact ⟨1 + 1, by have := HJ.out; omega, by go_num, by show IntsOwn _ _ _ _; rw [HST1.out, if_pos (by trivial)]; exact PA.out⟩
       ·have PB : Hid (IntsOwn w (wa.alloc (.cells #[.int .i64 c] 3)) u4 L) := PA.out.below (B.new1 _ _)
        have HCC : Hid (¬ c = 0) := hc
        go_wp2_with (first
         | (at_builtin; refine wpList_append_own _ rfl _ _ 56 rfl w.heap.size 3 i0 (.int .i64 0) 1 8 Tryz.underlying56 hi hi0 hi1 hi2 rfl (by decide) _ L.length (ints L) rfl PB.out.1 ⟨wa.heap.size, 0, none⟩ 1 1 [.int .i64 c] rfl rfl (news_new _ _ _ _ (by simp)) (ints_one [c]) (by unfold maxLen; first | omega | simp | (simp; omega)) (by first | omega | simp | (simp; omega)) (by have := (PB.out).2.size; first | omega | (simp at this ⊢; omega)) ?_
            intro v' w3 hown' hgrow3 hnil3
            have X : Hid (IntsOwn w w3 v' (L ++ [c])) := IntsOwn.grown PB.out hown' hgrow3; clear hown' hgrow3 hnil3))
        go_roundg (gk - 1)
        case measure => have := HJ.out; omega
        case rel => exact ⟨1 + 1, by have := HJ.out; omega, by go_num, by show IntsOwn _ _ _ _; rw [HST1.out, if_neg HCC.out]; exact X.out⟩
      ·go_wp2_with fail
       refine (HAT1.out _ PI.out.2).mono ?_; rintro e wa ⟨rfl, ba⟩; have PA : Hid (IntsOwn w wa u4 L) := PI.out.below ba; clear ba
       by_cases hc : c = 0
       ·have HCC : Hid (c = 0) := hc
        subst hc; go_wp2_with fail
        go_roundg (gk - 1)
        case measure => have := HJ.out; omega
        case rel => exact ⟨2 + 1, by have := HJ.out; omega, by go_num, by show IntsOwn _ _ _ _; rw [HST1.out, if_pos (by trivial)]; exact PA.out⟩
       ·have PB : Hid (IntsOwn w (wa.alloc (.cells #[.int .i64 c] 3)) u4 L) := PA.out.below (B.new1 _ _)
        have HCC : Hid (¬ c = 0) := hc
        go_wp2_with (first
         | (at_builtin; refine wpList_append_own _ rfl _ _ 56 rfl w.heap.size 3 i0 (.int .i64 0) 1 8 Tryz.underlying56 hi hi0 hi1 hi2 rfl (by decide) _ L.length (ints L) rfl PB.out.1 ⟨wa.heap.size, 0, none⟩ 1 1 [.int .i64 c] rfl rfl (news_new _ _ _ _ (by simp)) (ints_one [c]) (by unfold maxLen; first | omega | simp | (simp; omega)) (by first | omega | simp | (simp; omega)) (by have := (PB.out).2.size; first | omega | (simp at this ⊢; omega)) ?_
            intro v' w3 hown' hgrow3 hnil3
            have X : Hid (IntsOwn w w3 v' (L ++ [c])) := IntsOwn.grown PB.out hown' hgrow3; clear hown' hgrow3 hnil3))
        go_roundg (gk - 1)
        case measure => have := HJ.out; omega
        case rel => exact ⟨2 + 1, by have := HJ.out; omega, by go_num, by show IntsOwn _ _ _ _; rw [HST1.out, if_neg HCC.out]; exact X.out⟩
      ·go_wp2_with fail
       refine (HAT1.out _ PI.out.2).mono ?_; rintro e wa ⟨rfl, ba⟩; have PA : Hid (IntsOwn w wa u4 L) := PI.out.below ba; clear ba
       by_cases hc : c = 0
       ·have HCC : Hid (c = 0) := hc
        subst hc; go_wp2_with fail
        go_roundg (gk - 1)
        case measure => have := HJ.out; omega
        case rel => exact ⟨3 + 1, by have := HJ.out; omega, by go_num, by show IntsOwn _ _ _ _; rw [HST1.out, if_pos (by trivial)]; exact PA.out⟩
       ·have PB : Hid (IntsOwn w (wa.alloc (.cells #[.int .i64 c] 3)) u4 L) := PA.out.below (B.new1 _ _)
        have HCC : Hid (¬ c = 0) := hc
        go_wp2_with (first
         | (at_builtin; refine wpList_append_own _ rfl _ _ 56 rfl w.heap.size 3 i0 (.int .i64 0) 1 8 Tryz.underlying56 hi hi0 hi1 hi2 rfl (by decide) _ L.length (ints L) rfl PB.out.1 ⟨wa.heap.size, 0, none⟩ 1 1 [.int .i64 c] rfl rfl (news_new _ _ _ _ (by simp)) (ints_one [c]) (by unfold maxLen; first | omega | simp | (simp; omega)) (by first | omega | simp | (simp; omega)) (by have := (PB.out).2.size; first | omega | (simp at this ⊢; omega)) ?_
            intro v' w3 hown' hgrow3 hnil3
            have X : Hid (IntsOwn w w3 v' (L ++ [c])) := IntsOwn.grown PB.out hown' hgrow3; clear hown' hgrow3 hnil3))
        go_roundg (gk - 1)
        case measure => have := HJ.out; omega
        case rel => exact ⟨3 + 1, by have := HJ.out; omega, by go_num, by show IntsOwn _ _ _ _; rw [HST1.out, if_neg HCC.out]; exact X.out⟩
     ·have hj4 : j = 4 := by omega
      subst hj4; go_wp2
      go_roundg (4 - (k + 1))
      case measure => have := HK.out; omega
      case rel => exact ⟨k + 1, by omega, by go_num, by show IntsOwn _ _ _ _; rw [show 4 * (k + 1) = 4 * k + 4 from by omega]; exact PI.out⟩
   ·have hk4 : k = 4 := by omega
    subst hk4; go_wp2; go_returns; exact ⟨_, rfl, PR.out⟩
 ·subst kl
  subst kb; simp only [if_true, if_false, List.nil_append, List.append_nil, List.singleton_append] at HC1
  go_enter Tryz.func28, Tryz.ntmps28
  go_wp2_with fail; refine HSe.out.mono ?_; rintro e w1 ⟨rfl, b1⟩; have O1 : Hid (IntsOwn w (w1.alloc (.cells #[.int .i64 h, .int .i64 ex, .bool op, .int .i64 pe, .int .i64 0, .int .i64 0, .bool q1, .bool q2, .bool q3] 46)) (.slice none 0 0) []) := IntsOwn.nil (b1.alloc b1.size _); clear b1 HSe; go_wp2_with fail; have O4 : Hid (IntsOwn w (w1.alloc (.cells #[.int .i64 h, .int .i64 ex, .bool op, .int .i64 pe, .int .i64 0, .int .i64 0, .bool q1, .bool q2, .bool q3] 46)) (.slice none 0 0) (C (4 * 0))) := by rw [show 4 * 0 = 0 from rfl, HC1.out]; exact O1.out
  clear O1 HC1
  go_loopg [4, 5] 4 (fun q v i wr => ∃ k : Nat, k + q = 4 ∧ i = .int .i64 ((k : Int) + 1) ∧ Hid (IntsOwn w wr v (C (4 * k))))
  case atStart => exact ⟨0, by omega, by simp, O4⟩
  case round =>
   obtain ⟨k, hk, rfl, PR⟩ := hrel; have HK : Hid (k + gk = 4) := hk; clear O4
   by_cases hlt : k < 4
   ·have i4 : ((k : Int) + 1) ≤ 4 := by omega
    go_wp2_with fail
    go_loopg [4, 6] 4 (fun q v i wr => ∃ j : Nat, j + q = 4 ∧ i = .int .i64 j ∧ Hid (IntsOwn w wr v (C (4 * k + j))))
    case atStart => exact ⟨0, by omega, rfl, PR⟩
    case round =>
     obtain ⟨j, hj, rfl, PI⟩ := hrel; have HJ : Hid (j + gk = 4) := hj
     by_cases hlj : j < 4
     ·have hat := fun w1 => HAT.out k j hlt hlj w1
      have hst := HST.out (4 * k + j); have hle := HLE.out (4 * k + j); have HST1 : Hid (C (4 * k + (j + 1)) = if cN (4 * k + j) = 0 then C (4 * k + j) else C (4 * k + j) ++ [cN (4 * k + j)]) := hst
      have HAT1 : Hid (∀ w1, Below w.heap.size w w1 → Calls Tryz.prog 34 #[.pointer (some ⟨pb, 0, none⟩), .agg #[.int .i64 ((k : Int) + 1), .int .i64 ((j / 2 : Nat) : Int), .int .i64 ((j % 2 : Nat) : Int)]] w1 fun e w' => e = .returned (.int .i64 (cN (4 * k + j))) ∧ Below w1.heap.size w1 w') := hat
      generalize cN (4 * k + j) = c at *; generalize C (4 * k + j) = L at *; clear hat hst hj; have hJ : j = 0 ∨ j = 1 ∨ j = 2 ∨ j = 3 := by omega
      rcases hJ with rfl | rfl | rfl | rfl
      ·go_wp2_with fail
       refine (HAT1.out _ PI.out.2).mono ?_; rintro e wa ⟨rfl, ba⟩; have PA : Hid (IntsOwn w wa u4 L) := PI.out.below ba; clear ba
       by_cases hc : c = 0
       ·have HCC : Hid (c = 0) := hc
        subst hc; go_wp2_with fail
        go_roundg (gk - 1)
        case measure => have := HJ.out; omega
        case rel => exact ⟨0 + 1, by have := HJ.out; omega, by go_num, by show IntsOwn _ _ _ _; rw [HST1.out, if_pos (by trivial)]; exact PA.out⟩
       ·have PB : Hid (IntsOwn w (wa.alloc (.cells #[.int .i64 c] 3)) u4 L) := PA.out.below (B.new1 _ _)
        have HCC : Hid (¬ c = 0) := hc
        go_wp2_with (first
         | (at_builtin; refine wpList_append_own _ rfl _ _ 56 rfl w.heap.size 3 i0 (.int .i64 0) 1 8 Tryz.underlying56 hi hi0 hi1 hi2 rfl (by decide) _ L.length (ints L) rfl PB.out.1 ⟨wa.heap.size, 0, none⟩ 1 1 [.int .i64 c] rfl rfl (news_new _ _ _ _ (by simp)) (ints_one [c]) (by unfold maxLen; first | omega | simp | (simp; omega)) (by first | omega | simp | (simp; omega)) (by have := (PB.out).2.size; first | omega | (simp at this ⊢; omega)) ?_
            intro v' w3 hown' hgrow3 hnil3
            have X : Hid (IntsOwn w w3 v' (L ++ [c])) := IntsOwn.grown PB.out hown' hgrow3; clear hown' hgrow3 hnil3))
        go_roundg (gk - 1)
        case measure => have := HJ.out; omega
        case rel => exact ⟨0 + 1, by have := HJ.out; omega, by go_num, by show IntsOwn _ _ _ _; rw [HST1.out, if_neg HCC.out]; exact X.out⟩
      ·go_wp2_with fail
       refine (HAT1.out _ PI.out.2).mono ?_; rintro e wa ⟨rfl, ba⟩; have PA : Hid (IntsOwn w wa u4 L) := PI.out.below ba; clear ba
       by_cases hc : c = 0
       ·have HCC : Hid (c = 0) := hc
        subst hc; go_wp2_with fail
        go_roundg (gk - 1)
        case measure => have := HJ.out; omega
        case rel => exact ⟨1 + 1, by have := HJ.out; omega, by go_num, by show IntsOwn _ _ _ _; rw [HST1.out, if_pos (by trivial)]; exact PA.out⟩
       ·have PB : Hid (IntsOwn w (wa.alloc (.cells #[.int .i64 c] 3)) u4 L) := PA.out.below (B.new1 _ _)
        have HCC : Hid (¬ c = 0) := hc
        go_wp2_with (first
         | (at_builtin; refine wpList_append_own _ rfl _ _ 56 rfl w.heap.size 3 i0 (.int .i64 0) 1 8 Tryz.underlying56 hi hi0 hi1 hi2 rfl (by decide) _ L.length (ints L) rfl PB.out.1 ⟨wa.heap.size, 0, none⟩ 1 1 [.int .i64 c] rfl rfl (news_new _ _ _ _ (by simp)) (ints_one [c]) (by unfold maxLen; first | omega | simp | (simp; omega)) (by first | omega | simp | (simp; omega)) (by have := (PB.out).2.size; first | omega | (simp at this ⊢; omega)) ?_
            intro v' w3 hown' hgrow3 hnil3
            have X : Hid (IntsOwn w w3 v' (L ++ [c])) := IntsOwn.grown PB.out hown' hgrow3; clear hown' hgrow3 hnil3))
        go_roundg (gk - 1)
        case measure => have := HJ.out; omega
        case rel => exact ⟨1 + 1, by have := HJ.out; omega, by go_num, by show IntsOwn _ _ _ _; rw [HST1.out, if_neg HCC.out]; exact X.out⟩
      ·go_wp2_with fail
       refine (HAT1.out _ PI.out.2).mono ?_; rintro e wa ⟨rfl, ba⟩; have PA : Hid (IntsOwn w wa u4 L) := PI.out.below ba; clear ba
       by_cases hc : c = 0
       ·have HCC : Hid (c = 0) := hc
        subst hc; go_wp2_with fail
        go_roundg (gk - 1)
        case measure => have := HJ.out; omega
        case rel => exact ⟨2 + 1, by have := HJ.out; omega, by go_num, by show IntsOwn _ _ _ _; rw [HST1.out, if_pos (by trivial)]; exact PA.out⟩
       ·have PB : Hid (IntsOwn w (wa.alloc (.cells #[.int .i64 c] 3)) u4 L) := PA.out.below (B.new1 _ _)
        have HCC : Hid (¬ c = 0) := hc
        go_wp2_with (first
         | (at_builtin; refine wpList_append_own _ rfl _ _ 56 rfl w.heap.size 3 i0 (.int .i64 0) 1 8 Tryz.underlying56 hi hi0 hi1 hi2 rfl (by decide) _ L.length (ints L) rfl PB.out.1 ⟨wa.heap.size, 0, none⟩ 1 1 [.int .i64 c] rfl rfl (news_new _ _ _ _ (by simp)) (ints_one [c]) (by unfold maxLen; first | omega | simp | (simp; omega)) (by first | omega | simp | (simp; omega)) (by have := (PB.out).2.size; first | omega | (simp at this ⊢; omega)) ?_
            intro v' w3 hown' hgrow3 hnil3
            have X : Hid (IntsOwn w w3 v' (L ++ [c])) := IntsOwn.grown PB.out hown' hgrow3; clear hown' hgrow3 hnil3))
        go_roundg (gk - 1)
        case measure => have := HJ.out; omega
        case rel => exact ⟨2 + 1, by have := HJ.out; omega, by go_num, by show IntsOwn _ _ _ _; rw [HST1.out, if_neg HCC.out]; exact X.out⟩
      ·go_wp2_with fail
       refine (HAT1.out _ PI.out.2).mono ?_; rintro e wa ⟨rfl, ba⟩; have PA : Hid (IntsOwn w wa u4 L) := PI.out.below ba; clear ba
       by_cases hc : c = 0
       ·have HCC : Hid (c = 0) := hc
        subst hc; go_wp2_with fail
        go_roundg (gk - 1)
        case measure => have := HJ.out; omega
        case rel => exact ⟨3 + 1, by have := HJ.out; omega, by go_num, by show IntsOwn _ _ _ _; rw [HST1.out, if_pos (by trivial)]; exact PA.out⟩
       ·have PB : Hid (IntsOwn w (wa.alloc (.cells #[.int .i64 c] 3)) u4 L) := PA.out.below (B.new1 _ _)
        have HCC : Hid (¬ c = 0) := hc
        go_wp2_with (first
         | (at_builtin; refine wpList_append_own _ rfl _ _ 56 rfl w.heap.size 3 i0 (.int .i64 0) 1 8 Tryz.underlying56 hi hi0 hi1 hi2 rfl (by decide) _ L.length (ints L) rfl PB.out.1 ⟨wa.heap.size, 0, none⟩ 1 1 [.int .i64 c] rfl rfl (news_new _ _ _ _ (by simp)) (ints_one [c]) (by unfold maxLen; first | omega | simp | (simp; omega)) (by first | omega | simp | (simp; omega)) (by have := (PB.out).2.size; first | omega | (simp at this ⊢; omega)) ?_
            intro v' w3 hown' hgrow3 hnil3
            have X : Hid (IntsOwn w w3 v' (L ++ [c])) := IntsOwn.grown PB.out hown' hgrow3; clear hown' hgrow3 hnil3))
        go_roundg (gk - 1)
        case measure => have := HJ.out; omega
        case rel => exact ⟨3 + 1, by have := HJ.out; omega, by go_num, by show IntsOwn _ _ _ _; rw [HST1.out, if_neg HCC.out]; exact X.out⟩
     ·have hj4 : j = 4 := by omega
      subst hj4; go_wp2
      go_roundg (4 - (k + 1))
      case measure => have := HK.out; omega
      case rel => exact ⟨k + 1, by omega, by go_num, by show IntsOwn _ _ _ _; rw [show 4 * (k + 1) = 4 * k + 4 from by omega]; exact PI.out⟩
   ·have hk4 : k = 4 := by omega
    subst hk4; go_wp2; go_returns; exact ⟨_, rfl, PR.out⟩
end Pl
namespace Pl
open Ac
def IntsAt (w : World) (v : Value) (l : List Int) : Prop :=
 ∃ (ad : Option Addr) (cap : Nat), v = .slice ad l.length cap ∧ l.length ≤ cap ∧ cap ≤ maxLen ∧
  (0 < l.length → ∃ b off, ad = some ⟨b, off, none⟩ ∧ b < w.heap.size ∧ ∀ i, i < l.length → w.cell? ⟨b, off + i, none⟩ = some (.int .i64 (l.getD i 0)))
theorem IntsAt.below {w w' : World} {v : Value} {l : List Int} (h : IntsAt w v l) (hb : Below w.heap.size w w') : IntsAt w' v l := by
 obtain ⟨ad, cap, hv, h1, h2, hc⟩ := h; refine ⟨ad, cap, hv, h1, h2, fun h0 => ?_⟩
 obtain ⟨b, off, ha, hlt, hcell⟩ := hc h0; exact ⟨b, off, ha, Nat.lt_of_lt_of_le hlt hb.size, fun i hi => (hb.cell (p := ⟨b, _, none⟩) hlt).trans (hcell i hi)⟩
theorem IntsOwn.at {w w' : World} {v : Value} {l : List Int} (h : IntsOwn w w' v l) : IntsAt w' v l := by
 rcases h.1.2 with ⟨rfl, h0⟩ | ⟨g, cap, cur, rfl, hg, r⟩
 ·exact ⟨none, 0, by rw [h0], by omega, Nat.zero_le _, fun h => by omega⟩
 ·have hlt := (h.1.lt g rfl).2
  refine ⟨some ⟨g, 0, none⟩, cap, rfl, ?_, ?_, fun h0 => ⟨g, 0, rfl, hlt, fun i hi => ?_⟩⟩
  ·exact r.2.1
  ·exact r.2.2.1
  ·have := h.1.cells (g := g) rfl i (.int .i64 (l.getD i 0)) (by simp [ints, List.getD, List.getElem?_eq_getElem hi])
   have ad : (⟨g, 0, none⟩ : Addr).add i = ⟨g, 0 + i, none⟩ := by
    unfold Addr.add
    split
    ·rename_i h; subst h; rfl
    ·simp
   rw [ad] at this; exact this
theorem count_take (l : List Int) (x : Int) (j : Nat) (hj : j < l.length) : (l.take (j + 1)).count x = (l.take j).count x + (if l.getD j 0 = x then 1 else 0) := by
 rw [List.take_add_one, List.getElem?_eq_getElem hj, List.count_append]; have : l.getD j 0 = l[j] := by simp [List.getD, List.getElem?_eq_getElem hj]
 rw [this]
 simp [List.count_cons]
def more (a b : List Int) (x : Int) (j : Nat) : Int := ((a.take j).count x : Int) - ((b.take j).count x : Int)
theorem more_le (a b : List Int) (x : Int) (j : Nat) : -(j : Int) ≤ more a b x j ∧ more a b x j ≤ j := by
 have h1 := List.count_le_length (a := x) (l := a.take j); have h2 := List.count_le_length (a := x) (l := b.take j); rw [List.length_take] at h1 h2; unfold more
 omega
theorem more_step (a b : List Int) (x : Int) (j : Nat) (ha : j < a.length) (hb : j < b.length) : more a b x (j + 1) = more a b x j + (if a.getD j 0 = x then 1 else 0) - (if b.getD j 0 = x then 1 else 0) := by
 unfold more; rw [count_take a x j ha, count_take b x j hb]
 split <;> split <;> simp <;> omega
theorem more_all (a b : List Int) (x : Int) (h : ∀ x, a.count x = b.count x) (hl : a.length = b.length) : more a b x a.length = 0 := by
 unfold more; rw [List.take_length, hl, List.take_length, h x]
 omega
set_option maxHeartbeats 4000000 in
theorem alike_any (va vb : Value) (a b : List Int) (w : World) (ha : IntsAt w va a) (hb : IntsAt w vb b) (hl : a.length = b.length) (h : ∀ x, a.count x = b.count x) (hs : a.length ≤ 1000) :
  Calls Tryz.prog 27 #[va, vb] w fun e w' => e = .returned (.bool true) ∧ Below w.heap.size w w' := by
 have HA : Hid (IntsAt w va a) := ha; have HB : Hid (IntsAt w vb b) := hb; have HM : Hid (∀ x, more a b x a.length = 0) := fun x => more_all a b x h hl
 obtain ⟨aa, ca, rfl, a1, a2, _⟩ := ha; obtain ⟨ab, cb, rfl, b1, b2, _⟩ := hb; have HT : Hid (∀ x j, j < a.length → more a b x (j + 1) = more a b x j + (if a.getD j 0 = x then 1 else 0) - (if b.getD j 0 = x then 1 else 0)) := fun x j hj => more_step a b x j hj (by omega)
 have HR : Hid (∀ (x : Int) (j : Nat), -(j : Int) ≤ more a b x j ∧ more a b x j ≤ j) := fun x j => more_le a b x j
 have H0 : Hid (∀ x, more a b x 0 = 0) := fun x => by show _ = _; simp [more]
 generalize more a b = M at HM HT HR H0; rw [← hl] at b1 ⊢; generalize hla : a.length = N at *; have HLB : Hid (b.length = N) := hl.symm; have HLA : Hid (a.length = N) := hla; unfold maxLen at a2 b2; clear hl h hla
 go_enter Tryz.func27, Tryz.ntmps27
 go_wp2_with fail
 go_loopw [5] (fun i wr => ∃ k : Nat, k ≤ N ∧ i = .int .i64 k ∧ Hid (Below w.heap.size w wr)) (fun i _ => N - (intOf i).toNat)
 case atStart => exact ⟨0, Nat.zero_le _, rfl, Below.refl _ _⟩
 case round =>
  obtain ⟨k, hk, rfl, PB⟩ := hrel
  by_cases hlt : k < N
  ·obtain ⟨X, HX⟩ : ∃ X, Hid (a.getD k 0 = X) := ⟨_, rfl⟩
   have HK : Hid (k < N) := hlt; go_wp2_with fail
   go_loopw [6, 7] (fun n i wx => ∃ j : Nat, j ≤ N ∧ i = .int .i64 j ∧ n = .int .i64 (M X j) ∧ Hid (Below w.heap.size w wx)) (fun _ i _ => N - (intOf i).toNat)
   case atStart => exact ⟨0, Nat.zero_le _, rfl, by rw [H0.out], PB⟩
   case round =>
    obtain ⟨j, hj, rfl, rfl, PX⟩ := hrel
    by_cases hltj : j < N
    ·obtain ⟨ad1, cap1, e1, _, _, hc1⟩ := HA.out.below PX.out
     rw [HLA.out] at e1 hc1
     cases e1
     obtain ⟨ba, oa, rfl, hlta, hca⟩ := hc1 (by omega); have c1 := hca j hltj; have c2 := hca k HK.out; rw [HX.out] at c2; obtain ⟨ad2, cap2, e2, _, _, hc2⟩ := HB.out.below PX.out; rw [HLB.out] at e2 hc2
     cases e2
     obtain ⟨bb, ob, rfl, hltb, hcb⟩ := hc2 (by omega); have c3 := hcb j hltj; have hstep := HT.out X j hltj; have hr := HR.out X j; generalize a.getD j 0 = Y at c1 hstep; generalize b.getD j 0 = Z at c3 hstep; generalize M X j = m at hstep hr ⊢; have HS : Hid (M X (j + 1) = m + (if Y = X then 1 else 0) - (if Z = X then 1 else 0)) := hstep
     clear hca hcb hc1 hc2 hstep; have w1 : IntKind.i64.wrap (m + 1) = m + 1 := by rw [IntKind.wrap_i64]; omega
     have w2 : IntKind.i64.wrap (m - 1) = m - 1 := by rw [IntKind.wrap_i64]; omega
     have w3 : IntKind.i64.wrap (m + 1 - 1) = m + 1 - 1 := by rw [IntKind.wrap_i64]; omega
     have W4 : Hid (wrap64 m = m) := by show _ = _; unfold wrap64; omega
     cases hy : (Y == X) <;> cases hz : (Z == X)
     all_goals
      have KY : Hid ((if Y = X then (1 : Int) else 0) = if (Y == X) = true then 1 else 0) := by show _ = _; simp
      have KZ : Hid ((if Z = X then (1 : Int) else 0) = if (Z == X) = true then 1 else 0) := by show _ = _; simp
      rw [KY.out, KZ.out, hy, hz] at HS; clear KY KZ hr; go_wp2_with fail
      go_region
      all_goals go_wp2_with fail
      all_goals go_region
      all_goals go_wp2
      all_goals go_roundw
      all_goals first
       | exact ⟨j + 1, by omega, by go_num, by rw [HS.out]; (first | (simp; done) | (simp; exact W4.out) | (simp; omega)), PX.out.drew.drew⟩
       | (simp [intOf]; omega)
    ·have hjN : j = N := by omega
     subst hjN; rw [HM.out X]; go_wp2
     go_roundw
     case rel => exact ⟨k + 1, by omega, by go_num, PX⟩
     case measure => simp [intOf]; omega
  ·go_wp2
   go_returns; exact ⟨rfl, PB.out⟩
end Pl
namespace Pl
open Ac
def one (a x : Int) : Nat := if a = x then 1 else 0
def countN (g : Nat → Int) (x : Int) : Nat → Nat
 | 0 => 0
 | m + 1 => countN g x m + one (g m) x
def cnt (s : St) (x : Int) : Nat := one s.li x + one s.ba x + countN (carN s) x 16
theorem one_self (a : Int) : one a a = 1 := by simp [one]
theorem one_ne {a x : Int} (h : a ≠ x) : one a x = 0 := by simp [one, h]
theorem head_count (s : St) (x : Int) (hx : x ≠ 0) : (headL s).count x = one s.li x + one s.ba x := by
 unfold headL one
 by_cases h1 : s.li = 0 <;> by_cases h2 : s.ba = 0 <;> simp [h1, h2, List.count_cons] <;> (repeat' split) <;> simp_all <;> omega
theorem carsTo_count (s : St) (x : Int) (hx : x ≠ 0) : ∀ m, (carsTo s m).count x = one s.li x + one s.ba x + countN (carN s) x m
 | 0 => by simp [carsTo, countN, head_count s x hx]
 | m + 1 => by
   have ih := carsTo_count s x hx m; unfold carsTo countN
   split
   ·rename_i h
    rw [ih, h, one_ne (a := 0) (x := x) (by omega)]
    omega
   ·rw [List.count_append, ih]
    simp only [List.count_cons, List.count_nil, one, beq_iff_eq]
    omega
theorem carsTo_zero (s : St) : ∀ m, (carsTo s m).count 0 = 0
 | 0 => by
   unfold carsTo headL
   by_cases h1 : s.li = 0 <;> by_cases h2 : s.ba = 0 <;> simp [h1, h2, List.count_cons]
 | m + 1 => by
   unfold carsTo
   split
   ·exact carsTo_zero s m
   ·rename_i h
    rw [List.count_append, carsTo_zero s m]
    simp [List.count_cons, h]
theorem carsL_count (s : St) (x : Int) : (carsL s).count x = if x = 0 then 0 else cnt s x := by
 split
 ·rename_i h; subst h; exact carsTo_zero s 16
 ·rename_i h; exact carsTo_count s x h 16
theorem countN_congr {g g' : Nat → Int} {x : Int} : ∀ m, (∀ j, j < m → g j = g' j) → countN g x m = countN g' x m
 | 0, _ => rfl
 | m + 1, h => by
   unfold countN; rw [countN_congr m (fun j hj => h j (by omega)), h m (by omega)]
theorem countN_set {g g' : Nat → Int} {x : Int} {m0 : Nat} : ∀ m, m0 < m → (∀ j, j ≠ m0 → g' j = g j) → countN g' x m + one (g m0) x = countN g x m + one (g' m0) x
 | 0, h, _ => by omega
 | m + 1, h, hg => by
   unfold countN
   by_cases e : m = m0
   ·subst e
    rw [countN_congr (g := g') (g' := g) m (fun j hj => hg j (by omega))]
    omega
   ·have := countN_set (g := g) (g' := g') (x := x) m (by omega) hg
    rw [hg m e]
    omega
theorem spot_idx {X Y Z : Int} (hX : 1 ≤ X ∧ X ≤ 4) (hY : 0 ≤ Y ∧ Y ≤ 1) (hZ : 0 ≤ Z ∧ Z ≤ 1) :
  ∃ m0, m0 < 16 ∧ (((m0 / 4 : Nat) : Int) + 1 = X ∧ ((m0 % 4 / 2 : Nat) : Int) = Y ∧ ((m0 % 2 : Nat) : Int) = Z) ∧ ∀ j, j ≠ m0 → ¬ (((j / 4 : Nat) : Int) + 1 = X ∧ ((j % 4 / 2 : Nat) : Int) = Y ∧ ((j % 2 : Nat) : Int) = Z) := by
 refine ⟨4 * (X - 1).toNat + 2 * Y.toNat + Z.toNat, by omega, by omega, fun j hj => by omega⟩
theorem carN_wf (j : Nat) (h : j < 1000000) : (Lit.int .i64 (((j / 4 : Nat) : Int) + 1)).wf = true ∧ (Lit.int .i64 ((j % 4 / 2 : Nat) : Int)).wf = true ∧ (Lit.int .i64 ((j % 2 : Nat) : Int)).wf = true :=
 ⟨wfI (by omega), wfI (by omega), wfI (by omega)⟩
theorem cnt_del {s s' : St} {X Y Z : Int} (x : Int) (hX : 1 ≤ X ∧ X ≤ 4) (hY : 0 ≤ Y ∧ Y ≤ 1) (hZ : 0 ≤ Z ∧ Z ≤ 1) (hD : s'.D = s.D.del (pk X Y Z)) (hx : x ≠ 0) :
  countN (carN s') x 16 + one (carOf s.D X Y Z) x = countN (carN s) x 16 := by
 obtain ⟨m0, hm, ⟨e1, e2, e3⟩, hu⟩ := spot_idx hX hY hZ
 have key : ∀ j, j < 1000000 → carN s' j = if (((j / 4 : Nat) : Int) + 1 = X ∧ ((j % 4 / 2 : Nat) : Int) = Y ∧ ((j % 2 : Nat) : Int) = Z) then 0 else carN s j := fun j hj => by
  obtain ⟨w1, w2, w3⟩ := carN_wf j hj; unfold carN; rw [hD, carOf_del (wfI (by omega)) (wfI (by omega)) (wfI (by omega)) w1 w2 w3]
 have h0 : carN s m0 = carOf s.D X Y Z := by unfold carN; rw [e1, e2, e3]
 have h1 : carN s' m0 = 0 := by rw [key m0 (by omega), if_pos ⟨e1, e2, e3⟩]
 have := countN_set (g := carN s) (g' := fun j => if j < 1000000 then carN s' j else carN s j) (x := x) (m0 := m0) 16 hm (fun j hj => by
  by_cases hl : j < 1000000
  ·simp only [hl, if_true]; rw [key j hl, if_neg (hu j hj)]
  ·simp only [hl, if_false])
 rw [countN_congr (g := fun j => if j < 1000000 then carN s' j else carN s j) (g' := carN s') 16 (fun j hj => by rw [if_pos (by omega)])] at this
 simp only [show m0 < 1000000 from by omega, if_true] at this
 rw [h0, h1, one_ne (a := 0) (by omega)] at this
 omega
theorem cnt_put {s s' : St} {X Y Z c : Int} (x : Int) (hX : 1 ≤ X ∧ X ≤ 4) (hY : 0 ≤ Y ∧ Y ≤ 1) (hZ : 0 ≤ Z ∧ Z ≤ 1) (hM : IsMap s.D) (hD : s'.D = s.D.put (pk X Y Z) (.lit (.int .i64 c))) (hf : carOf s.D X Y Z = 0) (hx : x ≠ 0) :
  countN (carN s') x 16 = countN (carN s) x 16 + one c x := by
 obtain ⟨m0, hm, ⟨e1, e2, e3⟩, hu⟩ := spot_idx hX hY hZ
 have key : ∀ j, j < 1000000 → carN s' j = if (((j / 4 : Nat) : Int) + 1 = X ∧ ((j % 4 / 2 : Nat) : Int) = Y ∧ ((j % 2 : Nat) : Int) = Z) then c else carN s j := fun j hj => by
  obtain ⟨w1, w2, w3⟩ := carN_wf j hj; unfold carN; rw [hD, carOf_put hM (wfI (by omega)) (wfI (by omega)) (wfI (by omega)) w1 w2 w3]
 have h0 : carN s m0 = 0 := by unfold carN; rw [e1, e2, e3]; exact hf
 have h1 : carN s' m0 = c := by rw [key m0 (by omega), if_pos ⟨e1, e2, e3⟩]
 have := countN_set (g := carN s) (g' := fun j => if j < 1000000 then carN s' j else carN s j) (x := x) (m0 := m0) 16 hm (fun j hj => by
  by_cases hl : j < 1000000
  ·simp only [hl, if_true]; rw [key j hl, if_neg (hu j hj)]
  ·simp only [hl, if_false])
 rw [countN_congr (g := fun j => if j < 1000000 then carN s' j else carN s j) (g' := carN s') 16 (fun j hj => by rw [if_pos (by omega)])] at this
 simp only [show m0 < 1000000 from by omega, if_true] at this
 rw [h0, h1, one_ne (a := 0) (by omega)] at this
 omega
theorem cnt_grab {s : St} (iv : Inv s) (x : Int) (hx : x ≠ 0) : cnt (grabS s) x = cnt s x := by
 unfold grabS
 split
 ·rename_i k
  simp only [grabB, Bool.and_eq_true, beq_iff_eq] at k; obtain ⟨p1, p2, p3⟩ := endB_in k.1; have h4 := iv.ok.lv4; have := cnt_del (s := s) (s' := { s with li := carOf s.D (endX s.lv s.h s.ex) (endY s.lv s.h s.ex) (endZ s.lv s.h s.ex), D := s.D.del (pk (endX s.lv s.h s.ex) (endY s.lv s.h s.ex) (endZ s.lv s.h s.ex)) }) x ⟨p1.1, by omega⟩ p2 p3 rfl hx
  simp only [cnt, k.2] at this ⊢; rw [one_ne (a := 0) (by omega)]
  omega
 ·rfl
theorem cnt_putS {s : St} (iv : Inv s) (x : Int) (hx : x ≠ 0) : cnt (putS s) x = cnt s x := by
 unfold putS
 split
 ·rename_i k
  simp only [putB, Bool.and_eq_true, beq_iff_eq] at k; obtain ⟨p1, p2, p3⟩ := endB_in k.1.1; have h4 := iv.ok.lv4; have hf : carOf s.D (endX s.lv s.h s.ex) (endY s.lv s.h s.ex) (endZ s.lv s.h s.ex) = 0 := by simpa [carAtI, k.1.1] using k.2
  have := cnt_put (s := s) (s' := { s with li := 0, D := s.D.put (pk (endX s.lv s.h s.ex) (endY s.lv s.h s.ex) (endZ s.lv s.h s.ex)) (.lit (.int .i64 s.li)) }) x ⟨p1.1, by omega⟩ p2 p3 iv.D.isMap rfl hf hx
  simp only [cnt] at this ⊢; rw [one_ne (a := 0) (by omega)]
  omega
 ·rfl
theorem cnt_takeIn (s : St) (x : Int) (hx : x ≠ 0) : cnt (takeInS s) x = cnt s x := by
 unfold takeInS
 split
 ·rename_i k
  have : carN { s with hu := s.hu || (s.op || s.pe != 0), li := s.ba, ba := 0 } = carN s := rfl
  simp only [cnt, this, k.2.2]; rw [one_ne (a := 0) (by omega)]
  omega
 ·rfl
theorem cnt_giveOut (s : St) (x : Int) (hx : x ≠ 0) : cnt (giveOutS s) x = cnt s x := by
 unfold giveOutS
 split
 ·rename_i k
  have : carN { s with hu := s.hu || (s.op || s.pe != 0), ba := s.li, li := 0 } = carN s := rfl
  simp only [cnt, this, k.2.2]; rw [one_ne (a := 0) (by omega)]
  omega
 ·rfl
theorem cnt_do {s : St} (iv : Inv s) (c x : Int) (hx : x ≠ 0) : cnt (doS c s) x = cnt s x := by
 unfold doS
 split; · rfl
 split; · rfl
 split; · unfold slideS; split <;> rfl
 split; · unfold slideS; split <;> rfl
 split; · exact cnt_grab iv x hx
 split; · exact cnt_putS iv x hx
 split; · rfl
 split; · rfl
 split; · exact cnt_takeIn s x hx
 split; · exact cnt_giveOut s x hx
 rfl
theorem cnt_step {s : St} (iv : Inv s) (c x : Int) (hx : x ≠ 0) : cnt (stepS c s) x = cnt s x := by
 unfold stepS
 split
 ·rfl
 ·exact cnt_do iv c x hx
theorem cnt_out {s : St} (iv : Inv s) (y : ActC) (x : Int) (hx : x ≠ 0) (h1 : (y.kind.toList == [97, 114, 114, 105, 118, 101]) = false) (h2 : (y.kind.toList == [108, 101, 97, 118, 101]) = false) : cnt (outS y s) x = cnt s x := by
 unfold outS
 split; · exact cnt_step iv _ x hx
 split; · unfold walkS; split <;> rfl
 rw [if_neg (by simp [h1]), if_neg (by simp [h2])]
 split; · unfold stallS; split <;> rfl
 rfl
theorem countN_pos {g : Nat → Int} {x : Int} : ∀ m, 0 < countN g x m ↔ ∃ j, j < m ∧ g j = x
 | 0 => by simp [countN]
 | m + 1 => by
   have ih := countN_pos (g := g) (x := x) m; unfold countN one
   constructor
   ·intro h
    by_cases e : g m = x
    ·exact ⟨m, by omega, e⟩
    ·rw [if_neg e] at h
     obtain ⟨j, hj, e⟩ := ih.1 (by omega); exact ⟨j, by omega, e⟩
   ·rintro ⟨j, hj, e⟩
    by_cases em : j = m
    ·subst em; rw [if_pos e]; omega
    ·have := ih.2 ⟨j, by omega, e⟩; omega
theorem atB_pos {s : St} {x : Int} : atB s.D x = true ↔ 0 < countN (carN s) x 16 := by
 rw [countN_pos, atB_iff]
 constructor
 ·rintro ⟨X, Y, Z, ⟨h1, h2, h3⟩, e⟩
  obtain ⟨m0, hm, ⟨e1, e2, e3⟩, _⟩ := spot_idx h1 h2 h3; exact ⟨m0, hm, by unfold carN; rw [e1, e2, e3]; exact e⟩
 ·rintro ⟨j, hj, e⟩
  exact ⟨_, _, _, by omega, e⟩
theorem hasB_pos {s : St} {x : Int} (hx : x ≠ 0) : hasB s x = true ↔ 0 < cnt s x := by
 have := atB_pos (s := s) (x := x); unfold hasB cnt one; simp only [Bool.and_eq_true, bne_iff_ne, ne_eq, hx, not_false_eq_true, true_and, Bool.or_eq_true, beq_iff_eq, this]
 by_cases h1 : s.li = x <;> by_cases h2 : s.ba = x <;> simp [h1, h2] <;> omega
def Uniq (s : St) : Prop := ∀ x, x ≠ 0 → cnt s x ≤ 1
theorem Uniq.new (lv : Int) : Uniq (newS lv) := fun x hx => by
 have h : ∀ j, carN (newS lv) j = 0 := fun j => carOf_of rfl
 have h2 : countN (carN (newS lv)) x 16 = 0 := by
  have := countN_pos (g := carN (newS lv)) (x := x) 16
  rcases Nat.eq_zero_or_pos (countN (carN (newS lv)) x 16) with h0 | h0
  ·exact h0
  ·obtain ⟨j, _, e⟩ := this.1 h0
   rw [h j] at e; omega
 simp only [cnt, newS, h2] at h2 ⊢; rw [one_ne (a := 0) (by omega)]
 omega
theorem Uniq.of {s s' : St} (h : Uniq s) (e : ∀ x, x ≠ 0 → cnt s' x = cnt s x) : Uniq s' := fun x hx => by rw [e x hx]; exact h x hx
theorem cnt_arrive {s : St} (id x : Int) (hx : x ≠ 0) (ha : arriveB id s = true) : cnt (arriveS id s) x = cnt s x + one id x := by
 unfold arriveS; rw [if_pos ha]; simp only [arriveB, Bool.and_eq_true, beq_iff_eq] at ha; have : carN { s with ba := id } = carN s := rfl; simp only [cnt, this, ha.1.2]; rw [one_ne (a := 0) (by omega)]
 omega
theorem Uniq.arrive {s : St} (h : Uniq s) (id : Int) (ha : arriveB id s = true) : Uniq (arriveS id s) := fun x hx => by
 rw [cnt_arrive id x hx ha]; simp only [arriveB, Bool.and_eq_true, beq_iff_eq, Bool.not_eq_true'] at ha
 by_cases e : id = x
 ·subst e
  have hp := hasB_pos (s := s) hx; rw [ha.2] at hp
  simp at hp
  rw [hp, one_self]
  omega
 ·rw [one_ne e]; exact h x hx
theorem cnt_leave {s : St} (x : Int) (hx : x ≠ 0) (hl : leaveB s = true) : cnt (leaveS s) x + one s.ba x = cnt s x := by
 unfold leaveS; rw [if_pos hl]; have : carN { s with ba := 0 } = carN s := rfl; simp only [cnt, this]; rw [one_ne (a := 0) (by omega)]
 omega
theorem alike_of {s : St} {l : List Int} (h : ∀ x, l.count x = if x = 0 then 0 else cnt s x) : (carsL s).length = l.length ∧ ∀ x, (carsL s).count x = l.count x := by
 have e : ∀ x, (carsL s).count x = l.count x := fun x => by rw [carsL_count, h]
 exact ⟨(List.perm_iff_count.2 e).length_eq, e⟩
end Pl
end Go.Proofs.YtopgllmjeliklaaGreatDoor
namespace Go.Proofs.YtopgllmjeliklaaGreatDoor
open Go.Shelf Go.Lib Go.ChangeShapes Go.WideShapes Go.ChangeAt Go.RowKit
namespace Hs
open Bk Lg Pl Dk Tx Tn Ac
structure Good7 (lv : List (Int × Int × Int)) (σ : Sg) : Prop where
 wf : Wf lv.length σ
 og : Og lv.length σ.gs
theorem Good7.start (f : Nat → Int × Int × Int) {len : Nat} (h1 : 1 ≤ len) (h4 : len ≤ 4) : Good7 (rowsOf f len) ⟨newS len, ⟨0, [], []⟩, []⟩ := by
 have e := rowsOf_len f len; refine ⟨by rw [e]; exact Wf.start h1 h4, Og.nil _⟩
theorem Good7.play {lv : List (Int × Int × Int)} {x : ActC} {σ σ' : Sg} (h : Good7 lv σ) (ok : BookOK σ'.b.last lv.length σ'.b.stays σ'.b.jobs) (hp : PlayR lv x σ σ') : Good7 lv σ' :=
 ⟨h.wf.play ok hp, Og.play h.wf h.og hp⟩
theorem Good7.tick {lv : List (Int × Int × Int)} {σ σ' : Sg} (h : Good7 lv σ) (t : TickR lv.length σ σ') : Good7 lv σ' :=
 ⟨h.wf.tick t, Og.tick h.wf h.og t⟩
theorem Good7.anew {lv : List (Int × Int × Int)} {σ : Sg} (h : Good7 lv σ) : Good7 lv ⟨σ.s, σ.b, []⟩ := ⟨h.wf.anew, Og.nil _⟩
end Hs
end Go.Proofs.YtopgllmjeliklaaGreatDoor
